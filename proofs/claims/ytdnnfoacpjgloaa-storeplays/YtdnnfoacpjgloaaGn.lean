/- A slice of the store laws' acts that came in, opened act by act: a handle, a patch and bytes in each. -/
import Derived.Test.YtdnnfoacpjgloaaFk
import Derived.Test.YtdnnfoacpjgloaaNa
import Derived.Test.YtdnnfoacpjgloaaFrx
set_option maxRecDepth 100000
namespace Go.Proofs.Ytdnnfoacpjgloaa.Stv
open Go.ChangeShapes Go.WideShapes Go.RowKit Go.Joins Go.Deep
open Arn (I64 open_recs hnd_of cells_int cells_u32 cellsHnd)
set_option linter.unusedVariables false

structure Sact where
  kd : Int
  nn : Int
  s : Int
  gn : Int
  q : Int
  t : Int
  r : Int
  f : Int
  a : Option Addr
  len : Nat
  cap : Nat
  xs : List Int
def sactC (x : Sact) : List Value := [.int .i64 x.kd, .int .i64 x.nn, .int .i64 x.s, .int .u32 x.gn, .int .u16 x.q, .int .u32 x.t, .int .u32 x.r, .int .u16 x.f, .slice x.a x.len x.cap]
def sactL : Lay Sact := ⟨38, 9, sactC, fun _ => rfl, fun x v hv => by
  simp only [sactC, List.mem_cons, List.not_mem_nil, or_false] at hv
  rcases hv with rfl | rfl | rfl | rfl | rfl | rfl | rfl | rfl | rfl <;> rfl, by decide⟩
structure SactOk (w : World) (B : Nat) (x : Sact) : Prop where
  kd : I64 x.kd
  nn : I64 x.nn
  s : I64 x.s
  gn : 0 ≤ x.gn ∧ x.gn ≤ 4294967295
  p : Pat.PF x.q x.t x.r x.f
  b : Rd w B x.a x.len x.xs
theorem cellsSact : Try.prog.cellsOf 38 = 9 := by kernel_rfl
theorem bytesSact : Try.prog.bytesOf 38 = 72 := by kernel_rfl
theorem cellsPch : Try.prog.cellsOf 35 = 4 := by kernel_rfl
theorem cells_u16 : Try.prog.cellsOf 33 = 1 := by kernel_rfl
theorem cells_sl : Try.prog.cellsOf 36 = 1 := by kernel_rfl
theorem nine {cs : List Value} (h : cs.length = 9) : ∃ a b c d e f g i j, cs = [a, b, c, d, e, f, g, i, j] := by
  match cs, h with
  | [a, b, c, d, e, f, g, i, j], _ => exact ⟨a, b, c, d, e, f, g, i, j, rfl⟩
section
variable {H : Type} {enc : TypeId × Value → H} {w : World} {held : Bool}
theorem pch_of {n : Nat} {a b c d : Value} {x : DataW H × List MemPlace} (h : DataW.trod enc Try.prog w 0 (fun _ => true) held n 35 [a, b, c, d] = some x) : ∃ q t r f, a = .int .u16 q ∧ b = .int .u32 t ∧ c = .int .u32 r ∧ d = .int .u16 f ∧ Pat.PF q t r f := by
  obtain ⟨xs, m, _, _, _, hxl, hg⟩ := DataW.trod_struct Try.underlying35 h
  have hxl2 : xs.length = 4 := hxl
  have g0 : DataW.trod enc Try.prog w 0 (fun _ => true) held m 33 (List.take (Try.prog.cellsOf 33) (List.drop 0 [a, b, c, d])) = xs[0]? := hg 0 _ rfl
  have g1 : DataW.trod enc Try.prog w 0 (fun _ => true) held m 29 (List.take (Try.prog.cellsOf 29) (List.drop 1 [a, b, c, d])) = xs[1]? := hg 1 _ rfl
  have g2 : DataW.trod enc Try.prog w 0 (fun _ => true) held m 29 (List.take (Try.prog.cellsOf 29) (List.drop 2 [a, b, c, d])) = xs[2]? := hg 2 _ rfl
  have g3 : DataW.trod enc Try.prog w 0 (fun _ => true) held m 33 (List.take (Try.prog.cellsOf 33) (List.drop 3 [a, b, c, d])) = xs[3]? := hg 3 _ rfl
  rw [List.getElem?_eq_getElem (by omega)] at g0 g1 g2 g3
  rw [cells_u16] at g0 g3
  rw [cells_u32] at g1 g2
  obtain ⟨q, a0, _, w0⟩ := DataW.trod_int Try.underlying33 g0
  obtain ⟨t, a1, _, w1⟩ := DataW.trod_int Try.underlying29 g1
  obtain ⟨r, a2, _, w2⟩ := DataW.trod_int Try.underlying29 g2
  obtain ⟨f, a3, _, w3⟩ := DataW.trod_int Try.underlying33 g3
  simp only [List.drop_zero, List.take_succ_cons, List.take_zero, List.drop_succ_cons, List.cons.injEq, and_true] at a0 a1 a2 a3
  exact ⟨q, t, r, f, a0, a1, a2, a3, (wf_u16 w0).1, (wf_u16 w0).2, (wf_u32 w1).1, (wf_u32 w1).2, (wf_u32 w2).1, (wf_u32 w2).2, (wf_u16 w3).1, (wf_u16 w3).2⟩
theorem byt_of {n : Nat} {u : Value} {x : DataW H × List MemPlace} (h : DataW.trod enc Try.prog w 0 (fun _ => true) held n 36 [u] = some x) : ∃ a len cap xs, u = .slice a len cap ∧ Rd w w.heap.size a len xs := by
  rcases open_ints Try.underlying36 Try.underlying5 (by kernel_rfl) h with ⟨hcs, _⟩ | ⟨x, l, c, zs, hcs, _, hl, hm, hz, hx, hcell, hwz⟩
  · simp only [List.cons.injEq, and_true] at hcs
    exact ⟨none, 0, 0, [], hcs, Rd.none_ _ rfl⟩
  · simp only [List.cons.injEq, and_true] at hcs
    simp only [if_true] at hz
    obtain ⟨h1, h2, h3, h4, h5⟩ := IsRow.cells (k := .u8) (bytes := 0) (w := w) (a := some x) (len := l) (cap := c) (zs := zs) (.inr ⟨_, rfl, hl, hm, hz, by omega, hcell, hwz⟩)
    exact ⟨some x, l, c, zs.take l, hcs, h3, fun n hn => wf_byte (h4 n hn), h5⟩
theorem sact_of {n : Nat} {cs : List Value} {x : DataW H × List MemPlace} (hl : cs.length = 9) (h : DataW.trod enc Try.prog w 0 (fun _ => true) held n 38 cs = some x) : ∃ v : Sact, cs = sactL.cel v ∧ SactOk w w.heap.size v := by
  obtain ⟨c0, c1, c2, c3, c4, c5, c6, c7, c8, rfl⟩ := nine hl
  obtain ⟨xs, m, _, _, _, hxl, hg⟩ := DataW.trod_struct Try.underlying38 h
  have hxl2 : xs.length = 5 := hxl
  have g0 : DataW.trod enc Try.prog w 0 (fun _ => true) held m 3 (List.take (Try.prog.cellsOf 3) (List.drop 0 [c0, c1, c2, c3, c4, c5, c6, c7, c8])) = xs[0]? := hg 0 _ rfl
  have g1 : DataW.trod enc Try.prog w 0 (fun _ => true) held m 3 (List.take (Try.prog.cellsOf 3) (List.drop 1 [c0, c1, c2, c3, c4, c5, c6, c7, c8])) = xs[1]? := hg 1 _ rfl
  have g2 : DataW.trod enc Try.prog w 0 (fun _ => true) held m 31 (List.take (Try.prog.cellsOf 31) (List.drop 2 [c0, c1, c2, c3, c4, c5, c6, c7, c8])) = xs[2]? := hg 2 _ rfl
  have g3 : DataW.trod enc Try.prog w 0 (fun _ => true) held m 35 (List.take (Try.prog.cellsOf 35) (List.drop 4 [c0, c1, c2, c3, c4, c5, c6, c7, c8])) = xs[3]? := hg 3 _ rfl
  have g4 : DataW.trod enc Try.prog w 0 (fun _ => true) held m 36 (List.take (Try.prog.cellsOf 36) (List.drop 8 [c0, c1, c2, c3, c4, c5, c6, c7, c8])) = xs[4]? := hg 4 _ rfl
  rw [List.getElem?_eq_getElem (by omega)] at g0 g1 g2 g3 g4
  rw [cells_int] at g0 g1
  rw [cellsHnd] at g2
  rw [cellsPch] at g3
  rw [cells_sl] at g4
  obtain ⟨k, a0, _, w0⟩ := DataW.trod_int Try.underlying3 g0
  obtain ⟨n', a1, _, w1⟩ := DataW.trod_int Try.underlying3 g1
  obtain ⟨s, gn, a2, a3, w2, w3⟩ := hnd_of g2
  obtain ⟨q, t, r, f, a4, a5, a6, a7, w4⟩ := pch_of g3
  obtain ⟨A, len, cap, ys, a8, w5⟩ := byt_of g4
  simp only [List.drop_zero, List.take_succ_cons, List.take_zero, List.drop_succ_cons, List.cons.injEq, and_true] at a0 a1
  subst a0 a1 a2 a3 a4 a5 a6 a7 a8
  exact ⟨⟨k, n', s, gn, q, t, r, f, A, len, cap, ys⟩, rfl, wf_i64 w0, wf_i64 w1, w2, w3, w4, w5⟩
theorem open_sacts {fuel : Nat} {u : Value} {y : DataW H × List MemPlace} (h : DataW.trod enc Try.prog w 0 (fun _ => true) held fuel 22 [u] = some y) (hsz : ∀ el sp, y.1 = .slice el sp → (el.length + sp.length) * Try.prog.bytesOf 38 ≤ reachBytes) :
    ∃ (a : Option Addr) (cap : Nat) (xs : List Sact), u = .slice a xs.length cap ∧ xs.length ≤ cap ∧ xs.length * 72 ≤ 140737488351232 ∧ (∀ x ∈ xs, SactOk w w.heap.size x) ∧ RowRd sactL w w.heap.size a xs.length xs := by
  obtain ⟨a, len, cap, rfl, hl, hb, hc⟩ := open_recs Try.underlying22 cellsSact (by decide) h hsz
  rw [bytesSact] at hb
  simp only [reachBytes] at hb
  have hle : len * 72 ≤ 140737488351232 := by omega
  rcases Nat.eq_zero_or_pos len with h0 | h0
  · subst h0
    exact ⟨a, cap, [], rfl, Nat.zero_le _, by simp, fun x hx => by simp at hx, RowRd.none_ _ rfl⟩
  obtain ⟨b, off, rfl, hbw, hc⟩ := hc h0
  have each : ∀ i, i < len → ∃ x : Sact, SactOk w w.heap.size x ∧ ∀ j v, (sactL.cel x)[j]? = some v → w.cell? ⟨b, off + i * 9 + j, none⟩ = some v := fun i hi => by
    obtain ⟨cs, n, x, h1, h2, h3⟩ := hc i hi
    obtain ⟨v, rfl, hv⟩ := sact_of h1 h2
    exact ⟨v, hv, h3⟩
  have : Inhabited Sact := ⟨⟨0, 0, 0, 0, 0, 0, 0, 0, none, 0, 0, []⟩⟩
  obtain ⟨V, hV⟩ := choose_lt each
  have hlen : ((List.range len).map V).length = len := by simp
  refine ⟨some ⟨b, off, none⟩, cap, (List.range len).map V, by rw [hlen], by rw [hlen]; exact hl, by rw [hlen]; exact hle, fun x hx => ?_, ?_⟩
  · obtain ⟨i, hi, rfl⟩ := List.mem_map.1 hx
    exact (hV i (List.mem_range.1 hi)).1
  · rw [hlen]
    refine ⟨hlen, fun _ => ⟨b, off, rfl, hbw, fun i x hx => ?_⟩⟩
    have hi : i < len := by
      have := (List.getElem?_eq_some_iff.1 hx).1
      rwa [hlen] at this
    rw [List.getElem?_map, List.getElem?_range hi] at hx
    obtain rfl : V i = x := Option.some.inj hx
    exact (hV i hi).2
end
end Go.Proofs.Ytdnnfoacpjgloaa.Stv
