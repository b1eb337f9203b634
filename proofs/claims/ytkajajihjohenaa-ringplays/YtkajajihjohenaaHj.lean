/- A cell that came in, opened; a slice of records of any layout that came in (open_lay); a slice of the ring laws' acts. -/
import Derived.Test.YtkajajihjohenaaFk
import Derived.Test.YtkajajihjohenaaHa
set_option maxRecDepth 100000
namespace Go.Proofs.Ytkajajihjohenaa.Rng
open Go.ChangeShapes Go.WideShapes Go.RowKit Go.Joins Go.Deep
open Arn (I64 open_recs hnd_of cells_int cells_u32 cellsHnd four)
set_option linter.unusedVariables false

section
variable {H : Type} {enc : TypeId × Value → H} {P : Program} {w : World} {held : Bool}
/-- A slice of records that came in, whatever their layout. -/
theorem open_lay {α : Type} [Inhabited α] {L : Lay α} {Ok : α → Prop} {t : TypeId} {B fuel : Nat} {u : Value} {y : DataW H × List MemPlace} (ht : P.underlying t = some (.slice L.e)) (hC : P.cellsOf L.e = L.s) (hB : P.bytesOf L.e = B)
    (hE : ∀ (n : Nat) (cs : List Value) (x : DataW H × List MemPlace), cs.length = L.s → DataW.trod enc P w 0 (fun _ => true) held n L.e cs = some x → ∃ v : α, cs = L.cel v ∧ Ok v)
    (h : DataW.trod enc P w 0 (fun _ => true) held fuel t [u] = some y) (hsz : ∀ el sp, y.1 = .slice el sp → (el.length + sp.length) * P.bytesOf L.e ≤ reachBytes) :
    ∃ (a : Option Addr) (cap : Nat) (xs : List α), u = .slice a xs.length cap ∧ xs.length ≤ cap ∧ xs.length * B ≤ 140737488351232 ∧ (∀ x ∈ xs, Ok x) ∧ RowRd L w w.heap.size a xs.length xs := by
  obtain ⟨a, len, cap, rfl, hl, hb, hc⟩ := open_recs ht hC L.pos h hsz
  rw [hB] at hb
  simp only [reachBytes] at hb
  have hle : len * B ≤ 140737488351232 := Nat.le_trans (Nat.mul_le_mul_right _ hl) hb
  rcases Nat.eq_zero_or_pos len with h0 | h0
  · subst h0
    exact ⟨a, cap, [], rfl, Nat.zero_le _, by simp, fun x hx => by simp at hx, RowRd.none_ _ rfl⟩
  obtain ⟨b, off, rfl, hbw, hc⟩ := hc h0
  have each : ∀ i, i < len → ∃ x : α, Ok x ∧ ∀ j v, (L.cel x)[j]? = some v → w.cell? ⟨b, off + i * L.s + j, none⟩ = some v := fun i hi => by
    obtain ⟨cs, n, x, h1, h2, h3⟩ := hc i hi
    obtain ⟨v, rfl, hv⟩ := hE n cs x h1 h2
    exact ⟨v, hv, h3⟩
  obtain ⟨V, hV⟩ := choose_lt each
  have hlen : ((List.range len).map V).length = len := by simp
  refine ⟨some ⟨b, off, none⟩, cap, (List.range len).map V, by rw [hlen], by rw [hlen]; exact hl, by rw [hlen]; exact hle, fun x hx => ?_, ?_⟩
  · obtain ⟨i, hi, rfl⟩ := List.mem_map.1 hx
    exact (hV i (List.mem_range.1 hi)).1
  · rw [hlen]
    refine ⟨hlen, fun _ => ⟨b, off, rfl, hbw, fun i x hx => ?_⟩⟩
    have hi : i < len := by
      have := (List.getElem?_eq_some_iff.1 hx).1
      rwa [hlen] at this
    rw [List.getElem?_map, List.getElem?_range hi] at hx
    obtain rfl : V i = x := Option.some.inj hx
    exact (hV i hi).2
end
def CelOk (x : Cl) : Prop := I64 x.1 ∧ I64 x.2.1 ∧ I64 x.2.2.1 ∧ (0 ≤ x.2.2.2 ∧ x.2.2.2 ≤ 4294967295)
theorem cellsCel : Try.prog.cellsOf 32 = 4 := by kernel_rfl
section
variable {H : Type} {enc : TypeId × Value → H} {w : World}
theorem cel_of {base : Nat} {spare : Nat → Bool} {held : Bool} {n : Nat} {cs : List Value} {x : DataW H × List MemPlace} (hl : cs.length = 4) (h : DataW.trod enc Try.prog w base spare held n 32 cs = some x) : ∃ v : Cl, cs = celL.cel v ∧ CelOk v := by
  obtain ⟨c0, c1, c2, c3, rfl⟩ := four hl
  obtain ⟨xs, m, _, _, _, hxl, hg⟩ := DataW.trod_struct Try.underlying32 h
  have hxl2 : xs.length = 3 := hxl
  have g0 : DataW.trod enc Try.prog w base spare held m 3 (List.take (Try.prog.cellsOf 3) (List.drop 0 [c0, c1, c2, c3])) = xs[0]? := hg 0 _ rfl
  have g1 : DataW.trod enc Try.prog w base spare held m 3 (List.take (Try.prog.cellsOf 3) (List.drop 1 [c0, c1, c2, c3])) = xs[1]? := hg 1 _ rfl
  have g2 : DataW.trod enc Try.prog w base spare held m 30 (List.take (Try.prog.cellsOf 30) (List.drop 2 [c0, c1, c2, c3])) = xs[2]? := hg 2 _ rfl
  rw [List.getElem?_eq_getElem (by omega)] at g0 g1 g2
  rw [cells_int] at g0 g1
  rw [cellsHnd] at g2
  obtain ⟨a, a0, _, w0⟩ := DataW.trod_int Try.underlying3 g0
  obtain ⟨b, a1, _, w1⟩ := DataW.trod_int Try.underlying3 g1
  obtain ⟨ys, m2, _, _, _, hyl, hk⟩ := DataW.trod_struct Try.underlying30 g2
  have hyl2 : ys.length = 2 := hyl
  have k0 : DataW.trod enc Try.prog w base spare held m2 3 (List.take (Try.prog.cellsOf 3) (List.drop 0 [c2, c3])) = ys[0]? := hk 0 _ rfl
  have k1 : DataW.trod enc Try.prog w base spare held m2 28 (List.take (Try.prog.cellsOf 28) (List.drop 1 [c2, c3])) = ys[1]? := hk 1 _ rfl
  rw [List.getElem?_eq_getElem (by omega)] at k0 k1
  rw [cells_int] at k0
  rw [cells_u32] at k1
  obtain ⟨s, a2, _, w2⟩ := DataW.trod_int Try.underlying3 k0
  obtain ⟨g, a3, _, w3⟩ := DataW.trod_int Try.underlying28 k1
  simp only [List.drop_zero, List.take_succ_cons, List.take_zero, List.drop_succ_cons, List.cons.injEq, and_true] at a0 a1 a2 a3
  subst a0 a1 a2 a3
  exact ⟨(a, b, s, g), rfl, wf_i64 w0, wf_i64 w1, wf_i64 w2, (wf_u32 w3).1, (wf_u32 w3).2⟩
theorem open_cell {base b0 : Nat} {spare : Nat → Bool} {held : Bool} {r : Reach} {v : Value} {d : DataW H} {p : List MemPlace}
    (hv : Value.okWide Try.prog w r b0 32 v) (h : DataW.Trod enc Try.prog w base spare held 32 v d p) : ∃ x : Cl, v = clV x ∧ CelOk x := by
  obtain ⟨cs, rfl, hsz⟩ := okWide_struct Try.underlying32 hv
  obtain ⟨fuel, hf⟩ := h
  rw [cellsCel] at hsz
  obtain ⟨x, hx, hok⟩ := cel_of (by show cs.toList.length = 4; rw [Array.length_toList]; exact hsz) hf
  refine ⟨x, ?_, hok⟩
  have hcs : cs.toList = celL.cel x := hx
  show Value.agg cs = Value.agg (celL.cel x).toArray
  rw [← hcs]
end
/-- A ring law's act: is it Pop? the cell. -/
abbrev Ract := Bool × Cl
def ractL : Lay Ract := ⟨34, 5, fun x => [.bool x.1, .int .i64 x.2.1, .int .i64 x.2.2.1, .int .i64 x.2.2.2.1, .int .u32 x.2.2.2.2], fun _ => rfl, fun x v hv => by
  simp only [List.mem_cons, List.not_mem_nil, or_false] at hv
  rcases hv with rfl | rfl | rfl | rfl | rfl <;> rfl, by decide⟩
def RactOk (x : Ract) : Prop := CelOk x.2
theorem cellsRact : Try.prog.cellsOf 34 = 5 := by kernel_rfl
theorem bytesRact : Try.prog.bytesOf 34 = 40 := by kernel_rfl
theorem cells_bool : Try.prog.cellsOf 4 = 1 := by kernel_rfl
theorem five {cs : List Value} (h : cs.length = 5) : ∃ a b c d e, cs = [a, b, c, d, e] := by
  match cs, h with
  | [a, b, c, d, e], _ => exact ⟨a, b, c, d, e, rfl⟩
theorem ract_of {H : Type} {enc : TypeId × Value → H} {w : World} {held : Bool} {n : Nat} {cs : List Value} {x : DataW H × List MemPlace} (hl : cs.length = 5) (h : DataW.trod enc Try.prog w 0 (fun _ => true) held n 34 cs = some x) : ∃ v : Ract, cs = ractL.cel v ∧ RactOk v := by
  obtain ⟨c0, c1, c2, c3, c4, rfl⟩ := five hl
  obtain ⟨xs, m, _, _, _, hxl, hg⟩ := DataW.trod_struct Try.underlying34 h
  have hxl2 : xs.length = 2 := hxl
  have g0 : DataW.trod enc Try.prog w 0 (fun _ => true) held m 4 (List.take (Try.prog.cellsOf 4) (List.drop 0 [c0, c1, c2, c3, c4])) = xs[0]? := hg 0 _ rfl
  have g1 : DataW.trod enc Try.prog w 0 (fun _ => true) held m 32 (List.take (Try.prog.cellsOf 32) (List.drop 1 [c0, c1, c2, c3, c4])) = xs[1]? := hg 1 _ rfl
  rw [List.getElem?_eq_getElem (by omega)] at g0 g1
  rw [cells_bool] at g0
  rw [cellsCel] at g1
  obtain ⟨p, a0, _⟩ := DataW.trod_bool Try.underlying4 g0
  obtain ⟨v, a1, hok⟩ := cel_of rfl g1
  simp only [List.drop_zero, List.take_succ_cons, List.take_zero, List.drop_succ_cons, List.cons.injEq, and_true] at a0 a1
  subst a0
  refine ⟨(p, v), ?_, hok⟩
  show _ = .bool p :: celL.cel v
  rw [← a1]
theorem open_racts {H : Type} {enc : TypeId × Value → H} {w : World} {held : Bool} {fuel : Nat} {u : Value} {y : DataW H × List MemPlace} (h : DataW.trod enc Try.prog w 0 (fun _ => true) held fuel 22 [u] = some y) (hsz : ∀ el sp, y.1 = .slice el sp → (el.length + sp.length) * Try.prog.bytesOf 34 ≤ reachBytes) :
    ∃ (a : Option Addr) (cap : Nat) (xs : List Ract), u = .slice a xs.length cap ∧ xs.length ≤ cap ∧ xs.length * 40 ≤ 140737488351232 ∧ (∀ x ∈ xs, RactOk x) ∧ RowRd ractL w w.heap.size a xs.length xs := by
  have : Inhabited Ract := ⟨(false, cl0)⟩
  exact open_lay (L := ractL) (Ok := RactOk) Try.underlying22 cellsRact bytesRact (fun n cs x hl h => ract_of hl h) h hsz
end Go.Proofs.Ytkajajihjohenaa.Rng
