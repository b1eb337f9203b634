/- A slice of structs that came in, opened; a feedback item that came in, opened: its lists lie where they read as they should. -/
import Derived.Test.YtjbgfaoancmknaaFr
import Derived.Test.YtjbgfaoancmknaaAg
import Derived.Test.YtjbgfaoancmknaaFo
import Derived.Test.YtjbgfaoancmknaaFpr
import Derived.Test.YtjbgfaoancmknaaQb
import Derived.Lib.SmallJoins
namespace Go.Proofs.Ytjbgfaoancmknaa
open Go.ChangeShapes Go.WideShapes Go.RowKit Go.Joins Go.Deep
set_option linter.unusedVariables false

namespace Fbk
theorem cellsItm : Try.prog.cellsOf 34 = 10 := by kernel_rfl
theorem cellsBlo : Try.prog.cellsOf 47 = 7 := by kernel_rfl
theorem bytesBlo : Try.prog.bytesOf 47 = 28 := by kernel_rfl
section
variable {H : Type} {enc : TypeId × Value → H} {w : World} {held : Bool}
theorem open_blos {fuel : Nat} {u : Value} {y : DataW H × List MemPlace} (h : DataW.trod enc Try.prog w 0 (fun _ => true) held fuel 30 [u] = some y) (hsz : ∀ el sp, y.1 = .slice el sp → (el.length + sp.length) * Try.prog.bytesOf 47 ≤ reachBytes) :
    ∃ (a : Option Addr) (cap : Nat) (xs : List Blo), u = .slice a xs.length cap ∧ xs.length ≤ cap ∧ xs.length ≤ 140737488351232 ∧ (∀ x ∈ xs, x.Ok) ∧ RowRd bloL w w.heap.size a xs.length xs := by
  obtain ⟨a, len, cap, rfl, hl, hb, hc⟩ := open_rows Try.underlying30 Try.underlying47 (by kernel_rfl) cellsBlo (by decide) h hsz
  rw [bytesBlo] at hb
  simp only [reachBytes] at hb
  have hle : len ≤ 140737488351232 := by omega
  rcases Nat.eq_zero_or_pos len with h0 | h0
  · subst h0
    exact ⟨a, cap, [], rfl, Nat.zero_le _, Nat.zero_le _, fun x hx => by simp at hx, RowRd.none_ _ rfl⟩
  obtain ⟨b, off, rfl, hbw, hc⟩ := hc h0
  have each : ∀ i, i < len → ∃ x : Blo, x.Ok ∧ ∀ j v, (bloC x)[j]? = some v → w.cell? ⟨b, off + i * 7 + j, none⟩ = some v := fun i hi => by
    obtain ⟨v0, y0, n0, d0, t0⟩ := hc i hi 0 _ rfl
    obtain ⟨v1, y1, n1, d1, t1⟩ := hc i hi 1 _ rfl
    obtain ⟨v2, y2, n2, d2, t2⟩ := hc i hi 2 _ rfl
    obtain ⟨v3, y3, n3, d3, t3⟩ := hc i hi 3 _ rfl
    obtain ⟨v4, y4, n4, d4, t4⟩ := hc i hi 4 _ rfl
    obtain ⟨v5, y5, n5, d5, t5⟩ := hc i hi 5 _ rfl
    obtain ⟨v6, y6, n6, d6, t6⟩ := hc i hi 6 _ rfl
    obtain ⟨x0, a0, _, w0⟩ := DataW.trod_int Try.underlying28 t0
    obtain ⟨x1, a1, _, w1⟩ := DataW.trod_int Try.underlying5 t1
    obtain ⟨x2, a2, _, w2⟩ := DataW.trod_int Try.underlying28 t2
    obtain ⟨x3, a3, _, w3⟩ := DataW.trod_int Try.underlying28 t3
    obtain ⟨x4, a4, _, w4⟩ := DataW.trod_int Try.underlying28 t4
    obtain ⟨x5, a5, _, w5⟩ := DataW.trod_int Try.underlying28 t5
    obtain ⟨x6, a6, _, w6⟩ := DataW.trod_int Try.underlying28 t6
    simp only [List.cons.injEq, and_true] at a0 a1 a2 a3 a4 a5 a6
    subst a0 a1 a2 a3 a4 a5 a6
    refine ⟨⟨x0, x1, x2, x3, x4, x5, x6⟩, ⟨wf_u32 w0, wf_byte w1, wf_u32 w2, wf_u32 w3, wf_u32 w4, wf_u32 w5, wf_u32 w6⟩, fun j v hv => ?_⟩
    match j with
    | 0 => rw [← hv]; exact d0
    | 1 => rw [← hv]; exact d1
    | 2 => rw [← hv]; exact d2
    | 3 => rw [← hv]; exact d3
    | 4 => rw [← hv]; exact d4
    | 5 => rw [← hv]; exact d5
    | 6 => rw [← hv]; exact d6
    | n + 7 => simp [bloC] at hv
  have : Inhabited Blo := ⟨zblo⟩
  obtain ⟨V, hV⟩ := choose_lt each
  have hlen : ((List.range len).map V).length = len := by simp
  refine ⟨some ⟨b, off, none⟩, cap, (List.range len).map V, by rw [hlen], by rw [hlen]; exact hl, by rw [hlen]; exact hle, fun x hx => ?_, ?_⟩
  · obtain ⟨i, hi, rfl⟩ := List.mem_map.1 hx
    exact (hV i (List.mem_range.1 hi)).1
  · rw [hlen]
    refine ⟨hlen, fun _ => ⟨b, off, rfl, hbw, fun i x hx => ?_⟩⟩
    have hi : i < len := by
      have := (List.getElem?_eq_some_iff.1 hx).1
      rwa [hlen] at this
    rw [List.getElem?_map, List.getElem?_range hi] at hx
    obtain rfl : V i = x := Option.some.inj hx
    exact (hV i hi).2
/-- A slice of integers that is one of a struct's cells. -/
theorem open_field {t e : TypeId} {k : IntKind} {bytes fuel : Nat} {u : Value} {y : DataW H × List MemPlace} (ht : Try.prog.underlying t = some (.slice e)) (he : Try.prog.underlying e = some (.int k))
    (hc : Try.prog.cellsOf e = 1) (hby : Try.prog.bytesOf e = bytes) (h : DataW.trod enc Try.prog w 0 (fun _ => true) held fuel t [u] = some y) (hsz : ∀ el sp, y.1 = .slice el sp → (el.length + sp.length) * Try.prog.bytesOf e ≤ reachBytes) :
    ∃ a len cap zs, u = .slice a len cap ∧ IsRow k bytes w a len cap zs := by
  rcases open_ints ht he hc h with ⟨hcs, _⟩ | ⟨x, l, c, zs, hcs, _, hl, hm, hz, hx, hcell, hwz⟩
  · simp only [List.cons.injEq, and_true] at hcs
    exact ⟨none, 0, 0, [], hcs, .inl ⟨rfl, rfl, rfl, rfl⟩⟩
  · simp only [List.cons.injEq, and_true] at hcs
    have hb := hsz (lits _ (zs.take l)) (lits _ (zs.drop l)) (by rw [hx])
    rw [hby] at hb
    simp only [if_true] at hz
    simp only [lits, List.length_map, List.length_take, List.length_drop, reachBytes] at hb
    refine ⟨some x, l, c, zs, hcs, .inr ⟨_, rfl, hl, hm, hz, ?_, hcell, hwz⟩⟩
    rw [show min l zs.length + (zs.length - l) = c from by omega] at hb
    exact hb
theorem IsRow_wd {a : Option Addr} {len cap : Nat} {zs : List Int} (h : IsRow .u32 4 w a len cap zs) : len ≤ 140737488351232 ∧ len ≤ cap ∧ ∃ xs, xs.length = len ∧ Wd w w.heap.size a xs.length xs := by
  obtain ⟨h1, h2, h3, h4, h5⟩ := h.cells
  refine ⟨by omega, h1, zs.take len, h3, ?_⟩
  rw [h3]
  exact ⟨h3, fun n hn => wf_u32 (h4 n hn), h5⟩
end
set_option maxHeartbeats 1000000 in
theorem open_item {H : Type} {enc : TypeId × Value → H} {w : World} {b0 j : Nat} {held : Bool} {r : Reach} {v : Value} {d : DataW H} {p : List MemPlace} {ts : List TypeId} {ds : List (DataW H)}
    (hv : Value.okWide Try.prog w r b0 34 v) (h : DataW.Trod enc Try.prog w 0 (fun _ => true) held 34 v d p)
    (hsz : (DataW.weightsEach Try.prog ts ds).all (· ≤ reachBytes) = true) (ht : ts[j]? = some 34) (hd : ds[j]? = some d) :
    ∃ (i : Itm) (l : ILoc), v = itm (ivOf i l) ∧ i.Ok ∧ IRd w w.heap.size i l := by
  obtain ⟨cs, ys, n, rfl, hcs, hdd, hyl, hg⟩ := open_agg_any Try.underlying34 (by kernel_rfl) cellsItm hv h
  have hpart : ∀ (i : Nat) (f : Field) (e : TypeId) (y : DataW H × List MemPlace) (el sp : List (DataW H)), _ → ys[i]? = some y → Try.prog.underlying f.type = some (.slice e) → y.1 = .slice el sp → (el.length + sp.length) * Try.prog.bytesOf e ≤ reachBytes :=
    fun i f e y el sp hf hy hu hy1 => sized_part hsz ht (hdd ▸ hd) Try.underlying34 hf (by rw [List.getElem?_map, hy]; exact congrArg some hy1) hu
  obtain ⟨u0, y0, c0, e0, h0⟩ := hg 0 _ rfl
  obtain ⟨u1, y1, c1, e1, h1⟩ := hg 1 _ rfl
  obtain ⟨u2, y2, c2, e2, h2⟩ := hg 2 _ rfl
  obtain ⟨u3, y3, c3, e3, h3⟩ := hg 3 _ rfl
  obtain ⟨u4, y4, c4, e4, h4⟩ := hg 4 _ rfl
  obtain ⟨u5, y5, c5, e5, h5⟩ := hg 5 _ rfl
  obtain ⟨u6, y6, c6, e6, h6⟩ := hg 6 _ rfl
  obtain ⟨u7, y7, c7, e7, h7⟩ := hg 7 _ rfl
  obtain ⟨u8, y8, c8, e8, h8⟩ := hg 8 _ rfl
  obtain ⟨u9, y9, c9, e9, h9⟩ := hg 9 _ rfl
  obtain ⟨kind, a0, _, w0⟩ := DataW.trod_int Try.underlying3 h0
  obtain ⟨ssrc, a1, _, w1⟩ := DataW.trod_int Try.underlying28 h1
  obtain ⟨ntp, a2, _, w2⟩ := DataW.trod_int Try.underlying29 h2
  obtain ⟨time, a3, _, w3⟩ := DataW.trod_int Try.underlying28 h3
  obtain ⟨pks, a4, _, w4⟩ := DataW.trod_int Try.underlying28 h4
  obtain ⟨ocs, a5, _, w5⟩ := DataW.trod_int Try.underlying28 h5
  obtain ⟨ba, bc, xs, a6, bl, bm, bo, br⟩ := open_blos h6 (fun el sp hy => hpart 6 _ _ y6 el sp rfl e6 Try.underlying30 hy)
  obtain ⟨ga, gn, gc, gz, a7, r7⟩ := open_field Try.underlying31 Try.underlying28 (by kernel_rfl) bytes28 h7 (fun el sp hy => hpart 7 _ _ y7 el sp rfl e7 Try.underlying31 hy)
  obtain ⟨media, a8, _, w8⟩ := DataW.trod_int Try.underlying28 h8
  obtain ⟨pa, pc, ps, a9, pl, pm, po, pr⟩ := open_pairs h9 (fun el sp hy => hpart 9 _ _ y9 el sp rfl e9 Try.underlying32 hy)
  simp only [List.cons.injEq, and_true] at a0 a1 a2 a3 a4 a5 a8
  subst a0 a1 a2 a3 a4 a5 a6 a7 a8 a9
  obtain ⟨k1, k2, gs, rfl, k3⟩ := IsRow_wd r7
  refine ⟨⟨kind, ssrc, ntp, time, pks, ocs, xs, gs, media, ps⟩, ⟨ba, bc, ga, gc, pa, pc⟩, ?_, ⟨wf_u32 w1, wf_u64 w2, wf_u32 w3, wf_u32 w4, wf_u32 w5, bo, fun x hx => k3.2.1 x hx, wf_u32 w8, po⟩, ⟨br, k3, pr, bm, k1, pm, bl, k2, pl⟩⟩
  have hcs' : cs.size = 10 := hcs
  congr 1
  apply Array.ext_getElem?
  intro i
  match i with
  | 0 => exact c0
  | 1 => exact c1
  | 2 => exact c2
  | 3 => exact c3
  | 4 => exact c4
  | 5 => exact c5
  | 6 => exact c6
  | 7 => exact c7
  | 8 => exact c8
  | 9 => exact c9
  | n + 10 => rw [Array.getElem?_eq_none (by omega)]; simp
end Fbk
end Go.Proofs.Ytjbgfaoancmknaa
