/- A slice of feedback items that came in, opened: each item's lists lie where they read as they should. -/
import Derived.Test.YtjbgfaoancmknaaFi
import Derived.Test.YtjbgfaoancmknaaVb
import Derived.Test.YtjbgfaoancmknaaVa
namespace Go.Proofs.Ytjbgfaoancmknaa
open Go.ChangeShapes Go.WideShapes Go.RowKit Go.Joins Go.Deep
set_option linter.unusedVariables false

section
variable {H : Type} {P : Program}
theorem weightsAll_of {e : TypeId} {d : DataW H} : ∀ {l : List (DataW H)}, d ∈ l → ∀ n ∈ d.weights P e, n ∈ DataW.weightsAll P e l
  | [], h, _, _ => by cases h
  | x :: l, h, n, hn => by
    simp only [DataW.weightsAll, List.mem_append]
    rcases List.mem_cons.1 h with rfl | h
    · exact .inl hn
    · exact .inr (weightsAll_of h n hn)
/-- The reach of a slice that is a field of a struct in a slice. -/
theorem sized_deep {ts : List TypeId} {ds elems spare parts : List (DataW H)} (h : (DataW.weightsEach P ts ds).all (· ≤ reachBytes) = true) {j i : Nat} {t e q : TypeId} {fs : Array Field} {f : Field} {el sp : List (DataW H)}
    (ht : ts[j]? = some t) (hd : ds[j]? = some (.slice elems spare)) (hu : P.underlying t = some (.slice e)) (hue : P.underlying e = some (.struct fs)) (hx : DataW.agg parts ∈ elems) (hf : fs[i]? = some f) (hp : parts[i]? = some (.slice el sp)) (hfu : P.underlying f.type = some (.slice q)) :
    (el.length + sp.length) * P.bytesOf q ≤ reachBytes := by
  refine of_decide_eq_true (List.all_eq_true.1 h _ (DataW.weights_mem_each ht hd _ ?_))
  simp only [DataW.weights, hu, List.mem_cons, List.mem_append]
  refine .inr (.inl (weightsAll_of hx _ ?_))
  simp only [DataW.weights, hue]
  refine DataW.weights_mem_each (j := i) (t := f.type) (d := .slice el sp) ?_ hp _ (by simp [DataW.weights, hfu])
  rw [List.getElem?_map, Array.getElem?_toList, hf]; rfl
end
section
variable {H : Type} {enc : TypeId × Value → H} {P : Program} {w : World} {held : Bool}
/-- A slice of structs of one-cell fields, opened at every index, with the data of each. -/
theorem open_rows_data {t e : TypeId} {fs : Array Field} {fuel : Nat} {u : Value} {y : DataW H × List MemPlace} (ht : P.underlying t = some (.slice e)) (he : P.underlying e = some (.struct fs)) (hone : oneCellFields P fs = true) (hC : P.cellsOf e = fs.size) (hpos : 0 < fs.size)
    (h : DataW.trod enc P w 0 (fun _ => true) held fuel t [u] = some y) (hsz : ∀ el sp, y.1 = .slice el sp → (el.length + sp.length) * P.bytesOf e ≤ reachBytes) :
    ∃ a len cap, u = .slice a len cap ∧ len ≤ cap ∧ cap * P.bytesOf e ≤ reachBytes ∧ (0 < len → ∃ b off el sp, a = some ⟨b, off, none⟩ ∧ b < w.heap.size ∧ y.1 = .slice el sp ∧
      ∀ i, i < len → ∃ parts, DataW.agg parts ∈ el ∧ ∀ (j : Nat) (f : Field), fs[j]? = some f → ∃ (v : Value) (y' : DataW H × List MemPlace) (n : Nat), w.cell? ⟨b, off + i * fs.size + j, none⟩ = some v ∧ DataW.trod enc P w 0 (fun _ => true) held n f.type [v] = some y' ∧ parts[j]? = some y'.1) := by
  rcases open_slice ht h with ⟨hcs, _⟩ | ⟨a, len, cap, m, n, D, Pl, hcs, _, hl, hm, hmm, hy, hx⟩
  · simp only [List.cons.injEq, and_true] at hcs
    exact ⟨none, 0, 0, hcs, Nat.le_refl _, by simp, fun h => absurd h (by omega)⟩
  · simp only [List.cons.injEq, and_true] at hcs
    simp only [if_true] at hmm
    have hb := hsz _ _ (by rw [hy])
    simp only [List.length_map, List.length_range] at hb
    rw [show len + (m - len) = cap from by omega] at hb
    refine ⟨some a, len, cap, hcs, hl, hb, fun hp => ?_⟩
    have cells : ∀ i, i < len → ∃ cs', w.cells? 0 (a.add (i * fs.size)) fs.size = some cs' ∧ DataW.trod enc P w 0 (fun _ => true) held n e cs' = some (D i, Pl i) := fun i hi => by
      have := hx i (by omega)
      rwa [hC] at this
    obtain ⟨b, off, spot⟩ := a
    have hspot : spot = none ∧ b < w.heap.size := by
      obtain ⟨cs', h1, _⟩ := cells 0 hp
      obtain ⟨_, hlen, hcell⟩ := World.cells?_some h1
      have h0 := hcell 0 hpos
      rw [add_add, Nat.zero_mul, Nat.zero_add, List.getElem?_eq_getElem (by omega)] at h0
      exact ⟨by simpa [Addr.add] using World.cell?_spot h0, by simpa [Addr.add] using World.block_lt_of_cell? w _ h0⟩
    obtain ⟨rfl, hbw⟩ := hspot
    refine ⟨b, off, _, _, rfl, hbw, by rw [hy], fun i hi => ?_⟩
    obtain ⟨cs', h1, h2⟩ := cells i hi
    obtain ⟨_, hlen, hcell⟩ := World.cells?_some h1
    obtain ⟨xs, k, _, hD, _, hxl, hg⟩ := DataW.trod_struct he h2
    simp only [Prod.mk.injEq] at hD
    refine ⟨xs.map (·.1), List.mem_map.2 ⟨i, List.mem_range.2 hi, hD.1⟩, fun j f hf => ?_⟩
    obtain ⟨ho, hk⟩ := hone_of hone j f hf
    have hjl : j < fs.size := (Array.getElem?_eq_some_iff.1 hf).1
    have g := hg j f hf
    rw [ho, hk, List.drop_eq_getElem_cons (by omega), List.take_succ_cons, List.take_zero, List.getElem?_eq_getElem (by omega)] at g
    have hc := hcell j hjl
    rw [add_add, add_plain, List.getElem?_eq_getElem (by omega)] at hc
    exact ⟨_, _, _, (by rw [Nat.add_assoc]; exact hc), g, by rw [List.getElem?_map, List.getElem?_eq_getElem (by omega)]; rfl⟩
end
namespace Fbk
theorem bytesItm : Try.prog.bytesOf 34 = 120 := by kernel_rfl
section
variable {H : Type} {enc : TypeId × Value → H} {w : World} {held : Bool}
set_option maxHeartbeats 1000000 in
theorem item_of {n0 n1 n2 n3 n4 n5 n6 n7 n8 n9 : Nat} {u0 u1 u2 u3 u4 u5 u6 u7 u8 u9 : Value} {y0 y1 y2 y3 y4 y5 y6 y7 y8 y9 : DataW H × List MemPlace}
    (h0 : DataW.trod enc Try.prog w 0 (fun _ => true) held n0 3 [u0] = some y0) (h1 : DataW.trod enc Try.prog w 0 (fun _ => true) held n1 28 [u1] = some y1) (h2 : DataW.trod enc Try.prog w 0 (fun _ => true) held n2 29 [u2] = some y2) (h3 : DataW.trod enc Try.prog w 0 (fun _ => true) held n3 28 [u3] = some y3) (h4 : DataW.trod enc Try.prog w 0 (fun _ => true) held n4 28 [u4] = some y4) (h5 : DataW.trod enc Try.prog w 0 (fun _ => true) held n5 28 [u5] = some y5) (h6 : DataW.trod enc Try.prog w 0 (fun _ => true) held n6 30 [u6] = some y6) (h7 : DataW.trod enc Try.prog w 0 (fun _ => true) held n7 31 [u7] = some y7) (h8 : DataW.trod enc Try.prog w 0 (fun _ => true) held n8 28 [u8] = some y8) (h9 : DataW.trod enc Try.prog w 0 (fun _ => true) held n9 32 [u9] = some y9)
    (z6 : ∀ el sp, y6.1 = .slice el sp → (el.length + sp.length) * Try.prog.bytesOf 47 ≤ reachBytes) (z7 : ∀ el sp, y7.1 = .slice el sp → (el.length + sp.length) * Try.prog.bytesOf 28 ≤ reachBytes) (z9 : ∀ el sp, y9.1 = .slice el sp → (el.length + sp.length) * Try.prog.bytesOf 66 ≤ reachBytes) :
    ∃ (i : Itm) (l : ILoc), ivC (ivOf i l) = [u0, u1, u2, u3, u4, u5, u6, u7, u8, u9] ∧ i.Ok ∧ IRd w w.heap.size i l := by
  obtain ⟨kind, a0, _, w0⟩ := DataW.trod_int Try.underlying3 h0
  obtain ⟨ssrc, a1, _, w1⟩ := DataW.trod_int Try.underlying28 h1
  obtain ⟨ntp, a2, _, w2⟩ := DataW.trod_int Try.underlying29 h2
  obtain ⟨time, a3, _, w3⟩ := DataW.trod_int Try.underlying28 h3
  obtain ⟨pks, a4, _, w4⟩ := DataW.trod_int Try.underlying28 h4
  obtain ⟨ocs, a5, _, w5⟩ := DataW.trod_int Try.underlying28 h5
  obtain ⟨ba, bc, xs, a6, bl, bm, bo, br⟩ := open_blos h6 z6
  obtain ⟨ga, gn, gc, gz, a7, r7⟩ := open_field Try.underlying31 Try.underlying28 (by kernel_rfl) bytes28 h7 z7
  obtain ⟨media, a8, _, w8⟩ := DataW.trod_int Try.underlying28 h8
  obtain ⟨pa, pc, ps, a9, pl, pm, po, pr⟩ := open_pairs h9 z9
  simp only [List.cons.injEq, and_true] at a0 a1 a2 a3 a4 a5 a8
  subst a0 a1 a2 a3 a4 a5 a6 a7 a8 a9
  obtain ⟨k1, k2, gs, rfl, k3⟩ := IsRow_wd r7
  refine ⟨⟨kind, ssrc, ntp, time, pks, ocs, xs, gs, media, ps⟩, ⟨ba, bc, ga, gc, pa, pc⟩, rfl, ⟨wf_u32 w1, wf_u64 w2, wf_u32 w3, wf_u32 w4, wf_u32 w5, bo, fun x hx => k3.2.1 x hx, wf_u32 w8, po⟩, ⟨br, k3, pr, bm, k1, pm, bl, k2, pl⟩⟩
/-- A slice of items that came in. -/
theorem open_its {fuel j0 : Nat} {u : Value} {y : DataW H × List MemPlace} {ts : List TypeId} {ds : List (DataW H)} (h : DataW.trod enc Try.prog w 0 (fun _ => true) held fuel 22 [u] = some y)
    (hsz : (DataW.weightsEach Try.prog ts ds).all (· ≤ reachBytes) = true) (ht : ts[j0]? = some 22) (hd : ds[j0]? = some y.1) :
    ∃ (a : Option Addr) (cap : Nat) (ps : List (Itm × ILoc)), u = .slice a ps.length cap ∧ ps.length ≤ cap ∧ ps.length ≤ 1172812402962 ∧ OkL (its ps) ∧ ItsRd w w.heap.size a ps.length ps := by
  obtain ⟨a, len, cap, rfl, hl, hb, hc⟩ := open_rows_data Try.underlying22 Try.underlying34 (by kernel_rfl) cellsItm (by decide) h (fun el sp hy => sized_slice hsz ht (hd.trans (congrArg some hy)) Try.underlying22)
  rw [bytesItm] at hb
  simp only [reachBytes] at hb
  have hle : len ≤ 1172812402962 := by omega
  rcases Nat.eq_zero_or_pos len with h0 | h0
  · subst h0
    exact ⟨a, cap, [], rfl, Nat.zero_le _, Nat.zero_le _, fun x hx => by simp [its] at hx, ItsRd.nil _ _ _⟩
  obtain ⟨b, off, el, sp, rfl, hbw, hy, hc⟩ := hc h0
  have hd' := hd.trans (congrArg some hy)
  have each : ∀ i, i < len → ∃ p : Itm × ILoc, (p.1.Ok ∧ IRd w w.heap.size p.1 p.2) ∧ ∀ j v, (ivC (ivOf p.1 p.2))[j]? = some v → w.cell? ⟨b, off + i * 10 + j, none⟩ = some v := fun i hi => by
    obtain ⟨parts, hpm, hc⟩ := hc i hi
    obtain ⟨v0, y0, n0, d0, t0, p0⟩ := hc 0 _ rfl
    obtain ⟨v1, y1, n1, d1, t1, p1⟩ := hc 1 _ rfl
    obtain ⟨v2, y2, n2, d2, t2, p2⟩ := hc 2 _ rfl
    obtain ⟨v3, y3, n3, d3, t3, p3⟩ := hc 3 _ rfl
    obtain ⟨v4, y4, n4, d4, t4, p4⟩ := hc 4 _ rfl
    obtain ⟨v5, y5, n5, d5, t5, p5⟩ := hc 5 _ rfl
    obtain ⟨v6, y6, n6, d6, t6, p6⟩ := hc 6 _ rfl
    obtain ⟨v7, y7, n7, d7, t7, p7⟩ := hc 7 _ rfl
    obtain ⟨v8, y8, n8, d8, t8, p8⟩ := hc 8 _ rfl
    obtain ⟨v9, y9, n9, d9, t9, p9⟩ := hc 9 _ rfl
    have z : ∀ (k : Nat) (f : Field) (q : TypeId) (yk : DataW H × List MemPlace) (el' sp' : List (DataW H)), _ → parts[k]? = some yk.1 → Try.prog.underlying f.type = some (.slice q) → yk.1 = .slice el' sp' → (el'.length + sp'.length) * Try.prog.bytesOf q ≤ reachBytes :=
      fun k f q yk el' sp' hf hp hu hy1 => sized_deep hsz ht hd' Try.underlying22 Try.underlying34 hpm hf (hp.trans (congrArg some hy1)) hu
    obtain ⟨it, l, hC, ho, hr⟩ := item_of t0 t1 t2 t3 t4 t5 t6 t7 t8 t9 (fun el' sp' hy1 => z 6 _ _ y6 el' sp' rfl p6 Try.underlying30 hy1) (fun el' sp' hy1 => z 7 _ _ y7 el' sp' rfl p7 Try.underlying31 hy1) (fun el' sp' hy1 => z 9 _ _ y9 el' sp' rfl p9 Try.underlying32 hy1)
    refine ⟨(it, l), ⟨ho, hr⟩, fun j v hv => ?_⟩
    rw [hC] at hv
    match j with
    | 0 => rw [← Option.some.inj hv]; exact d0
    | 1 => rw [← Option.some.inj hv]; exact d1
    | 2 => rw [← Option.some.inj hv]; exact d2
    | 3 => rw [← Option.some.inj hv]; exact d3
    | 4 => rw [← Option.some.inj hv]; exact d4
    | 5 => rw [← Option.some.inj hv]; exact d5
    | 6 => rw [← Option.some.inj hv]; exact d6
    | 7 => rw [← Option.some.inj hv]; exact d7
    | 8 => rw [← Option.some.inj hv]; exact d8
    | 9 => rw [← Option.some.inj hv]; exact d9
    | n + 10 => simp at hv
  have : Inhabited (Itm × ILoc) := ⟨(zeroItm, ⟨none, 0, none, 0, none, 0⟩)⟩
  obtain ⟨V, hV⟩ := choose_lt each
  have hlen : ((List.range len).map V).length = len := by simp
  have hmem : ∀ p ∈ (List.range len).map V, p.1.Ok ∧ IRd w w.heap.size p.1 p.2 := fun p hp => by
    obtain ⟨i, hi, rfl⟩ := List.mem_map.1 hp
    exact (hV i (List.mem_range.1 hi)).1
  refine ⟨some ⟨b, off, none⟩, cap, (List.range len).map V, by rw [hlen], by rw [hlen]; exact hl, by rw [hlen]; exact hle, fun x hx => ?_, ⟨?_, fun p hp => (hmem p hp).2⟩⟩
  · obtain ⟨p, hp, rfl⟩ := List.mem_map.1 hx
    exact (hmem p hp).1
  · rw [hlen]
    refine ⟨hlen, fun _ => ⟨b, off, rfl, hbw, fun i x hx => ?_⟩⟩
    have hi : i < len := by
      have := (List.getElem?_eq_some_iff.1 hx).1
      rwa [hlen] at this
    rw [List.getElem?_map, List.getElem?_range hi] at hx
    obtain rfl : V i = x := Option.some.inj hx
    exact (hV i hi).2
end
end Fbk
end Go.Proofs.Ytjbgfaoancmknaa
