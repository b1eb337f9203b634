/- A slice of structs that came in, opened; a feedback item that came in, opened: its lists lie where they read as they should. · A slice of feedback items that came in, opened: each item's lists lie where they read as they should. -/
import Derived.Test.YthmmafpmpnhleaaFr
import Derived.Test.YthmmafpmpnhleaaAg
import Derived.Test.YthmmafpmpnhleaaFpr
import Derived.Test.YthmmafpmpnhleaaQb
import Derived.Lib.SmallJoins
import Derived.Test.YthmmafpmpnhleaaVb
set_option maxRecDepth 100000
namespace Go.Proofs.Ythmmafpmpnhleaa
open Go.ChangeShapes Go.WideShapes Go.RowKit Go.Joins Go.Deep
set_option linter.unusedVariables false

namespace Fbk
theorem cellsItm : Try.prog.cellsOf 68 = 10 := by kernel_rfl
theorem cellsBlo : Try.prog.cellsOf 105 = 7 := by kernel_rfl
theorem bytesBlo : Try.prog.bytesOf 105 = 28 := by kernel_rfl
section
variable {H : Type} {enc : TypeId × Value → H} {w : World} {held : Bool}
theorem open_blosB {fuel : Nat} {u : Value} {y : DataW H × List MemPlace} (h : DataW.trod enc Try.prog w 0 (fun _ => true) held fuel 65 [u] = some y) (hsz : ∀ el sp, y.1 = .slice el sp → (el.length + sp.length) * Try.prog.bytesOf 105 ≤ reachBytes) :
    ∃ (a : Option Addr) (cap : Nat) (xs : List Blo), u = .slice a xs.length cap ∧ xs.length ≤ cap ∧ xs.length * 28 ≤ 140737488351232 ∧ (∀ x ∈ xs, x.Ok) ∧ RowRd bloL w w.heap.size a xs.length xs := by
  obtain ⟨a, len, cap, rfl, hl, hb, hc⟩ := open_rows Try.underlying65 Try.underlying105 (by kernel_rfl) cellsBlo (by decide) h hsz
  rw [bytesBlo] at hb
  simp only [reachBytes] at hb
  have hle : len * 28 ≤ 140737488351232 := by omega
  rcases Nat.eq_zero_or_pos len with h0 | h0
  · subst h0
    exact ⟨a, cap, [], rfl, Nat.zero_le _, by simp, fun x hx => by simp at hx, RowRd.none_ _ rfl⟩
  obtain ⟨b, off, rfl, hbw, hc⟩ := hc h0
  have each : ∀ i, i < len → ∃ x : Blo, x.Ok ∧ ∀ j v, (bloC x)[j]? = some v → w.cell? ⟨b, off + i * 7 + j, none⟩ = some v := fun i hi => by
    obtain ⟨v0, y0, n0, d0, t0⟩ := hc i hi 0 _ rfl
    obtain ⟨v1, y1, n1, d1, t1⟩ := hc i hi 1 _ rfl
    obtain ⟨v2, y2, n2, d2, t2⟩ := hc i hi 2 _ rfl
    obtain ⟨v3, y3, n3, d3, t3⟩ := hc i hi 3 _ rfl
    obtain ⟨v4, y4, n4, d4, t4⟩ := hc i hi 4 _ rfl
    obtain ⟨v5, y5, n5, d5, t5⟩ := hc i hi 5 _ rfl
    obtain ⟨v6, y6, n6, d6, t6⟩ := hc i hi 6 _ rfl
    obtain ⟨x0, a0, _, w0⟩ := DataW.trod_int Try.underlying30 t0
    obtain ⟨x1, a1, _, w1⟩ := DataW.trod_int Try.underlying5 t1
    obtain ⟨x2, a2, _, w2⟩ := DataW.trod_int Try.underlying30 t2
    obtain ⟨x3, a3, _, w3⟩ := DataW.trod_int Try.underlying30 t3
    obtain ⟨x4, a4, _, w4⟩ := DataW.trod_int Try.underlying30 t4
    obtain ⟨x5, a5, _, w5⟩ := DataW.trod_int Try.underlying30 t5
    obtain ⟨x6, a6, _, w6⟩ := DataW.trod_int Try.underlying30 t6
    simp only [List.cons.injEq, and_true] at a0 a1 a2 a3 a4 a5 a6
    subst a0 a1 a2 a3 a4 a5 a6
    refine ⟨⟨x0, x1, x2, x3, x4, x5, x6⟩, ⟨wf_u32 w0, wf_byte w1, wf_u32 w2, wf_u32 w3, wf_u32 w4, wf_u32 w5, wf_u32 w6⟩, fun j v hv => ?_⟩
    match j with
    | 0 => rw [← hv]; exact d0
    | 1 => rw [← hv]; exact d1
    | 2 => rw [← hv]; exact d2
    | 3 => rw [← hv]; exact d3
    | 4 => rw [← hv]; exact d4
    | 5 => rw [← hv]; exact d5
    | 6 => rw [← hv]; exact d6
    | n + 7 => simp [bloC] at hv
  have : Inhabited Blo := ⟨zblo⟩
  obtain ⟨V, hV⟩ := choose_lt each
  have hlen : ((List.range len).map V).length = len := by simp
  refine ⟨some ⟨b, off, none⟩, cap, (List.range len).map V, by rw [hlen], by rw [hlen]; exact hl, by rw [hlen]; exact hle, fun x hx => ?_, ?_⟩
  · obtain ⟨i, hi, rfl⟩ := List.mem_map.1 hx
    exact (hV i (List.mem_range.1 hi)).1
  · rw [hlen]
    refine ⟨hlen, fun _ => ⟨b, off, rfl, hbw, fun i x hx => ?_⟩⟩
    have hi : i < len := by
      have := (List.getElem?_eq_some_iff.1 hx).1
      rwa [hlen] at this
    rw [List.getElem?_map, List.getElem?_range hi] at hx
    obtain rfl : V i = x := Option.some.inj hx
    exact (hV i hi).2
theorem open_blos {fuel : Nat} {u : Value} {y : DataW H × List MemPlace} (h : DataW.trod enc Try.prog w 0 (fun _ => true) held fuel 65 [u] = some y) (hsz : ∀ el sp, y.1 = .slice el sp → (el.length + sp.length) * Try.prog.bytesOf 105 ≤ reachBytes) :
    ∃ (a : Option Addr) (cap : Nat) (xs : List Blo), u = .slice a xs.length cap ∧ xs.length ≤ cap ∧ xs.length ≤ 140737488351232 ∧ (∀ x ∈ xs, x.Ok) ∧ RowRd bloL w w.heap.size a xs.length xs := by
  obtain ⟨a, cap, xs, h1, h2, h3, h4⟩ := open_blosB h hsz
  exact ⟨a, cap, xs, h1, h2, by omega, h4⟩
/-- A slice of integers that is one of a struct's cells. -/
theorem open_field {t e : TypeId} {k : IntKind} {bytes fuel : Nat} {u : Value} {y : DataW H × List MemPlace} (ht : Try.prog.underlying t = some (.slice e)) (he : Try.prog.underlying e = some (.int k))
    (hc : Try.prog.cellsOf e = 1) (hby : Try.prog.bytesOf e = bytes) (h : DataW.trod enc Try.prog w 0 (fun _ => true) held fuel t [u] = some y) (hsz : ∀ el sp, y.1 = .slice el sp → (el.length + sp.length) * Try.prog.bytesOf e ≤ reachBytes) :
    ∃ a len cap zs, u = .slice a len cap ∧ IsRow k bytes w a len cap zs := by
  rcases open_ints ht he hc h with ⟨hcs, _⟩ | ⟨x, l, c, zs, hcs, _, hl, hm, hz, hx, hcell, hwz⟩
  · simp only [List.cons.injEq, and_true] at hcs
    exact ⟨none, 0, 0, [], hcs, .inl ⟨rfl, rfl, rfl, rfl⟩⟩
  · simp only [List.cons.injEq, and_true] at hcs
    have hb := hsz (lits _ (zs.take l)) (lits _ (zs.drop l)) (by rw [hx])
    rw [hby] at hb
    simp only [if_true] at hz
    simp only [lits, List.length_map, List.length_take, List.length_drop, reachBytes] at hb
    refine ⟨some x, l, c, zs, hcs, .inr ⟨_, rfl, hl, hm, hz, ?_, hcell, hwz⟩⟩
    rw [show min l zs.length + (zs.length - l) = c from by omega] at hb
    exact hb
theorem IsRow_wdB {a : Option Addr} {len cap : Nat} {zs : List Int} (h : IsRow .u32 4 w a len cap zs) : len * 4 ≤ 140737488351232 ∧ len ≤ cap ∧ ∃ xs, xs.length = len ∧ Wd w w.heap.size a xs.length xs := by
  obtain ⟨h1, h2, h3, h4, h5⟩ := h.cells
  refine ⟨by omega, h1, zs.take len, h3, ?_⟩
  rw [h3]
  exact ⟨h3, fun n hn => wf_u32 (h4 n hn), h5⟩
theorem IsRow_wd {a : Option Addr} {len cap : Nat} {zs : List Int} (h : IsRow .u32 4 w a len cap zs) : len ≤ 140737488351232 ∧ len ≤ cap ∧ ∃ xs, xs.length = len ∧ Wd w w.heap.size a xs.length xs := by
  obtain ⟨h1, h2⟩ := IsRow_wdB h
  exact ⟨by omega, h2⟩
end
set_option maxHeartbeats 1000000 in
theorem open_item {H : Type} {enc : TypeId × Value → H} {w : World} {b0 j : Nat} {held : Bool} {r : Reach} {v : Value} {d : DataW H} {p : List MemPlace} {ts : List TypeId} {ds : List (DataW H)}
    (hv : Value.okWide Try.prog w r b0 68 v) (h : DataW.Trod enc Try.prog w 0 (fun _ => true) held 68 v d p)
    (hsz : (DataW.weightsEach Try.prog ts ds).all (· ≤ reachBytes) = true) (ht : ts[j]? = some 68) (hd : ds[j]? = some d) :
    ∃ (i : Itm) (l : ILoc), v = itm (ivOf i l) ∧ i.Ok ∧ IRd w w.heap.size i l := by
  obtain ⟨cs, ys, n, rfl, hcs, hdd, hyl, hg⟩ := open_agg_any Try.underlying68 (by kernel_rfl) cellsItm hv h
  have hpart : ∀ (i : Nat) (f : Field) (e : TypeId) (y : DataW H × List MemPlace) (el sp : List (DataW H)), _ → ys[i]? = some y → Try.prog.underlying f.type = some (.slice e) → y.1 = .slice el sp → (el.length + sp.length) * Try.prog.bytesOf e ≤ reachBytes :=
    fun i f e y el sp hf hy hu hy1 => sized_part hsz ht (hdd ▸ hd) Try.underlying68 hf (by rw [List.getElem?_map, hy]; exact congrArg some hy1) hu
  obtain ⟨u0, y0, c0, e0, h0⟩ := hg 0 _ rfl
  obtain ⟨u1, y1, c1, e1, h1⟩ := hg 1 _ rfl
  obtain ⟨u2, y2, c2, e2, h2⟩ := hg 2 _ rfl
  obtain ⟨u3, y3, c3, e3, h3⟩ := hg 3 _ rfl
  obtain ⟨u4, y4, c4, e4, h4⟩ := hg 4 _ rfl
  obtain ⟨u5, y5, c5, e5, h5⟩ := hg 5 _ rfl
  obtain ⟨u6, y6, c6, e6, h6⟩ := hg 6 _ rfl
  obtain ⟨u7, y7, c7, e7, h7⟩ := hg 7 _ rfl
  obtain ⟨u8, y8, c8, e8, h8⟩ := hg 8 _ rfl
  obtain ⟨u9, y9, c9, e9, h9⟩ := hg 9 _ rfl
  obtain ⟨kind, a0, _, w0⟩ := DataW.trod_int Try.underlying3 h0
  obtain ⟨ssrc, a1, _, w1⟩ := DataW.trod_int Try.underlying30 h1
  obtain ⟨ntp, a2, _, w2⟩ := DataW.trod_int Try.underlying64 h2
  obtain ⟨time, a3, _, w3⟩ := DataW.trod_int Try.underlying30 h3
  obtain ⟨pks, a4, _, w4⟩ := DataW.trod_int Try.underlying30 h4
  obtain ⟨ocs, a5, _, w5⟩ := DataW.trod_int Try.underlying30 h5
  obtain ⟨ba, bc, xs, a6, bl, bm, bo, br⟩ := open_blos h6 (fun el sp hy => hpart 6 _ _ y6 el sp rfl e6 Try.underlying65 hy)
  obtain ⟨ga, gn, gc, gz, a7, r7⟩ := open_field Try.underlying31 Try.underlying30 (by kernel_rfl) bytes30 h7 (fun el sp hy => hpart 7 _ _ y7 el sp rfl e7 Try.underlying31 hy)
  obtain ⟨media, a8, _, w8⟩ := DataW.trod_int Try.underlying30 h8
  obtain ⟨pa, pc, ps, a9, pl, pm, po, pr⟩ := open_pairs h9 (fun el sp hy => hpart 9 _ _ y9 el sp rfl e9 Try.underlying66 hy)
  simp only [List.cons.injEq, and_true] at a0 a1 a2 a3 a4 a5 a8
  subst a0 a1 a2 a3 a4 a5 a6 a7 a8 a9
  obtain ⟨k1, k2, gs, rfl, k3⟩ := IsRow_wd r7
  refine ⟨⟨kind, ssrc, ntp, time, pks, ocs, xs, gs, media, ps⟩, ⟨ba, bc, ga, gc, pa, pc⟩, ?_, ⟨wf_u32 w1, wf_u64 w2, wf_u32 w3, wf_u32 w4, wf_u32 w5, bo, fun x hx => k3.2.1 x hx, wf_u32 w8, po⟩, ⟨br, k3, pr, bm, k1, pm, bl, k2, pl⟩⟩
  have hcs' : cs.size = 10 := hcs
  congr 1
  apply Array.ext_getElem?
  intro i
  match i with
  | 0 => exact c0
  | 1 => exact c1
  | 2 => exact c2
  | 3 => exact c3
  | 4 => exact c4
  | 5 => exact c5
  | 6 => exact c6
  | 7 => exact c7
  | 8 => exact c8
  | 9 => exact c9
  | n + 10 => rw [Array.getElem?_eq_none (by omega)]; simp
end Fbk
end Go.Proofs.Ythmmafpmpnhleaa

namespace Go.Proofs.Ythmmafpmpnhleaa
open Go.ChangeShapes Go.WideShapes Go.RowKit Go.Joins Go.Deep
set_option linter.unusedVariables false

section
variable {H : Type} {P : Program}
theorem weightsAll_of {e : TypeId} {d : DataW H} : ∀ {l : List (DataW H)}, d ∈ l → ∀ n ∈ d.weights P e, n ∈ DataW.weightsAll P e l
  | [], h, _, _ => by cases h
  | x :: l, h, n, hn => by
    simp only [DataW.weightsAll, List.mem_append]
    rcases List.mem_cons.1 h with rfl | h
    · exact .inl hn
    · exact .inr (weightsAll_of h n hn)
/-- The reach of a slice that is a field of a struct in a slice. -/
theorem sized_deep {ts : List TypeId} {ds elems spare parts : List (DataW H)} (h : (DataW.weightsEach P ts ds).all (· ≤ reachBytes) = true) {j i : Nat} {t e q : TypeId} {fs : Array Field} {f : Field} {el sp : List (DataW H)}
    (ht : ts[j]? = some t) (hd : ds[j]? = some (.slice elems spare)) (hu : P.underlying t = some (.slice e)) (hue : P.underlying e = some (.struct fs)) (hx : DataW.agg parts ∈ elems) (hf : fs[i]? = some f) (hp : parts[i]? = some (.slice el sp)) (hfu : P.underlying f.type = some (.slice q)) :
    (el.length + sp.length) * P.bytesOf q ≤ reachBytes := by
  refine of_decide_eq_true (List.all_eq_true.1 h _ (DataW.weights_mem_each ht hd _ ?_))
  simp only [DataW.weights, hu, List.mem_cons, List.mem_append]
  refine .inr (.inl (weightsAll_of hx _ ?_))
  simp only [DataW.weights, hue]
  refine DataW.weights_mem_each (j := i) (t := f.type) (d := .slice el sp) ?_ hp _ (by simp [DataW.weights, hfu])
  rw [List.getElem?_map, Array.getElem?_toList, hf]; rfl
end
section
variable {H : Type} {enc : TypeId × Value → H} {P : Program} {w : World} {held : Bool}
/-- A slice of structs of one-cell fields, opened at every index, with the data of each. -/
theorem open_rows_data {t e : TypeId} {fs : Array Field} {fuel : Nat} {u : Value} {y : DataW H × List MemPlace} (ht : P.underlying t = some (.slice e)) (he : P.underlying e = some (.struct fs)) (hone : oneCellFields P fs = true) (hC : P.cellsOf e = fs.size) (hpos : 0 < fs.size)
    (h : DataW.trod enc P w 0 (fun _ => true) held fuel t [u] = some y) (hsz : ∀ el sp, y.1 = .slice el sp → (el.length + sp.length) * P.bytesOf e ≤ reachBytes) :
    ∃ a len cap, u = .slice a len cap ∧ len ≤ cap ∧ cap * P.bytesOf e ≤ reachBytes ∧ (0 < len → ∃ b off el sp, a = some ⟨b, off, none⟩ ∧ b < w.heap.size ∧ y.1 = .slice el sp ∧
      ∀ i, i < len → ∃ parts, DataW.agg parts ∈ el ∧ ∀ (j : Nat) (f : Field), fs[j]? = some f → ∃ (v : Value) (y' : DataW H × List MemPlace) (n : Nat), w.cell? ⟨b, off + i * fs.size + j, none⟩ = some v ∧ DataW.trod enc P w 0 (fun _ => true) held n f.type [v] = some y' ∧ parts[j]? = some y'.1) := by
  rcases open_slice ht h with ⟨hcs, _⟩ | ⟨a, len, cap, m, n, D, Pl, hcs, _, hl, hm, hmm, hy, hx⟩
  · simp only [List.cons.injEq, and_true] at hcs
    exact ⟨none, 0, 0, hcs, Nat.le_refl _, by simp, fun h => absurd h (by omega)⟩
  · simp only [List.cons.injEq, and_true] at hcs
    simp only [if_true] at hmm
    have hb := hsz _ _ (by rw [hy])
    simp only [List.length_map, List.length_range] at hb
    rw [show len + (m - len) = cap from by omega] at hb
    refine ⟨some a, len, cap, hcs, hl, hb, fun hp => ?_⟩
    have cells : ∀ i, i < len → ∃ cs', w.cells? 0 (a.add (i * fs.size)) fs.size = some cs' ∧ DataW.trod enc P w 0 (fun _ => true) held n e cs' = some (D i, Pl i) := fun i hi => by
      have := hx i (by omega)
      rwa [hC] at this
    obtain ⟨b, off, spot⟩ := a
    have hspot : spot = none ∧ b < w.heap.size := by
      obtain ⟨cs', h1, _⟩ := cells 0 hp
      obtain ⟨_, hlen, hcell⟩ := World.cells?_some h1
      have h0 := hcell 0 hpos
      rw [add_add, Nat.zero_mul, Nat.zero_add, List.getElem?_eq_getElem (by omega)] at h0
      exact ⟨by simpa [Addr.add] using World.cell?_spot h0, by simpa [Addr.add] using World.block_lt_of_cell? w _ h0⟩
    obtain ⟨rfl, hbw⟩ := hspot
    refine ⟨b, off, _, _, rfl, hbw, by rw [hy], fun i hi => ?_⟩
    obtain ⟨cs', h1, h2⟩ := cells i hi
    obtain ⟨_, hlen, hcell⟩ := World.cells?_some h1
    obtain ⟨xs, k, _, hD, _, hxl, hg⟩ := DataW.trod_struct he h2
    simp only [Prod.mk.injEq] at hD
    refine ⟨xs.map (·.1), List.mem_map.2 ⟨i, List.mem_range.2 hi, hD.1⟩, fun j f hf => ?_⟩
    obtain ⟨ho, hk⟩ := hone_of hone j f hf
    have hjl : j < fs.size := (Array.getElem?_eq_some_iff.1 hf).1
    have g := hg j f hf
    rw [ho, hk, List.drop_eq_getElem_cons (by omega), List.take_succ_cons, List.take_zero, List.getElem?_eq_getElem (by omega)] at g
    have hc := hcell j hjl
    rw [add_add, add_plain, List.getElem?_eq_getElem (by omega)] at hc
    exact ⟨_, _, _, (by rw [Nat.add_assoc]; exact hc), g, by rw [List.getElem?_map, List.getElem?_eq_getElem (by omega)]; rfl⟩
end
namespace Fbk
theorem bytesItm : Try.prog.bytesOf 68 = 120 := by kernel_rfl
section
variable {H : Type} {enc : TypeId × Value → H} {w : World} {held : Bool}
set_option maxHeartbeats 1000000 in
theorem item_ofB {n0 n1 n2 n3 n4 n5 n6 n7 n8 n9 : Nat} {u0 u1 u2 u3 u4 u5 u6 u7 u8 u9 : Value} {y0 y1 y2 y3 y4 y5 y6 y7 y8 y9 : DataW H × List MemPlace}
    (h0 : DataW.trod enc Try.prog w 0 (fun _ => true) held n0 3 [u0] = some y0) (h1 : DataW.trod enc Try.prog w 0 (fun _ => true) held n1 30 [u1] = some y1) (h2 : DataW.trod enc Try.prog w 0 (fun _ => true) held n2 64 [u2] = some y2) (h3 : DataW.trod enc Try.prog w 0 (fun _ => true) held n3 30 [u3] = some y3) (h4 : DataW.trod enc Try.prog w 0 (fun _ => true) held n4 30 [u4] = some y4) (h5 : DataW.trod enc Try.prog w 0 (fun _ => true) held n5 30 [u5] = some y5) (h6 : DataW.trod enc Try.prog w 0 (fun _ => true) held n6 65 [u6] = some y6) (h7 : DataW.trod enc Try.prog w 0 (fun _ => true) held n7 31 [u7] = some y7) (h8 : DataW.trod enc Try.prog w 0 (fun _ => true) held n8 30 [u8] = some y8) (h9 : DataW.trod enc Try.prog w 0 (fun _ => true) held n9 66 [u9] = some y9)
    (z6 : ∀ el sp, y6.1 = .slice el sp → (el.length + sp.length) * Try.prog.bytesOf 105 ≤ reachBytes) (z7 : ∀ el sp, y7.1 = .slice el sp → (el.length + sp.length) * Try.prog.bytesOf 30 ≤ reachBytes) (z9 : ∀ el sp, y9.1 = .slice el sp → (el.length + sp.length) * Try.prog.bytesOf 108 ≤ reachBytes) :
    ∃ (i : Itm) (l : ILoc), ivC (ivOf i l) = [u0, u1, u2, u3, u4, u5, u6, u7, u8, u9] ∧ i.Ok ∧ IRd w w.heap.size i l ∧ i.blocks.length * 28 ≤ 140737488351232 ∧ i.gone.length * 4 ≤ 140737488351232 ∧ i.pairs.length * 4 ≤ 140737488351232 := by
  obtain ⟨kind, a0, _, w0⟩ := DataW.trod_int Try.underlying3 h0
  obtain ⟨ssrc, a1, _, w1⟩ := DataW.trod_int Try.underlying30 h1
  obtain ⟨ntp, a2, _, w2⟩ := DataW.trod_int Try.underlying64 h2
  obtain ⟨time, a3, _, w3⟩ := DataW.trod_int Try.underlying30 h3
  obtain ⟨pks, a4, _, w4⟩ := DataW.trod_int Try.underlying30 h4
  obtain ⟨ocs, a5, _, w5⟩ := DataW.trod_int Try.underlying30 h5
  obtain ⟨ba, bc, xs, a6, bl, bm, bo, br⟩ := open_blosB h6 z6
  obtain ⟨ga, gn, gc, gz, a7, r7⟩ := open_field Try.underlying31 Try.underlying30 (by kernel_rfl) bytes30 h7 z7
  obtain ⟨media, a8, _, w8⟩ := DataW.trod_int Try.underlying30 h8
  obtain ⟨pa, pc, ps, a9, pl, pm, po, pr⟩ := open_pairsB h9 z9
  simp only [List.cons.injEq, and_true] at a0 a1 a2 a3 a4 a5 a8
  subst a0 a1 a2 a3 a4 a5 a6 a7 a8 a9
  obtain ⟨k1, k2, gs, rfl, k3⟩ := IsRow_wdB r7
  refine ⟨⟨kind, ssrc, ntp, time, pks, ocs, xs, gs, media, ps⟩, ⟨ba, bc, ga, gc, pa, pc⟩, rfl, ⟨wf_u32 w1, wf_u64 w2, wf_u32 w3, wf_u32 w4, wf_u32 w5, bo, fun x hx => k3.2.1 x hx, wf_u32 w8, po⟩, ⟨br, k3, pr, (by show xs.length ≤ _; omega), (by show gs.length ≤ _; omega), (by show ps.length ≤ _; omega), bl, k2, pl⟩, bm, k1, pm⟩
/-- A slice of items that came in. -/
theorem open_itsB {fuel j0 : Nat} {u : Value} {y : DataW H × List MemPlace} {ts : List TypeId} {ds : List (DataW H)} (h : DataW.trod enc Try.prog w 0 (fun _ => true) held fuel 36 [u] = some y)
    (hsz : (DataW.weightsEach Try.prog ts ds).all (· ≤ reachBytes) = true) (ht : ts[j0]? = some 36) (hd : ds[j0]? = some y.1) :
    ∃ (a : Option Addr) (cap : Nat) (ps : List (Itm × ILoc)), u = .slice a ps.length cap ∧ ps.length ≤ cap ∧ ps.length * 120 ≤ 140737488351232 ∧ OkL (its ps) ∧ ItsRd w w.heap.size a ps.length ps ∧ (∀ i ∈ its ps, i.blocks.length * 28 ≤ 140737488351232 ∧ i.gone.length * 4 ≤ 140737488351232 ∧ i.pairs.length * 4 ≤ 140737488351232) := by
  obtain ⟨a, len, cap, rfl, hl, hb, hc⟩ := open_rows_data Try.underlying36 Try.underlying68 (by kernel_rfl) cellsItm (by decide) h (fun el sp hy => sized_slice hsz ht (hd.trans (congrArg some hy)) Try.underlying36)
  rw [bytesItm] at hb
  simp only [reachBytes] at hb
  have hle : len * 120 ≤ 140737488351232 := by omega
  rcases Nat.eq_zero_or_pos len with h0 | h0
  · subst h0
    exact ⟨a, cap, [], rfl, Nat.zero_le _, by simp, fun x hx => by simp [its] at hx, ItsRd.nil _ _ _, fun x hx => by simp [its] at hx⟩
  obtain ⟨b, off, el, sp, rfl, hbw, hy, hc⟩ := hc h0
  have hd' := hd.trans (congrArg some hy)
  have each : ∀ i, i < len → ∃ p : Itm × ILoc, (p.1.Ok ∧ IRd w w.heap.size p.1 p.2 ∧ p.1.blocks.length * 28 ≤ 140737488351232 ∧ p.1.gone.length * 4 ≤ 140737488351232 ∧ p.1.pairs.length * 4 ≤ 140737488351232) ∧ ∀ j v, (ivC (ivOf p.1 p.2))[j]? = some v → w.cell? ⟨b, off + i * 10 + j, none⟩ = some v := fun i hi => by
    obtain ⟨parts, hpm, hc⟩ := hc i hi
    obtain ⟨v0, y0, n0, d0, t0, p0⟩ := hc 0 _ rfl
    obtain ⟨v1, y1, n1, d1, t1, p1⟩ := hc 1 _ rfl
    obtain ⟨v2, y2, n2, d2, t2, p2⟩ := hc 2 _ rfl
    obtain ⟨v3, y3, n3, d3, t3, p3⟩ := hc 3 _ rfl
    obtain ⟨v4, y4, n4, d4, t4, p4⟩ := hc 4 _ rfl
    obtain ⟨v5, y5, n5, d5, t5, p5⟩ := hc 5 _ rfl
    obtain ⟨v6, y6, n6, d6, t6, p6⟩ := hc 6 _ rfl
    obtain ⟨v7, y7, n7, d7, t7, p7⟩ := hc 7 _ rfl
    obtain ⟨v8, y8, n8, d8, t8, p8⟩ := hc 8 _ rfl
    obtain ⟨v9, y9, n9, d9, t9, p9⟩ := hc 9 _ rfl
    have z : ∀ (k : Nat) (f : Field) (q : TypeId) (yk : DataW H × List MemPlace) (el' sp' : List (DataW H)), _ → parts[k]? = some yk.1 → Try.prog.underlying f.type = some (.slice q) → yk.1 = .slice el' sp' → (el'.length + sp'.length) * Try.prog.bytesOf q ≤ reachBytes :=
      fun k f q yk el' sp' hf hp hu hy1 => sized_deep hsz ht hd' Try.underlying36 Try.underlying68 hpm hf (hp.trans (congrArg some hy1)) hu
    obtain ⟨it, l, hC, ho, hr, hbd⟩ := item_ofB t0 t1 t2 t3 t4 t5 t6 t7 t8 t9 (fun el' sp' hy1 => z 6 _ _ y6 el' sp' rfl p6 Try.underlying65 hy1) (fun el' sp' hy1 => z 7 _ _ y7 el' sp' rfl p7 Try.underlying31 hy1) (fun el' sp' hy1 => z 9 _ _ y9 el' sp' rfl p9 Try.underlying66 hy1)
    refine ⟨(it, l), ⟨ho, hr, hbd⟩, fun j v hv => ?_⟩
    rw [hC] at hv
    match j with
    | 0 => rw [← Option.some.inj hv]; exact d0
    | 1 => rw [← Option.some.inj hv]; exact d1
    | 2 => rw [← Option.some.inj hv]; exact d2
    | 3 => rw [← Option.some.inj hv]; exact d3
    | 4 => rw [← Option.some.inj hv]; exact d4
    | 5 => rw [← Option.some.inj hv]; exact d5
    | 6 => rw [← Option.some.inj hv]; exact d6
    | 7 => rw [← Option.some.inj hv]; exact d7
    | 8 => rw [← Option.some.inj hv]; exact d8
    | 9 => rw [← Option.some.inj hv]; exact d9
    | n + 10 => simp at hv
  have : Inhabited (Itm × ILoc) := ⟨(zeroItm, ⟨none, 0, none, 0, none, 0⟩)⟩
  obtain ⟨V, hV⟩ := choose_lt each
  have hlen : ((List.range len).map V).length = len := by simp
  have hmem : ∀ p ∈ (List.range len).map V, p.1.Ok ∧ IRd w w.heap.size p.1 p.2 ∧ p.1.blocks.length * 28 ≤ 140737488351232 ∧ p.1.gone.length * 4 ≤ 140737488351232 ∧ p.1.pairs.length * 4 ≤ 140737488351232 := fun p hp => by
    obtain ⟨i, hi, rfl⟩ := List.mem_map.1 hp
    exact (hV i (List.mem_range.1 hi)).1
  refine ⟨some ⟨b, off, none⟩, cap, (List.range len).map V, by rw [hlen], by rw [hlen]; exact hl, by rw [hlen]; exact hle, fun x hx => ?_, ⟨?_, fun p hp => (hmem p hp).2.1⟩, fun x hx => ?_⟩
  · obtain ⟨p, hp, rfl⟩ := List.mem_map.1 hx
    exact (hmem p hp).1
  · rw [hlen]
    refine ⟨hlen, fun _ => ⟨b, off, rfl, hbw, fun i x hx => ?_⟩⟩
    have hi : i < len := by
      have := (List.getElem?_eq_some_iff.1 hx).1
      rwa [hlen] at this
    rw [List.getElem?_map, List.getElem?_range hi] at hx
    obtain rfl : V i = x := Option.some.inj hx
    exact (hV i hi).2
  · obtain ⟨p, hp, rfl⟩ := List.mem_map.1 hx
    exact (hmem p hp).2.2
theorem open_its {fuel j0 : Nat} {u : Value} {y : DataW H × List MemPlace} {ts : List TypeId} {ds : List (DataW H)} (h : DataW.trod enc Try.prog w 0 (fun _ => true) held fuel 36 [u] = some y)
    (hsz : (DataW.weightsEach Try.prog ts ds).all (· ≤ reachBytes) = true) (ht : ts[j0]? = some 36) (hd : ds[j0]? = some y.1) :
    ∃ (a : Option Addr) (cap : Nat) (ps : List (Itm × ILoc)), u = .slice a ps.length cap ∧ ps.length ≤ cap ∧ ps.length ≤ 1172812402962 ∧ OkL (its ps) ∧ ItsRd w w.heap.size a ps.length ps := by
  obtain ⟨a, cap, ps, h1, h2, h3, h4, h5, -⟩ := open_itsB h hsz ht hd
  exact ⟨a, cap, ps, h1, h2, by omega, h4, h5⟩
end
end Fbk
end Go.Proofs.Ythmmafpmpnhleaa
