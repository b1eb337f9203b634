/- A media packet that came in, opened: it is a packet of ours, its lists lie where they read as they should. -/
import Derived.Test.YthmmafpmpnhleaaFr
import Derived.Test.YthmmafpmpnhleaaFrx
import Derived.Test.YthmmafpmpnhleaaAg
import Derived.Test.YthmmafpmpnhleaaKg
import Derived.Lib.SmallJoins
set_option maxRecDepth 100000
namespace Go.Proofs.Ythmmafpmpnhleaa.Rtp
open Go.ChangeShapes Go.WideShapes Go.RowKit Go.Joins
set_option linter.unusedVariables false

theorem cellsPkt : Try.prog.cellsOf 33 = 11 := by kernel_rfl
/-- A slice of integers that is one of a struct's cells. -/
theorem open_field {H : Type} {enc : TypeId × Value → H} {w : World} {held : Bool} {t e : TypeId} {k : IntKind} {bytes fuel : Nat} {u : Value} {y : DataW H × List MemPlace} (ht : Try.prog.underlying t = some (.slice e)) (he : Try.prog.underlying e = some (.int k))
    (hc : Try.prog.cellsOf e = 1) (hby : Try.prog.bytesOf e = bytes) (h : DataW.trod enc Try.prog w 0 (fun _ => true) held fuel t [u] = some y) (hsz : ∀ el sp, y.1 = .slice el sp → (el.length + sp.length) * Try.prog.bytesOf e ≤ reachBytes) :
    ∃ a len cap zs, u = .slice a len cap ∧ IsRow k bytes w a len cap zs := by
  rcases open_ints ht he hc h with ⟨hcs, _⟩ | ⟨x, l, c, zs, hcs, _, hl, hm, hz, hx, hcell, hwz⟩
  · simp only [List.cons.injEq, and_true] at hcs
    exact ⟨none, 0, 0, [], hcs, .inl ⟨rfl, rfl, rfl, rfl⟩⟩
  · simp only [List.cons.injEq, and_true] at hcs
    have hb := hsz (lits _ (zs.take l)) (lits _ (zs.drop l)) (by rw [hx])
    rw [hby] at hb
    simp only [if_true] at hz
    simp only [lits, List.length_map, List.length_take, List.length_drop, reachBytes] at hb
    refine ⟨some x, l, c, zs, hcs, .inr ⟨_, rfl, hl, hm, hz, ?_, hcell, hwz⟩⟩
    rw [show min l zs.length + (zs.length - l) = c from by omega] at hb
    exact hb
theorem IsRow_rd {w : World} {a : Option Addr} {len cap : Nat} {zs : List Int} (h : IsRow .u8 1 w a len cap zs) : len ≤ 140737488351232 ∧ len ≤ cap ∧ ∃ xs, xs.length = len ∧ Rd w w.heap.size a xs.length xs := by
  obtain ⟨h1, h2, h3⟩ := h.rd
  exact ⟨h1, h2, _, h3.1, by rw [h3.1]; exact h3⟩
theorem IsRow_wdB {w : World} {a : Option Addr} {len cap : Nat} {zs : List Int} (h : IsRow .u32 4 w a len cap zs) : len * 4 ≤ 140737488351232 ∧ len ≤ cap ∧ ∃ xs, xs.length = len ∧ Wd w w.heap.size a xs.length xs := by
  obtain ⟨h1, h2, h3, h4, h5⟩ := h.cells
  refine ⟨by omega, h1, zs.take len, h3, ?_⟩
  rw [h3]
  exact ⟨h3, fun n hn => wf_u32 (h4 n hn), h5⟩

set_option maxHeartbeats 1000000 in
theorem open_pktB {H : Type} {enc : TypeId × Value → H} {w : World} {b0 : Nat} {held : Bool} {r : Reach} {v : Value} {d : DataW H} {p : List MemPlace} {ts : List TypeId} {ds : List (DataW H)}
    (hv : Value.okWide Try.prog w r b0 33 v) (h : DataW.Trod enc Try.prog w 0 (fun _ => true) held 33 v d p)
    (hsz : (DataW.weightsEach Try.prog ts ds).all (· ≤ reachBytes) = true) (ht : ts[0]? = some 33) (hd : ds[0]? = some d) :
    ∃ (q : Pkt) (l : Loc), v = pkt (pvOf q l) ∧ q.Ok ∧ PRd w w.heap.size q l ∧ q.csrc.length * 4 ≤ 140737488351232 := by
  obtain ⟨cs, ys, n, rfl, hcs, hdd, hyl, hg⟩ := open_agg_any Try.underlying33 (by kernel_rfl) cellsPkt hv h
  have hpart : ∀ (i : Nat) (f : Field) (e : TypeId) (y : DataW H × List MemPlace) (el sp : List (DataW H)), _ → ys[i]? = some y → Try.prog.underlying f.type = some (.slice e) → y.1 = .slice el sp → (el.length + sp.length) * Try.prog.bytesOf e ≤ reachBytes :=
    fun i f e y el sp hf hy hu hy1 => sized_part hsz ht (hdd ▸ hd) Try.underlying33 hf (by rw [List.getElem?_map, hy]; exact congrArg some hy1) hu
  obtain ⟨u0, y0, c0, e0, h0⟩ := hg 0 _ rfl
  obtain ⟨u1, y1, c1, e1, h1⟩ := hg 1 _ rfl
  obtain ⟨u2, y2, c2, e2, h2⟩ := hg 2 _ rfl
  obtain ⟨u3, y3, c3, e3, h3⟩ := hg 3 _ rfl
  obtain ⟨u4, y4, c4, e4, h4⟩ := hg 4 _ rfl
  obtain ⟨u5, y5, c5, e5, h5⟩ := hg 5 _ rfl
  obtain ⟨u6, y6, c6, e6, h6⟩ := hg 6 _ rfl
  obtain ⟨u7, y7, c7, e7, h7⟩ := hg 7 _ rfl
  obtain ⟨u8, y8, c8, e8, h8⟩ := hg 8 _ rfl
  obtain ⟨u9, y9, c9, e9, h9⟩ := hg 9 _ rfl
  obtain ⟨u10, y10, c10, e10, h10⟩ := hg 10 _ rfl
  obtain ⟨mrk, a0, _⟩ := DataW.trod_bool Try.underlying4 h0
  obtain ⟨ty, a1, _, w1⟩ := DataW.trod_int Try.underlying3 h1
  obtain ⟨seq, a2, _, w2⟩ := DataW.trod_int Try.underlying29 h2
  obtain ⟨time, a3, _, w3⟩ := DataW.trod_int Try.underlying30 h3
  obtain ⟨ssrc, a4, _, w4⟩ := DataW.trod_int Try.underlying30 h4
  obtain ⟨ca, cn, cc, cz, a5, r5⟩ := open_field Try.underlying31 Try.underlying30 (by kernel_rfl) bytes30 h5 (fun el sp hy => hpart 5 _ _ y5 el sp rfl e5 Try.underlying31 hy)
  obtain ⟨he, a6, _⟩ := DataW.trod_bool Try.underlying4 h6
  obtain ⟨prof, a7, _, w7⟩ := DataW.trod_int Try.underlying29 h7
  obtain ⟨ea, en, ec, ez, a8, r8⟩ := open_field Try.underlying22 Try.underlying5 (by kernel_rfl) bytes5 h8 (fun el sp hy => hpart 8 _ _ y8 el sp rfl e8 Try.underlying22 hy)
  obtain ⟨pa, pn, pc, pz, a9, r9⟩ := open_field Try.underlying22 Try.underlying5 (by kernel_rfl) bytes5 h9 (fun el sp hy => hpart 9 _ _ y9 el sp rfl e9 Try.underlying22 hy)
  obtain ⟨pad, a10, _, w10⟩ := DataW.trod_int Try.underlying3 h10
  simp only [List.cons.injEq, and_true] at a0 a1 a2 a3 a4 a6 a7 a10
  subst a0 a1 a2 a3 a4 a5 a6 a7 a8 a9 a10
  obtain ⟨k1, k2, xs, rfl, k3⟩ := IsRow_wdB r5
  obtain ⟨m1, m2, es, rfl, m3⟩ := IsRow_rd r8
  obtain ⟨n1, n2, ps, rfl, n3⟩ := IsRow_rd r9
  refine ⟨⟨mrk, ty, seq, time, ssrc, xs, he, prof, es, ps, pad⟩, ⟨ca, cc, ea, ec, pa, pc⟩, ?_, ⟨(wf_u16 w2).1, (wf_u16 w2).2, (wf_u32 w3).1, (wf_u32 w3).2, (wf_u32 w4).1, (wf_u32 w4).2, k3.2.1, (wf_u16 w7).1, (wf_u16 w7).2, m3.2.1, n3.2.1⟩, ⟨k3, m3, n3, (by show xs.length ≤ _; omega), m1, n1, k2, m2, n2⟩, k1⟩
  have hcs' : cs.size = 11 := hcs
  congr 1
  apply Array.ext_getElem?
  intro i
  match i with
  | 0 => exact c0
  | 1 => exact c1
  | 2 => exact c2
  | 3 => exact c3
  | 4 => exact c4
  | 5 => exact c5
  | 6 => exact c6
  | 7 => exact c7
  | 8 => exact c8
  | 9 => exact c9
  | 10 => exact c10
  | n + 11 => rw [Array.getElem?_eq_none (by omega)]; simp
theorem open_pkt {H : Type} {enc : TypeId × Value → H} {w : World} {b0 : Nat} {held : Bool} {r : Reach} {v : Value} {d : DataW H} {p : List MemPlace} {ts : List TypeId} {ds : List (DataW H)}
    (hv : Value.okWide Try.prog w r b0 33 v) (h : DataW.Trod enc Try.prog w 0 (fun _ => true) held 33 v d p)
    (hsz : (DataW.weightsEach Try.prog ts ds).all (· ≤ reachBytes) = true) (ht : ts[0]? = some 33) (hd : ds[0]? = some d) :
    ∃ (q : Pkt) (l : Loc), v = pkt (pvOf q l) ∧ q.Ok ∧ PRd w w.heap.size q l := by
  obtain ⟨q, l, h1, h2, h3, -⟩ := open_pktB hv h hsz ht hd
  exact ⟨q, l, h1, h2, h3⟩
end Go.Proofs.Ythmmafpmpnhleaa.Rtp
