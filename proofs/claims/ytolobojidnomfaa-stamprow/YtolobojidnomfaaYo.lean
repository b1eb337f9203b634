/- A track, a packet, an item, a descriptor that came in, opened (no more than their numbers); a slice of the stamp law's acts. -/
import Derived.Test.YtolobojidnomfaaFl
import Derived.Test.YtolobojidnomfaaYa
import Derived.Test.YtolobojidnomfaaQb
import Derived.Lib.SmallJoins
import Derived.ChangeSame
set_option maxRecDepth 100000
namespace Go.Proofs.Ytolobojidnomfaa.Stp
open Go.ChangeShapes Go.WideShapes Go.RowKit Go.Joins Go.Deep Go.Proofs.Ytolobojidnomfaa.Gat Go.Proofs.Ytolobojidnomfaa.Crs Go.Proofs.Ytolobojidnomfaa.Clk Go.Proofs.Ytolobojidnomfaa.Rtp Go.Proofs.Ytolobojidnomfaa.Fbk
set_option linter.unusedVariables false

/-- The numbers of a track as they may be. -/
structure TOk (t : TV) : Prop where
  c : CoOk t.c
  k : CkOk t.k
  out : 0 ≤ t.out ∧ t.out ≤ 4294967295
  fr : 0 ≤ t.fr ∧ t.fr ≤ 65535
  sn : 0 ≤ t.sn ∧ t.sn ≤ 4294967295
  oc : 0 ≤ t.oc ∧ t.oc ≤ 4294967295
/-- Those of a packet that count here. -/
structure QOk (q : PV) : Prop where
  seq : 0 ≤ q.seq ∧ q.seq ≤ 65535
  time : 0 ≤ q.time ∧ q.time ≤ 4294967295
  pn : q.pn ≤ 140737488351232
theorem cellsTrk : Try.prog.cellsOf 31 = 15 := by kernel_rfl
theorem cellsGt1 : Try.prog.cellsOf 23 = 4 := by kernel_rfl
theorem cellsCo1 : Try.prog.cellsOf 26 = 4 := by kernel_rfl
theorem cellsCk1 : Try.prog.cellsOf 29 = 3 := by kernel_rfl
theorem cells1_int : Try.prog.cellsOf 3 = 1 := by kernel_rfl
theorem cells1_bool : Try.prog.cellsOf 4 = 1 := by kernel_rfl
theorem cells1_u16 : Try.prog.cellsOf 24 = 1 := by kernel_rfl
theorem cells1_u32 : Try.prog.cellsOf 27 = 1 := by kernel_rfl
section
variable {H : Type} {enc : TypeId × Value → H} {w : World} {base : Nat} {spare : Nat → Bool} {held : Bool} {n : Nat}
theorem gate_of {c0 c1 c2 c3 : Value} {x : DataW H × List MemPlace} (h : DataW.trod enc Try.prog w base spare held n 23 [c0, c1, c2, c3] = some x) : ∃ g : Gt, [c0, c1, c2, c3] = [.int .i64 g.1, .int .i64 g.2.1, .bool g.2.2.1, .bool g.2.2.2] := by
  obtain ⟨xs, m, _, _, _, hxl, hg⟩ := DataW.trod_struct Try.underlying23 h
  have hxl2 : xs.length = 4 := hxl
  have g0 : DataW.trod enc Try.prog w base spare held m 3 (List.take (Try.prog.cellsOf 3) (List.drop 0 [c0, c1, c2, c3])) = xs[0]? := hg 0 _ rfl
  have g1 : DataW.trod enc Try.prog w base spare held m 3 (List.take (Try.prog.cellsOf 3) (List.drop 1 [c0, c1, c2, c3])) = xs[1]? := hg 1 _ rfl
  have g2 : DataW.trod enc Try.prog w base spare held m 4 (List.take (Try.prog.cellsOf 4) (List.drop 2 [c0, c1, c2, c3])) = xs[2]? := hg 2 _ rfl
  have g3 : DataW.trod enc Try.prog w base spare held m 4 (List.take (Try.prog.cellsOf 4) (List.drop 3 [c0, c1, c2, c3])) = xs[3]? := hg 3 _ rfl
  rw [List.getElem?_eq_getElem (by omega)] at g0 g1 g2 g3
  rw [cells1_bool] at g2 g3
  rw [cells1_int] at g0 g1
  obtain ⟨x0, a0, _, w0⟩ := DataW.trod_int Try.underlying3 g0
  obtain ⟨x1, a1, _, w1⟩ := DataW.trod_int Try.underlying3 g1
  obtain ⟨x2, a2, _⟩ := DataW.trod_bool Try.underlying4 g2
  obtain ⟨x3, a3, _⟩ := DataW.trod_bool Try.underlying4 g3
  simp only [List.drop_zero, List.take_succ_cons, List.take_zero, List.drop_succ_cons, List.cons.injEq, and_true] at a0 a1 a2 a3
  subst a0 a1 a2 a3
  exact ⟨(x0, x1, x2, x3), rfl⟩
theorem course_of {c0 c1 c2 c3 : Value} {x : DataW H × List MemPlace} (h : DataW.trod enc Try.prog w base spare held n 26 [c0, c1, c2, c3] = some x) : ∃ g : Co, [c0, c1, c2, c3] = [.bool g.1, .int .u16 g.2.1, .int .u16 g.2.2.1, .int .u16 g.2.2.2] ∧ CoOk g := by
  obtain ⟨xs, m, _, _, _, hxl, hg⟩ := DataW.trod_struct Try.underlying26 h
  have hxl2 : xs.length = 4 := hxl
  have g0 : DataW.trod enc Try.prog w base spare held m 4 (List.take (Try.prog.cellsOf 4) (List.drop 0 [c0, c1, c2, c3])) = xs[0]? := hg 0 _ rfl
  have g1 : DataW.trod enc Try.prog w base spare held m 24 (List.take (Try.prog.cellsOf 24) (List.drop 1 [c0, c1, c2, c3])) = xs[1]? := hg 1 _ rfl
  have g2 : DataW.trod enc Try.prog w base spare held m 24 (List.take (Try.prog.cellsOf 24) (List.drop 2 [c0, c1, c2, c3])) = xs[2]? := hg 2 _ rfl
  have g3 : DataW.trod enc Try.prog w base spare held m 24 (List.take (Try.prog.cellsOf 24) (List.drop 3 [c0, c1, c2, c3])) = xs[3]? := hg 3 _ rfl
  rw [List.getElem?_eq_getElem (by omega)] at g0 g1 g2 g3
  rw [cells1_bool] at g0
  rw [cells1_u16] at g1 g2 g3
  obtain ⟨x0, a0, _⟩ := DataW.trod_bool Try.underlying4 g0
  obtain ⟨x1, a1, _, w1⟩ := DataW.trod_int Try.underlying24 g1
  obtain ⟨x2, a2, _, w2⟩ := DataW.trod_int Try.underlying24 g2
  obtain ⟨x3, a3, _, w3⟩ := DataW.trod_int Try.underlying24 g3
  simp only [List.drop_zero, List.take_succ_cons, List.take_zero, List.drop_succ_cons, List.cons.injEq, and_true] at a0 a1 a2 a3
  subst a0 a1 a2 a3
  exact ⟨(x0, x1, x2, x3), rfl, wf_u16 w1, wf_u16 w2, wf_u16 w3⟩
theorem clock_of {c0 c1 c2 : Value} {x : DataW H × List MemPlace} (h : DataW.trod enc Try.prog w base spare held n 29 [c0, c1, c2] = some x) : ∃ g : Ck, [c0, c1, c2] = [.bool g.1, .int .u32 g.2.1, .int .u32 g.2.2] ∧ CkOk g := by
  obtain ⟨xs, m, _, _, _, hxl, hg⟩ := DataW.trod_struct Try.underlying29 h
  have hxl2 : xs.length = 3 := hxl
  have g0 : DataW.trod enc Try.prog w base spare held m 4 (List.take (Try.prog.cellsOf 4) (List.drop 0 [c0, c1, c2])) = xs[0]? := hg 0 _ rfl
  have g1 : DataW.trod enc Try.prog w base spare held m 27 (List.take (Try.prog.cellsOf 27) (List.drop 1 [c0, c1, c2])) = xs[1]? := hg 1 _ rfl
  have g2 : DataW.trod enc Try.prog w base spare held m 27 (List.take (Try.prog.cellsOf 27) (List.drop 2 [c0, c1, c2])) = xs[2]? := hg 2 _ rfl
  rw [List.getElem?_eq_getElem (by omega)] at g0 g1 g2
  rw [cells1_bool] at g0
  rw [cells1_u32] at g1 g2
  obtain ⟨x0, a0, _⟩ := DataW.trod_bool Try.underlying4 g0
  obtain ⟨x1, a1, _, w1⟩ := DataW.trod_int Try.underlying27 g1
  obtain ⟨x2, a2, _, w2⟩ := DataW.trod_int Try.underlying27 g2
  simp only [List.drop_zero, List.take_succ_cons, List.take_zero, List.drop_succ_cons, List.cons.injEq, and_true] at a0 a1 a2
  subst a0 a1 a2
  exact ⟨(x0, x1, x2), rfl, wf_u32 w1, wf_u32 w2⟩
end
theorem open_track {H : Type} {enc : TypeId × Value → H} {w : World} {base b0 : Nat} {spare : Nat → Bool} {held : Bool} {r : Reach} {v : Value} {d : DataW H} {p : List MemPlace}
    (hv : Value.okWide Try.prog w r b0 31 v) (h : DataW.Trod enc Try.prog w base spare held 31 v d p) :
    ∃ x : TV, v = trkV x ∧ TOk x := by
  obtain ⟨cs, rfl, hsz⟩ := okWide_struct Try.underlying31 hv
  obtain ⟨fuel, hf⟩ := h
  rw [cellsTrk] at hsz
  obtain ⟨c0, c1, c2, c3, c4, c5, c6, c7, c8, c9, c10, c11, c12, c13, c14, rfl⟩ : ∃ c0 c1 c2 c3 c4 c5 c6 c7 c8 c9 c10 c11 c12 c13 c14, cs = #[c0, c1, c2, c3, c4, c5, c6, c7, c8, c9, c10, c11, c12, c13, c14] := by
    match cs, hsz with
    | ⟨[c0, c1, c2, c3, c4, c5, c6, c7, c8, c9, c10, c11, c12, c13, c14]⟩, _ => exact ⟨c0, c1, c2, c3, c4, c5, c6, c7, c8, c9, c10, c11, c12, c13, c14, rfl⟩
  replace hf : DataW.trod enc Try.prog w base spare held fuel 31 [c0, c1, c2, c3, c4, c5, c6, c7, c8, c9, c10, c11, c12, c13, c14] = some (d, p) := hf
  obtain ⟨xs, m, _, _, _, hxl, hg⟩ := DataW.trod_struct Try.underlying31 hf
  have hxl2 : xs.length = 7 := hxl
  have g0 : DataW.trod enc Try.prog w base spare held m 23 (List.take (Try.prog.cellsOf 23) (List.drop 0 [c0, c1, c2, c3, c4, c5, c6, c7, c8, c9, c10, c11, c12, c13, c14])) = xs[0]? := hg 0 _ rfl
  rw [cellsGt1, List.getElem?_eq_getElem (by omega)] at g0
  have g1 : DataW.trod enc Try.prog w base spare held m 26 (List.take (Try.prog.cellsOf 26) (List.drop 4 [c0, c1, c2, c3, c4, c5, c6, c7, c8, c9, c10, c11, c12, c13, c14])) = xs[1]? := hg 1 _ rfl
  rw [cellsCo1, List.getElem?_eq_getElem (by omega)] at g1
  have g2 : DataW.trod enc Try.prog w base spare held m 29 (List.take (Try.prog.cellsOf 29) (List.drop 8 [c0, c1, c2, c3, c4, c5, c6, c7, c8, c9, c10, c11, c12, c13, c14])) = xs[2]? := hg 2 _ rfl
  rw [cellsCk1, List.getElem?_eq_getElem (by omega)] at g2
  have g3 : DataW.trod enc Try.prog w base spare held m 27 (List.take (Try.prog.cellsOf 27) (List.drop 11 [c0, c1, c2, c3, c4, c5, c6, c7, c8, c9, c10, c11, c12, c13, c14])) = xs[3]? := hg 3 _ rfl
  rw [cells1_u32, List.getElem?_eq_getElem (by omega)] at g3
  have g4 : DataW.trod enc Try.prog w base spare held m 24 (List.take (Try.prog.cellsOf 24) (List.drop 12 [c0, c1, c2, c3, c4, c5, c6, c7, c8, c9, c10, c11, c12, c13, c14])) = xs[4]? := hg 4 _ rfl
  rw [cells1_u16, List.getElem?_eq_getElem (by omega)] at g4
  have g5 : DataW.trod enc Try.prog w base spare held m 27 (List.take (Try.prog.cellsOf 27) (List.drop 13 [c0, c1, c2, c3, c4, c5, c6, c7, c8, c9, c10, c11, c12, c13, c14])) = xs[5]? := hg 5 _ rfl
  rw [cells1_u32, List.getElem?_eq_getElem (by omega)] at g5
  have g6 : DataW.trod enc Try.prog w base spare held m 27 (List.take (Try.prog.cellsOf 27) (List.drop 14 [c0, c1, c2, c3, c4, c5, c6, c7, c8, c9, c10, c11, c12, c13, c14])) = xs[6]? := hg 6 _ rfl
  rw [cells1_u32, List.getElem?_eq_getElem (by omega)] at g6
  simp only [List.drop_zero, List.take_succ_cons, List.take_zero, List.drop_succ_cons] at g0 g1 g2 g3 g4 g5 g6
  obtain ⟨gt, e0⟩ := gate_of g0
  obtain ⟨co, e1, ok1⟩ := course_of g1
  obtain ⟨ck, e2, ok2⟩ := clock_of g2
  obtain ⟨a, e3, _, w3⟩ := DataW.trod_int Try.underlying27 g3
  obtain ⟨b, e4, _, w4⟩ := DataW.trod_int Try.underlying24 g4
  obtain ⟨c, e5, _, w5⟩ := DataW.trod_int Try.underlying27 g5
  obtain ⟨e, e6, _, w6⟩ := DataW.trod_int Try.underlying27 g6
  simp only [List.cons.injEq, and_true] at e0 e1 e2 e3 e4 e5 e6
  obtain ⟨rfl, rfl, rfl, rfl⟩ := e0
  obtain ⟨rfl, rfl, rfl, rfl⟩ := e1
  obtain ⟨rfl, rfl, rfl⟩ := e2
  subst e3 e4 e5 e6
  exact ⟨⟨gt, co, ck, a, b, c, e⟩, rfl, ok1, ok2, wf_u32 w3, wf_u16 w4, wf_u32 w5, wf_u32 w6⟩
theorem cells1_desc : Try.prog.cellsOf 37 = 4 := by kernel_rfl
theorem open_ds {H : Type} {enc : TypeId × Value → H} {w : World} {base b0 : Nat} {spare : Nat → Bool} {held : Bool} {r : Reach} {v : Value} {d : DataW H} {p : List MemPlace}
    (hv : Value.okWide Try.prog w r b0 37 v) (h : DataW.Trod enc Try.prog w base spare held 37 v d p) :
    ∃ x : Ds, v = dsV x := by
  obtain ⟨v0, v1, v2, v3, y0, y1, y2, y3, n, rfl, _, _, h0, h1, h2, h3⟩ := open_agg4 Try.underlying37 (by kernel_rfl) cells1_desc hv h
  obtain ⟨l, e0, _, w0⟩ := DataW.trod_int Try.underlying3 h0
  obtain ⟨k, e1, _⟩ := DataW.trod_bool Try.underlying4 h1
  obtain ⟨s, e2, _⟩ := DataW.trod_bool Try.underlying4 h2
  obtain ⟨f, e3, _, w3⟩ := DataW.trod_int Try.underlying24 h3
  simp only [List.cons.injEq, and_true] at e0 e1 e2 e3
  subst e0 e1 e2 e3
  exact ⟨(l, k, s, f), rfl⟩
theorem slice_of {H : Type} {enc : TypeId × Value → H} {w : World} {held : Bool} {t e : TypeId} {fuel : Nat} {u : Value} {y : DataW H × List MemPlace} (ht : Try.prog.underlying t = some (.slice e))
    (h : DataW.trod enc Try.prog w 0 (fun _ => true) held fuel t [u] = some y) : ∃ (a : Option Addr) (n c : Nat), u = .slice a n c := by
  rcases open_slice ht h with ⟨hcs, _⟩ | ⟨a, len, cap, m, n, D, Pl, hcs, _⟩
  · simp only [List.cons.injEq, and_true] at hcs
    exact ⟨none, 0, 0, hcs⟩
  · simp only [List.cons.injEq, and_true] at hcs
    exact ⟨some a, len, cap, hcs⟩
theorem cells1_pkt : Try.prog.cellsOf 35 = 11 := by kernel_rfl
theorem cells1_itm : Try.prog.cellsOf 48 = 10 := by kernel_rfl
theorem cells1_u8 : Try.prog.cellsOf 5 = 1 := by kernel_rfl
theorem bytes1_u8 : Try.prog.bytesOf 5 = 1 := by kernel_rfl
set_option maxHeartbeats 1000000 in
theorem open_pv {H : Type} {enc : TypeId × Value → H} {w : World} {b0 j : Nat} {held : Bool} {r : Reach} {v : Value} {d : DataW H} {p : List MemPlace} {ts : List TypeId} {ds : List (DataW H)}
    (hv : Value.okWide Try.prog w r b0 35 v) (h : DataW.Trod enc Try.prog w 0 (fun _ => true) held 35 v d p)
    (hsz : (DataW.weightsEach Try.prog ts ds).all (· ≤ reachBytes) = true) (ht : ts[j]? = some 35) (hd : ds[j]? = some d) :
    ∃ q : PV, v = pkt q ∧ QOk q := by
  obtain ⟨cs, ys, n, rfl, hcs, hdd, hyl, hg⟩ := open_agg_any Try.underlying35 (by kernel_rfl) cells1_pkt hv h
  have hpart : ∀ (i : Nat) (f : Field) (e : TypeId) (y : DataW H × List MemPlace) (el sp : List (DataW H)), _ → ys[i]? = some y → Try.prog.underlying f.type = some (.slice e) → y.1 = .slice el sp → (el.length + sp.length) * Try.prog.bytesOf e ≤ reachBytes :=
    fun i f e y el sp hf hy hu hy1 => sized_part hsz ht (hdd ▸ hd) Try.underlying35 hf (by rw [List.getElem?_map, hy]; exact congrArg some hy1) hu
  obtain ⟨u0, y0, c0, e0, h0⟩ := hg 0 _ rfl
  obtain ⟨u1, y1, c1, e1, h1⟩ := hg 1 _ rfl
  obtain ⟨u2, y2, c2, e2, h2⟩ := hg 2 _ rfl
  obtain ⟨u3, y3, c3, e3, h3⟩ := hg 3 _ rfl
  obtain ⟨u4, y4, c4, e4, h4⟩ := hg 4 _ rfl
  obtain ⟨u5, y5, c5, e5, h5⟩ := hg 5 _ rfl
  obtain ⟨u6, y6, c6, e6, h6⟩ := hg 6 _ rfl
  obtain ⟨u7, y7, c7, e7, h7⟩ := hg 7 _ rfl
  obtain ⟨u8, y8, c8, e8, h8⟩ := hg 8 _ rfl
  obtain ⟨u9, y9, c9, e9, h9⟩ := hg 9 _ rfl
  obtain ⟨u10, y10, c10, e10, h10⟩ := hg 10 _ rfl
  obtain ⟨mrk, a0, _⟩ := DataW.trod_bool Try.underlying4 h0
  obtain ⟨ty, a1, _, w1⟩ := DataW.trod_int Try.underlying3 h1
  obtain ⟨seq, a2, _, w2⟩ := DataW.trod_int Try.underlying24 h2
  obtain ⟨time, a3, _, w3⟩ := DataW.trod_int Try.underlying27 h3
  obtain ⟨ssrc, a4, _, w4⟩ := DataW.trod_int Try.underlying27 h4
  obtain ⟨ca, cn, cc, a5⟩ := slice_of Try.underlying32 h5
  obtain ⟨he, a6, _⟩ := DataW.trod_bool Try.underlying4 h6
  obtain ⟨prof, a7, _, w7⟩ := DataW.trod_int Try.underlying24 h7
  obtain ⟨ea, en, ec, a8⟩ := slice_of Try.underlying33 h8
  obtain ⟨pa, pn, pc, a9, hl, hb, _⟩ := Opn.open_recs Try.underlying33 cells1_u8 (by decide) h9 (fun el sp hy => hpart 9 _ _ y9 el sp rfl e9 Try.underlying33 hy)
  obtain ⟨pad, a10, _, w10⟩ := DataW.trod_int Try.underlying3 h10
  simp only [List.cons.injEq, and_true] at a0 a1 a2 a3 a4 a6 a7 a10
  subst a0 a1 a2 a3 a4 a5 a6 a7 a8 a9 a10
  rw [bytes1_u8] at hb
  simp only [reachBytes] at hb
  refine ⟨⟨mrk, ty, seq, time, ssrc, ca, cn, cc, he, prof, ea, en, ec, pa, pn, pc, pad⟩, ?_, wf_u16 w2, wf_u32 w3, by show pn ≤ _; omega⟩
  have hcs' : cs.size = 11 := hcs
  congr 1
  apply Array.ext_getElem?
  intro i
  match i with
  | 0 => exact c0
  | 1 => exact c1
  | 2 => exact c2
  | 3 => exact c3
  | 4 => exact c4
  | 5 => exact c5
  | 6 => exact c6
  | 7 => exact c7
  | 8 => exact c8
  | 9 => exact c9
  | 10 => exact c10
  | n + 11 => rw [Array.getElem?_eq_none (by omega)]; simp
set_option maxHeartbeats 1000000 in
theorem open_iv {H : Type} {enc : TypeId × Value → H} {w : World} {b0 : Nat} {held : Bool} {r : Reach} {v : Value} {d : DataW H} {p : List MemPlace}
    (hv : Value.okWide Try.prog w r b0 48 v) (h : DataW.Trod enc Try.prog w 0 (fun _ => true) held 48 v d p) :
    ∃ i : IV, v = itm i ∧ (0 ≤ i.time ∧ i.time ≤ 4294967295) := by
  obtain ⟨cs, ys, n, rfl, hcs, hdd, hyl, hg⟩ := open_agg_any Try.underlying48 (by kernel_rfl) cells1_itm hv h
  obtain ⟨u0, y0, c0, e0, h0⟩ := hg 0 _ rfl
  obtain ⟨u1, y1, c1, e1, h1⟩ := hg 1 _ rfl
  obtain ⟨u2, y2, c2, e2, h2⟩ := hg 2 _ rfl
  obtain ⟨u3, y3, c3, e3, h3⟩ := hg 3 _ rfl
  obtain ⟨u4, y4, c4, e4, h4⟩ := hg 4 _ rfl
  obtain ⟨u5, y5, c5, e5, h5⟩ := hg 5 _ rfl
  obtain ⟨u6, y6, c6, e6, h6⟩ := hg 6 _ rfl
  obtain ⟨u7, y7, c7, e7, h7⟩ := hg 7 _ rfl
  obtain ⟨u8, y8, c8, e8, h8⟩ := hg 8 _ rfl
  obtain ⟨u9, y9, c9, e9, h9⟩ := hg 9 _ rfl
  obtain ⟨kind, a0, _, w0⟩ := DataW.trod_int Try.underlying3 h0
  obtain ⟨ssrc, a1, _, w1⟩ := DataW.trod_int Try.underlying27 h1
  obtain ⟨ntp, a2, _, w2⟩ := DataW.trod_int Try.underlying44 h2
  obtain ⟨time, a3, _, w3⟩ := DataW.trod_int Try.underlying27 h3
  obtain ⟨pks, a4, _, w4⟩ := DataW.trod_int Try.underlying27 h4
  obtain ⟨ocs, a5, _, w5⟩ := DataW.trod_int Try.underlying27 h5
  obtain ⟨ba, bn, bc, a6⟩ := slice_of Try.underlying45 h6
  obtain ⟨ga, gn, gc, a7⟩ := slice_of Try.underlying32 h7
  obtain ⟨media, a8, _, w8⟩ := DataW.trod_int Try.underlying27 h8
  obtain ⟨pa, pn, pc, a9⟩ := slice_of Try.underlying46 h9
  simp only [List.cons.injEq, and_true] at a0 a1 a2 a3 a4 a5 a8
  subst a0 a1 a2 a3 a4 a5 a6 a7 a8 a9
  refine ⟨⟨kind, ssrc, ntp, time, pks, ocs, ba, bn, bc, ga, gn, gc, media, pa, pn, pc⟩, ?_, wf_u32 w3⟩
  have hcs' : cs.size = 10 := hcs
  congr 1
  apply Array.ext_getElem?
  intro i
  match i with
  | 0 => exact c0
  | 1 => exact c1
  | 2 => exact c2
  | 3 => exact c3
  | 4 => exact c4
  | 5 => exact c5
  | 6 => exact c6
  | 7 => exact c7
  | 8 => exact c8
  | 9 => exact c9
  | n + 10 => rw [Array.getElem?_eq_none (by omega)]; simp
/-- A stamp law's act: which, the layer, on? number, time, start? bytes. -/
structure Stact where
  kind : Int
  layer : Int
  on : Bool
  seq : Int
  time : Int
  start : Bool
  bytes : Int
instance : Inhabited Stact := ⟨⟨0, 0, false, 0, 0, false, 0⟩⟩
def stactL : Lay Stact := ⟨59, 7, fun x => [.int .i64 x.kind, .int .i64 x.layer, .bool x.on, .int .u16 x.seq, .int .u32 x.time, .bool x.start, .int .i64 x.bytes], fun _ => rfl, fun x v hv => by
  simp only [List.mem_cons, List.not_mem_nil, or_false] at hv
  rcases hv with rfl | rfl | rfl | rfl | rfl | rfl | rfl <;> rfl, by decide⟩
structure StactOk (x : Stact) : Prop where
  seq : 0 ≤ x.seq ∧ x.seq ≤ 65535
  time : 0 ≤ x.time ∧ x.time ≤ 4294967295
theorem cellsStact : Try.prog.cellsOf 59 = 7 := by kernel_rfl
theorem bytesStact : Try.prog.bytesOf 59 = 40 := by kernel_rfl
theorem stact_cells {H : Type} {enc : TypeId × Value → H} {w : World} {base : Nat} {spare : Nat → Bool} {held : Bool} {n : Nat} {c0 c1 c2 c3 c4 c5 c6 : Value} {x : DataW H × List MemPlace} (h : DataW.trod enc Try.prog w base spare held n 59 [c0, c1, c2, c3, c4, c5, c6] = some x) : ∃ v : Stact, [c0, c1, c2, c3, c4, c5, c6] = stactL.cel v ∧ StactOk v := by
  obtain ⟨xs, m, _, _, _, hxl, hg⟩ := DataW.trod_struct Try.underlying59 h
  have hxl2 : xs.length = 7 := hxl
  have g0 : DataW.trod enc Try.prog w base spare held m 3 (List.take (Try.prog.cellsOf 3) (List.drop 0 [c0, c1, c2, c3, c4, c5, c6])) = xs[0]? := hg 0 _ rfl
  have g1 : DataW.trod enc Try.prog w base spare held m 3 (List.take (Try.prog.cellsOf 3) (List.drop 1 [c0, c1, c2, c3, c4, c5, c6])) = xs[1]? := hg 1 _ rfl
  have g2 : DataW.trod enc Try.prog w base spare held m 4 (List.take (Try.prog.cellsOf 4) (List.drop 2 [c0, c1, c2, c3, c4, c5, c6])) = xs[2]? := hg 2 _ rfl
  have g3 : DataW.trod enc Try.prog w base spare held m 24 (List.take (Try.prog.cellsOf 24) (List.drop 3 [c0, c1, c2, c3, c4, c5, c6])) = xs[3]? := hg 3 _ rfl
  have g4 : DataW.trod enc Try.prog w base spare held m 27 (List.take (Try.prog.cellsOf 27) (List.drop 4 [c0, c1, c2, c3, c4, c5, c6])) = xs[4]? := hg 4 _ rfl
  have g5 : DataW.trod enc Try.prog w base spare held m 4 (List.take (Try.prog.cellsOf 4) (List.drop 5 [c0, c1, c2, c3, c4, c5, c6])) = xs[5]? := hg 5 _ rfl
  have g6 : DataW.trod enc Try.prog w base spare held m 3 (List.take (Try.prog.cellsOf 3) (List.drop 6 [c0, c1, c2, c3, c4, c5, c6])) = xs[6]? := hg 6 _ rfl
  rw [List.getElem?_eq_getElem (by omega)] at g0 g1 g2 g3 g4 g5 g6
  rw [cells1_bool] at g2 g5
  rw [cells1_int] at g0 g1 g6
  rw [cells1_u16] at g3
  rw [cells1_u32] at g4
  obtain ⟨x0, a0, _, w0⟩ := DataW.trod_int Try.underlying3 g0
  obtain ⟨x1, a1, _, w1⟩ := DataW.trod_int Try.underlying3 g1
  obtain ⟨x2, a2, _⟩ := DataW.trod_bool Try.underlying4 g2
  obtain ⟨x3, a3, _, w3⟩ := DataW.trod_int Try.underlying24 g3
  obtain ⟨x4, a4, _, w4⟩ := DataW.trod_int Try.underlying27 g4
  obtain ⟨x5, a5, _⟩ := DataW.trod_bool Try.underlying4 g5
  obtain ⟨x6, a6, _, w6⟩ := DataW.trod_int Try.underlying3 g6
  simp only [List.drop_zero, List.take_succ_cons, List.take_zero, List.drop_succ_cons, List.cons.injEq, and_true] at a0 a1 a2 a3 a4 a5 a6
  subst a0 a1 a2 a3 a4 a5 a6
  exact ⟨⟨x0, x1, x2, x3, x4, x5, x6⟩, rfl, wf_u16 w3, wf_u32 w4⟩
theorem stact_of {H : Type} {enc : TypeId × Value → H} {w : World} {held : Bool} {n : Nat} {cs : List Value} {x : DataW H × List MemPlace} (hl : cs.length = 7) (h : DataW.trod enc Try.prog w 0 (fun _ => true) held n 59 cs = some x) : ∃ v : Stact, cs = stactL.cel v ∧ StactOk v := by
  match cs, hl with
  | [a, b, c, d, e, f, g], _ => exact stact_cells h
theorem open_stacts {H : Type} {enc : TypeId × Value → H} {w : World} {held : Bool} {fuel : Nat} {u : Value} {y : DataW H × List MemPlace} (h : DataW.trod enc Try.prog w 0 (fun _ => true) held fuel 57 [u] = some y) (hsz : ∀ el sp, y.1 = .slice el sp → (el.length + sp.length) * Try.prog.bytesOf 59 ≤ reachBytes) :
    ∃ (a : Option Addr) (cap : Nat) (xs : List Stact), u = .slice a xs.length cap ∧ xs.length ≤ cap ∧ xs.length * 40 ≤ 140737488351232 ∧ (∀ x ∈ xs, StactOk x) ∧ RowRd stactL w w.heap.size a xs.length xs :=
  Opn.open_lay (L := stactL) (Ok := StactOk) Try.underlying57 cellsStact bytesStact (fun n cs x hl h => stact_of hl h) h hsz
end Go.Proofs.Ytolobojidnomfaa.Stp
