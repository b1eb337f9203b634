/- StampReport walked. -/
import Derived.Test.YtolobojidnomfaaYi
import Derived.Deep.Cut
import Derived.Deep.DeepCutAuto
import Derived.Deep.CutRange
set_option maxRecDepth 100000
namespace Go.Proofs.Ytolobojidnomfaa.Stp
open Go.RowKit Go.Proofs.Ytolobojidnomfaa.Gat Go.Proofs.Ytolobojidnomfaa.Crs Go.Proofs.Ytolobojidnomfaa.Clk Go.Proofs.Ytolobojidnomfaa.Rtp Go.Proofs.Ytolobojidnomfaa.Fbk
set_option linter.unusedVariables false

theorem rpr_form (t : TV) (i : IV) (l : Int) : ∃ a1 a2 a3 a4 a5 a6 n, rpr t i l = (⟨a1, a2, a3, a4, a5, a6, none, 0, 0, none, 0, 0, 0, none, 0, 0⟩, n) := by
  unfold rpr
  split
  · exact ⟨_, _, _, _, _, _, _, rfl⟩
  · split
    · exact ⟨_, _, _, _, _, _, _, rfl⟩
    · exact ⟨_, _, _, _, _, _, _, rfl⟩
/-- What a law about a report holds: the track, the item. -/
structure Duo (w0 w : World) (t : TV) (i : IV) : Prop where
  t : TBlk w w0.heap.size t
  i : IBlk w (w0.heap.size + 1) i
  bel : Below w0.heap.size w0 w
theorem Duo.more {w0 w w' : World} {t : TV} {i : IV} (h : Duo w0 w t i) (hb : Below w.heap.size w w') : Duo w0 w' t i := ⟨h.t.bel hb h.t.lt, h.i.bel hb, h.bel.trans (hb.mono h.bel.size)⟩
theorem Duo.lay (w0 : World) (t : TV) (i : IV) : Duo w0 ((w0.alloc (trkO t)).alloc (iobj i)) t i := by
  have s1 : (w0.alloc (trkO t)).heap.size = w0.heap.size + 1 := by simp
  have h1 := TBlk.new w0 t
  have h2 := IBlk.new (w0.alloc (trkO t)) i
  have b2 : Below (w0.heap.size + 1) (w0.alloc (trkO t)) ((w0.alloc (trkO t)).alloc (iobj i)) := (Below.refl _ _).alloc (by omega) _
  rw [s1] at h2
  have k1 := ((Below.refl w0.heap.size w0).alloc (Nat.le_refl _) (trkO t)).alloc (by omega) (iobj i)
  exact ⟨h1.bel b2 (by omega), h2, k1⟩
set_option maxHeartbeats 8000000 in
theorem reports_any (w : World) (t : TV) (i : IV) (l a b : Int) (hk : CkOk t.k) (ht : 0 ≤ i.time ∧ i.time ≤ 4294967295) : Calls Try.prog 4 #[trkV t, itm i, .int .i64 l, .int .i64 a, .int .i64 b] w fun e w' => e = .returned (.bool true) ∧ Below w.heap.size w w' := by
  have CS := Lib.hid (fun W => shown_any W)
  have C1 := Lib.hid (fun W => report_any W t i l)
  have C2 := Lib.hid (fun W => rreport_any W t i l hk ht)
  have C3 := Lib.hid (fun W => new_any W a b l)
  have C4 := Lib.hid (fun W => rnew_any W a b l)
  obtain ⟨a1, a2, a3, a4, a5, a6, n, hy⟩ := rpr_form t i l
  rw [hy] at C1 C2
  simp only at C1 C2
  obtain ⟨x, hx⟩ : ∃ x, newT a b l = x := ⟨_, rfl⟩
  rw [hx] at C3 C4
  have H := Lib.hid (Duo.lay w t i)
  clear hk ht hy hx
  go_enter Try.func4, Try.ntmps4
  go_wp2_with fail
  refine (CS.out _).mono ?_
  rintro e w1 ⟨rfl, hb⟩
  replace H := Lib.hid (H.out.more hb)
  clear hb CS 
  have c0 := H.out.t.c0
  have c1 := H.out.t.c1
  have c2 := H.out.t.c2
  have c3 := H.out.t.c3
  have c4 := H.out.t.c4
  have c5 := H.out.t.c5
  have c6 := H.out.t.c6
  have c7 := H.out.t.c7
  have c8 := H.out.t.c8
  have c9 := H.out.t.c9
  have c10 := H.out.t.c10
  have c11 := H.out.t.c11
  have c12 := H.out.t.c12
  have c13 := H.out.t.c13
  have c14 := H.out.t.c14
  have g0 := H.out.i.c0
  have g1 := H.out.i.c1
  have g2 := H.out.i.c2
  have g3 := H.out.i.c3
  have g4 := H.out.i.c4
  have g5 := H.out.i.c5
  have g6 := H.out.i.c6
  have g7 := H.out.i.c7
  have g8 := H.out.i.c8
  have g9 := H.out.i.c9
  go_wp2_with fail
  refine (C1.out _).mono ?_
  rintro e w2 ⟨rfl, hb⟩
  replace H := Lib.hid (H.out.more hb)
  clear hb C1 c0 c1 c2 c3 c4 c5 c6 c7 c8 c9 c10 c11 c12 c13 c14 g0 g1 g2 g3 g4 g5 g6 g7 g8 g9
  go_upto_region 4 with fail
  have hx := (Below.refl w2.heap.size w2).alloc (Nat.le_refl _) (iobj ⟨a1, a2, a3, a4, a5, a6, none, 0, 0, none, 0, 0, 0, none, 0, 0⟩)
  replace H := Lib.hid (H.out.more hx)
  have IA := Lib.hid (IBlk.new w2 ⟨a1, a2, a3, a4, a5, a6, none, 0, 0, none, 0, 0, 0, none, 0, 0⟩)
  obtain ⟨b1, hb1⟩ : ∃ b, w2.heap.size = b := ⟨_, rfl⟩
  rw [hb1] at IA
  rw [hb1]
  clear hb1 hx
  obtain ⟨w3, hw3⟩ : ∃ w3, w2.alloc (iobj ⟨a1, a2, a3, a4, a5, a6, none, 0, 0, none, 0, 0, 0, none, 0, 0⟩) = w3 := ⟨_, rfl⟩
  rw [hw3] at IA
  rw [hw3] at H
  rw [hw3]
  clear hw3
  have c0 := H.out.t.c0
  have c1 := H.out.t.c1
  have c2 := H.out.t.c2
  have c3 := H.out.t.c3
  have c4 := H.out.t.c4
  have c5 := H.out.t.c5
  have c6 := H.out.t.c6
  have c7 := H.out.t.c7
  have c8 := H.out.t.c8
  have c9 := H.out.t.c9
  have c10 := H.out.t.c10
  have c11 := H.out.t.c11
  have c12 := H.out.t.c12
  have c13 := H.out.t.c13
  have c14 := H.out.t.c14
  have g0 := H.out.i.c0
  have g1 := H.out.i.c1
  have g2 := H.out.i.c2
  have g3 := H.out.i.c3
  have g4 := H.out.i.c4
  have g5 := H.out.i.c5
  have g6 := H.out.i.c6
  have g7 := H.out.i.c7
  have g8 := H.out.i.c8
  have g9 := H.out.i.c9
  go_wp2_with fail
  refine (C2.out _).mono ?_
  rintro e w4 ⟨rfl, hb⟩
  replace H := Lib.hid (H.out.more hb)
  replace IA := Lib.hid (IA.out.bel hb)
  clear hb C2 c0 c1 c2 c3 c4 c5 c6 c7 c8 c9 c10 c11 c12 c13 c14 g0 g1 g2 g3 g4 g5 g6 g7 g8 g9
  have hx := (Below.refl w4.heap.size w4).alloc (Nat.le_refl _) (iobj ⟨a1, a2, a3, a4, a5, a6, none, 0, 0, none, 0, 0, 0, none, 0, 0⟩)
  replace H := Lib.hid (H.out.more hx)
  replace IA := Lib.hid (IA.out.bel hx)
  have IB := Lib.hid (IBlk.new w4 ⟨a1, a2, a3, a4, a5, a6, none, 0, 0, none, 0, 0, 0, none, 0, 0⟩)
  clear hx
  have c0 := IA.out.c0
  have c1 := IA.out.c1
  have c2 := IA.out.c2
  have c3 := IA.out.c3
  have c4 := IA.out.c4
  have c5 := IA.out.c5
  have c6 := IA.out.c6
  have c7 := IA.out.c7
  have c8 := IA.out.c8
  have c9 := IA.out.c9
  have g0 := IB.out.c0
  have g1 := IB.out.c1
  have g2 := IB.out.c2
  have g3 := IB.out.c3
  have g4 := IB.out.c4
  have g5 := IB.out.c5
  have KT := teq_same x
  go_wp2_with fail
  refine (C3.out _).mono ?_
  rintro e w5 ⟨rfl, hb⟩
  replace H := Lib.hid (H.out.more hb)
  clear hb C3 IA IB c0 c1 c2 c3 c4 c5 c6 c7 c8 c9 g0 g1 g2 g3 g4 g5
  go_wp2_with fail
  refine (C4.out _).mono ?_
  rintro e w6 ⟨rfl, hb⟩
  replace H := Lib.hid (H.out.more hb)
  clear hb C4 
  go_wp2
  go_ret
  exact ⟨by simp, H.out.bel⟩
end Go.Proofs.Ytolobojidnomfaa.Stp
