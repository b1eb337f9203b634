/- StampAll walked. -/
import Derived.Test.YtolobojidnomfaaYi
import Derived.Test.YtolobojidnomfaaYh
import Derived.Deep.Cut
import Derived.Deep.DeepCutAuto
import Derived.Deep.CutRange
set_option maxRecDepth 100000
namespace Go.Proofs.Ytolobojidnomfaa.Stp
open Go.RowKit Go.Proofs.Ytolobojidnomfaa.Gat Go.Proofs.Ytolobojidnomfaa.Crs Go.Proofs.Ytolobojidnomfaa.Clk Go.Proofs.Ytolobojidnomfaa.Rtp
set_option linter.unusedVariables false

set_option maxHeartbeats 8000000 in
theorem all_any (w : World) (t : TV) (p : PV) (d : Ds) (hc : CoOk t.c) (hk : CkOk t.k) (ho : 0 ≤ t.oc ∧ t.oc ≤ 4294967295) (hq : 0 ≤ p.seq ∧ p.seq ≤ 65535) (ht : 0 ≤ p.time ∧ p.time ≤ 4294967295) (hn : p.pn ≤ 140737488351232) : Calls Try.prog 3 #[trkV t, pkt p, dsV d] w fun e w' => e = .returned (.bool true) ∧ Below w.heap.size w w' := by
  have CS := Lib.hid (fun W => shown_any W)
  have C1 := Lib.hid (fun W => media_any W t p d)
  have C2 := Lib.hid (fun W => rmedia_any W t p d hc hk ho hq ht hn)
  obtain ⟨y, r, n, hy⟩ : ∃ y r n, mda t p.seq p.time p.pn d = (y, r, n) := ⟨_, _, _, rfl⟩
  rw [hy] at C1 C2
  have H := Lib.hid (Tri.lay w t p d)
  clear hc hk ho hq ht hn hy
  go_enter Try.func3, Try.ntmps3
  go_wp2_with fail
  refine (CS.out _).mono ?_
  rintro e w1 ⟨rfl, hb⟩
  replace H := Lib.hid (H.out.more hb)
  clear hb CS 
  have c0 := H.out.t.c0
  have c1 := H.out.t.c1
  have c2 := H.out.t.c2
  have c3 := H.out.t.c3
  have c4 := H.out.t.c4
  have c5 := H.out.t.c5
  have c6 := H.out.t.c6
  have c7 := H.out.t.c7
  have c8 := H.out.t.c8
  have c9 := H.out.t.c9
  have c10 := H.out.t.c10
  have c11 := H.out.t.c11
  have c12 := H.out.t.c12
  have c13 := H.out.t.c13
  have c14 := H.out.t.c14
  have g0 := H.out.q.c0
  have g1 := H.out.q.c1
  have g2 := H.out.q.c2
  have g3 := H.out.q.c3
  have g4 := H.out.q.c4
  have g5 := H.out.q.c5
  have g6 := H.out.q.c6
  have g7 := H.out.q.c7
  have g8 := H.out.q.c8
  have g9 := H.out.q.c9
  have g10 := H.out.q.c10
  have d0 := H.out.d.c0
  have d1 := H.out.d.c1
  have d2 := H.out.d.c2
  have d3 := H.out.d.c3
  go_wp2_with fail
  refine (C1.out _).mono ?_
  rintro e w2 ⟨rfl, hb⟩
  replace H := Lib.hid (H.out.more hb)
  clear hb C1 c0 c1 c2 c3 c4 c5 c6 c7 c8 c9 c10 c11 c12 c13 c14 g0 g1 g2 g3 g4 g5 g6 g7 g8 g9 g10 d0 d1 d2 d3
  go_upto_region 4 with fail
  obtain ⟨TA, QA, hx⟩ := lay_two w2 y r
  replace TA := Lib.hid TA
  replace QA := Lib.hid QA
  replace H := Lib.hid (H.out.more hx)
  clear hx
  obtain ⟨bTA, hbTA⟩ : ∃ b, w2.heap.size = b := ⟨_, rfl⟩
  rw [hbTA] at TA QA
  rw [hbTA]
  clear hbTA
  obtain ⟨w3, hw3⟩ : ∃ w3, (w2.alloc (trkO y)).alloc (pcO r) = w3 := ⟨_, rfl⟩
  rw [hw3] at TA
  rw [hw3] at QA
  rw [hw3] at H
  rw [hw3]
  clear hw3
  have c0 := H.out.t.c0
  have c1 := H.out.t.c1
  have c2 := H.out.t.c2
  have c3 := H.out.t.c3
  have c4 := H.out.t.c4
  have c5 := H.out.t.c5
  have c6 := H.out.t.c6
  have c7 := H.out.t.c7
  have c8 := H.out.t.c8
  have c9 := H.out.t.c9
  have c10 := H.out.t.c10
  have c11 := H.out.t.c11
  have c12 := H.out.t.c12
  have c13 := H.out.t.c13
  have c14 := H.out.t.c14
  have g0 := H.out.q.c0
  have g1 := H.out.q.c1
  have g2 := H.out.q.c2
  have g3 := H.out.q.c3
  have g4 := H.out.q.c4
  have g5 := H.out.q.c5
  have g6 := H.out.q.c6
  have g7 := H.out.q.c7
  have g8 := H.out.q.c8
  have g9 := H.out.q.c9
  have g10 := H.out.q.c10
  have d0 := H.out.d.c0
  have d1 := H.out.d.c1
  have d2 := H.out.d.c2
  have d3 := H.out.d.c3
  go_wp2_with fail
  refine (C2.out _).mono ?_
  rintro e w4 ⟨rfl, hb⟩
  replace H := Lib.hid (H.out.more hb)
  replace TA := Lib.hid (TA.out.bel hb TA.out.lt)
  replace QA := Lib.hid (QA.out.bel hb QA.out.lt)
  clear hb C2 c0 c1 c2 c3 c4 c5 c6 c7 c8 c9 c10 c11 c12 c13 c14 g0 g1 g2 g3 g4 g5 g6 g7 g8 g9 g10 d0 d1 d2 d3
  go_upto_region 5 with fail
  obtain ⟨TB, QB, hx⟩ := lay_two w4 y r
  replace TB := Lib.hid TB
  replace QB := Lib.hid QB
  replace H := Lib.hid (H.out.more hx)
  replace TA := Lib.hid (TA.out.bel hx TA.out.lt)
  replace QA := Lib.hid (QA.out.bel hx QA.out.lt)
  clear hx
  obtain ⟨bTB, hbTB⟩ : ∃ b, w4.heap.size = b := ⟨_, rfl⟩
  rw [hbTB] at TB QB
  rw [hbTB]
  clear hbTB
  obtain ⟨w5, hw5⟩ : ∃ w5, (w4.alloc (trkO y)).alloc (pcO r) = w5 := ⟨_, rfl⟩
  rw [hw5] at TB
  rw [hw5] at QB
  rw [hw5] at H
  rw [hw5] at TA
  rw [hw5] at QA
  rw [hw5]
  clear hw5
  have c0 := TA.out.c0
  have c1 := TA.out.c1
  have c2 := TA.out.c2
  have c3 := TA.out.c3
  have c4 := TA.out.c4
  have c5 := TA.out.c5
  have c6 := TA.out.c6
  have c7 := TA.out.c7
  have c8 := TA.out.c8
  have c9 := TA.out.c9
  have c10 := TA.out.c10
  have c11 := TA.out.c11
  have c12 := TA.out.c12
  have c13 := TA.out.c13
  have c14 := TA.out.c14
  have d0 := TB.out.c0
  have d1 := TB.out.c1
  have d2 := TB.out.c2
  have d3 := TB.out.c3
  have d4 := TB.out.c4
  have d5 := TB.out.c5
  have d6 := TB.out.c6
  have d7 := TB.out.c7
  have d8 := TB.out.c8
  have d9 := TB.out.c9
  have d10 := TB.out.c10
  have d11 := TB.out.c11
  have d12 := TB.out.c12
  have d13 := TB.out.c13
  have d14 := TB.out.c14
  have g0 := QA.out.c0
  have g1 := QA.out.c1
  have g2 := QA.out.c2
  have g3 := QA.out.c3
  have k0 := QB.out.c0
  have k1 := QB.out.c1
  have k2 := QB.out.c2
  have k3 := QB.out.c3
  have KT := teq_same y
  have KP := peq_same r
  go_wp2
  go_ret
  exact ⟨by simp, H.out.bel⟩
end Go.Proofs.Ytolobojidnomfaa.Stp
