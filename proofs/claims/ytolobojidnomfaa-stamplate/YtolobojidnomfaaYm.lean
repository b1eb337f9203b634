/- StampLate walked. -/
import Derived.Test.YtolobojidnomfaaYi
import Derived.Deep.Cut
import Derived.Deep.DeepCutAuto
import Derived.Deep.CutRange
set_option maxRecDepth 100000
namespace Go.Proofs.Ytolobojidnomfaa.Stp
open Go.RowKit Go.Proofs.Ytolobojidnomfaa.Gat Go.Proofs.Ytolobojidnomfaa.Crs Go.Proofs.Ytolobojidnomfaa.Clk Go.Proofs.Ytolobojidnomfaa.Rtp
set_option linter.unusedVariables false

theorem tke_qui {x g : Gt} {l v : Int} {k : Bool} (h : tke x l k = (g, v)) (hv : v = 1 ∨ v = 2) : tke g l k = (g, 1) := by
  unfold tke at h
  split at h
  · simp only [Prod.mk.injEq] at h; omega
  · rename_i hq
    split at h
    · rename_i hk
      simp only [Prod.mk.injEq] at h
      obtain ⟨rfl, rfl⟩ := h
      unfold tke
      rw [if_neg (show ¬ qui (x.1, x.1, x.2.2) = true from hq), if_neg (by rintro ⟨_, _, h⟩; exact h rfl), if_pos hk.2.1]
    · rename_i hk
      split at h
      · rename_i hl
        simp only [Prod.mk.injEq] at h
        obtain ⟨rfl, rfl⟩ := h
        unfold tke
        rw [if_neg hq, if_neg hk, if_pos hl]
      · simp only [Prod.mk.injEq] at h; omega
/-- What came, or lies behind what came, is late. -/
theorem snd_late {t y : TV} {q tm pn b : Int} {st : Bool} {v n : Int} {r : Pc} (h : snd t q tm pn st v = (y, r, n)) (hn : n = 1 ∨ n = 2) (hq : 0 ≤ q ∧ q ≤ 65535) (hb : 0 ≤ b ∧ b ≤ 32768) :
    y.g = t.g ∧ n = v ∧ snd y ((q - b) % 65536) tm pn st 1 = (y, pc0, 5) := by
  unfold snd at h
  split at h
  · simp only [Prod.mk.injEq] at h; omega
  · rename_i hr
    simp only [Prod.mk.injEq] at h
    obtain ⟨rfl, rfl, rfl⟩ := h
    have hr : refd t.c q = false := by simpa using hr
    refine ⟨rfl, rfl, ?_⟩
    have h2 : refd (sntT t q tm pn st).c ((q - b) % 65536) = true := by
      simp only [sntT, stp_yes hr, refd, ah16, d16]
      simp
      omega
    unfold snd
    rw [if_pos h2]
theorem mda_late {t y : TV} {q tm pn b : Int} {d : Ds} {n : Int} {r : Pc} (h : mda t q tm pn d = (y, r, n)) (hn : n = 1 ∨ n = 2) (hq : 0 ≤ q ∧ q ≤ 65535) (hb : 0 ≤ b ∧ b ≤ 32768) :
    mda y ((q - b) % 65536) tm pn d = (y, pc0, 5) := by
  unfold mda at h
  obtain ⟨g, v, hr⟩ : ∃ g v, tke t.g d.1 (d.2.1 && d.2.2.1) = (g, v) := ⟨_, _, rfl⟩
  rw [hr] at h
  simp only at h
  have key : y.g = g → (v = 1 ∨ v = 2) → snd y ((q - b) % 65536) tm pn d.2.2.1 1 = (y, pc0, 5) → mda y ((q - b) % 65536) tm pn d = (y, pc0, 5) := by
    intro h1 h2 h3
    unfold mda
    rw [h1, tke_qui hr h2]
    simp only
    rw [if_pos trivial]
    exact h3
  by_cases h1 : v = 1
  · rw [if_pos h1] at h
    obtain ⟨e1, e2, e3⟩ := snd_late h hn hq hb
    refine key ?_ (.inl h1) e3
    rw [e1]
    subst h1
    unfold tke at hr
    split at hr
    · simp only [Prod.mk.injEq] at hr; omega
    · split at hr
      · simp only [Prod.mk.injEq] at hr; omega
      · split at hr
        · simp only [Prod.mk.injEq] at hr; exact hr.1
        · simp only [Prod.mk.injEq] at hr; omega
  · rw [if_neg h1] at h
    by_cases h2 : v = 2
    · rw [if_pos h2] at h
      obtain ⟨e1, e2, e3⟩ := snd_late h hn hq hb
      exact key e1 (.inr h2) e3
    · rw [if_neg h2] at h
      simp only [Prod.mk.injEq] at h
      omega
theorem Tri.seq {w0 w : World} {t : TV} {q : PV} {d : Ds} (h : Tri w0 w t q d) (x : Int) : Tri w0 (w.setCell ⟨w0.heap.size + 1, 2, none⟩ (.int .u16 x)) t { q with seq := x } d := by
  have hw : Beside (w0.heap.size + 1) w (w.setCell ⟨w0.heap.size + 1, 2, none⟩ (.int .u16 x)) := (Beside.refl _ w).set _
  exact ⟨h.t.beside (by omega) hw, heap_setCell_same w _ 2 _ _ (.int .u16 x) h.q, h.d.beside (by omega) hw, h.bel.setCell (p := ⟨w0.heap.size + 1, 2, none⟩) (by show _ ≤ w0.heap.size + 1; omega) _⟩
set_option maxHeartbeats 8000000 in
theorem late_any (w : World) (t : TV) (p : PV) (d : Ds) (b : Int) (hq : 0 ≤ p.seq ∧ p.seq ≤ 65535) (hb0 : 0 ≤ b) : Calls Try.prog 7 #[trkV t, pkt p, dsV d, .int .u16 b] w fun e w' => e = .returned (.bool true) ∧ Below w.heap.size w w' := by
  have CS := Lib.hid (fun W => shown_any W)
  have C1 := Lib.hid (fun W => media_any W t p d)
  obtain ⟨y, r, n, hy⟩ : ∃ y r n, mda t p.seq p.time p.pn d = (y, r, n) := ⟨_, _, _, rfl⟩
  rw [hy] at C1
  have HY := Lib.hid hy
  have HQ := Lib.hid (And.intro hq hb0)
  have H := Lib.hid (Tri.lay w t p d)
  clear hq hb0 hy
  go_enter Try.func7, Try.ntmps7
  go_wp2_with fail
  refine (CS.out _).mono ?_
  rintro e w1 ⟨rfl, hb⟩
  replace H := Lib.hid (H.out.more hb)
  clear hb CS 
  have c0 := H.out.t.c0
  have c1 := H.out.t.c1
  have c2 := H.out.t.c2
  have c3 := H.out.t.c3
  have c4 := H.out.t.c4
  have c5 := H.out.t.c5
  have c6 := H.out.t.c6
  have c7 := H.out.t.c7
  have c8 := H.out.t.c8
  have c9 := H.out.t.c9
  have c10 := H.out.t.c10
  have c11 := H.out.t.c11
  have c12 := H.out.t.c12
  have c13 := H.out.t.c13
  have c14 := H.out.t.c14
  have g0 := H.out.q.c0
  have g1 := H.out.q.c1
  have g2 := H.out.q.c2
  have g3 := H.out.q.c3
  have g4 := H.out.q.c4
  have g5 := H.out.q.c5
  have g6 := H.out.q.c6
  have g7 := H.out.q.c7
  have g8 := H.out.q.c8
  have g9 := H.out.q.c9
  have g10 := H.out.q.c10
  have d0 := H.out.d.c0
  have d1 := H.out.d.c1
  have d2 := H.out.d.c2
  have d3 := H.out.d.c3
  go_wp2_with fail
  refine (C1.out _).mono ?_
  rintro e w2 ⟨rfl, hb⟩
  replace H := Lib.hid (H.out.more hb)
  clear hb C1 c0 c1 c2 c3 c4 c5 c6 c7 c8 c9 c10 c11 c12 c13 c14 g0 g1 g2 g3 g4 g5 g6 g7 g8 g9 g10 d0 d1 d2 d3
  go_upto_region 4 with fail
  have H2D := Lib.hid H.out.q.lt
  obtain ⟨TA, QA, hx⟩ := lay_two w2 y r
  replace TA := Lib.hid TA
  clear QA
  replace H := Lib.hid (H.out.more hx)
  clear hx
  have HL2 := Lib.hid (show w.heap.size + 1 < w2.heap.size from by have := H2D.out; omega)
  obtain ⟨bA, hbA⟩ : ∃ b, w2.heap.size = b := ⟨_, rfl⟩
  rw [hbA] at TA HL2
  rw [hbA]
  clear hbA
  obtain ⟨w3, hw3⟩ : ∃ w3, (w2.alloc (trkO y)).alloc (pcO r) = w3 := ⟨_, rfl⟩
  rw [hw3] at TA
  rw [hw3] at H
  rw [hw3]
  clear hw3
  obtain ⟨fl, hfl⟩ : ∃ fl : Bool, decide ((n ≠ 1 ∧ n ≠ 2) ∨ 32768 < b) = fl := ⟨_, rfl⟩
  have HF := Lib.hid hfl
  clear hfl
  go_cut [34] from 25 to 33 (fun s34 wx => s34 = .bool fl ∧ w3 = wx)
  case first =>
    by_cases h1 : n = 1
    · subst h1
      by_cases h3 : 32768 < b
      · go_wp2_with fail
        go_meet
        case rel => exact ⟨by rw [← HF.out]; simp [h3], rfl⟩
      · go_wp2_with fail
        go_meet
        case rel => exact ⟨by rw [← HF.out]; simp; omega, rfl⟩
    · have q1 : (n != 1) = true := by simpa using h1
      by_cases h2 : n = 2
      · subst h2
        by_cases h3 : 32768 < b
        · go_wp2_with fail
          go_meet
          case rel => exact ⟨by rw [← HF.out]; simp [h3], rfl⟩
        · go_wp2_with fail
          go_meet
          case rel => exact ⟨by rw [← HF.out]; simp; omega, rfl⟩
      · have q2 : (n != 2) = true := by simpa using h2
        go_wp2_with fail
        go_meet
        case rel => exact ⟨by rw [← HF.out]; simp [h1, h2], rfl⟩
  case rest =>
    obtain ⟨rfl, rfl⟩ := hcut
    cases fl with
    | true =>
      clear HY HQ TA HF
      go_wp2
      go_ret
      exact ⟨rfl, H.out.bel⟩
    | false =>
      have hh := HF.out
      simp at hh
      have hn : n = 1 ∨ n = 2 := by omega
      have h3 : b ≤ 32768 := by omega
      clear hh HF
      have HL := mda_late HY.out hn HQ.out.1 ⟨HQ.out.2, by omega⟩
      obtain ⟨sq, hsq⟩ : ∃ sq, (p.seq - b) % 65536 = sq := ⟨_, rfl⟩
      rw [hsq] at HL
      have C2 := Lib.hid (fun W => media_any W y { p with seq := sq } d)
      simp only at C2
      rw [HL] at C2
      have q5 : IntKind.u16.wrap (p.seq - b) = sq := by rw [wr16]; exact hsq
      have c2 := H.out.q.c2
      have e2 := H.out.q.frozen 2
      clear HY HQ hn HL
      go_upto_region 7 with fail
      have HS := Lib.hid (H.out.seq sq)
      replace TA := Lib.hid (TA.out.beside (c := w.heap.size + 1) (w' := w3.setCell ⟨w.heap.size + 1, 2, none⟩ (.int .u16 sq)) (by have := HL2.out; omega) ((Beside.refl _ w3).set _))
      clear c2 e2 q5 H h3
      obtain ⟨w4, hw4⟩ : ∃ w4, w3.setCell ⟨w.heap.size + 1, 2, none⟩ (.int .u16 sq) = w4 := ⟨_, rfl⟩
      rw [hw4] at HS
      rw [hw4] at TA
      rw [hw4]
      clear hw4
      have c0 := TA.out.c0
      have c1 := TA.out.c1
      have c2 := TA.out.c2
      have c3 := TA.out.c3
      have c4 := TA.out.c4
      have c5 := TA.out.c5
      have c6 := TA.out.c6
      have c7 := TA.out.c7
      have c8 := TA.out.c8
      have c9 := TA.out.c9
      have c10 := TA.out.c10
      have c11 := TA.out.c11
      have c12 := TA.out.c12
      have c13 := TA.out.c13
      have c14 := TA.out.c14
      have g0 := HS.out.q.c0
      have g1 := HS.out.q.c1
      have g2 := HS.out.q.c2
      have g3 := HS.out.q.c3
      have g4 := HS.out.q.c4
      have g5 := HS.out.q.c5
      have g6 := HS.out.q.c6
      have g7 := HS.out.q.c7
      have g8 := HS.out.q.c8
      have g9 := HS.out.q.c9
      have g10 := HS.out.q.c10
      have d0 := HS.out.d.c0
      have d1 := HS.out.d.c1
      have d2 := HS.out.d.c2
      have d3 := HS.out.d.c3
      go_wp2_with fail
      refine (C2.out _).mono ?_
      rintro e w5 ⟨rfl, hb⟩
      replace HS := Lib.hid (HS.out.more hb)
      replace TA := Lib.hid (TA.out.bel hb TA.out.lt)
      clear hb C2 c0 c1 c2 c3 c4 c5 c6 c7 c8 c9 c10 c11 c12 c13 c14 g0 g1 g2 g3 g4 g5 g6 g7 g8 g9 g10 d0 d1 d2 d3
      go_upto_region 8 with fail
      obtain ⟨TB, QB, hx⟩ := lay_two w5 y pc0
      replace TB := Lib.hid TB
      replace QB := Lib.hid QB
      replace HS := Lib.hid (HS.out.more hx)
      replace TA := Lib.hid (TA.out.bel hx TA.out.lt)
      clear hx
      obtain ⟨bB, hbB⟩ : ∃ b, w5.heap.size = b := ⟨_, rfl⟩
      rw [hbB] at TB QB
      rw [hbB]
      clear hbB
      obtain ⟨w6, hw6⟩ : ∃ w6, (w5.alloc (trkO y)).alloc (pcO pc0) = w6 := ⟨_, rfl⟩
      rw [hw6] at TB
      rw [hw6] at QB
      rw [hw6] at HS
      rw [hw6] at TA
      rw [hw6]
      clear hw6
      have c0 := TA.out.c0
      have c1 := TA.out.c1
      have c2 := TA.out.c2
      have c3 := TA.out.c3
      have c4 := TA.out.c4
      have c5 := TA.out.c5
      have c6 := TA.out.c6
      have c7 := TA.out.c7
      have c8 := TA.out.c8
      have c9 := TA.out.c9
      have c10 := TA.out.c10
      have c11 := TA.out.c11
      have c12 := TA.out.c12
      have c13 := TA.out.c13
      have c14 := TA.out.c14
      have d0 := TB.out.c0
      have d1 := TB.out.c1
      have d2 := TB.out.c2
      have d3 := TB.out.c3
      have d4 := TB.out.c4
      have d5 := TB.out.c5
      have d6 := TB.out.c6
      have d7 := TB.out.c7
      have d8 := TB.out.c8
      have d9 := TB.out.c9
      have d10 := TB.out.c10
      have d11 := TB.out.c11
      have d12 := TB.out.c12
      have d13 := TB.out.c13
      have d14 := TB.out.c14
      have g0 := QB.out.c0
      have g1 := QB.out.c1
      have g2 := QB.out.c2
      have g3 := QB.out.c3
      have KT := teq_same y
      have KP := peq_same pc0
      go_wp2
      go_ret
      exact ⟨by simp, HS.out.bel⟩
end Go.Proofs.Ytolobojidnomfaa.Stp
