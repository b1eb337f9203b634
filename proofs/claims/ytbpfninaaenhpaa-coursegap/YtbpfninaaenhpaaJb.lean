/- The reference's Step and Break; the contract of the laws' shown; CourseAll walked. -/
import Derived.Test.YtbpfninaaenhpaaJa
import Derived.Test.YtbpfninaaenhpaaSb
set_option maxRecDepth 100000
namespace Go.Proofs.Ytbpfninaaenhpaa.Crs
open Go.RowKit
set_option linter.unusedVariables false

set_option maxHeartbeats 4000000 in
theorem rstep_any (w : World) (c : Co) (i : Int) (hc : CoOk c) (h0 : 0 ≤ i) (h1 : i ≤ 65535) : Calls Try.prog 9 #[coV c, .int .u16 i] w fun e w' => e = .returned (stV (stp c i)) ∧ Below w.heap.size w w' := by
  obtain ⟨l, a, o, n⟩ := c
  obtain ⟨⟨ha, ha2⟩, -, hn, hn2⟩ := hc
  simp only at ha ha2 hn hn2
  have q1 : IntKind.u16.wrap ((n - i + 65536).tmod 65536) = (n - i) % 65536 := by rw [u16_wrap, Int.tmod_eq_emod_of_nonneg (by omega)]; omega
  have q2 : IntKind.u16.wrap ((n + 1).tmod 65536) = (n + 1) % 65536 := by rw [u16_wrap, Int.tmod_eq_emod_of_nonneg (by omega)]; omega
  cases l with
  | true =>
    cases hh : ah16 i a with
    | true =>
      rw [stp_yes (by simp [refd, hh])]
      have hd : ¬ (d16 i a ≤ 0) := by simp [ah16] at hh; omega
      have HD := Lib.hid (new2 w (true, a, o, n) (true, i, (n - i) % 65536, (n + 1) % 65536))
      go_enter Try.func9, Try.ntmps9
      go_wp2_with (go_at_call 14; refine (rdiff16_any _ _ _ (by omega) (by omega) (by omega) (by omega)).mono ?_; rintro e w' ⟨rfl, rfl⟩)
      exact retS_at Try.results9 HD.out.1 ⟨rfl, HD.out.2⟩
    | false =>
      rw [stp_no (by simp [refd, hh])]
      have hd : d16 i a ≤ 0 := by simp [ah16] at hh; omega
      have HD := Lib.hid (new2 w (true, a, o, n) (true, a, o, n))
      go_enter Try.func9, Try.ntmps9
      go_wp2_with (go_at_call 14; refine (rdiff16_any _ _ _ (by omega) (by omega) (by omega) (by omega)).mono ?_; rintro e w' ⟨rfl, rfl⟩)
      exact retS_at Try.results9 HD.out.1 ⟨rfl, HD.out.2⟩
  | false =>
    rw [stp_yes (by simp [refd])]
    have HD := Lib.hid (new2 w (false, a, o, n) (true, i, (n - i) % 65536, (n + 1) % 65536))
    go_enter Try.func9, Try.ntmps9
    go_wp2
    exact retS_at Try.results9 HD.out.1 ⟨rfl, HD.out.2⟩
set_option maxHeartbeats 4000000 in
theorem rbrk_any (w : World) (c : Co) : Calls Try.prog 11 #[coV c] w fun e w' => e = .returned (coV (brk c)) ∧ Below w.heap.size w w' := by
  have HD := Lib.hid (new2 w c (brk c))
  go_enter Try.func11, Try.ntmps11
  go_wp2
  exact ret1_at Try.results11 HD.out.1 ⟨rfl, HD.out.2⟩
set_option maxHeartbeats 4000000 in
theorem shown_any (w : World) : Calls Try.prog 7 #[] w fun e w' => e = .returned (.bool true) ∧ Below w.heap.size w w' := by
  have e1 : stp (false, 0, 0, 9) 100 = ((true, 100, 65445, 10), 9, true) := by decide
  have e2 : stp (true, 100, 65445, 10) 103 = ((true, 103, 65443, 11), 10, true) := by decide
  have e3 : stp (true, 103, 65443, 11) 102 = ((true, 103, 65443, 11), 0, false) := by decide
  have C1 := Lib.hid (fun W => step_any W (false, 0, 0, 9) 100)
  have C2 := Lib.hid (fun W => step_any W (true, 100, 65445, 10) 103)
  have C3 := Lib.hid (fun W => step_any W (true, 103, 65443, 11) 102)
  have C4 := Lib.hid (fun W => out_any W (true, 103, 65443, 11) 104)
  have C5 : Hid (∀ W, Calls Try.prog 10 #[coV (true, 103, 65443, 11)] W fun e w' => e = .returned (.agg #[.bool false, .int .u16 103, .int .u16 65443, .int .u16 11]) ∧ Below W.heap.size W w') := Lib.hid (fun W => brk_any W (true, 103, 65443, 11))
  rw [e1] at C1
  rw [e2] at C2
  rw [e3] at C3
  rw [show outN (true, 103, 65443, 11) 104 = 11 from by decide] at C4
  have q0 := fld0 (false, 103, 65443, 11)
  have q3 := fld3 (false, 103, 65443, 11)
  simp only at q0 q3
  clear e1 e2 e3
  go_enter Try.func7, Try.ntmps7
  go_wp2_with fail
  refine (C1.out _).mono ?_
  rintro e w1 ⟨rfl, hb1⟩
  have H1 := Lib.hid (hb1.alloc hb1.size (coO (true, 100, 65445, 10)))
  have D1 := CBlk.new w1 (true, 100, 65445, 10)
  have c0 := D1.c0
  have c1 := D1.c1
  have c2 := D1.c2
  have c3 := D1.c3
  have HD1 := Lib.hid D1
  clear hb1 C1 D1
  go_wp2_with fail
  refine (C2.out _).mono ?_
  rintro e w2 ⟨rfl, hb2⟩
  have H2 := Lib.hid ((H1.out.trans (hb2.mono H1.out.size)).alloc (H1.out.trans (hb2.mono H1.out.size)).size (coO (true, 103, 65443, 11)))
  have hbx : Below w2.heap.size w2 (w2.alloc (coO (true, 103, 65443, 11))) := (Below.refl _ _).alloc (Nat.le_refl _) _
  have HD2 := Lib.hid ((HD1.out.bel hb2 HD1.out.lt).bel hbx (HD1.out.bel hb2 HD1.out.lt).lt)
  have E2 := CBlk.new w2 (true, 103, 65443, 11)
  clear c0 c1 c2 c3
  have c0 := E2.c0
  have c1 := E2.c1
  have c2 := E2.c2
  have c3 := E2.c3
  have HE2 := Lib.hid E2
  clear hb2 hbx C2 E2 HD1 H1
  go_wp2_with fail
  refine (C3.out _).mono ?_
  rintro e w3 ⟨rfl, hb3⟩
  have H3 := Lib.hid ((H2.out.trans (hb3.mono H2.out.size)).alloc (H2.out.trans (hb3.mono H2.out.size)).size (coO (true, 103, 65443, 11)))
  have hbx : Below w3.heap.size w3 (w3.alloc (coO (true, 103, 65443, 11))) := (Below.refl _ _).alloc (Nat.le_refl _) _
  have D3 := (HD2.out.bel hb3 HD2.out.lt).bel hbx (HD2.out.bel hb3 HD2.out.lt).lt
  have E3 := (HE2.out.bel hb3 HE2.out.lt).bel hbx (HE2.out.bel hb3 HE2.out.lt).lt
  clear c0 c1 c2 c3
  have c0 := E3.c0
  have c1 := E3.c1
  have c2 := E3.c2
  have c3 := E3.c3
  have HE3 := Lib.hid E3
  have HD3 := Lib.hid D3
  clear hb3 hbx C3 E3 D3 HD2 HE2 H2
  go_wp2_with fail
  refine (C4.out _).mono ?_
  rintro e w4 ⟨rfl, hb4⟩
  have H4 := Lib.hid (H3.out.trans (hb4.mono H3.out.size))
  have E4 := HE3.out.bel hb4 HE3.out.lt
  have D4 := HD3.out.bel hb4 HD3.out.lt
  clear c0 c1 c2 c3
  have c0 := E4.c0
  have c1 := E4.c1
  have c2 := E4.c2
  have c3 := E4.c3
  have d0 := D4.c0
  have HE4 := Lib.hid E4
  clear hb4 E4 D4 HE3 HD3 H3 C4
  go_wp2_with fail
  refine (C5.out _).mono ?_
  rintro e w5 ⟨rfl, hb5⟩
  have H5 := Lib.hid (H4.out.trans (hb5.mono H4.out.size))
  have E5 := HE4.out.bel hb5 HE4.out.lt
  clear c0 c1 c2 c3 d0
  have c0 := E5.c0
  have c1 := E5.c1
  have c2 := E5.c2
  have c3 := E5.c3
  clear hb5 E5 HE4 H4
  go_wp2_with fail
  refine (C5.out _).mono ?_
  rintro e w6 ⟨rfl, hb6⟩
  have H6 := Lib.hid (H5.out.trans (hb6.mono H5.out.size))
  clear hb6 c0 c1 c2 c3 C5 H5
  go_wp2
  go_ret
  exact ⟨rfl, H6.out⟩

set_option maxHeartbeats 4000000 in
theorem all_any (w : World) (c : Co) (i : Int) (hc : CoOk c) (h0 : 0 ≤ i) (h1 : i ≤ 65535) : Calls Try.prog 3 #[coV c, .int .u16 i] w fun e w' => e = .returned (.bool true) ∧ Below w.heap.size w w' := by
  have CS := Lib.hid (fun W => shown_any W)
  obtain ⟨x, n, v, hr⟩ : ∃ x n v, stp c i = (x, n, v) := ⟨_, _, _, rfl⟩
  have C1 := Lib.hid (fun W => step_any W c i)
  have C2 := Lib.hid (fun W => rstep_any W c i hc h0 h1)
  rw [hr] at C1 C2
  have C3 := Lib.hid (fun W => brk_any W c)
  have C4 := Lib.hid (fun W => rbrk_any W c)
  have C5 := Lib.hid (fun W => out_any W c i)
  obtain ⟨y, hy⟩ : ∃ y, brk c = y := ⟨_, rfl⟩
  rw [hy] at C3 C4
  have q1 := eq_same x
  have q2 := eq_same y
  have q3 : IntKind.u16.wrap (i + c.2.2.1) = outN c i := u16_wrap _
  have HB := Lib.hid ((Below.refl w.heap.size w).alloc (Nat.le_refl _) (coO c))
  have D := Lib.hid (CBlk.new w c)
  clear hc h0 h1 hr hy
  go_enter Try.func3, Try.ntmps3
  go_wp2_with fail
  refine (CS.out _).mono ?_
  rintro e w1 ⟨rfl, hb⟩
  have H1 := Lib.hid (HB.out.trans (hb.mono HB.out.size))
  have D1 := D.out.bel hb D.out.lt
  have c0 := D1.c0
  have c1 := D1.c1
  have c2 := D1.c2
  have c3 := D1.c3
  have HD1 := Lib.hid D1
  clear hb HB D CS D1
  go_wp2_with fail
  refine (C1.out _).mono ?_
  rintro e w2 ⟨rfl, hb⟩
  have hbx : Below w2.heap.size w2 (w2.alloc (coO x)) := (Below.refl _ _).alloc (Nat.le_refl _) _
  have H2 := Lib.hid ((H1.out.trans (hb.mono H1.out.size)).trans (hbx.mono (H1.out.trans (hb.mono H1.out.size)).size))
  have D2 := (HD1.out.bel hb HD1.out.lt).bel hbx (HD1.out.bel hb HD1.out.lt).lt
  have HE2 := Lib.hid (CBlk.new w2 x)
  clear c0 c1 c2 c3
  have c0 := D2.c0
  have c1 := D2.c1
  have c2 := D2.c2
  have c3 := D2.c3
  have HD2 := Lib.hid D2
  clear hb hbx HD1 H1 C1 D2
  go_wp2_with fail
  refine (C2.out _).mono ?_
  rintro e w3 ⟨rfl, hb⟩
  have hbx : Below w3.heap.size w3 (w3.alloc (coO x)) := (Below.refl _ _).alloc (Nat.le_refl _) _
  have H3 := Lib.hid ((H2.out.trans (hb.mono H2.out.size)).trans (hbx.mono (H2.out.trans (hb.mono H2.out.size)).size))
  have D3 := (HD2.out.bel hb HD2.out.lt).bel hbx (HD2.out.bel hb HD2.out.lt).lt
  have E3 := (HE2.out.bel hb HE2.out.lt).bel hbx (HE2.out.bel hb HE2.out.lt).lt
  have F3 := CBlk.new w3 x
  clear c0 c1 c2 c3
  have HD3 := Lib.hid D3
  have HE3 := Lib.hid E3
  have HF3 := Lib.hid F3
  clear hb hbx HD2 HE2 H2 C2 D3 E3 F3
  go_wp2_with fail
  obtain ⟨w4, hw4⟩ : ∃ w4, w3.alloc (coO x) = w4 := ⟨_, rfl⟩
  rw [hw4] at HD3 HE3 HF3 H3
  rw [hw4]
  have f0 : ∀ W, Below w4.heap.size w4 W → W.cell? ⟨w.heap.size, 0, none⟩ = some (.bool c.1) := fun W hW => (HD3.out.bel hW HD3.out.lt).c0
  have f1 : ∀ W, Below w4.heap.size w4 W → W.cell? ⟨w.heap.size, 1, none⟩ = some (.int .u16 c.2.1) := fun W hW => (HD3.out.bel hW HD3.out.lt).c1
  have f2 : ∀ W, Below w4.heap.size w4 W → W.cell? ⟨w.heap.size, 2, none⟩ = some (.int .u16 c.2.2.1) := fun W hW => (HD3.out.bel hW HD3.out.lt).c2
  have f3 : ∀ W, Below w4.heap.size w4 W → W.cell? ⟨w.heap.size, 3, none⟩ = some (.int .u16 c.2.2.2) := fun W hW => (HD3.out.bel hW HD3.out.lt).c3
  have g0 : ∀ W, Below w4.heap.size w4 W → W.cell? ⟨w2.heap.size, 0, none⟩ = some (.bool x.1) := fun W hW => (HE3.out.bel hW HE3.out.lt).c0
  have g1 : ∀ W, Below w4.heap.size w4 W → W.cell? ⟨w2.heap.size, 1, none⟩ = some (.int .u16 x.2.1) := fun W hW => (HE3.out.bel hW HE3.out.lt).c1
  have g2 : ∀ W, Below w4.heap.size w4 W → W.cell? ⟨w2.heap.size, 2, none⟩ = some (.int .u16 x.2.2.1) := fun W hW => (HE3.out.bel hW HE3.out.lt).c2
  have g3 : ∀ W, Below w4.heap.size w4 W → W.cell? ⟨w2.heap.size, 3, none⟩ = some (.int .u16 x.2.2.2) := fun W hW => (HE3.out.bel hW HE3.out.lt).c3
  have k0 : ∀ W, Below w4.heap.size w4 W → W.cell? ⟨w3.heap.size, 0, none⟩ = some (.bool x.1) := fun W hW => (HF3.out.bel hW HF3.out.lt).c0
  have k1 : ∀ W, Below w4.heap.size w4 W → W.cell? ⟨w3.heap.size, 1, none⟩ = some (.int .u16 x.2.1) := fun W hW => (HF3.out.bel hW HF3.out.lt).c1
  have k2 : ∀ W, Below w4.heap.size w4 W → W.cell? ⟨w3.heap.size, 2, none⟩ = some (.int .u16 x.2.2.1) := fun W hW => (HF3.out.bel hW HF3.out.lt).c2
  have k3 : ∀ W, Below w4.heap.size w4 W → W.cell? ⟨w3.heap.size, 3, none⟩ = some (.int .u16 x.2.2.2) := fun W hW => (HF3.out.bel hW HF3.out.lt).c3
  have hS : Below w4.heap.size w4 w4.drew := (Below.refl _ _).drew
  clear hw4
  refine region_seq (Below w4.heap.size w4) [(0, false), (1, false), (2, false), (3, false), (4, false), (5, false), (6, false), (7, false), (8, false), (9, false), (10, false), (11, false), (12, false), (13, false), (14, false), (16, false), (15, true), (17, true), (18, false), (19, false), (20, false), (21, false), (22, false), (24, false), (25, false), (26, false), (27, false), (23, true), (28, false), (29, false), (30, false)] (by kernel_rfl) (by kernel_rfl) rfl (by kernel_rfl) ?_
  iterate 16 (refine seq_read (v := _) rfl (fun _ _ _ h => h) hS (Or.inl ⟨by rfl, fun W hW => by go_simp <;> with_reducible rfl⟩) ?_; simp only [Act.put, List.setIfInBounds_toArray, List.set_cons_zero, List.set_cons_succ])
  refine seq_do rfl (fun K hK => ?_)
  go_simp
  refine (C3.out _).mono ?_
  rintro e w5 ⟨rfl, hb⟩
  have hS : Below w4.heap.size w4 w5 := hS.trans (hb.mono hS.size)
  refine hK.out _ _ _ (fun W h => h) hS ?_
  clear hK K hb
  refine seq_do rfl (fun K hK => ?_)
  go_simp
  refine (C4.out _).mono ?_
  rintro e w6 ⟨rfl, hb⟩
  have hS : Below w4.heap.size w4 w6 := hS.trans (hb.mono hS.size)
  refine hK.out _ _ _ (fun W h => h) hS ?_
  clear hK K hb
  iterate 9 (refine seq_read (v := _) rfl (fun _ _ _ h => h) hS (Or.inl ⟨by rfl, fun W hW => by go_simp <;> with_reducible rfl⟩) ?_; simp only [Act.put, List.setIfInBounds_toArray, List.set_cons_zero, List.set_cons_succ])
  refine seq_do rfl (fun K hK => ?_)
  go_simp
  refine (C5.out _).mono ?_
  rintro e w7 ⟨rfl, hb⟩
  have hS : Below w4.heap.size w4 w7 := hS.trans (hb.mono hS.size)
  refine hK.out _ _ _ (fun W h => h) hS ?_
  clear hK K hb
  iterate 3 (refine seq_read (v := _) rfl (fun _ _ _ h => h) hS (Or.inl ⟨by rfl, fun W hW => by go_simp <;> with_reducible rfl⟩) ?_; simp only [Act.put, List.setIfInBounds_toArray, List.set_cons_zero, List.set_cons_succ])
  refine seq_end ?_
  have H7 := Lib.hid (H3.out.trans (hS.mono H3.out.size))
  go_wp2
  go_ret
  exact ⟨rfl, H7.out⟩
end Go.Proofs.Ytbpfninaaenhpaa.Crs
