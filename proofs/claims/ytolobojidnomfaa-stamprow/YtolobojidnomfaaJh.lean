/- The reference's Start, StepClock, TimeOut of a clock. -/
import Derived.Test.YtolobojidnomfaaJg
set_option maxRecDepth 100000
namespace Go.Proofs.Ytolobojidnomfaa.Clk
open Go.RowKit
set_option linter.unusedVariables false

theorem round_mod (n : Int) : n.tmod 4294967296 % 4294967296 = n % 4294967296 := by
  have h3 := Int.mul_tdiv_add_tmod n 4294967296
  omega
set_option maxHeartbeats 4000000 in
theorem around_any (w : World) (n : Int) : Calls Try.prog 33 #[.int .i64 n] w fun e w' => e = .returned (.int .u32 (n % 4294967296)) ∧ w = w' := by
  have h1 := Int.tmod_lt_of_pos n (show (0 : Int) < 4294967296 by decide)
  have h2 := Int.lt_tmod_of_pos n (show (0 : Int) < 4294967296 by decide)
  rw [← round_mod n]
  obtain ⟨t, ht⟩ : ∃ t, n.tmod 4294967296 = t := ⟨_, rfl⟩
  rw [ht] at h1 h2 ⊢
  go_enter Try.func33, Try.ntmps33
  go_wp2
  go_ret
  exact ⟨rfl, rfl⟩
set_option maxHeartbeats 4000000 in
theorem rout_any (w : World) (c : Ck) (hc : CkOk c) (i : Int) (h0 : 0 ≤ i) (h1 : i ≤ 4294967295) : Calls Try.prog 36 #[ckV c, .int .u32 i] w fun e w' => e = .returned (.int .u32 (tim c i)) ∧ Below w.heap.size w w' := by
  have HB := Lib.hid ((Below.refl w.heap.size w).alloc (Nat.le_refl _) (ckO c))
  obtain ⟨a, o, l⟩ := c
  obtain ⟨⟨ha, ha2⟩, -, -⟩ := hc
  simp only at ha ha2
  go_enter Try.func36, Try.ntmps36
  go_wp2_with (go_at_call 33; refine (around_any _ _).mono ?_; rintro e w' ⟨rfl, rfl⟩)
  go_ret
  exact ⟨rfl, HB.out⟩
set_option maxHeartbeats 4000000 in
theorem rstep_any (w : World) (c : Ck) (hc : CkOk c) (i : Int) (h0 : 0 ≤ i) (h1 : i ≤ 4294967295) : Calls Try.prog 32 #[ckV c, .int .u32 i] w fun e w' => e = .returned (stV (stk c i, tim c i)) ∧ Below w.heap.size w w' := by
  have C1 := Lib.hid (fun W => rout_any W c hc i h0 h1)
  have HL := Lib.hid (fun W => lay2 (w' := W) w c (stk c i))
  unfold stk at *
  obtain ⟨q, hq⟩ : ∃ q, tim c i = q := ⟨_, rfl⟩
  rw [hq] at C1 ⊢
  rw [hq] at HL
  clear hq hc h0 h1
  go_enter Try.func32, Try.ntmps32
  go_wp2_with fail
  refine (C1.out _).mono ?_
  rintro e w1 ⟨rfl, hb⟩
  obtain ⟨h0, h1, hb1, h2, hb2⟩ := HL.out w1 hb
  have c0 := h0.c0
  have c1 := h0.c1
  have c2 := h0.c2
  have d0 := h1.c0
  have d1 := h1.c1
  have d2 := h1.c2
  have e0 := h1.frozen 0
  have e1 := h1.frozen 1
  have e2 := h1.frozen 2
  have HD := Lib.hid (And.intro h2 hb2)
  clear hb h0 h1 hb1 h2 hb2 C1 HL
  go_wp2
  exact ret2_at Try.results32 HD.out.1 ⟨rfl, HD.out.2⟩
set_option maxHeartbeats 4000000 in
theorem rstrt_any (w : World) (c : Ck) (hc : CkOk c) (i : Int) (h0 : 0 ≤ i) (h1 : i ≤ 4294967295) : Calls Try.prog 30 #[ckV c, .int .u32 i] w fun e w' => e = .returned (ckV (strt c i)) ∧ Below w.heap.size w w' := by
  obtain ⟨a, o, l⟩ := c
  obtain ⟨-, hl, hl2⟩ := hc
  simp only at hl hl2
  obtain ⟨n, hn, hs⟩ : ∃ n, (n = if a then l + 3000 else 0) ∧ strt (a, o, l) i = (a, (n - i) % 4294967296, l) := ⟨_, rfl, by cases a <;> simp [strt, fst0]⟩
  have hn1 : 0 ≤ n ∧ n ≤ 4294970295 := by rw [hn]; split <;> omega
  rw [hs]
  obtain ⟨g, hg⟩ : ∃ g, (n - i) % 4294967296 = g := ⟨_, rfl⟩
  rw [hg]
  have C1 : Hid (∀ W, Calls Try.prog 33 #[.int .i64 (n - i)] W fun e w' => e = .returned (.int .u32 g) ∧ W = w') := Lib.hid (fun W => by rw [← hg]; exact around_any W _)
  have HL := Lib.hid (lay2 (w' := ((w.alloc (ckO (a, o, l))).alloc (ckO ck0)).drew) w (a, o, l) (a, g, l) (Below.refl _ _).drew)
  clear hs hg
  cases a with
  | true =>
    simp only [if_true] at hn
    subst hn
    have q1 : IntKind.i64.wrap i = i := IntWalk.i64_in _ (by omega)
    have q2 : IntKind.i64.wrap (l + 3000 - i) = l + 3000 - i := IntWalk.i64_in _ (by omega)
    go_enter Try.func30, Try.ntmps30
    go_wp2_with fail
    obtain ⟨w1, hw1⟩ : ∃ w1, (w.alloc (ckO (true, o, l))).alloc (ckO ck0) = w1 := ⟨_, rfl⟩
    obtain ⟨h0, h1, hb, h2, hb2⟩ := HL.out
    rw [hw1] at h0 h1 hb h2 hb2
    rw [hw1]
    obtain ⟨we, hwe⟩ : ∃ we, w1.drew = we := ⟨_, rfl⟩
    rw [hwe] at h0 h1 hb h2 hb2
    have f0 : ∀ W, CBlk W w.heap.size (true, o, l) → W.cell? ⟨w.heap.size, 0, none⟩ = some (.bool true) := fun W hW => hW.c0
    have f2 : ∀ W, CBlk W w.heap.size (true, o, l) → W.cell? ⟨w.heap.size, 2, none⟩ = some (.int .u32 l) := fun W hW => hW.c2
    have d0 := h1.c0
    have d1 := h1.c1
    have d2 := h1.c2
    have e0 := h1.frozen 0
    have e1 := h1.frozen 1
    have e2 := h1.frozen 2
    have hS := h0
    have hS2 := h0.other (show w.heap.size ≠ w.heap.size + 1 from by omega) (true, g, l)
    dsimp only [put3] at hS2
    have HD := Lib.hid (And.intro h2 hb2)
    clear h0 h1 hb h2 hb2 HL hw1
    refine region_seq (fun W => CBlk W w.heap.size (true, o, l)) [(0, false), (1, false), (2, false), (3, false), (4, false), (5, false), (7, false), (8, false), (6, true), (9, false), (10, true)] (by kernel_rfl) (by kernel_rfl) rfl (by kernel_rfl) ?_
    rw [hwe]
    clear hwe
    iterate 8 (refine seq_read (v := _) rfl (fun _ _ _ h => h) hS (Or.inl ⟨by rfl, fun W hW => by go_simp <;> with_reducible rfl⟩) ?_; simp only [Act.put, List.setIfInBounds_toArray, List.set_cons_zero, List.set_cons_succ])
    refine seq_do rfl (fun K hK => ?_)
    go_simp
    refine (C1.out _).mono ?_
    rintro e w2 ⟨rfl, rfl⟩
    refine hK.out _ _ _ (fun W h => h) hS ?_
    clear hK K
    iterate 1 (refine seq_read (v := _) rfl (fun _ _ _ h => h) hS (Or.inl ⟨by rfl, fun W hW => by go_simp <;> with_reducible rfl⟩) ?_; simp only [Act.put, List.setIfInBounds_toArray, List.set_cons_zero, List.set_cons_succ])
    clear hS
    refine seq_do rfl (fun K hK => ?_)
    go_simp
    refine hK.out _ _ _ (fun W h => h) hS2 ?_
    clear hS2 f0 f2
    refine seq_end ?_
    go_wp2
    exact ret1_at Try.results30 HD.out.1 ⟨rfl, HD.out.2⟩
  | false =>
    simp only [Bool.false_eq_true, if_false] at hn
    subst hn
    have q1 : IntKind.i64.wrap i = i := IntWalk.i64_in _ (by omega)
    have q2 : IntKind.i64.wrap (-i) = -i := IntWalk.i64_in _ (by omega)
    rw [show (0 - i : Int) = -i from by omega] at C1
    go_enter Try.func30, Try.ntmps30
    go_wp2_with fail
    obtain ⟨w1, hw1⟩ : ∃ w1, (w.alloc (ckO (false, o, l))).alloc (ckO ck0) = w1 := ⟨_, rfl⟩
    obtain ⟨h0, h1, hb, h2, hb2⟩ := HL.out
    rw [hw1] at h0 h1 hb h2 hb2
    rw [hw1]
    obtain ⟨we, hwe⟩ : ∃ we, w1.drew = we := ⟨_, rfl⟩
    rw [hwe] at h0 h1 hb h2 hb2
    have f0 : ∀ W, CBlk W w.heap.size (false, o, l) → W.cell? ⟨w.heap.size, 0, none⟩ = some (.bool false) := fun W hW => hW.c0
    have f2 : ∀ W, CBlk W w.heap.size (false, o, l) → W.cell? ⟨w.heap.size, 2, none⟩ = some (.int .u32 l) := fun W hW => hW.c2
    have d0 := h1.c0
    have d1 := h1.c1
    have d2 := h1.c2
    have e0 := h1.frozen 0
    have e1 := h1.frozen 1
    have e2 := h1.frozen 2
    have hS := h0
    have hS2 := h0.other (show w.heap.size ≠ w.heap.size + 1 from by omega) (false, g, l)
    dsimp only [put3] at hS2
    have HD := Lib.hid (And.intro h2 hb2)
    clear h0 h1 hb h2 hb2 HL hw1
    refine region_seq (fun W => CBlk W w.heap.size (false, o, l)) [(0, false), (1, false), (2, false), (3, false), (4, false), (5, false), (7, false), (8, false), (6, true), (9, false), (10, true)] (by kernel_rfl) (by kernel_rfl) rfl (by kernel_rfl) ?_
    rw [hwe]
    clear hwe
    iterate 8 (refine seq_read (v := _) rfl (fun _ _ _ h => h) hS (Or.inl ⟨by rfl, fun W hW => by go_simp <;> with_reducible rfl⟩) ?_; simp only [Act.put, List.setIfInBounds_toArray, List.set_cons_zero, List.set_cons_succ])
    refine seq_do rfl (fun K hK => ?_)
    go_simp
    refine (C1.out _).mono ?_
    rintro e w2 ⟨rfl, rfl⟩
    refine hK.out _ _ _ (fun W h => h) hS ?_
    clear hK K
    iterate 1 (refine seq_read (v := _) rfl (fun _ _ _ h => h) hS (Or.inl ⟨by rfl, fun W hW => by go_simp <;> with_reducible rfl⟩) ?_; simp only [Act.put, List.setIfInBounds_toArray, List.set_cons_zero, List.set_cons_succ])
    clear hS
    refine seq_do rfl (fun K hK => ?_)
    go_simp
    refine hK.out _ _ _ (fun W h => h) hS2 ?_
    clear hS2 f0 f2
    refine seq_end ?_
    go_wp2
    exact ret1_at Try.results30 HD.out.1 ⟨rfl, HD.out.2⟩
end Go.Proofs.Ytolobojidnomfaa.Clk
