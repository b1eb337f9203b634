/- The contracts of the reference's Live, Keep, Drop, Refs. -/
import Derived.Test.YtachodjpiklpkaaEl
import Derived.Test.YtachodjpiklpkaaSqx
set_option maxRecDepth 100000
namespace Go.Proofs.Ytachodjpiklpkaa.Arn
open Go.RowKit
set_option linter.unusedVariables false

set_option maxHeartbeats 4000000 in
theorem rlive_any (w : World) (b g c : Nat) (y : Value) (L : List Slt) (s gn : Int) (hA : St w b g c y L) (hL : L.length ≤ 1024) :
    Calls Try.prog 27 #[.pointer (some ⟨b, 0, none⟩), hnV s gn] w fun e w' => e = .returned (.bool (liveB L s gn)) ∧ Below w.heap.size w w' := by
  have hB := (Below.refl w.heap.size w).alloc (Nat.le_refl _) (hnO s gn)
  have hn := HBlk.new w s gn
  have hA1 := hA.bel hB
  generalize hw1 : w.alloc (hnO s gn) = w1 at hB hn hA1
  have f0 : ∀ W, Below w1.heap.size w1 W → W.cell? ⟨w.heap.size, 0, none⟩ = some (.int .i64 s) := fun W hW => (hn.bel hW hn.lt).c0
  have f1 : ∀ W, Below w1.heap.size w1 W → W.cell? ⟨w.heap.size, 1, none⟩ = some (.int .u32 gn) := fun W hW => (hn.bel hW hn.lt).c1
  have fa : ∀ W, Below w1.heap.size w1 W → W.cell? ⟨b, 0, none⟩ = some (.slice (some ⟨g, 0, none⟩) L.length c) := fun W hW => (hA1.bel hW).blk.c0
  have hS : Below w1.heap.size w1 w1.drew := (Below.refl _ _).drew
  have HB := Lib.hid hB
  have HA := Lib.hid hA1
  clear hB hA hA1 hn
  obtain ⟨A, hQ⟩ : ∃ A, liveB L s gn = A := ⟨_, rfl⟩
  rw [hQ]
  have HQ := Lib.hid hQ
  clear hQ
  rcases hnd_cases L s with h0 | ⟨h1, h0⟩ | ⟨k, x, rfl, hk, hx⟩
  · obtain rfl : false = A := by rw [← HQ.out, liveB_neg h0]
    have h0' : decide (0 ≤ s) = false := by simp; omega
    go_enter Try.func27, Try.ntmps27
    go_wp2_with fail
    refine region_seq (Below w1.heap.size w1) [(0, false), (1, false), (2, false), (3, false), (4, false), (5, false), (6, false), (7, false), (8, false), (9, false), (10, false), (11, false), (12, false), (13, false), (14, false), (15, false), (16, false), (17, false), (18, false), (19, false), (20, false), (21, false), (22, false), (23, false), (24, false), (25, false), (26, false), (27, false), (28, false), (29, false), (30, false), (31, false), (32, false), (33, false), (34, false), (35, false), (36, false), (37, false), (38, false), (39, false)] (by kernel_rfl) (by kernel_rfl) rfl (by kernel_rfl) ?_
    iterate 4 (refine seq_read (v := _) rfl (fun _ _ _ h => h) hS (Or.inl ⟨by rfl, fun W hW => by go_simp <;> with_reducible rfl⟩) ?_; simp only [Act.put, List.setIfInBounds_toArray, List.set_cons_zero, List.set_cons_succ])
    iterate 8 (refine seq_read (v := undef) rfl (fun _ _ _ h => h) hS (Or.inr ⟨by rfl, rfl⟩) ?_; simp only [Act.put, List.setIfInBounds_toArray, List.set_cons_zero, List.set_cons_succ])
    iterate 2 (refine seq_read (v := _) rfl (fun _ _ _ h => h) hS (Or.inl ⟨by rfl, fun W hW => by go_simp <;> with_reducible rfl⟩) ?_; simp only [Act.put, List.setIfInBounds_toArray, List.set_cons_zero, List.set_cons_succ])
    iterate 10 (refine seq_read (v := undef) rfl (fun _ _ _ h => h) hS (Or.inr ⟨by rfl, rfl⟩) ?_; simp only [Act.put, List.setIfInBounds_toArray, List.set_cons_zero, List.set_cons_succ])
    iterate 2 (refine seq_read (v := _) rfl (fun _ _ _ h => h) hS (Or.inl ⟨by rfl, fun W hW => by go_simp <;> with_reducible rfl⟩) ?_; simp only [Act.put, List.setIfInBounds_toArray, List.set_cons_zero, List.set_cons_succ])
    iterate 12 (refine seq_read (v := undef) rfl (fun _ _ _ h => h) hS (Or.inr ⟨by rfl, rfl⟩) ?_; simp only [Act.put, List.setIfInBounds_toArray, List.set_cons_zero, List.set_cons_succ])
    iterate 2 (refine seq_read (v := _) rfl (fun _ _ _ h => h) hS (Or.inl ⟨by rfl, fun W hW => by go_simp <;> with_reducible rfl⟩) ?_; simp only [Act.put, List.setIfInBounds_toArray, List.set_cons_zero, List.set_cons_succ])
    refine seq_end ?_
    go_wp2_with fail
    go_ret
    exact ⟨rfl, HB.out.drew⟩
  · obtain rfl : false = A := by rw [← HQ.out, liveB_far h1]
    have h0' : decide (0 ≤ s) = true := by simp; omega
    have h1' : decide (s < (L.length : Int)) = false := by simp; omega
    go_enter Try.func27, Try.ntmps27
    go_wp2_with fail
    refine region_seq (Below w1.heap.size w1) [(0, false), (1, false), (2, false), (3, false), (4, false), (5, false), (6, false), (7, false), (8, false), (9, false), (10, false), (11, false), (12, false), (13, false), (14, false), (15, false), (16, false), (17, false), (18, false), (19, false), (20, false), (21, false), (22, false), (23, false), (24, false), (25, false), (26, false), (27, false), (28, false), (29, false), (30, false), (31, false), (32, false), (33, false), (34, false), (35, false), (36, false), (37, false), (38, false), (39, false)] (by kernel_rfl) (by kernel_rfl) rfl (by kernel_rfl) ?_
    iterate 14 (refine seq_read (v := _) rfl (fun _ _ _ h => h) hS (Or.inl ⟨by rfl, fun W hW => by go_simp <;> with_reducible rfl⟩) ?_; simp only [Act.put, List.setIfInBounds_toArray, List.set_cons_zero, List.set_cons_succ])
    iterate 10 (refine seq_read (v := undef) rfl (fun _ _ _ h => h) hS (Or.inr ⟨by rfl, rfl⟩) ?_; simp only [Act.put, List.setIfInBounds_toArray, List.set_cons_zero, List.set_cons_succ])
    iterate 2 (refine seq_read (v := _) rfl (fun _ _ _ h => h) hS (Or.inl ⟨by rfl, fun W hW => by go_simp <;> with_reducible rfl⟩) ?_; simp only [Act.put, List.setIfInBounds_toArray, List.set_cons_zero, List.set_cons_succ])
    iterate 12 (refine seq_read (v := undef) rfl (fun _ _ _ h => h) hS (Or.inr ⟨by rfl, rfl⟩) ?_; simp only [Act.put, List.setIfInBounds_toArray, List.set_cons_zero, List.set_cons_succ])
    iterate 2 (refine seq_read (v := _) rfl (fun _ _ _ h => h) hS (Or.inl ⟨by rfl, fun W hW => by go_simp <;> with_reducible rfl⟩) ?_; simp only [Act.put, List.setIfInBounds_toArray, List.set_cons_zero, List.set_cons_succ])
    refine seq_end ?_
    go_wp2_with fail
    go_ret
    exact ⟨rfl, HB.out.drew⟩
  · rw [liveB_at gn hx] at HQ
    have h0' : decide (0 ≤ (k : Int)) = true := by simp
    have h1' : decide (k < L.length) = true := by simp; omega
    have fg : ∀ W, Below w1.heap.size w1 W → W.cell? ⟨g, k * 2, none⟩ = some (.int .u32 x.1) := fun W hW => (HA.out.bel hW).row.gen hx
    have fr : ∀ W, Below w1.heap.size w1 W → W.cell? ⟨g, k * 2 + 1, none⟩ = some (.int .i64 x.2) := fun W hW => (HA.out.bel hW).row.refs hx
    by_cases h2 : 0 < x.2
    · have h2' : decide (0 < x.2) = true := by simp; exact h2
      rw [h2'] at HQ
      clear h2
      have h3 : (x.1 == gn) = A := by rw [← HQ.out, Bool.true_and, Bool.eq_iff_iff]; simp
      go_enter Try.func27, Try.ntmps27
      go_wp2_with fail
      refine region_seq (Below w1.heap.size w1) [(0, false), (1, false), (2, false), (3, false), (4, false), (5, false), (6, false), (7, false), (8, false), (9, false), (10, false), (11, false), (12, false), (13, false), (14, false), (15, false), (16, false), (17, false), (18, false), (19, false), (20, false), (21, false), (22, false), (23, false), (24, false), (25, false), (26, false), (27, false), (28, false), (29, false), (30, false), (31, false), (32, false), (33, false), (34, false), (35, false), (36, false), (37, false), (38, false), (39, false)] (by kernel_rfl) (by kernel_rfl) rfl (by kernel_rfl) ?_
      iterate 40 (refine seq_read (v := _) rfl (fun _ _ _ h => h) hS (Or.inl ⟨by rfl, fun W hW => by go_simp <;> with_reducible rfl⟩) ?_; simp only [Act.put, List.setIfInBounds_toArray, List.set_cons_zero, List.set_cons_succ])
      refine seq_end ?_
      go_wp2_with fail
      go_ret
      exact ⟨rfl, HB.out.drew⟩
    · have h2' : decide (0 < x.2) = false := by simp; omega
      obtain rfl : false = A := by rw [← HQ.out, h2', Bool.false_and]
      clear h2
      go_enter Try.func27, Try.ntmps27
      go_wp2_with fail
      refine region_seq (Below w1.heap.size w1) [(0, false), (1, false), (2, false), (3, false), (4, false), (5, false), (6, false), (7, false), (8, false), (9, false), (10, false), (11, false), (12, false), (13, false), (14, false), (15, false), (16, false), (17, false), (18, false), (19, false), (20, false), (21, false), (22, false), (23, false), (24, false), (25, false), (26, false), (27, false), (28, false), (29, false), (30, false), (31, false), (32, false), (33, false), (34, false), (35, false), (36, false), (37, false), (38, false), (39, false)] (by kernel_rfl) (by kernel_rfl) rfl (by kernel_rfl) ?_
      iterate 26 (refine seq_read (v := _) rfl (fun _ _ _ h => h) hS (Or.inl ⟨by rfl, fun W hW => by go_simp <;> with_reducible rfl⟩) ?_; simp only [Act.put, List.setIfInBounds_toArray, List.set_cons_zero, List.set_cons_succ])
      iterate 12 (refine seq_read (v := undef) rfl (fun _ _ _ h => h) hS (Or.inr ⟨by rfl, rfl⟩) ?_; simp only [Act.put, List.setIfInBounds_toArray, List.set_cons_zero, List.set_cons_succ])
      iterate 2 (refine seq_read (v := _) rfl (fun _ _ _ h => h) hS (Or.inl ⟨by rfl, fun W hW => by go_simp <;> with_reducible rfl⟩) ?_; simp only [Act.put, List.setIfInBounds_toArray, List.set_cons_zero, List.set_cons_succ])
      refine seq_end ?_
      go_wp2_with fail
      go_ret
      exact ⟨rfl, HB.out.drew⟩

set_option maxHeartbeats 4000000 in
theorem rkeep_any (w : World) (b g c : Nat) (y : Value) (L : List Slt) (s gn M : Int) (hA : St w b g c y L) (hL : L.length ≤ 1024) (hO : OkS M L) (hM : M ≤ 4611686018427387904) :
    Calls Try.prog 14 #[.pointer (some ⟨b, 0, none⟩), hnV s gn] w fun e w' => e = .returned (.int .i64 (callE L s gn)) ∧ St w' b g c y (keepL L s gn) ∧ Upd (· = g) w w' := by
  have CL : Hid (∀ W, Below w.heap.size w W → Calls Try.prog 27 #[.pointer (some ⟨b, 0, none⟩), hnV s gn] W fun e w' => e = .returned (.bool (liveB L s gn)) ∧ Below W.heap.size W w') :=
    fun W hW => rlive_any W b g c y L s gn (hA.bel hW) hL
  have hB := Lib.hid ((Below.refl w.heap.size w).alloc (Nat.le_refl _) (hnO s gn))
  have D := Lib.hid (HBlk.new w s gn)
  have c0 := D.out.c0
  have c1 := D.out.c1
  have HA := Lib.hid hA
  clear hA
  rcases live_cases L s gn with hl | ⟨k, x, rfl, hx, hp, rfl, hl⟩
  · rw [hl] at CL
    rw [callE_no hl, keepL_no hl]
    clear hl
    go_enter Try.func14, Try.ntmps14
    go_wp2_with fail
    refine (CL.out _ hB.out).mono ?_
    rintro e w2 ⟨rfl, hb2⟩
    have H2 := Lib.hid (hB.out.trans (hb2.mono hB.out.size))
    clear hb2 hB c0 c1
    go_wp2_with fail
    go_ret
    exact ⟨rfl, HA.out.bel H2.out, .of H2.out⟩
  · rw [hl] at CL
    rw [callE_yes hl, keepL_at hx hl]
    clear hl
    have hxx := hO.at_ hx
    have hk : k < L.length := (List.getElem?_eq_some_iff.1 hx).1
    have q1 : IntKind.i64.wrap (x.2 + 1) = x.2 + 1 := IntWalk.i64_in _ (by omega)
    go_enter Try.func14, Try.ntmps14
    go_wp2_with fail
    refine (CL.out _ hB.out).mono ?_
    rintro e w2 ⟨rfl, hb2⟩
    have H2 := Lib.hid (hB.out.trans (hb2.mono hB.out.size))
    have D2 := D.out.bel hb2 D.out.lt
    have A2 := HA.out.bel H2.out
    have f0 : ∀ W, Below w2.heap.size w2 W → W.cell? ⟨w.heap.size, 0, none⟩ = some (.int .i64 (k : Int)) := fun W hW => (D2.bel hW D2.lt).c0
    have fa : ∀ W, Below w2.heap.size w2 W → W.cell? ⟨b, 0, none⟩ = some (.slice (some ⟨g, 0, none⟩) L.length c) := fun W hW => (A2.bel hW).blk.c0
    have fr : ∀ W, Below w2.heap.size w2 W → W.cell? ⟨g, k * 2 + 1, none⟩ = some (.int .i64 x.2) := fun W hW => (A2.bel hW).row.refs hx
    have HA2 := Lib.hid A2
    have HD2 := Lib.hid D2
    clear hb2 hB c0 c1 A2 D2
    go_wp2_with fail
    have hS : Below w2.heap.size w2 w2.drew := (Below.refl _ _).drew
    refine region_seqX (Below w2.heap.size w2) 12 [(0, false), (1, false), (2, false), (3, false), (4, false), (5, false), (6, false), (7, false), (8, false), (9, false), (10, false), (11, false), (12, true)] (by kernel_rfl) (by kernel_rfl) rfl (by kernel_rfl) ?_
    obtain ⟨w3, hw3⟩ : ∃ w3, w2.drew = w3 := ⟨_, rfl⟩
    rw [hw3] at hS ⊢
    iterate 12 (refine seqX_read (v := _) rfl (fun _ _ _ h => h) hS (Or.inl ⟨by rfl, fun W hW => by go_simp <;> with_reducible rfl⟩) ?_; simp only [Act.put, List.setIfInBounds_toArray, List.set_cons_zero, List.set_cons_succ])
    have A3 := HA2.out.bel hS
    have HU := Lib.hid ((Upd.of (S := (· = g)) (H2.out.trans (hS.mono H2.out.size))).setCell (b := g) (i := k * 2 + 1) (.inl rfl) (.int .i64 (x.2 + 1)))
    have HR := Lib.hid (A3.row.setRefs hx (x.2 + 1))
    have HK := Lib.hid (A3.blk.upd ((Upd.refl (· = g) w3).setCell (b := g) (i := k * 2 + 1) (.inl rfl) (.int .i64 (x.2 + 1))) A3.ne)
    have HC := Lib.hid A3.cap
    have cr := A3.row.refs hx
    have fz := A3.row.frozen (k * 2 + 1)
    clear f0 fa fr A3 hS
    refine seqX_last rfl (fun K hK => ?_)
    go_simp
    refine hK.out _ _ ?_
    clear hK K
    go_wp2_with fail
    go_ret
    exact ⟨rfl, ⟨by rw [List.length_set]; exact HK.out, HR.out, by rw [List.length_set]; exact HC.out⟩, HU.out⟩

set_option maxHeartbeats 4000000 in
theorem rrefs_any (w : World) (b g c : Nat) (y : Value) (L : List Slt) (s gn M : Int) (hA : St w b g c y L) (hL : L.length ≤ 1024) (hO : OkS M L) (hM : M ≤ 4611686018427387904) :
    Calls Try.prog 18 #[.pointer (some ⟨b, 0, none⟩), hnV s gn] w fun e w' => e = .returned (.int .i64 (refsV L s gn)) ∧ Below w.heap.size w w' := by
  have CL : Hid (∀ W, Below w.heap.size w W → Calls Try.prog 27 #[.pointer (some ⟨b, 0, none⟩), hnV s gn] W fun e w' => e = .returned (.bool (liveB L s gn)) ∧ Below W.heap.size W w') :=
    fun W hW => rlive_any W b g c y L s gn (hA.bel hW) hL
  have hB := Lib.hid ((Below.refl w.heap.size w).alloc (Nat.le_refl _) (hnO s gn))
  have D := Lib.hid (HBlk.new w s gn)
  have c0 := D.out.c0
  have c1 := D.out.c1
  have HA := Lib.hid hA
  clear hA
  rcases live_cases L s gn with hl | ⟨k, x, rfl, hx, hp, rfl, hl⟩
  · rw [hl] at CL
    rw [refsV_no hl]
    clear hl
    go_enter Try.func18, Try.ntmps18
    go_wp2_with fail
    refine (CL.out _ hB.out).mono ?_
    rintro e w2 ⟨rfl, hb2⟩
    have H2 := Lib.hid (hB.out.trans (hb2.mono hB.out.size))
    clear hb2 hB c0 c1
    go_wp2_with fail
    go_ret
    exact ⟨rfl, H2.out⟩
  · rw [hl] at CL
    rw [refsV_at hx hl]
    clear hl
    have hxx := hO.at_ hx
    have hk : k < L.length := (List.getElem?_eq_some_iff.1 hx).1
    go_enter Try.func18, Try.ntmps18
    go_wp2_with fail
    refine (CL.out _ hB.out).mono ?_
    rintro e w2 ⟨rfl, hb2⟩
    have H2 := Lib.hid (hB.out.trans (hb2.mono hB.out.size))
    have D2 := D.out.bel hb2 D.out.lt
    have A2 := HA.out.bel H2.out
    have f0 : ∀ W, Below w2.heap.size w2 W → W.cell? ⟨w.heap.size, 0, none⟩ = some (.int .i64 (k : Int)) := fun W hW => (D2.bel hW D2.lt).c0
    have fa : ∀ W, Below w2.heap.size w2 W → W.cell? ⟨b, 0, none⟩ = some (.slice (some ⟨g, 0, none⟩) L.length c) := fun W hW => (A2.bel hW).blk.c0
    have fr : ∀ W, Below w2.heap.size w2 W → W.cell? ⟨g, k * 2 + 1, none⟩ = some (.int .i64 x.2) := fun W hW => (A2.bel hW).row.refs hx
    have HA2 := Lib.hid A2
    have HD2 := Lib.hid D2
    clear hb2 hB c0 c1 A2 D2
    go_wp2_with fail
    have hS : Below w2.heap.size w2 w2.drew := (Below.refl _ _).drew
    refine region_seq (Below w2.heap.size w2) [(0, false), (1, false), (2, false), (3, false), (4, false), (5, false), (6, false), (7, false), (8, false), (9, false)] (by kernel_rfl) (by kernel_rfl) rfl (by kernel_rfl) ?_
    iterate 10 (refine seq_read (v := _) rfl (fun _ _ _ h => h) hS (Or.inl ⟨by rfl, fun W hW => by go_simp <;> with_reducible rfl⟩) ?_; simp only [Act.put, List.setIfInBounds_toArray, List.set_cons_zero, List.set_cons_succ])
    refine seq_end ?_
    go_wp2_with fail
    go_ret
    exact ⟨rfl, H2.out.drew⟩

set_option maxHeartbeats 4000000 in
theorem rdrop_any (w : World) (b g c : Nat) (y : Value) (L : List Slt) (s gn M : Int) (hA : St w b g c y L) (hL : L.length ≤ 1024) (hO : OkS M L) (hM : M ≤ 4611686018427387904) :
    Calls Try.prog 16 #[.pointer (some ⟨b, 0, none⟩), hnV s gn] w fun e w' => e = .returned (.int .i64 (callE L s gn)) ∧ St w' b g c y (dropL L s gn) ∧ Upd (· = g) w w' := by
  have CL : Hid (∀ W, Below w.heap.size w W → Calls Try.prog 27 #[.pointer (some ⟨b, 0, none⟩), hnV s gn] W fun e w' => e = .returned (.bool (liveB L s gn)) ∧ Below W.heap.size W w') :=
    fun W hW => rlive_any W b g c y L s gn (hA.bel hW) hL
  have hB := Lib.hid ((Below.refl w.heap.size w).alloc (Nat.le_refl _) (hnO s gn))
  have D := Lib.hid (HBlk.new w s gn)
  have c0 := D.out.c0
  have c1 := D.out.c1
  have HA := Lib.hid hA
  clear hA
  rcases live_cases L s gn with hl | ⟨k, x, rfl, hx, hp, rfl, hl⟩
  · rw [hl] at CL
    rw [callE_no hl, dropL_no hl]
    clear hl
    go_enter Try.func16, Try.ntmps16
    go_wp2_with fail
    refine (CL.out _ hB.out).mono ?_
    rintro e w2 ⟨rfl, hb2⟩
    have H2 := Lib.hid (hB.out.trans (hb2.mono hB.out.size))
    clear hb2 hB c0 c1
    go_wp2_with fail
    go_ret
    exact ⟨rfl, HA.out.bel H2.out, .of H2.out⟩
  · rw [hl] at CL
    rw [callE_yes hl, dropL_at hx hl]
    obtain ⟨Z, hZ⟩ : ∃ Z, L.set k (dropped x) = Z := ⟨_, rfl⟩
    rw [hZ]
    have HZ := Lib.hid hZ
    clear hZ
    clear hl
    have hxx := hO.at_ hx
    have hk : k < L.length := (List.getElem?_eq_some_iff.1 hx).1
    have q1 : IntKind.i64.wrap (x.2 - 1) = x.2 - 1 := IntWalk.i64_in _ (by omega)
    go_enter Try.func16, Try.ntmps16
    go_wp2_with fail
    refine (CL.out _ hB.out).mono ?_
    rintro e w2 ⟨rfl, hb2⟩
    have H2 := Lib.hid (hB.out.trans (hb2.mono hB.out.size))
    have D2 := D.out.bel hb2 D.out.lt
    have A2 := HA.out.bel H2.out
    have f0 : ∀ W, Below w2.heap.size w2 W → W.cell? ⟨w.heap.size, 0, none⟩ = some (.int .i64 (k : Int)) := fun W hW => (D2.bel hW D2.lt).c0
    have fa : ∀ W, Below w2.heap.size w2 W → W.cell? ⟨b, 0, none⟩ = some (.slice (some ⟨g, 0, none⟩) L.length c) := fun W hW => (A2.bel hW).blk.c0
    have fr : ∀ W, Below w2.heap.size w2 W → W.cell? ⟨g, k * 2 + 1, none⟩ = some (.int .i64 x.2) := fun W hW => (A2.bel hW).row.refs hx
    have HA2 := Lib.hid A2
    have HD2 := Lib.hid D2
    clear hb2 hB c0 c1 A2 D2
    go_wp2_with fail
    have hS : Below w2.heap.size w2 w2.drew := (Below.refl _ _).drew
    refine region_seqX (Below w2.heap.size w2) 12 [(0, false), (1, false), (2, false), (3, false), (4, false), (5, false), (6, false), (7, false), (8, false), (9, false), (10, false), (11, false), (12, true)] (by kernel_rfl) (by kernel_rfl) rfl (by kernel_rfl) ?_
    obtain ⟨w3, hw3⟩ : ∃ w3, w2.drew = w3 := ⟨_, rfl⟩
    rw [hw3] at hS ⊢
    iterate 12 (refine seqX_read (v := _) rfl (fun _ _ _ h => h) hS (Or.inl ⟨by rfl, fun W hW => by go_simp <;> with_reducible rfl⟩) ?_; simp only [Act.put, List.setIfInBounds_toArray, List.set_cons_zero, List.set_cons_succ])
    have A3 := HA2.out.bel hS
    have D3 := HD2.out.bel hS HD2.out.lt
    have cr := A3.row.refs hx
    have fz := A3.row.frozen (k * 2 + 1)
    have hx3 : (L.set k (x.1, x.2 - 1))[k]? = some (x.1, x.2 - 1) := by rw [List.getElem?_set, if_pos rfl, if_pos hk]
    obtain ⟨w4, hw4⟩ : ∃ w4, w3.setCell ⟨g, k * 2 + 1, none⟩ (.int .i64 (x.2 - 1)) = w4 := ⟨_, rfl⟩
    have hu : Upd (· = g) w3 w4 := hw4 ▸ (Upd.refl (· = g) w3).setCell (b := g) (i := k * 2 + 1) (.inl rfl) (.int .i64 (x.2 - 1))
    have HU := Lib.hid ((Upd.of (S := (· = g)) (H2.out.trans (hS.mono H2.out.size))).trans hu)
    have A4 : St w4 b g c y (L.set k (x.1, x.2 - 1)) := ⟨by rw [List.length_set]; exact A3.blk.upd hu A3.ne, hw4 ▸ A3.row.setRefs hx (x.2 - 1), by rw [List.length_set]; exact A3.cap⟩
    have D4 := D3.upd hu (by show w.heap.size ≠ g; have := HA.out.lt.2; omega)
    have HA4 := Lib.hid A4
    have HD4 := Lib.hid D4
    clear f0 fa fr A3 hS hu A4 D3 D4
    refine seqX_last rfl (fun K hK => ?_)
    go_simp
    refine hK.out _ _ ?_
    clear hK K cr fz hw4
    have f0 : ∀ W, Below w4.heap.size w4 W → W.cell? ⟨w.heap.size, 0, none⟩ = some (.int .i64 (k : Int)) := fun W hW => (HD4.out.bel hW HD4.out.lt).c0
    have fa : ∀ W, Below w4.heap.size w4 W → W.cell? ⟨b, 0, none⟩ = some (.slice (some ⟨g, 0, none⟩) L.length c) := fun W hW => by have := (HA4.out.bel hW).blk.c0; rwa [List.length_set] at this
    have fr : ∀ W, Below w4.heap.size w4 W → W.cell? ⟨g, k * 2 + 1, none⟩ = some (.int .i64 (x.2 - 1)) := fun W hW => (HA4.out.bel hW).row.refs hx3
    have fg : ∀ W, Below w4.heap.size w4 W → W.cell? ⟨g, k * 2, none⟩ = some (.int .u32 x.1) := fun W hW => (HA4.out.bel hW).row.gen (x := (x.1, x.2 - 1)) hx3
    go_wp2_with fail
    have hS : Below w4.heap.size w4 w4.drew := (Below.refl _ _).drew
    refine region_seq (Below w4.heap.size w4) [(0, false), (1, false), (2, false), (3, false), (4, false), (5, false), (6, false), (7, false), (8, false), (9, false)] (by kernel_rfl) (by kernel_rfl) rfl (by kernel_rfl) ?_
    by_cases h1 : x.2 = 1
    · have q : (x.2 - 1 == 0) = true := by simp; omega
      have HD : Hid (Z = (L.set k (x.1, x.2 - 1)).set k ((x.1 + 1) % 4294967296, x.2 - 1)) := by show _ = _; rw [List.set_set, ← HZ.out]; unfold dropped; rw [if_pos h1, h1]; rfl
      have q2 : IntKind.u32.wrap (x.1 + 1) = (x.1 + 1) % 4294967296 := by simp [IntKind.wrap, IntKind.bits, IntKind.signed]
      clear h1
      generalize (x.1 + 1) % 4294967296 = z at *
      iterate 10 (refine seq_read (v := _) rfl (fun _ _ _ h => h) hS (Or.inl ⟨by rfl, fun W hW => by go_simp <;> with_reducible rfl⟩) ?_; simp only [Act.put, List.setIfInBounds_toArray, List.set_cons_zero, List.set_cons_succ])
      refine seq_end ?_
      go_wp2_with fail
      have hS := hS.drew
      refine region_seqX (Below w4.heap.size w4) 12 [(0, false), (1, false), (2, false), (3, false), (4, false), (5, false), (6, false), (7, false), (8, false), (9, false), (10, false), (11, false), (12, true)] (by kernel_rfl) (by kernel_rfl) rfl (by kernel_rfl) ?_
      obtain ⟨w5, hw5⟩ : ∃ w5, w4.drew.drew = w5 := ⟨_, rfl⟩
      rw [hw5] at hS ⊢
      iterate 12 (refine seqX_read (v := _) rfl (fun _ _ _ h => h) hS (Or.inl ⟨by rfl, fun W hW => by go_simp <;> with_reducible rfl⟩) ?_; simp only [Act.put, List.setIfInBounds_toArray, List.set_cons_zero, List.set_cons_succ])
      have A5 := HA4.out.bel hS
      have HU5 := Lib.hid ((HU.out.trans (.of hS)).setCell (b := g) (i := k * 2) (.inl rfl) (.int .u32 z))
      have HR := Lib.hid (A5.row.setGen hx3 z)
      have HK := Lib.hid (A5.blk.upd ((Upd.refl (· = g) w5).setCell (b := g) (i := k * 2) (.inl rfl) (.int .u32 z)) A5.ne)
      have HC := Lib.hid A5.cap
      have cr := A5.row.gen hx3
      have fz := A5.row.frozen (k * 2)
      clear f0 fa fr fg A5 hS
      refine seqX_last rfl (fun K hK => ?_)
      go_simp
      refine hK.out _ _ ?_
      clear hK K
      go_wp2_with fail
      go_ret
      exact ⟨rfl, by rw [HD.out]; exact ⟨by rw [List.length_set]; exact HK.out, HR.out, by rw [List.length_set]; exact HC.out⟩, HU5.out⟩
    · have q : (x.2 - 1 == 0) = false := by simp; omega
      have HD : Hid (Z = L.set k (x.1, x.2 - 1)) := by show _ = _; rw [← HZ.out]; unfold dropped; rw [if_neg h1]
      clear h1
      iterate 10 (refine seq_read (v := _) rfl (fun _ _ _ h => h) hS (Or.inl ⟨by rfl, fun W hW => by go_simp <;> with_reducible rfl⟩) ?_; simp only [Act.put, List.setIfInBounds_toArray, List.set_cons_zero, List.set_cons_succ])
      refine seq_end ?_
      go_wp2_with fail
      go_ret
      exact ⟨rfl, by rw [HD.out]; exact HA4.out.bel hS, HU.out.trans (.of hS)⟩
end Go.Proofs.Ytachodjpiklpkaa.Arn
