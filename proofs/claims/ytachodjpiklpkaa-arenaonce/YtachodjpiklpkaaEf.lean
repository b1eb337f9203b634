/- The contract of arena's live: the slot of a live handle. -/
import Derived.Test.YtachodjpiklpkaaEd
set_option maxRecDepth 100000
namespace Go.Proofs.Ytachodjpiklpkaa.Arn
open Go.RowKit
set_option linter.unusedVariables false

theorem liveB_neg {L : List Slt} {s g : Int} (h : s < 0) : liveB L s g = false := by
  unfold liveB; simp; omega
theorem liveB_far {L : List Slt} {s g : Int} (h : (L.length : Int) ≤ s) : liveB L s g = false := by
  unfold liveB; simp; omega
theorem liveB_at {L : List Slt} {k : Nat} {x : Slt} (g : Int) (h : L[k]? = some x) : liveB L k g = (decide (0 < x.2) && decide (x.1 = g)) := by
  have hk := (List.getElem?_eq_some_iff.1 h).1
  have hd : L.getD k (0, 0) = x := by rw [List.getD_eq_getElem?_getD, h]; rfl
  unfold liveB
  rw [Int.toNat_natCast, hd]
  have : decide (0 ≤ (k : Int) ∧ (k : Int) < L.length) = true := by simp; exact hk
  rw [this]; simp
/-- A handle is of no slot, or of the k-th one. -/
theorem hnd_cases (L : List Slt) (s : Int) : s < 0 ∨ ((L.length : Int) ≤ s ∧ 0 ≤ s) ∨ ∃ (k : Nat) (x : Slt), s = k ∧ k < L.length ∧ L[k]? = some x := by
  rcases Int.lt_or_le s 0 with h | h
  · exact .inl h
  · rcases Int.lt_or_le s L.length with h2 | h2
    · obtain ⟨k, rfl⟩ := Int.eq_ofNat_of_zero_le h
      have hk : k < L.length := by omega
      exact .inr (.inr ⟨k, _, rfl, hk, List.getElem?_eq_getElem hk⟩)
    · exact .inr (.inl ⟨h2, h⟩)

set_option maxHeartbeats 4000000 in
theorem live_any (w : World) (b g : Nat) (L : List Slt) (s gn : Int) (hA : Ar w b g L) (hL : L.length ≤ 1024) (hO : ∀ x ∈ L, 0 ≤ x.2) :
    Calls Try.prog 26 #[.pointer (some ⟨b, 0, none⟩), hnV s gn] w fun e w' => e = .returned (.pointer (if liveB L s gn then some ⟨g, s.toNat * 2, none⟩ else none)) ∧ Below w.heap.size w w' := by
  have hB := (Below.refl w.heap.size w).alloc (Nat.le_refl _) (hnO s gn)
  have hn := heap_alloc_new w (hnO s gn)
  have hA1 := hA.bel hB
  generalize hw1 : w.alloc (hnO s gn) = w1 at hB hn hA1
  have hsz : w1.heap.size = w.heap.size + 1 := by rw [← hw1]; simp
  have f0 : ∀ W, Below w1.heap.size w1 W → W.cell? ⟨w.heap.size, 0, none⟩ = some (.int .i64 s) := fun W hW => by
    rw [hW.cell (p := ⟨w.heap.size, 0, none⟩) (by show w.heap.size < _; omega), cell_of_row _ _ 0 _ _ _ hn]; rfl
  have f1 : ∀ W, Below w1.heap.size w1 W → W.cell? ⟨w.heap.size, 1, none⟩ = some (.int .u32 gn) := fun W hW => by
    rw [hW.cell (p := ⟨w.heap.size, 1, none⟩) (by show w.heap.size < _; omega), cell_of_row _ _ 1 _ _ _ hn]; rfl
  have fa : ∀ W, Below w1.heap.size w1 W → W.cell? ⟨b, 0, none⟩ = some (.slice (some ⟨g, 0, none⟩) L.length L.length) := fun W hW => (hA1.bel hW).c0
  have hS : Below w1.heap.size w1 w1.drew := (Below.refl _ _).drew
  have HB := Lib.hid hB
  have HA := Lib.hid hA1
  have HO := Lib.hid hO
  clear hB hA hA1 hn hO hsz
  obtain ⟨A, hQ⟩ : ∃ A, (if liveB L s gn then some (⟨g, s.toNat * 2, none⟩ : Addr) else none) = A := ⟨_, rfl⟩
  rw [hQ]
  have HQ := Lib.hid hQ
  clear hQ
  rcases hnd_cases L s with h0 | ⟨h1, h0⟩ | ⟨k, x, rfl, hk, hx⟩
  · obtain rfl : none = A := by rw [← HQ.out, liveB_neg h0]; rfl
    go_enter Try.func26, Try.ntmps26
    go_wp2_with fail
    refine region_seq (Below w1.heap.size w1) [(0, false), (1, false), (2, false), (3, false), (4, false), (5, false), (6, false), (7, false), (8, false), (9, false), (10, false), (11, false), (12, false), (13, false), (14, false), (15, false), (16, false)] (by kernel_rfl) (by kernel_rfl) rfl (by kernel_rfl) ?_
    iterate 8 (refine seq_read (v := _) rfl (fun _ _ _ h => h) hS (Or.inl ⟨by rfl, fun W hW => by go_simp <;> with_reducible rfl⟩) ?_; simp only [Act.put, List.setIfInBounds_toArray, List.set_cons_zero, List.set_cons_succ])
    iterate 8 (refine seq_read (v := undef) rfl (fun _ _ _ h => h) hS (Or.inr ⟨by rfl, rfl⟩) ?_; simp only [Act.put, List.setIfInBounds_toArray, List.set_cons_zero, List.set_cons_succ])
    iterate 1 (refine seq_read (v := _) rfl (fun _ _ _ h => h) hS (Or.inl ⟨by rfl, fun W hW => by go_simp <;> with_reducible rfl⟩) ?_; simp only [Act.put, List.setIfInBounds_toArray, List.set_cons_zero, List.set_cons_succ])
    refine seq_end ?_
    go_wp2_with fail
    go_ret
    exact ⟨rfl, HB.out.drew⟩
  · obtain rfl : none = A := by rw [← HQ.out, liveB_far h1]; rfl
    have h0' : decide (s < 0) = false := by simp; omega
    have h1' : decide ((L.length : Int) ≤ s) = true := by simp; omega
    go_enter Try.func26, Try.ntmps26
    go_wp2_with fail
    refine region_seq (Below w1.heap.size w1) [(0, false), (1, false), (2, false), (3, false), (4, false), (5, false), (6, false), (7, false), (8, false), (9, false), (10, false), (11, false), (12, false), (13, false), (14, false), (15, false), (16, false)] (by kernel_rfl) (by kernel_rfl) rfl (by kernel_rfl) ?_
    iterate 17 (refine seq_read (v := _) rfl (fun _ _ _ h => h) hS (Or.inl ⟨by rfl, fun W hW => by go_simp <;> with_reducible rfl⟩) ?_; simp only [Act.put, List.setIfInBounds_toArray, List.set_cons_zero, List.set_cons_succ])
    refine seq_end ?_
    go_wp2_with fail
    go_ret
    exact ⟨rfl, HB.out.drew⟩
  · rw [liveB_at gn hx] at HQ
    have h0' : decide ((k : Int) < 0) = false := by simp
    have h1' : decide (L.length ≤ k) = false := by simp; omega
    go_enter Try.func26, Try.ntmps26
    go_wp2_with fail
    refine region_seq (Below w1.heap.size w1) [(0, false), (1, false), (2, false), (3, false), (4, false), (5, false), (6, false), (7, false), (8, false), (9, false), (10, false), (11, false), (12, false), (13, false), (14, false), (15, false), (16, false)] (by kernel_rfl) (by kernel_rfl) rfl (by kernel_rfl) ?_
    iterate 17 (refine seq_read (v := _) rfl (fun _ _ _ h => h) hS (Or.inl ⟨by rfl, fun W hW => by go_simp <;> with_reducible rfl⟩) ?_; simp only [Act.put, List.setIfInBounds_toArray, List.set_cons_zero, List.set_cons_succ])
    refine seq_end ?_
    go_wp2_with fail
    refine region_seq (Below w1.heap.size w1) [(0, false), (1, false), (2, false), (3, false), (4, false), (5, false), (6, false), (7, false)] (by kernel_rfl) (by kernel_rfl) rfl (by kernel_rfl) ?_
    have hS := hS.drew
    iterate 8 (refine seq_read (v := _) rfl (fun _ _ _ h => h) hS (Or.inl ⟨by rfl, fun W hW => by go_simp <;> with_reducible rfl⟩) ?_; simp only [Act.put, List.setIfInBounds_toArray, List.set_cons_zero, List.set_cons_succ])
    refine seq_end ?_
    go_wp2_with fail
    have fg : ∀ W, Below w1.heap.size w1 W → W.cell? ⟨g, k * 2, none⟩ = some (.int .u32 x.1) := fun W hW => (HA.out.bel hW).row.gen hx
    have fr : ∀ W, Below w1.heap.size w1 W → W.cell? ⟨g, k * 2 + 1, none⟩ = some (.int .i64 x.2) := fun W hW => (HA.out.bel hW).row.refs hx
    refine region_seq (Below w1.heap.size w1) [(0, false), (1, false), (2, false), (3, true), (4, false), (5, false), (6, false), (7, false), (8, false), (9, false), (10, false), (11, false), (12, false)] (by kernel_rfl) (by kernel_rfl) rfl (by kernel_rfl) ?_
    have hS := hS.drew
    iterate 3 (refine seq_read (v := _) rfl (fun _ _ _ h => h) hS (Or.inl ⟨by rfl, fun W hW => by go_simp <;> with_reducible rfl⟩) ?_; simp only [Act.put, List.setIfInBounds_toArray, List.set_cons_zero, List.set_cons_succ])
    refine seq_do rfl (fun K hK => ?_)
    go_simp
    refine (isFree_any x _).mono ?_
    rintro e w2 ⟨rfl, hb2⟩
    have hS : Below w1.heap.size w1 w2 := hS.trans (hb2.mono hS.size)
    refine hK.out _ _ _ (fun W h => h) hS ?_
    clear hK K
    have HS := Lib.hid (HB.out.trans (hS.mono HB.out.size))
    have hr := HO.out x (List.mem_of_getElem? hx)
    by_cases h2 : x.2 = 0
    · obtain rfl : none = A := by rw [← HQ.out, h2]; simp
      have q : decide (x.2 = 0) = true := by simp [h2]
      rw [q]
      clear hr h2 q
      iterate 1 (refine seq_read (v := _) rfl (fun _ _ _ h => h) hS (Or.inl ⟨by rfl, fun W hW => by go_simp <;> with_reducible rfl⟩) ?_; simp only [Act.put, List.setIfInBounds_toArray, List.set_cons_zero, List.set_cons_succ])
      iterate 7 (refine seq_read (v := undef) rfl (fun _ _ _ h => h) hS (Or.inr ⟨by rfl, rfl⟩) ?_; simp only [Act.put, List.setIfInBounds_toArray, List.set_cons_zero, List.set_cons_succ])
      iterate 1 (refine seq_read (v := _) rfl (fun _ _ _ h => h) hS (Or.inl ⟨by rfl, fun W hW => by go_simp <;> with_reducible rfl⟩) ?_; simp only [Act.put, List.setIfInBounds_toArray, List.set_cons_zero, List.set_cons_succ])
      refine seq_end ?_
      go_wp2_with fail
      go_ret
      exact ⟨rfl, HS.out⟩
    · have q : decide (x.2 = 0) = false := by simp [h2]
      rw [q]
      have q2 : decide (0 < x.2) = true := by simp; omega
      rw [q2] at HQ
      clear q q2 hr h2
      by_cases h3 : x.1 = gn
      · have q : (x.1 != gn) = false := by simp [h3]
        obtain rfl : some ⟨g, k * 2, none⟩ = A := by rw [← HQ.out]; simp [h3]
        clear h3
        iterate 9 (refine seq_read (v := _) rfl (fun _ _ _ h => h) hS (Or.inl ⟨by rfl, fun W hW => by go_simp <;> with_reducible rfl⟩) ?_; simp only [Act.put, List.setIfInBounds_toArray, List.set_cons_zero, List.set_cons_succ])
        refine seq_end ?_
        go_wp2_with fail
        go_ret
        exact ⟨rfl, HS.out⟩
      · have q : (x.1 != gn) = true := by simp [h3]
        obtain rfl : none = A := by rw [← HQ.out]; simp [h3]
        clear h3
        iterate 9 (refine seq_read (v := _) rfl (fun _ _ _ h => h) hS (Or.inl ⟨by rfl, fun W hW => by go_simp <;> with_reducible rfl⟩) ?_; simp only [Act.put, List.setIfInBounds_toArray, List.set_cons_zero, List.set_cons_succ])
        refine seq_end ?_
        go_wp2_with fail
        go_ret
        exact ⟨rfl, HS.out⟩
end Go.Proofs.Ytachodjpiklpkaa.Arn
