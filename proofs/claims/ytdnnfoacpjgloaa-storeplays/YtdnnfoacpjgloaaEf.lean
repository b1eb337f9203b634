/- The contract of arena's live: the slot of a live handle. · The contracts of arena's Keep, Drop, Refs. · The contracts of slices.IndexFunc over free slots, arena's Free, slices.Clone over slots, arena's Slots. · The contracts of arena's Slots, Take; of all of them at a nil arena. · The contracts of bits.Mul, slices.Repeat over slots, arena.New. -/
import Derived.Test.YtdnnfoacpjgloaaEd
import Derived.Test.YtdnnfoacpjgloaaXt
import Derived.Lib.SliceRun
import Derived.Lib.EndianBits
import Derived.Laws.MakeOwn
set_option maxRecDepth 100000
namespace Go.Proofs.Ytdnnfoacpjgloaa.Arn
open Go.RowKit
set_option linter.unusedVariables false

theorem liveB_neg {L : List Slt} {s g : Int} (h : s < 0) : liveB L s g = false := by
  unfold liveB; simp; omega
theorem liveB_far {L : List Slt} {s g : Int} (h : (L.length : Int) ≤ s) : liveB L s g = false := by
  unfold liveB; simp; omega
theorem liveB_at {L : List Slt} {k : Nat} {x : Slt} (g : Int) (h : L[k]? = some x) : liveB L k g = (decide (0 < x.2) && decide (x.1 = g)) := by
  have hk := (List.getElem?_eq_some_iff.1 h).1
  have hd : L.getD k (0, 0) = x := by rw [List.getD_eq_getElem?_getD, h]; rfl
  unfold liveB
  rw [Int.toNat_natCast, hd]
  have : decide (0 ≤ (k : Int) ∧ (k : Int) < L.length) = true := by simp; exact hk
  rw [this]; simp
/-- A handle is of no slot, or of the k-th one. -/
theorem hnd_cases (L : List Slt) (s : Int) : s < 0 ∨ ((L.length : Int) ≤ s ∧ 0 ≤ s) ∨ ∃ (k : Nat) (x : Slt), s = k ∧ k < L.length ∧ L[k]? = some x := by
  rcases Int.lt_or_le s 0 with h | h
  · exact .inl h
  · rcases Int.lt_or_le s L.length with h2 | h2
    · obtain ⟨k, rfl⟩ := Int.eq_ofNat_of_zero_le h
      have hk : k < L.length := by omega
      exact .inr (.inr ⟨k, _, rfl, hk, List.getElem?_eq_getElem hk⟩)
    · exact .inr (.inl ⟨h2, h⟩)

set_option maxHeartbeats 4000000 in
theorem live_any (w : World) (b g : Nat) (L : List Slt) (s gn : Int) (hA : Ar w b g L) (hL : L.length ≤ 1024) (hO : ∀ x ∈ L, 0 ≤ x.2) :
    Calls Try.prog 50 #[.pointer (some ⟨b, 0, none⟩), hnV s gn] w fun e w' => e = .returned (.pointer (if liveB L s gn then some ⟨g, s.toNat * 2, none⟩ else none)) ∧ Below w.heap.size w w' := by
  have hB := (Below.refl w.heap.size w).alloc (Nat.le_refl _) (hnO s gn)
  have hn := heap_alloc_new w (hnO s gn)
  have hA1 := hA.bel hB
  generalize hw1 : w.alloc (hnO s gn) = w1 at hB hn hA1
  have hsz : w1.heap.size = w.heap.size + 1 := by rw [← hw1]; simp
  have f0 : ∀ W, Below w1.heap.size w1 W → W.cell? ⟨w.heap.size, 0, none⟩ = some (.int .i64 s) := fun W hW => by
    rw [hW.cell (p := ⟨w.heap.size, 0, none⟩) (by show w.heap.size < _; omega), cell_of_row _ _ 0 _ _ _ hn]; rfl
  have f1 : ∀ W, Below w1.heap.size w1 W → W.cell? ⟨w.heap.size, 1, none⟩ = some (.int .u32 gn) := fun W hW => by
    rw [hW.cell (p := ⟨w.heap.size, 1, none⟩) (by show w.heap.size < _; omega), cell_of_row _ _ 1 _ _ _ hn]; rfl
  have fa : ∀ W, Below w1.heap.size w1 W → W.cell? ⟨b, 0, none⟩ = some (.slice (some ⟨g, 0, none⟩) L.length L.length) := fun W hW => (hA1.bel hW).c0
  have hS : Below w1.heap.size w1 w1.drew := (Below.refl _ _).drew
  have HB := Lib.hid hB
  have HA := Lib.hid hA1
  have HO := Lib.hid hO
  clear hB hA hA1 hn hO hsz
  obtain ⟨A, hQ⟩ : ∃ A, (if liveB L s gn then some (⟨g, s.toNat * 2, none⟩ : Addr) else none) = A := ⟨_, rfl⟩
  rw [hQ]
  have HQ := Lib.hid hQ
  clear hQ
  rcases hnd_cases L s with h0 | ⟨h1, h0⟩ | ⟨k, x, rfl, hk, hx⟩
  · obtain rfl : none = A := by rw [← HQ.out, liveB_neg h0]; rfl
    go_enter Try.func50, Try.ntmps50
    go_wp2_with fail
    refine region_seq (Below w1.heap.size w1) [(0, false), (1, false), (2, false), (3, false), (4, false), (5, false), (6, false), (7, false), (8, false), (9, false), (10, false), (11, false), (12, false), (13, false), (14, false), (15, false), (16, false)] (by kernel_rfl) (by kernel_rfl) rfl (by kernel_rfl) ?_
    iterate 8 (refine seq_read (v := _) rfl (fun _ _ _ h => h) hS (Or.inl ⟨by rfl, fun W hW => by go_simp <;> with_reducible rfl⟩) ?_; simp only [Act.put, List.setIfInBounds_toArray, List.set_cons_zero, List.set_cons_succ])
    iterate 8 (refine seq_read (v := undef) rfl (fun _ _ _ h => h) hS (Or.inr ⟨by rfl, rfl⟩) ?_; simp only [Act.put, List.setIfInBounds_toArray, List.set_cons_zero, List.set_cons_succ])
    iterate 1 (refine seq_read (v := _) rfl (fun _ _ _ h => h) hS (Or.inl ⟨by rfl, fun W hW => by go_simp <;> with_reducible rfl⟩) ?_; simp only [Act.put, List.setIfInBounds_toArray, List.set_cons_zero, List.set_cons_succ])
    refine seq_end ?_
    go_wp2_with fail
    go_ret
    exact ⟨rfl, HB.out.drew⟩
  · obtain rfl : none = A := by rw [← HQ.out, liveB_far h1]; rfl
    have h0' : decide (s < 0) = false := by simp; omega
    have h1' : decide ((L.length : Int) ≤ s) = true := by simp; omega
    go_enter Try.func50, Try.ntmps50
    go_wp2_with fail
    refine region_seq (Below w1.heap.size w1) [(0, false), (1, false), (2, false), (3, false), (4, false), (5, false), (6, false), (7, false), (8, false), (9, false), (10, false), (11, false), (12, false), (13, false), (14, false), (15, false), (16, false)] (by kernel_rfl) (by kernel_rfl) rfl (by kernel_rfl) ?_
    iterate 17 (refine seq_read (v := _) rfl (fun _ _ _ h => h) hS (Or.inl ⟨by rfl, fun W hW => by go_simp <;> with_reducible rfl⟩) ?_; simp only [Act.put, List.setIfInBounds_toArray, List.set_cons_zero, List.set_cons_succ])
    refine seq_end ?_
    go_wp2_with fail
    go_ret
    exact ⟨rfl, HB.out.drew⟩
  · rw [liveB_at gn hx] at HQ
    have h0' : decide ((k : Int) < 0) = false := by simp
    have h1' : decide (L.length ≤ k) = false := by simp; omega
    go_enter Try.func50, Try.ntmps50
    go_wp2_with fail
    refine region_seq (Below w1.heap.size w1) [(0, false), (1, false), (2, false), (3, false), (4, false), (5, false), (6, false), (7, false), (8, false), (9, false), (10, false), (11, false), (12, false), (13, false), (14, false), (15, false), (16, false)] (by kernel_rfl) (by kernel_rfl) rfl (by kernel_rfl) ?_
    iterate 17 (refine seq_read (v := _) rfl (fun _ _ _ h => h) hS (Or.inl ⟨by rfl, fun W hW => by go_simp <;> with_reducible rfl⟩) ?_; simp only [Act.put, List.setIfInBounds_toArray, List.set_cons_zero, List.set_cons_succ])
    refine seq_end ?_
    go_wp2_with fail
    refine region_seq (Below w1.heap.size w1) [(0, false), (1, false), (2, false), (3, false), (4, false), (5, false), (6, false), (7, false)] (by kernel_rfl) (by kernel_rfl) rfl (by kernel_rfl) ?_
    have hS := hS.drew
    iterate 8 (refine seq_read (v := _) rfl (fun _ _ _ h => h) hS (Or.inl ⟨by rfl, fun W hW => by go_simp <;> with_reducible rfl⟩) ?_; simp only [Act.put, List.setIfInBounds_toArray, List.set_cons_zero, List.set_cons_succ])
    refine seq_end ?_
    go_wp2_with fail
    have fg : ∀ W, Below w1.heap.size w1 W → W.cell? ⟨g, k * 2, none⟩ = some (.int .u32 x.1) := fun W hW => (HA.out.bel hW).row.gen hx
    have fr : ∀ W, Below w1.heap.size w1 W → W.cell? ⟨g, k * 2 + 1, none⟩ = some (.int .i64 x.2) := fun W hW => (HA.out.bel hW).row.refs hx
    refine region_seq (Below w1.heap.size w1) [(0, false), (1, false), (2, false), (3, true), (4, false), (5, false), (6, false), (7, false), (8, false), (9, false), (10, false), (11, false), (12, false)] (by kernel_rfl) (by kernel_rfl) rfl (by kernel_rfl) ?_
    have hS := hS.drew
    iterate 3 (refine seq_read (v := _) rfl (fun _ _ _ h => h) hS (Or.inl ⟨by rfl, fun W hW => by go_simp <;> with_reducible rfl⟩) ?_; simp only [Act.put, List.setIfInBounds_toArray, List.set_cons_zero, List.set_cons_succ])
    refine seq_do rfl (fun K hK => ?_)
    go_simp
    refine (isFree_any x _).mono ?_
    rintro e w2 ⟨rfl, hb2⟩
    have hS : Below w1.heap.size w1 w2 := hS.trans (hb2.mono hS.size)
    refine hK.out _ _ _ (fun W h => h) hS ?_
    clear hK K
    have HS := Lib.hid (HB.out.trans (hS.mono HB.out.size))
    have hr := HO.out x (List.mem_of_getElem? hx)
    by_cases h2 : x.2 = 0
    · obtain rfl : none = A := by rw [← HQ.out, h2]; simp
      have q : decide (x.2 = 0) = true := by simp [h2]
      rw [q]
      clear hr h2 q
      iterate 1 (refine seq_read (v := _) rfl (fun _ _ _ h => h) hS (Or.inl ⟨by rfl, fun W hW => by go_simp <;> with_reducible rfl⟩) ?_; simp only [Act.put, List.setIfInBounds_toArray, List.set_cons_zero, List.set_cons_succ])
      iterate 7 (refine seq_read (v := undef) rfl (fun _ _ _ h => h) hS (Or.inr ⟨by rfl, rfl⟩) ?_; simp only [Act.put, List.setIfInBounds_toArray, List.set_cons_zero, List.set_cons_succ])
      iterate 1 (refine seq_read (v := _) rfl (fun _ _ _ h => h) hS (Or.inl ⟨by rfl, fun W hW => by go_simp <;> with_reducible rfl⟩) ?_; simp only [Act.put, List.setIfInBounds_toArray, List.set_cons_zero, List.set_cons_succ])
      refine seq_end ?_
      go_wp2_with fail
      go_ret
      exact ⟨rfl, HS.out⟩
    · have q : decide (x.2 = 0) = false := by simp [h2]
      rw [q]
      have q2 : decide (0 < x.2) = true := by simp; omega
      rw [q2] at HQ
      clear q q2 hr h2
      by_cases h3 : x.1 = gn
      · have q : (x.1 != gn) = false := by simp [h3]
        obtain rfl : some ⟨g, k * 2, none⟩ = A := by rw [← HQ.out]; simp [h3]
        clear h3
        iterate 9 (refine seq_read (v := _) rfl (fun _ _ _ h => h) hS (Or.inl ⟨by rfl, fun W hW => by go_simp <;> with_reducible rfl⟩) ?_; simp only [Act.put, List.setIfInBounds_toArray, List.set_cons_zero, List.set_cons_succ])
        refine seq_end ?_
        go_wp2_with fail
        go_ret
        exact ⟨rfl, HS.out⟩
      · have q : (x.1 != gn) = true := by simp [h3]
        obtain rfl : none = A := by rw [← HQ.out]; simp [h3]
        clear h3
        iterate 9 (refine seq_read (v := _) rfl (fun _ _ _ h => h) hS (Or.inl ⟨by rfl, fun W hW => by go_simp <;> with_reducible rfl⟩) ?_; simp only [Act.put, List.setIfInBounds_toArray, List.set_cons_zero, List.set_cons_succ])
        refine seq_end ?_
        go_wp2_with fail
        go_ret
        exact ⟨rfl, HS.out⟩
end Go.Proofs.Ytdnnfoacpjgloaa.Arn

namespace Go.Proofs.Ytdnnfoacpjgloaa.Arn
open Go.RowKit
set_option linter.unusedVariables false

theorem live_cases (L : List Slt) (s g : Int) : liveB L s g = false ∨ ∃ (k : Nat) (x : Slt), s = k ∧ L[k]? = some x ∧ 0 < x.2 ∧ x.1 = g ∧ liveB L s g = true := by
  cases h : liveB L s g with
  | false => exact .inl rfl
  | true =>
    rcases hnd_cases L s with h0 | ⟨h1, h0⟩ | ⟨k, x, rfl, hk, hx⟩
    · rw [liveB_neg h0] at h; cases h
    · rw [liveB_far h1] at h; cases h
    · rw [liveB_at g hx] at h
      simp only [Bool.and_eq_true, decide_eq_true_eq] at h
      exact .inr ⟨k, x, rfl, hx, h.1, h.2, rfl⟩
theorem getD_of {L : List Slt} {k : Nat} {x : Slt} (h : L[k]? = some x) : L.getD k (0, 0) = x := by rw [List.getD_eq_getElem?_getD, h]; rfl
theorem keepL_at {L : List Slt} {k : Nat} {x : Slt} {g : Int} (h : L[k]? = some x) (hl : liveB L k g = true) : keepL L k g = L.set k (x.1, x.2 + 1) := by
  unfold keepL; rw [if_pos hl, Int.toNat_natCast, getD_of h]
theorem dropL_at {L : List Slt} {k : Nat} {x : Slt} {g : Int} (h : L[k]? = some x) (hl : liveB L k g = true) : dropL L k g = L.set k (dropped x) := by
  unfold dropL; rw [if_pos hl, Int.toNat_natCast, getD_of h]
theorem refsV_at {L : List Slt} {k : Nat} {x : Slt} {g : Int} (h : L[k]? = some x) (hl : liveB L k g = true) : refsV L k g = x.2 := by
  unfold refsV; rw [if_pos hl, Int.toNat_natCast, getD_of h]
theorem keepL_no {L : List Slt} {s g : Int} (hl : liveB L s g = false) : keepL L s g = L := by unfold keepL; rw [hl]; rfl
theorem dropL_no {L : List Slt} {s g : Int} (hl : liveB L s g = false) : dropL L s g = L := by unfold dropL; rw [hl]; rfl
theorem refsV_no {L : List Slt} {s g : Int} (hl : liveB L s g = false) : refsV L s g = 0 := by unfold refsV; rw [hl]; rfl
theorem callE_no {L : List Slt} {s g : Int} (hl : liveB L s g = false) : callE L s g = 7 := by unfold callE; rw [hl]; rfl
theorem callE_yes {L : List Slt} {s g : Int} (hl : liveB L s g = true) : callE L s g = 0 := by unfold callE; rw [hl]; rfl
theorem keepL_len (L : List Slt) (s g : Int) : (keepL L s g).length = L.length := by unfold keepL; split <;> simp
theorem dropL_len (L : List Slt) (s g : Int) : (dropL L s g).length = L.length := by unfold dropL; split <;> simp
theorem OkS.mono {M N : Int} {L : List Slt} (h : OkS M L) (hM : M ≤ N) : OkS N L := fun x hx => ⟨(h x hx).1, (h x hx).2.1, by have := (h x hx).2.2; omega⟩
theorem OkS.set {M : Int} {L : List Slt} (h : OkS M L) (k : Nat) (y : Slt) (hy : (0 ≤ y.1 ∧ y.1 < 4294967296) ∧ 0 ≤ y.2 ∧ y.2 ≤ M) : OkS M (L.set k y) := fun x hx => by
  rcases List.mem_or_eq_of_mem_set hx with hx | rfl
  · exact h x hx
  · exact hy
theorem OkS.keep {M : Int} {L : List Slt} (h : OkS M L) (s g : Int) : OkS (M + 1) (keepL L s g) := by
  rcases live_cases L s g with hl | ⟨k, x, rfl, hx, hp, rfl, hl⟩
  · rw [keepL_no hl]; exact h.mono (by omega)
  · rw [keepL_at hx hl]
    have := h.at_ hx
    exact (h.mono (by omega)).set k _ ⟨this.1, by show 0 ≤ x.2 + 1; omega, by show x.2 + 1 ≤ M + 1; omega⟩
theorem OkS.drop {M : Int} {L : List Slt} (h : OkS M L) (s g : Int) : OkS M (dropL L s g) := by
  rcases live_cases L s g with hl | ⟨k, x, rfl, hx, hp, rfl, hl⟩
  · rw [dropL_no hl]; exact h
  · rw [dropL_at hx hl]
    have := h.at_ hx
    refine h.set k _ ?_
    unfold dropped
    split
    · exact ⟨⟨by show 0 ≤ (x.1 + 1) % 4294967296; omega, by show (x.1 + 1) % 4294967296 < _; omega⟩, by show (0 : Int) ≤ 0; omega, by show (0 : Int) ≤ M; omega⟩
    · exact ⟨this.1, by show 0 ≤ x.2 - 1; omega, by show x.2 - 1 ≤ M; omega⟩

set_option maxHeartbeats 4000000 in
theorem keep_any (w : World) (b g : Nat) (L : List Slt) (s gn M : Int) (hA : Ar w b g L) (hL : L.length ≤ 1024) (hO : OkS M L) (hM : M ≤ 4611686018427387904) :
    Calls Try.prog 34 #[.pointer (some ⟨b, 0, none⟩), hnV s gn] w fun e w' => e = .returned (.int .i64 (callE L s gn)) ∧ Ar w' b g (keepL L s gn) ∧ Upd (· = g) w w' := by
  have CL : Hid (∀ W, Below w.heap.size w W → Calls Try.prog 50 #[.pointer (some ⟨b, 0, none⟩), hnV s gn] W fun e w' => e = .returned (.pointer (if liveB L s gn then some ⟨g, s.toNat * 2, none⟩ else none)) ∧ Below W.heap.size W w') :=
    fun W hW => live_any W b g L s gn (hA.bel hW) hL (fun x hx => (hO x hx).2.1)
  have hB := Lib.hid ((Below.refl w.heap.size w).alloc (Nat.le_refl _) (hnO s gn))
  have c0 : (w.alloc (hnO s gn)).cell? ⟨w.heap.size, 0, none⟩ = some (.int .i64 s) := cell_of_row _ _ 0 _ _ _ (heap_alloc_new w _)
  have c1 : (w.alloc (hnO s gn)).cell? ⟨w.heap.size, 1, none⟩ = some (.int .u32 gn) := cell_of_row _ _ 1 _ _ _ (heap_alloc_new w _)
  have HA := Lib.hid hA
  clear hA
  rcases live_cases L s gn with hl | ⟨k, x, rfl, hx, hp, rfl, hl⟩
  · rw [hl, if_neg (by decide)] at CL
    rw [callE_no hl, keepL_no hl]
    clear hl
    go_enter Try.func34, Try.ntmps34
    go_wp2_with fail
    refine (CL.out _ hB.out).mono ?_
    rintro e w2 ⟨rfl, hb2⟩
    have H2 := Lib.hid (hB.out.trans (hb2.mono hB.out.size))
    clear hb2 hB c0 c1
    go_wp2_with fail
    go_ret
    exact ⟨rfl, HA.out.bel H2.out, .of H2.out⟩
  · rw [hl, if_pos rfl, Int.toNat_natCast] at CL
    rw [callE_yes hl, keepL_at hx hl]
    clear hl
    have q1 : IntKind.i64.wrap (x.2 + 1) = x.2 + 1 := IntWalk.i64_in _ (by have := hO.at_ hx; omega)
    go_enter Try.func34, Try.ntmps34
    go_wp2_with fail
    refine (CL.out _ hB.out).mono ?_
    rintro e w2 ⟨rfl, hb2⟩
    have H2 := Lib.hid (hB.out.trans (hb2.mono hB.out.size))
    clear hb2 hB c0 c1
    have A2 := HA.out.bel H2.out
    have c := A2.row.refs hx
    have fz := A2.row.frozen (k * 2 + 1)
    have HU := Lib.hid ((Upd.of (S := (· = g)) H2.out).setCell (b := g) (i := k * 2 + 1) (.inl rfl) (.int .i64 (x.2 + 1)))
    have HR := Lib.hid (A2.row.setRefs hx (x.2 + 1))
    have HK : Hid ((w2.setCell ⟨g, k * 2 + 1, none⟩ (.int .i64 (x.2 + 1))).heap[b]? = w2.heap[b]?) := Below.heap_setCell w2 ⟨g, k * 2 + 1, none⟩ _ b A2.ne
    have HA2 := Lib.hid A2.blk
    clear A2
    go_wp2_with fail
    go_ret
    exact ⟨rfl, ⟨by rw [List.length_set]; exact HK.out.trans HA2.out, HR.out⟩, HU.out⟩

set_option maxHeartbeats 4000000 in
theorem refs_any (w : World) (b g : Nat) (L : List Slt) (s gn M : Int) (hA : Ar w b g L) (hL : L.length ≤ 1024) (hO : OkS M L) :
    Calls Try.prog 40 #[.pointer (some ⟨b, 0, none⟩), hnV s gn] w fun e w' => e = .returned (.int .i64 (refsV L s gn)) ∧ Below w.heap.size w w' := by
  have CL : Hid (∀ W, Below w.heap.size w W → Calls Try.prog 50 #[.pointer (some ⟨b, 0, none⟩), hnV s gn] W fun e w' => e = .returned (.pointer (if liveB L s gn then some ⟨g, s.toNat * 2, none⟩ else none)) ∧ Below W.heap.size W w') :=
    fun W hW => live_any W b g L s gn (hA.bel hW) hL (fun x hx => (hO x hx).2.1)
  have hB := Lib.hid ((Below.refl w.heap.size w).alloc (Nat.le_refl _) (hnO s gn))
  have c0 : (w.alloc (hnO s gn)).cell? ⟨w.heap.size, 0, none⟩ = some (.int .i64 s) := cell_of_row _ _ 0 _ _ _ (heap_alloc_new w _)
  have c1 : (w.alloc (hnO s gn)).cell? ⟨w.heap.size, 1, none⟩ = some (.int .u32 gn) := cell_of_row _ _ 1 _ _ _ (heap_alloc_new w _)
  have HA := Lib.hid hA
  clear hA
  rcases live_cases L s gn with hl | ⟨k, x, rfl, hx, hp, rfl, hl⟩
  · rw [hl, if_neg (by decide)] at CL
    rw [refsV_no hl]
    clear hl
    go_enter Try.func40, Try.ntmps40
    go_wp2_with fail
    refine (CL.out _ hB.out).mono ?_
    rintro e w2 ⟨rfl, hb2⟩
    have H2 := Lib.hid (hB.out.trans (hb2.mono hB.out.size))
    clear hb2 hB c0 c1
    go_wp2_with fail
    go_ret
    exact ⟨rfl, H2.out⟩
  · rw [hl, if_pos rfl, Int.toNat_natCast] at CL
    rw [refsV_at hx hl]
    clear hl
    go_enter Try.func40, Try.ntmps40
    go_wp2_with fail
    refine (CL.out _ hB.out).mono ?_
    rintro e w2 ⟨rfl, hb2⟩
    have H2 := Lib.hid (hB.out.trans (hb2.mono hB.out.size))
    clear hb2 hB c0 c1
    have A2 := HA.out.bel H2.out
    have c := A2.row.refs hx
    clear A2
    go_wp2_with fail
    go_ret
    exact ⟨rfl, H2.out⟩

set_option maxHeartbeats 4000000 in
theorem drop_any (w : World) (b g : Nat) (L : List Slt) (s gn M : Int) (hA : Ar w b g L) (hL : L.length ≤ 1024) (hO : OkS M L) (hM : M ≤ 4611686018427387904) :
    Calls Try.prog 36 #[.pointer (some ⟨b, 0, none⟩), hnV s gn] w fun e w' => e = .returned (.int .i64 (callE L s gn)) ∧ Ar w' b g (dropL L s gn) ∧ Upd (· = g) w w' := by
  have CL : Hid (∀ W, Below w.heap.size w W → Calls Try.prog 50 #[.pointer (some ⟨b, 0, none⟩), hnV s gn] W fun e w' => e = .returned (.pointer (if liveB L s gn then some ⟨g, s.toNat * 2, none⟩ else none)) ∧ Below W.heap.size W w') :=
    fun W hW => live_any W b g L s gn (hA.bel hW) hL (fun x hx => (hO x hx).2.1)
  have hB := Lib.hid ((Below.refl w.heap.size w).alloc (Nat.le_refl _) (hnO s gn))
  have c0 : (w.alloc (hnO s gn)).cell? ⟨w.heap.size, 0, none⟩ = some (.int .i64 s) := cell_of_row _ _ 0 _ _ _ (heap_alloc_new w _)
  have c1 : (w.alloc (hnO s gn)).cell? ⟨w.heap.size, 1, none⟩ = some (.int .u32 gn) := cell_of_row _ _ 1 _ _ _ (heap_alloc_new w _)
  have HA := Lib.hid hA
  clear hA
  rcases live_cases L s gn with hl | ⟨k, x, rfl, hx, hp, rfl, hl⟩
  · rw [hl, if_neg (by decide)] at CL
    rw [callE_no hl, dropL_no hl]
    clear hl
    go_enter Try.func36, Try.ntmps36
    go_wp2_with fail
    refine (CL.out _ hB.out).mono ?_
    rintro e w2 ⟨rfl, hb2⟩
    have H2 := Lib.hid (hB.out.trans (hb2.mono hB.out.size))
    clear hb2 hB c0 c1
    go_wp2_with fail
    go_ret
    exact ⟨rfl, HA.out.bel H2.out, .of H2.out⟩
  · rw [hl, if_pos rfl, Int.toNat_natCast] at CL
    rw [callE_yes hl, dropL_at hx hl]
    obtain ⟨Z, hZ⟩ : ∃ Z, L.set k (dropped x) = Z := ⟨_, rfl⟩
    rw [hZ]
    have HZ := Lib.hid hZ
    clear hl hZ
    have hxx := hO.at_ hx
    have hk : k < L.length := (List.getElem?_eq_some_iff.1 hx).1
    have q1 : IntKind.i64.wrap (x.2 - 1) = x.2 - 1 := IntWalk.i64_in _ (by omega)
    go_enter Try.func36, Try.ntmps36
    go_wp2_with fail
    refine (CL.out _ hB.out).mono ?_
    rintro e w2 ⟨rfl, hb2⟩
    have H2 := Lib.hid (hB.out.trans (hb2.mono hB.out.size))
    clear hb2 hB c0 c1
    have A2 := HA.out.bel H2.out
    have c := A2.row.refs hx
    have fz := A2.row.frozen (k * 2 + 1)
    obtain ⟨w3, hw3⟩ : ∃ w3, w2.setCell ⟨g, k * 2 + 1, none⟩ (.int .i64 (x.2 - 1)) = w3 := ⟨_, rfl⟩
    have HU := Lib.hid (hw3 ▸ (Upd.of (S := (· = g)) H2.out).setCell (b := g) (i := k * 2 + 1) (.inl rfl) (.int .i64 (x.2 - 1)))
    have hR : SRow w3 g (L.set k (x.1, x.2 - 1)) := hw3 ▸ A2.row.setRefs hx (x.2 - 1)
    have hx3 : (L.set k (x.1, x.2 - 1))[k]? = some (x.1, x.2 - 1) := by rw [List.getElem?_set, if_pos rfl, if_pos hk]
    have hK : w3.heap[b]? = w2.heap[b]? := hw3 ▸ Below.heap_setCell w2 ⟨g, k * 2 + 1, none⟩ _ b A2.ne
    have HA3 : Hid (Ar w3 b g (L.set k (x.1, x.2 - 1))) := ⟨by rw [List.length_set]; exact hK.trans A2.blk, hR⟩
    have d0 := hR.gen hx3
    have d1 := hR.refs hx3
    clear A2 hR hK
    go_wp2_with fail
    clear c fz hw3
    refine (isFree_any (x.1, x.2 - 1) _).mono ?_
    rintro e w4 ⟨rfl, hb4⟩
    have A4 := HA3.out.bel hb4
    have HU4 := Lib.hid (HU.out.trans (.of hb4))
    clear hb4 HU HA3
    by_cases h1 : x.2 = 1
    · have q : decide (x.2 - 1 = 0) = true := by simp; omega
      have qd : L.set k (dropped x) = (L.set k (x.1, x.2 - 1)).set k ((x.1 + 1) % 4294967296, x.2 - 1) := by rw [List.set_set]; unfold dropped; rw [if_pos h1, h1]; rfl
      have q2 : IntKind.u32.wrap (x.1 + 1) = (x.1 + 1) % 4294967296 := by simp [IntKind.wrap, IntKind.bits, IntKind.signed]
      rw [q]
      have HD := Lib.hid (HZ.out.symm.trans qd)
      have c := A4.row.gen hx3
      have fz := A4.row.frozen (k * 2)
      have HU5 := Lib.hid (HU4.out.setCell (b := g) (i := k * 2) (.inl rfl) (.int .u32 ((x.1 + 1) % 4294967296)))
      have HR := Lib.hid (A4.row.setGen hx3 ((x.1 + 1) % 4294967296))
      have HK : Hid ((w4.setCell ⟨g, k * 2, none⟩ (.int .u32 ((x.1 + 1) % 4294967296))).heap[b]? = w4.heap[b]?) := Below.heap_setCell w4 ⟨g, k * 2, none⟩ _ b A4.ne
      have HA4 := Lib.hid A4.blk
      clear A4 qd q d0 d1 h1
      generalize (x.1 + 1) % 4294967296 = y at *
      go_wp2_with fail
      go_ret
      exact ⟨rfl, by rw [HD.out]; exact ⟨by rw [List.length_set]; exact HK.out.trans HA4.out, HR.out⟩, HU5.out⟩
    · have q : decide (x.2 - 1 = 0) = false := by simp; omega
      have qd : L.set k (dropped x) = L.set k (x.1, x.2 - 1) := by unfold dropped; rw [if_neg h1]
      rw [q]
      have HD := Lib.hid (HZ.out.symm.trans qd)
      have HA4 := Lib.hid A4
      clear A4 qd q d0 d1 h1
      go_wp2_with fail
      go_ret
      exact ⟨rfl, by rw [HD.out]; exact HA4.out, HU4.out⟩
end Go.Proofs.Ytdnnfoacpjgloaa.Arn

namespace Go.Proofs.Ytdnnfoacpjgloaa.Arn
open Go.RowKit
set_option linter.unusedVariables false

def idxV (L : List Slt) : Int := match leastF L with | some k => (k : Int) | none => -1
theorem leastF_here : ∀ {L : List Slt} {k : Nat} {x : Slt}, leastF (L.take k) = none → L[k]? = some x → x.2 = 0 → leastF L = some k
  | [], k, x, _, h, _ => by simp at h
  | y :: r, 0, x, _, h, h0 => by
    simp only [List.getElem?_cons_zero, Option.some.injEq] at h
    subst h
    unfold leastF; rw [if_pos h0]
  | y :: r, k + 1, x, hn, h, h0 => by
    rw [List.getElem?_cons_succ] at h
    rw [List.take_succ_cons] at hn
    unfold leastF at hn ⊢
    split at hn
    · cases hn
    · rename_i hy
      rw [if_neg hy, leastF_here (by simpa using hn) h h0]; rfl
theorem leastF_snoc : ∀ {L : List Slt} {x : Slt}, leastF L = none → x.2 ≠ 0 → leastF (L ++ [x]) = none
  | [], x, _, h => by simp [leastF, h]
  | y :: r, x, hn, h => by
    unfold leastF at hn
    split at hn
    · cases hn
    · rename_i hy
      rw [List.cons_append, leastF, if_neg hy, leastF_snoc (by simpa using hn) h]; rfl
theorem take_snoc {α : Type} : ∀ {L : List α} {k : Nat} {x : α}, L[k]? = some x → L.take (k + 1) = L.take k ++ [x]
  | [], k, x, h => by simp at h
  | y :: r, 0, x, h => by
    simp only [List.getElem?_cons_zero, Option.some.injEq] at h
    subst h; simp
  | y :: r, k + 1, x, h => by
    rw [List.getElem?_cons_succ] at h
    rw [List.take_succ_cons, take_snoc h]; rfl
theorem freeN_append : ∀ (L K : List Slt), freeN (L ++ K) = freeN L + freeN K
  | [], K => by simp [freeN]
  | x :: r, K => by rw [List.cons_append, freeN, freeN, freeN_append r K]; omega

def RdS (w : World) (B : Nat) (a : Option Addr) (n : Nat) (xs : List Slt) : Prop := RowRd slotL w B a n xs
theorem slot_at {w : World} {B n k : Nat} {a : Option Addr} {xs : List Slt} (h : RowRd slotL w B a n xs) (hk : k < n) : ∃ b off x, a = some ⟨b, off, none⟩ ∧ b < B ∧ xs[k]? = some x ∧ w.cell? ⟨b, off + k * 2, none⟩ = some (.int .u32 x.1) ∧ w.cell? ⟨b, off + k * 2 + 1, none⟩ = some (.int .i64 x.2) := by
  obtain ⟨b, off, x, e, hlt, hx, hc⟩ := row_at h hk
  exact ⟨b, off, x, e, hlt, hx, hc 0 _ rfl, hc 1 _ rfl⟩

set_option maxHeartbeats 4000000 in
theorem index_any (w : World) (B n c : Nat) (a : Option Addr) (L : List Slt) (hr : RowRd slotL w B a n L) (hB : B ≤ w.heap.size) (hn : n ≤ 1024) :
    Calls Try.prog 49 #[.slice a n c, .func (.func 48) #[] #[]] w fun e w' => e = .returned (.int .i64 (idxV L)) ∧ Below w.heap.size w w' := by
  have HR := Lib.hid hr
  clear hr
  go_enter Try.func49, Try.ntmps49
  go_wp2
  go_loopw [8] (fun si wx => ∃ k : Nat, k ≤ n ∧ si = .int .i64 k ∧ Hid (leastF (L.take k) = none) ∧ Hid (Below w.heap.size w wx)) (fun si _ => n - (intOf si).toNat)
  case atStart => exact ⟨0, by omega, rfl, rfl, Below.refl _ _⟩
  case round =>
    obtain ⟨k, hk, rfl, hF, hb⟩ := hrel
    rename World => wx
    by_cases hlt : k < n
    · obtain ⟨b, off, x, rfl, hbB, hx, c0, c1⟩ := slot_at (HR.out.below (hb.out.mono hB)) hlt
      go_wp2_with fail
      refine (isFree_any x wx).mono ?_
      rintro e w1 ⟨rfl, hb1⟩
      have HB1 := Lib.hid (hb.out.trans (hb1.mono hb.out.size))
      clear hb1 hb
      by_cases h0 : x.2 = 0
      · have q : decide (x.2 = 0) = true := by simp [h0]
        rw [q]
        have HI := Lib.hid (show idxV L = k from by unfold idxV; rw [leastF_here hF.out hx h0])
        go_wp2
        go_ret
        exact ⟨by rw [HI.out]; rfl, HB1.out⟩
      · have q : decide (x.2 = 0) = false := by simp [h0]
        rw [q]
        have HF : Hid (leastF (L.take (k + 1)) = none) := by rw [take_snoc hx]; exact leastF_snoc hF.out h0
        clear hF q h0 hx c0 c1
        go_wp2
        go_roundw
        case rel => exact ⟨k + 1, by omega, by go_num, HF, HB1⟩
        case measure => simp [intOf]; omega
    · obtain rfl : k = n := by omega
      have HI := Lib.hid (show idxV L = -1 from by
        have := hF.out
        rw [List.take_of_length_le (by rw [HR.out.1]; exact Nat.le_refl _)] at this
        unfold idxV; rw [this])
      go_wp2
      go_ret
      exact ⟨by rw [HI.out]; rfl, hb.out⟩

set_option maxHeartbeats 4000000 in
theorem free_any (w : World) (b g : Nat) (L : List Slt) (hA : Ar w b g L) (hL : L.length ≤ 1024) :
    Calls Try.prog 30 #[.pointer (some ⟨b, 0, none⟩)] w fun e w' => e = .returned (.int .i64 (freeN L)) ∧ Below w.heap.size w w' := by
  have HA := Lib.hid hA
  have c := hA.c0
  obtain ⟨n, hn⟩ : ∃ n, L.length = n := ⟨_, rfl⟩
  rw [hn] at c hL
  have HN := Lib.hid hn
  clear hA hn
  go_enter Try.func30, Try.ntmps30
  go_wp2
  go_loopw [3, 13] (fun sf si wx => ∃ k : Nat, k ≤ n ∧ si = .int .i64 k ∧ sf = .int .i64 (freeN (L.take k)) ∧ Hid (Below w.heap.size w wx)) (fun _ si _ => n - (intOf si).toNat)
  case atStart => exact ⟨0, by omega, rfl, rfl, Below.refl _ _⟩
  case round =>
    obtain ⟨k, hk, rfl, rfl, hb⟩ := hrel
    rename World => wx
    have hf : freeN (L.take k) ≤ 1024 := by have h1 := freeN_le (L.take k); have h2 := List.length_take_le k L; omega
    by_cases hlt : k < n
    · have A1 := HA.out.bel hb.out
      obtain ⟨x, hx⟩ : ∃ x, L[k]? = some x := ⟨_, List.getElem?_eq_getElem (by rw [HN.out]; exact hlt)⟩
      have c0 := A1.row.gen hx
      have c1 := A1.row.refs hx
      have hB1 := Lib.hid (hb.out.alloc hb.out.size (slO x))
      have d0 : (wx.alloc (slO x)).cell? ⟨wx.heap.size, 0, none⟩ = some (.int .u32 x.1) := cell_of_row _ _ 0 _ _ _ (heap_alloc_new wx _)
      have d1 : (wx.alloc (slO x)).cell? ⟨wx.heap.size, 1, none⟩ = some (.int .i64 x.2) := cell_of_row _ _ 1 _ _ _ (heap_alloc_new wx _)
      have HF := Lib.hid (show freeN (L.take (k + 1)) = freeN (L.take k) + (if x.2 = 0 then 1 else 0) from by rw [take_snoc hx, freeN_append, freeN, freeN]; omega)
      generalize freeN (L.take k) = f at *
      clear A1 hb hx
      go_wp2_with fail
      refine (isFree_any x _).mono ?_
      rintro e w1 ⟨rfl, hb1⟩
      have HB1 := Lib.hid (hB1.out.trans (hb1.mono hB1.out.size))
      clear hb1 hB1 d0 d1 c0 c1
      by_cases h0 : x.2 = 0
      · have q : decide (x.2 = 0) = true := by simp [h0]
        rw [q]
        rw [if_pos h0] at HF
        clear q h0
        go_wp2
        go_roundw
        case rel => exact ⟨k + 1, by omega, by go_num, by rw [HF.out]; go_num, HB1⟩
        case measure => simp [intOf]; omega
      · have q : decide (x.2 = 0) = false := by simp [h0]
        rw [q]
        rw [if_neg h0] at HF
        clear q h0
        go_wp2
        go_roundw
        case rel => exact ⟨k + 1, by omega, by go_num, by rw [HF.out]; rfl, HB1⟩
        case measure => simp [intOf]; omega
    · obtain rfl : k = n := by omega
      have HF := Lib.hid (show freeN (L.take k) = freeN L from by rw [List.take_of_length_le (by rw [HN.out]; exact Nat.le_refl _)])
      go_wp2
      go_ret
      exact ⟨by rw [← HF.out]; rfl, hb.out⟩

/-- A row of slots of the call's own, as a new one. -/
def RetS (w : World) (L : List Slt) (e : Ending) (w' : World) : Prop := ∃ A c, e = .returned (.slice A L.length c) ∧ RowOwn slotL w' w.heap.size A L.length c L ∧ Below w.heap.size w w'
theorem slots_nil_eq (a : Addr) (n c : Nat) (W : World) : (binOp .eql 49 (.slice (some a) n c) (.slice none 0 0)).run Try.prog W = .ok (.bool false) W := Lib.run_eql_slice_nil W _ _ _ _ _ _ _ Try.underlying49
set_option maxHeartbeats 4000000 in
theorem clone_any (w : World) (g : Nat) (L : List Slt) (hr : SRow w g L) (hL : L.length ≤ 1024) :
    Calls Try.prog 55 #[.slice (some ⟨g, 0, none⟩) L.length L.length] w (RetS w L) := by
  obtain ⟨i0, hi0, hz0, hz1, hz2⟩ := info_parts info_slot
  have HI := Lib.hid (And.intro hi0 (And.intro hz0 (And.intro hz1 hz2)))
  clear hi0 hz0 hz1 hz2
  have HR := Lib.hid hr.rd
  have hn : ∃ n, L.length = n := ⟨_, rfl⟩
  obtain ⟨n, hn⟩ := hn
  have fin0 : Hid (∀ A c w1, RowOwn slotL w1 w.heap.size A n c L → Below w.heap.size w w1 → RetS w L (.returned (.slice A n c)) w1) := by
    intro A c w1 ho hb
    subst hn
    exact ⟨A, c, rfl, ho, hb⟩
  rw [hn] at HR hL ⊢
  clear hr hn
  have qe := slots_nil_eq ⟨g, 0, none⟩ n n
  have HE := Lib.hid ((Below.refl w.heap.size w).alloc (Nat.le_refl _) (.cells #[] 67 (0, 0)))
  have R2 := Lib.hid (HR.out.below HE.out)
  have O2 : Hid (RowOwn slotL (w.alloc (.cells #[] 67 (0, 0))) w.heap.size (some ⟨w.heap.size, 0, none⟩) 0 0 []) := ⟨rfl, Nat.le_refl _, Nat.zero_le _, .inr ⟨w.heap.size, [], rfl, Nat.le_refl _, heap_alloc_new w _, rfl⟩⟩
  go_enter Try.func55, Try.ntmps55
  go_wp2_with (at_builtin; refine wpList_append_all (L := slotL) rfl (.tmp 5) (.tmp 6) rfl Try.underlying49 HI.out.1 HI.out.2.1 HI.out.2.2.1 HI.out.2.2.2 rfl L (Nat.zero_add n) rfl rfl rfl O2.out R2.out (by simp) (by unfold maxLen; omega) (by omega) ?_; intro A c w1 ho hb)
  go_ret
  exact fin0.out A c w1 ho (HE.out.trans hb)
end Go.Proofs.Ytdnnfoacpjgloaa.Arn

namespace Go.Proofs.Ytdnnfoacpjgloaa.Arn
open Go.RowKit
set_option linter.unusedVariables false

set_option maxHeartbeats 4000000 in
theorem slots_any (w : World) (b g : Nat) (L : List Slt) (hA : Ar w b g L) (hL : L.length ≤ 1024) :
    Calls Try.prog 41 #[.pointer (some ⟨b, 0, none⟩)] w (RetS w L) := by
  have CC : Hid (∀ W, Below w.heap.size w W → Calls Try.prog 55 #[.slice (some ⟨g, 0, none⟩) L.length L.length] W (RetS W L)) := fun W hW => clone_any W g L (hA.bel hW).row hL
  have c := hA.c0
  clear hA
  go_enter Try.func41, Try.ntmps41
  go_wp2_with fail
  refine (CC.out w (Below.refl _ _)).mono ?_
  rintro e w1 ⟨A, c1, rfl, ho, hb⟩
  have H1 := Lib.hid (And.intro ho hb)
  clear ho hb
  go_wp2
  go_ret
  exact ⟨A, c1, rfl, H1.out.1, H1.out.2⟩

def takeH (L : List Slt) : Int × Int := match leastF L with | some k => ((k : Int), (L.getD k (0, 0)).1) | none => (0, 0)
def takeE (L : List Slt) : Int := if (leastF L).isSome then 0 else 6
def takeL (L : List Slt) : List Slt := match leastF L with | some k => L.set k ((L.getD k (0, 0)).1, 1) | none => L
theorem take_cases (L : List Slt) : (leastF L = none ∧ takeH L = (0, 0) ∧ takeE L = 6 ∧ takeL L = L ∧ idxV L = -1) ∨ ∃ (k : Nat) (g : Int), leastF L = some k ∧ L[k]? = some (g, 0) ∧ takeH L = ((k : Int), g) ∧ takeE L = 0 ∧ takeL L = L.set k (g, 1) ∧ idxV L = k := by
  cases h : leastF L with
  | none => exact .inl ⟨rfl, by simp [takeH, h], by simp [takeE, h], by simp [takeL, h], by simp [idxV, h]⟩
  | some k =>
    obtain ⟨g, hg, -⟩ := leastF_some h
    exact .inr ⟨k, g, rfl, hg, by simp [takeH, h, hg], by simp [takeE, h], by simp [takeL, h, hg], by simp [idxV, h]⟩
theorem takeL_len (L : List Slt) : (takeL L).length = L.length := by
  rcases take_cases L with ⟨-, -, -, h, -⟩ | ⟨k, g, -, -, -, -, h, -⟩ <;> rw [h]
  rw [List.length_set]
theorem OkS.take {M : Int} {L : List Slt} (h : OkS M L) (hM : 1 ≤ M) : OkS M (takeL L) := by
  rcases take_cases L with ⟨-, -, -, e, -⟩ | ⟨k, g, -, hk, -, -, e, -⟩ <;> rw [e]
  · exact h
  · exact h.set k _ ⟨(h.at_ hk).1, by show (0 : Int) ≤ 1; decide, hM⟩
/-- A handle at block b. -/
def HBlk (w : World) (b : Nat) (s g : Int) : Prop := w.heap[b]? = some (hnO s g)
section
variable {w w' : World} {b : Nat} {s g : Int}
theorem HBlk.c0 (h : HBlk w b s g) : w.cell? ⟨b, 0, none⟩ = some (.int .i64 s) := by rw [cell_of_row w b 0 _ _ _ h]; rfl
theorem HBlk.c1 (h : HBlk w b s g) : w.cell? ⟨b, 1, none⟩ = some (.int .u32 g) := by rw [cell_of_row w b 1 _ _ _ h]; rfl
theorem HBlk.frozen (h : HBlk w b s g) (i : Nat) : w.frozen? ⟨b, i, none⟩ = false := frozen_of_row w b i _ _ h
theorem HBlk.lt (h : HBlk w b s g) : b < w.heap.size := lt_of_some h
theorem HBlk.new (w : World) (s g : Int) : HBlk (w.alloc (hnO s g)) w.heap.size s g := heap_alloc_new w _
theorem HBlk.bel {B : Nat} (h : HBlk w b s g) (hb : Below B w w') (hB : b < B) : HBlk w' b s g := (hb.block b hB).trans h
theorem HBlk.upd {S : Nat → Prop} (h : HBlk w b s g) (hu : Upd S w w') (hS : ¬ S b) : HBlk w' b s g := hu.keep h hS
theorem HBlk.store (h : HBlk w b s g) (s' g' : Int) : HBlk ((w.setCell ⟨b, 0, none⟩ (.int .i64 s')).setCell ⟨b, 1, none⟩ (.int .u32 g')) b s' g' := by
  have h1 := heap_setCell_same w b 0 _ _ (.int .i64 s') h
  have h2 := heap_setCell_same (w.setCell ⟨b, 0, none⟩ (.int .i64 s')) b 1 _ _ (.int .u32 g') h1
  exact h2
end
theorem retT_at {f : Func} {R : Ending → World → Prop} {W : World} {b : Nat} {s g n : Int} {tmps : Array Value} (hf : f.results = #[.cell 2 31, .tmp 3]) (D : HBlk W b s g) (hR : R (.returned (.tuple #[hnV s g, .int .i64 n])) W)
    (h2 : tmps[2]?.getD undef = .pointer (some ⟨b, 0, none⟩) := by rfl) (h3 : tmps[3]?.getD undef = .int .i64 n := by rfl) : bodyPost Try.prog f R .ret ⟨tmps, []⟩ W := by
  have c0 := D.c0
  have c1 := D.c1
  exact bodyPost_ret (v := .tuple #[hnV s g, .int .i64 n]) (by simp [results, hf, go_sem, h2, h3, c0, c1]) rfl hR

set_option maxHeartbeats 4000000 in
theorem take_nil (w : World) : Calls Try.prog 32 #[.pointer none] w fun e w' => e = .returned (.tuple #[hnV 0 0, .int .i64 6]) ∧ Below w.heap.size w w' := by
  have HB := Lib.hid ((Below.refl w.heap.size w).alloc (Nat.le_refl _) (hnO 0 0))
  have D := HBlk.new w 0 0
  have f0 := D.frozen 0
  have f1 := D.frozen 1
  have d0 := D.c0
  have d1 := D.c1
  go_enter Try.func32, Try.ntmps32
  go_wp2
  exact retT_at Try.results32 D ⟨rfl, HB.out⟩
set_option maxHeartbeats 4000000 in
theorem live_nil (w : World) (s gn : Int) : Calls Try.prog 50 #[.pointer none, hnV s gn] w fun e w' => e = .returned (.pointer none) ∧ Below w.heap.size w w' := by
  have HB := Lib.hid ((Below.refl w.heap.size w).alloc (Nat.le_refl _) (hnO s gn))
  have hS : Below (w.alloc (hnO s gn)).heap.size (w.alloc (hnO s gn)) (w.alloc (hnO s gn)).drew := (Below.refl _ _).drew
  go_enter Try.func50, Try.ntmps50
  go_wp2_with fail
  refine region_seq (Below (w.alloc (hnO s gn)).heap.size (w.alloc (hnO s gn))) [(0, false), (1, false), (2, false), (3, false), (4, false), (5, false), (6, false), (7, false), (8, false), (9, false), (10, false), (11, false), (12, false), (13, false), (14, false), (15, false), (16, false)] (by kernel_rfl) (by kernel_rfl) rfl (by kernel_rfl) ?_
  iterate 3 (refine seq_read (v := _) rfl (fun _ _ _ h => h) hS (Or.inl ⟨by rfl, fun W hW => by go_simp <;> with_reducible rfl⟩) ?_; simp only [Act.put, List.setIfInBounds_toArray, List.set_cons_zero, List.set_cons_succ])
  iterate 3 (refine seq_read (v := undef) rfl (fun _ _ _ h => h) hS (Or.inr ⟨by rfl, rfl⟩) ?_; simp only [Act.put, List.setIfInBounds_toArray, List.set_cons_zero, List.set_cons_succ])
  iterate 2 (refine seq_read (v := _) rfl (fun _ _ _ h => h) hS (Or.inl ⟨by rfl, fun W hW => by go_simp <;> with_reducible rfl⟩) ?_; simp only [Act.put, List.setIfInBounds_toArray, List.set_cons_zero, List.set_cons_succ])
  iterate 8 (refine seq_read (v := undef) rfl (fun _ _ _ h => h) hS (Or.inr ⟨by rfl, rfl⟩) ?_; simp only [Act.put, List.setIfInBounds_toArray, List.set_cons_zero, List.set_cons_succ])
  iterate 1 (refine seq_read (v := _) rfl (fun _ _ _ h => h) hS (Or.inl ⟨by rfl, fun W hW => by go_simp <;> with_reducible rfl⟩) ?_; simp only [Act.put, List.setIfInBounds_toArray, List.set_cons_zero, List.set_cons_succ])
  refine seq_end ?_
  go_wp2_with fail
  go_ret
  exact ⟨rfl, HB.out.drew⟩
set_option maxHeartbeats 4000000 in
theorem keep_nil (w : World) (s gn : Int) : Calls Try.prog 34 #[.pointer none, hnV s gn] w fun e w' => e = .returned (.int .i64 7) ∧ Below w.heap.size w w' := by
  have HB := Lib.hid ((Below.refl w.heap.size w).alloc (Nat.le_refl _) (hnO s gn))
  have d0 := (HBlk.new w s gn).c0
  have d1 := (HBlk.new w s gn).c1
  go_enter Try.func34, Try.ntmps34
  go_wp2_with fail
  refine (live_nil _ s gn).mono ?_
  rintro e w1 ⟨rfl, hb⟩
  have H1 := Lib.hid (HB.out.trans (hb.mono HB.out.size))
  clear hb d0 d1
  go_wp2
  go_ret
  exact ⟨rfl, H1.out⟩
set_option maxHeartbeats 4000000 in
theorem drop_nil (w : World) (s gn : Int) : Calls Try.prog 36 #[.pointer none, hnV s gn] w fun e w' => e = .returned (.int .i64 7) ∧ Below w.heap.size w w' := by
  have HB := Lib.hid ((Below.refl w.heap.size w).alloc (Nat.le_refl _) (hnO s gn))
  have d0 := (HBlk.new w s gn).c0
  have d1 := (HBlk.new w s gn).c1
  go_enter Try.func36, Try.ntmps36
  go_wp2_with fail
  refine (live_nil _ s gn).mono ?_
  rintro e w1 ⟨rfl, hb⟩
  have H1 := Lib.hid (HB.out.trans (hb.mono HB.out.size))
  clear hb d0 d1
  go_wp2
  go_ret
  exact ⟨rfl, H1.out⟩
set_option maxHeartbeats 4000000 in
theorem refs_nil (w : World) (s gn : Int) : Calls Try.prog 40 #[.pointer none, hnV s gn] w fun e w' => e = .returned (.int .i64 0) ∧ Below w.heap.size w w' := by
  have HB := Lib.hid ((Below.refl w.heap.size w).alloc (Nat.le_refl _) (hnO s gn))
  have d0 := (HBlk.new w s gn).c0
  have d1 := (HBlk.new w s gn).c1
  go_enter Try.func40, Try.ntmps40
  go_wp2_with fail
  refine (live_nil _ s gn).mono ?_
  rintro e w1 ⟨rfl, hb⟩
  have H1 := Lib.hid (HB.out.trans (hb.mono HB.out.size))
  clear hb d0 d1
  go_wp2
  go_ret
  exact ⟨rfl, H1.out⟩
theorem free_nil (w : World) : Calls Try.prog 30 #[.pointer none] w fun e w' => e = .returned (.int .i64 0) ∧ w = w' := by
  go_enter Try.func30, Try.ntmps30
  go_wp2
  go_ret
  exact ⟨rfl, rfl⟩
theorem slots_nil (w : World) : Calls Try.prog 41 #[.pointer none] w fun e w' => e = .returned (.slice none 0 0) ∧ w = w' := by
  go_enter Try.func41, Try.ntmps41
  go_wp2
  go_ret
  exact ⟨rfl, rfl⟩

set_option maxHeartbeats 4000000 in
theorem take_any (w : World) (b g : Nat) (L : List Slt) (hA : Ar w b g L) (hL : L.length ≤ 1024) :
    Calls Try.prog 32 #[.pointer (some ⟨b, 0, none⟩)] w fun e w' => e = .returned (.tuple #[hnV (takeH L).1 (takeH L).2, .int .i64 (takeE L)]) ∧ Ar w' b g (takeL L) ∧ Upd (· = g) w w' := by
  have CI : Hid (∀ W, Below w.heap.size w W → Calls Try.prog 49 #[.slice (some ⟨g, 0, none⟩) L.length L.length, .func (.func 48) #[] #[]] W fun e w' => e = .returned (.int .i64 (idxV L)) ∧ Below W.heap.size W w') :=
    fun W hW => index_any W W.heap.size L.length L.length _ L (hA.bel hW).row.rd (Nat.le_refl _) hL
  have HB := Lib.hid ((Below.refl w.heap.size w).alloc (Nat.le_refl _) (hnO 0 0))
  have D : Hid (HBlk (w.alloc (hnO 0 0)) w.heap.size 0 0) := HBlk.new w 0 0
  have c := (hA.bel HB.out).c0
  have HA := Lib.hid hA
  clear hA
  rcases take_cases L with ⟨-, e1, e2, e3, e4⟩ | ⟨k, x, -, hk, e1, e2, e3, e4⟩
  · rw [e1, e2, e3]
    rw [e4] at CI
    clear e1 e2 e3 e4
    go_enter Try.func32, Try.ntmps32
    go_wp2_with fail
    refine (CI.out _ HB.out).mono ?_
    rintro e w1 ⟨rfl, hb⟩
    have H1 := Lib.hid (HB.out.trans (hb.mono HB.out.size))
    have D1 := D.out.bel hb (by simp)
    clear hb D c
    have f0 := D1.frozen 0
    have f1 := D1.frozen 1
    have d0 := D1.c0
    have d1 := D1.c1
    go_wp2_with fail
    have HU := Lib.hid (((Upd.of (S := (· = g)) H1.out).setCell (b := w.heap.size) (i := 0) (.inr (Nat.le_refl _)) (.int .i64 0)).setCell (b := w.heap.size) (i := 1) (.inr (Nat.le_refl _)) (.int .u32 0))
    have hbb : Below w.heap.size w ((w1.setCell ⟨w.heap.size, 0, none⟩ (.int .i64 0)).setCell ⟨w.heap.size, 1, none⟩ (.int .u32 0)) := (H1.out.setCell (p := ⟨w.heap.size, 0, none⟩) (Nat.le_refl _) _).setCell (p := ⟨w.heap.size, 1, none⟩) (Nat.le_refl _) _
    have D2 := D1.store 0 0
    generalize (w1.setCell ⟨w.heap.size, 0, none⟩ (.int .i64 0)).setCell ⟨w.heap.size, 1, none⟩ (.int .u32 0) = w2 at *
    exact retT_at Try.results32 D2 ⟨rfl, HA.out.bel hbb, HU.out⟩
  · rw [e1, e2, e3]
    rw [e4] at CI
    clear e1 e2 e3 e4
    have hkl : k < L.length := (List.getElem?_eq_some_iff.1 hk).1
    go_enter Try.func32, Try.ntmps32
    go_wp2_with fail
    refine (CI.out _ HB.out).mono ?_
    rintro e w1 ⟨rfl, hb⟩
    have H1 := Lib.hid (HB.out.trans (hb.mono HB.out.size))
    have D1 := D.out.bel hb (by simp)
    have A1 := HA.out.bel H1.out
    clear hb D c
    have f0 := D1.frozen 0
    have f1 := D1.frozen 1
    have c0 := A1.c0
    have fz := A1.row.frozen (k * 2 + 1)
    have cr := A1.row.refs hk
    obtain ⟨w2, hw2⟩ : ∃ w2, w1.setCell ⟨g, k * 2 + 1, none⟩ (.int .i64 1) = w2 := ⟨_, rfl⟩
    have hR : SRow w2 g (L.set k (x, 1)) := hw2 ▸ A1.row.setRefs hk 1
    have hK : w2.heap[b]? = w1.heap[b]? := hw2 ▸ Below.heap_setCell w1 ⟨g, k * 2 + 1, none⟩ _ b A1.ne
    have A2 : Ar w2 b g (L.set k (x, 1)) := ⟨by rw [List.length_set]; exact hK.trans A1.blk, hR⟩
    have hk2 : (L.set k (x, 1))[k]? = some (x, 1) := by rw [List.getElem?_set, if_pos rfl, if_pos hkl]
    have hgw : g < w.heap.size := HA.out.lt.2
    have D2 : HBlk w2 w.heap.size 0 0 := by
      refine (show w2.heap[w.heap.size]? = w1.heap[w.heap.size]? from hw2 ▸ Below.heap_setCell w1 ⟨g, k * 2 + 1, none⟩ _ w.heap.size (by show w.heap.size ≠ g; omega)).trans D1
    have hU2 : Upd (· = g) w w2 := hw2 ▸ (Upd.of (S := (· = g)) H1.out).setCell (b := g) (i := k * 2 + 1) (.inl rfl) (.int .i64 1)
    have HU2 := Lib.hid hU2
    have a0 := A2.c0
    rw [List.length_set] at a0
    have a1 := A2.row.gen hk2
    have g0 := D2.frozen 0
    have g1 := D2.frozen 1
    have h0 := D2.c0
    have h1 := D2.c1
    have HA2 := Lib.hid A2
    have HD2 := Lib.hid D2
    clear A2 D2 hU2 A1 hR hK D1
    go_wp2_with fail
    have D3 := HD2.out.store (k : Int) x
    have HU3 := Lib.hid ((HU2.out.setCell (b := w.heap.size) (i := 0) (.inr (Nat.le_refl _)) (.int .i64 (k : Int))).setCell (b := w.heap.size) (i := 1) (.inr (Nat.le_refl _)) (.int .u32 x))
    have A3 : Ar ((w2.setCell ⟨w.heap.size, 0, none⟩ (.int .i64 (k : Int))).setCell ⟨w.heap.size, 1, none⟩ (.int .u32 x)) b g (L.set k (x, 1)) :=
      HA2.out.upd (((Upd.refl (· = w.heap.size) w2).setCell (b := w.heap.size) (i := 0) (.inl rfl) (.int .i64 (k : Int))).setCell (b := w.heap.size) (i := 1) (.inl rfl) (.int .u32 x)) (by show b ≠ w.heap.size; have := HA.out.lt.1; omega) (by show g ≠ w.heap.size; omega)
    generalize (w2.setCell ⟨w.heap.size, 0, none⟩ (.int .i64 (k : Int))).setCell ⟨w.heap.size, 1, none⟩ (.int .u32 x) = w3 at *
    exact retT_at Try.results32 D3 ⟨rfl, A3, HU3.out⟩
end Go.Proofs.Ytdnnfoacpjgloaa.Arn

namespace Go.Proofs.Ytdnnfoacpjgloaa.Arn
open Go.RowKit
set_option linter.unusedVariables false

set_option maxHeartbeats 4000000 in
theorem mul64_any (n : Nat) (w : World) (hn : n ≤ 1024) : Calls Try.prog 77 #[.int .u64 1, .int .u64 n] w fun e w' => e = .returned (.tuple #[.int .u64 0, .int .u64 n]) ∧ w = w' := by
  have b1 : bits BinOp.and IntKind.u64 1 4294967295 = 1 := by decide +kernel
  have b3 : bits BinOp.and IntKind.u64 0 4294967295 = 0 := by decide +kernel
  have b2 : bits BinOp.and IntKind.u64 n 4294967295 = n := by
    have := bits_mask .u64 64 (by decide) wraps_u64 32 (by decide) (n : Int) (by omega) (by omega)
    rw [show (2 : Int) ^ 32 - 1 = 4294967295 from by decide] at this
    rw [this]; omega
  have qd : (n : Int) / 4294967296 = 0 := by omega
  have qw : IntKind.u64.wrap (n : Int) = n := by rw [IntKind.wrap_u64]; omega
  go_enter Try.func77, Try.ntmps77
  go_wp2
  go_ret2
  exact ⟨rfl, rfl⟩
theorem mul_any (n : Nat) (w : World) (hn : n ≤ 1024) : Calls Try.prog 69 #[.int .u64 1, .int .u64 n] w fun e w' => e = .returned (.tuple #[.int .u64 0, .int .u64 n]) ∧ w = w' := by
  go_enter Try.func69, Try.ntmps69
  go_wp2_with fail
  refine (mul64_any n _ hn).mono ?_
  rintro e w1 ⟨rfl, rfl⟩
  go_wp2
  go_ret2
  exact ⟨rfl, rfl⟩

theorem made_slots (n : Nat) : madeCells #[.int .u32 0, .int .i64 0] (n * 2) = (flat slotL (List.replicate n (0, 0))).toArray := by
  apply Array.ext
  · rw [size_madeCells, List.size_toArray, flat_len, List.length_replicate]; rfl
  · intro j h1 h2
    rw [size_madeCells] at h1
    have hq : j / 2 < n := by omega
    have hy : (List.replicate n ((0, 0) : Slt))[j / 2]? = some (0, 0) := by rw [List.getElem?_replicate, if_pos hq]
    have he : j / 2 * 2 + j % 2 = j := by omega
    rcases Nat.mod_two_eq_zero_or_one j with h0 | h0
    · have hg := flat_get slotL (List.replicate n (0, 0)) (j / 2) 0 _ _ hy rfl
      rw [show slotL.s = 2 from rfl, show j / 2 * 2 + 0 = j from by omega] at hg
      have hg2 := (List.getElem?_eq_some_iff.1 hg).2
      simp [madeCells, h0, hg2]
    · have hg := flat_get slotL (List.replicate n (0, 0)) (j / 2) 1 _ _ hy rfl
      rw [show slotL.s = 2 from rfl, show j / 2 * 2 + 1 = j from by omega] at hg
      have hg2 := (List.getElem?_eq_some_iff.1 hg).2
      simp [madeCells, h0, hg2]
theorem make_slots (n : Nat) (hn : n ≤ 1024) (W : World) : (Instr.makeSlice 49 (.int .i64 n) (.int .i64 n)).run Try.prog W = .ok (.slice (some ⟨W.heap.size, 0, none⟩) n n) (W.alloc (rowO (List.replicate n (0, 0)))) := by
  obtain ⟨i0, hi0, hz0, hz1, hz2⟩ := info_parts info_slot
  have := run_make (P := Try.prog) W 49 67 i0 _ Try.underlying49 hi0 hz0 .i64 .i64 n n (by omega) (Int.le_refl _) (by rw [hz2]; omega) (by omega)
  rw [this, hz1]
  simp only [Int.toNat_natCast]
  have hm := made_slots n
  simp only [Value.cells] at *
  rw [hm]; rfl
def fillL (k n : Nat) : List Slt := List.replicate k (1, 0) ++ List.replicate (n - k) (0, 0)
theorem fillL_len {k n : Nat} (h : k ≤ n) : (fillL k n).length = n := by simp [fillL]; omega
theorem fillL_step {k m n : Nat} (h : k + m ≤ n) (hm : m ≤ k) : (fillL k n).take k ++ (fillL k n).take m ++ (fillL k n).drop (k + m) = fillL (k + m) n := by
  unfold fillL
  rw [List.take_append_of_le_length (by simp), List.take_append_of_le_length (by simp; omega), List.take_of_length_le (by simp), List.take_replicate, Nat.min_eq_left hm, List.drop_append, List.drop_of_length_le (by simp), List.drop_replicate, List.length_replicate, List.nil_append, List.replicate_append_replicate]
  congr 2
  omega
theorem size_slot : (Try.prog.info? 67).map (·.size) = some 2 := by kernel_rfl
set_option maxHeartbeats 4000000 in
theorem repeat_any (w : World) (q n : Nat) (h1 : 1 ≤ n) (hn : n ≤ 1024) (hq : Whole slotL w q [(1, 0)]) :
    Calls Try.prog 47 #[.slice (some ⟨q, 0, none⟩) 1 1, .int .i64 n] w fun e w' => e = .returned (.slice (some ⟨w.heap.size, 0, none⟩) n n) ∧ SRow w' w.heap.size (List.replicate n (1, 0)) ∧ Below w.heap.size w w' := by
  have hd : decide ((n : Int) < 0) = false := by simp
  have hqq : q < w.heap.size := lt_of_some hq
  have CM : Hid (∀ W, Calls Try.prog 69 #[.int .u64 1, .int .u64 n] W fun e w' => e = .returned (.tuple #[.int .u64 0, .int .u64 n]) ∧ W = w') := fun W => mul_any n W hn
  have qw : IntKind.u64.wrap (n : Int) = n := by rw [IntKind.wrap_u64]; omega
  have qi : IntKind.i64.wrap (n : Int) = n := IntWalk.i64_in _ (by omega)
  have hmk := make_slots n hn w
  have hB := (Below.refl w.heap.size w).alloc (Nat.le_refl _) (rowO (List.replicate n (0, 0)))
  have hg : Whole slotL (w.alloc (rowO (List.replicate n (0, 0)))) w.heap.size (List.replicate n (0, 0)) := heap_alloc_new w _
  have hq1 : Whole slotL (w.alloc (rowO (List.replicate n (0, 0)))) q [(1, 0)] := (hB.block q hqq).trans hq
  generalize w.alloc (rowO (List.replicate n (0, 0))) = w1 at *
  obtain ⟨w2, hcp, hw2, hu2⟩ := copy_recs (P := Try.prog) (L := slotL) (dT := 49) (ty := 3) (w := w1) (g := w.heap.size) (k := 0) (n := n) (dc := n) (sl := 1) (sc := 1) (a := some ⟨q, 0, none⟩) (ys := [(1, 0)]) (xs := List.replicate n (0, 0)) Try.underlying49 size_slot hg (rowRd_blk hq1 rfl) (by have : Nat.min 1 n = 1 := Nat.min_eq_left h1; omega) (by simp)
  rw [show Nat.min 1 n = 1 from Nat.min_eq_left h1, Nat.zero_mul] at hcp
  rw [show Nat.min 1 n = 1 from Nat.min_eq_left h1] at hw2
  have H2 : Hid (Whole slotL w2 w.heap.size (fillL 1 n)) := by
    have : (List.replicate n ((0, 0) : Slt)).take 0 ++ [((1, 0) : Slt)].take 1 ++ (List.replicate n ((0, 0) : Slt)).drop (0 + 1) = fillL 1 n := by simp [fillL]
    rw [this] at hw2; exact hw2
  have HB2 := Lib.hid (hB.trans ((hu2.below (B := w.heap.size) hB.size (fun k hk => by rw [hk]; exact Nat.le_refl _))))
  clear hg hq1 hu2 hw2 hB hq
  go_enter Try.func47, Try.ntmps47
  go_wp2_with fail
  refine (CM.out w).mono ?_
  rintro e w' ⟨rfl, rfl⟩
  go_wp2
  go_loopw [8] (fun sn wx => ∃ k : Nat, 1 ≤ k ∧ k ≤ n ∧ sn = .int .i64 k ∧ Hid (Whole slotL wx w.heap.size (fillL k n)) ∧ Hid (Below w.heap.size w wx)) (fun sn _ => n - (intOf sn).toNat)
  case atStart => exact ⟨1, by omega, by omega, rfl, H2, HB2⟩
  case round =>
    obtain ⟨k, hk1, hkn, rfl, hw, hb⟩ := hrel
    rename World => wx
    by_cases hlt : k < n
    · obtain ⟨wd, hwd⟩ : ∃ wd, wx.drew = wd := ⟨_, rfl⟩
      have hw : Hid (Whole slotL wd w.heap.size (fillL k n)) := hwd ▸ hw
      have hb : Hid (Below w.heap.size w wd) := hwd ▸ hb.out.drew
      have HR : RowRd slotL wd wd.heap.size (some ⟨w.heap.size, 0, none⟩) k ((fillL k n).take k) := row_take (by have := rowRd_blk hw.out (fillL_len hkn); exact this) hkn
      obtain ⟨m, hm⟩ : ∃ m, Nat.min k (n - k) = m := ⟨_, rfl⟩
      have hmk : m ≤ k := hm ▸ Nat.min_le_left _ _
      have hmn : m ≤ n - k := hm ▸ Nat.min_le_right _ _
      have hm0 : 0 < m := by rw [← hm]; exact Nat.lt_min.2 ⟨by omega, by omega⟩
      obtain ⟨w3, hcp3, hw3, hu3⟩ := copy_recs (P := Try.prog) (L := slotL) (dT := 49) (ty := 3) (w := wd) (g := w.heap.size) (k := k) (n := n - k) (dc := n - k) (sl := k) (sc := n) (a := some ⟨w.heap.size, 0, none⟩) (ys := (fillL k n).take k) (xs := fillL k n) Try.underlying49 size_slot hw.out HR (by omega) (by rw [fillL_len hkn]; omega)
      rw [hm, show slotL.s = 2 from rfl] at hcp3
      rw [hm] at hw3
      have H3 : Hid (Whole slotL w3 w.heap.size (fillL (k + m) n)) := by
        rw [List.take_take, Nat.min_eq_left hmk, fillL_step (by omega) hmk] at hw3; exact hw3
      have HB3 := Lib.hid (hb.out.trans (hu3.below (B := w.heap.size) hb.out.size (fun k hk => by rw [hk]; exact Nat.le_refl _)))
      obtain ⟨i0, hi0, hz0, hz1, hz2⟩ := info_parts info_slot
      have ht := rec_to (P := Try.prog) (t := 49) (e := 67) Try.underlying49 (by kernel_rfl) hi0 hz1 (some ⟨w.heap.size, 0, none⟩) n n k k rfl hkn
      obtain ⟨X, hX, hf⟩ := rec_from (P := Try.prog) (t := 49) (e := 67) Try.underlying49 (by kernel_rfl) hi0 hz1 (some ⟨w.heap.size, 0, none⟩) n n k k rfl hkn
      obtain rfl := hX _ _ rfl (by omega)
      rw [Nat.zero_add] at hf
      clear hi0 hz0 hz1 hz2 hX HR hu3 hw3 hw hb hm
      have hS : True := trivial
      have qs : IntKind.i64.wrap ((k : Int) + m) = ((k + m : Nat) : Int) := IntWalk.i64_in _ (by omega)
      go_wp2_with fail
      refine region_seq (fun _ => True) [(0, false), (1, false), (2, false), (3, false), (4, false), (5, false), (6, false), (7, true), (8, false), (9, false)] (by kernel_rfl) (by kernel_rfl) rfl (by kernel_rfl) ?_
      rw [hwd]
      iterate 7 (refine seq_read (v := _) rfl (fun _ _ _ h => h) hS (Or.inl ⟨by rfl, fun W hW => by go_simp <;> with_reducible rfl⟩) ?_; simp only [Act.put, List.setIfInBounds_toArray, List.set_cons_zero, List.set_cons_succ])
      refine seq_do rfl (fun K hK => ?_)
      go_simp
      refine hK.out _ _ _ (fun W h => h) hS ?_
      clear hK K
      iterate 2 (refine seq_read (v := _) rfl (fun _ _ _ h => h) hS (Or.inl ⟨by rfl, fun W hW => by go_simp <;> with_reducible rfl⟩) ?_; simp only [Act.put, List.setIfInBounds_toArray, List.set_cons_zero, List.set_cons_succ])
      refine seq_end ?_
      go_wp2_with fail
      go_roundw
      case rel => exact ⟨k + m, by omega, by omega, by go_num, H3, HB3⟩
      case measure => simp [intOf]; omega
    · obtain rfl : k = n := by omega
      have hf : fillL k k = List.replicate k (1, 0) := by simp [fillL]
      have HR : Hid (SRow wx w.heap.size (List.replicate k (1, 0))) := by rw [← hf]; exact hw
      clear hw hf
      go_wp2
      go_ret
      exact ⟨rfl, HR.out, hb.out⟩

/-- A new arena. -/
def RetA (w : World) (n : Int) (e : Ending) (w' : World) : Prop := ∃ b g, e = .returned (.pointer (some ⟨b, 0, none⟩)) ∧ Ar w' b g (newL n) ∧ w.heap.size ≤ b ∧ w.heap.size ≤ g ∧ Below w.heap.size w w'
set_option maxHeartbeats 4000000 in
theorem new_any (w : World) (n : Int) (hw1 : -9223372036854775808 ≤ n) (hw2 : n ≤ 9223372036854775807) : Calls Try.prog 29 #[.int .i64 n] w (RetA w n) := by
  obtain ⟨N, hN⟩ : ∃ N, (min (max n 1) 1024).toNat = N := ⟨_, rfl⟩
  have hN1 : 1 ≤ N := by omega
  have hN2 : N ≤ 1024 := by omega
  have hL : newL n = List.replicate N (1, 0) := by unfold newL; rw [hN]
  have hB := (Below.refl w.heap.size w).alloc (Nat.le_refl _) (slO (1, 0))
  have hq : Whole slotL (w.alloc (slO (1, 0))) w.heap.size [(1, 0)] := heap_alloc_new w _
  have hsz : (w.alloc (slO (1, 0))).heap.size = w.heap.size + 1 := by simp
  have CR : Hid (Calls Try.prog 47 #[.slice (some ⟨w.heap.size, 0, none⟩) 1 1, .int .i64 N] (w.alloc (slO (1, 0))) fun e w' => e = .returned (.slice (some ⟨w.heap.size + 1, 0, none⟩) N N) ∧ SRow w' (w.heap.size + 1) (List.replicate N (1, 0)) ∧ Below w.heap.size w w') := by
    have := repeat_any _ w.heap.size N hN1 hN2 hq
    rw [hsz] at this
    refine this.mono ?_
    rintro e w' ⟨rfl, h1, h2⟩
    exact ⟨rfl, h1, hB.trans (h2.mono (by omega))⟩
  have fin : Hid (∀ w1, SRow w1 (w.heap.size + 1) (List.replicate N (1, 0)) → Below w.heap.size w w1 → RetA w n (.returned (.pointer (some ⟨w1.heap.size, 0, none⟩))) (w1.alloc (.cells #[.slice (some ⟨w.heap.size + 1, 0, none⟩) N N] 89 (0, 0)))) := by
    intro w1 h1 h2
    refine ⟨w1.heap.size, w.heap.size + 1, rfl, ⟨?_, ?_⟩, h2.size, by omega, h2.alloc h2.size _⟩
    · rw [hL, List.length_replicate]; exact heap_alloc_new w1 _
    · rw [hL]
      exact ((Below.refl w1.heap.size w1).alloc (Nat.le_refl _) _).block _ (lt_of_some h1) |>.trans h1
  clear hB hq hsz hL
  have h3 : n < 1 ∨ (1 ≤ n ∧ n ≤ 1024) ∨ 1024 < n := by omega
  rcases h3 with h | ⟨h, h'⟩ | h
  · obtain rfl : 1 = N := by omega
    go_enter Try.func29, Try.ntmps29
    go_wp2_with fail
    refine CR.out.mono ?_
    rintro e w1 ⟨rfl, h1, h2⟩
    have F := Lib.hid (fin.out w1 h1 h2)
    clear h1 h2 fin CR
    go_wp2
    go_ret
    exact F.out
  · obtain rfl : n = (N : Int) := by omega
    go_enter Try.func29, Try.ntmps29
    go_wp2_with fail
    refine CR.out.mono ?_
    rintro e w1 ⟨rfl, h1, h2⟩
    have F := Lib.hid (fin.out w1 h1 h2)
    clear h1 h2 fin CR
    go_wp2
    go_ret
    exact F.out
  · obtain rfl : 1024 = N := by omega
    go_enter Try.func29, Try.ntmps29
    go_wp2_with fail
    refine CR.out.mono ?_
    rintro e w1 ⟨rfl, h1, h2⟩
    have F := Lib.hid (fin.out w1 h1 h2)
    clear h1 h2 fin CR
    go_wp2
    go_ret
    exact F.out
theorem retH_at {f : Func} {R : Ending → World → Prop} {W : World} {b : Nat} {s g : Int} {tmps : Array Value} (hf : f.results = #[.cell 4 31]) (D : HBlk W b s g) (hR : R (.returned (hnV s g)) W)
    (h4 : tmps[4]?.getD undef = .pointer (some ⟨b, 0, none⟩) := by rfl) : bodyPost Try.prog f R .ret ⟨tmps, []⟩ W := by
  have c0 := D.c0
  have c1 := D.c1
  exact bodyPost_ret (v := hnV s g) (by simp [results, hf, go_sem, h4, c0, c1]) rfl hR
end Go.Proofs.Ytdnnfoacpjgloaa.Arn
