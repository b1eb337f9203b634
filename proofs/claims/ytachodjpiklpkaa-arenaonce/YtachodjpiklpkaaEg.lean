/- The contracts of arena's Keep, Drop, Refs. -/
import Derived.Test.YtachodjpiklpkaaEf
set_option maxRecDepth 100000
namespace Go.Proofs.Ytachodjpiklpkaa.Arn
open Go.RowKit
set_option linter.unusedVariables false

theorem live_cases (L : List Slt) (s g : Int) : liveB L s g = false ∨ ∃ (k : Nat) (x : Slt), s = k ∧ L[k]? = some x ∧ 0 < x.2 ∧ x.1 = g ∧ liveB L s g = true := by
  cases h : liveB L s g with
  | false => exact .inl rfl
  | true =>
    rcases hnd_cases L s with h0 | ⟨h1, h0⟩ | ⟨k, x, rfl, hk, hx⟩
    · rw [liveB_neg h0] at h; cases h
    · rw [liveB_far h1] at h; cases h
    · rw [liveB_at g hx] at h
      simp only [Bool.and_eq_true, decide_eq_true_eq] at h
      exact .inr ⟨k, x, rfl, hx, h.1, h.2, rfl⟩
theorem getD_of {L : List Slt} {k : Nat} {x : Slt} (h : L[k]? = some x) : L.getD k (0, 0) = x := by rw [List.getD_eq_getElem?_getD, h]; rfl
theorem keepL_at {L : List Slt} {k : Nat} {x : Slt} {g : Int} (h : L[k]? = some x) (hl : liveB L k g = true) : keepL L k g = L.set k (x.1, x.2 + 1) := by
  unfold keepL; rw [if_pos hl, Int.toNat_natCast, getD_of h]
theorem dropL_at {L : List Slt} {k : Nat} {x : Slt} {g : Int} (h : L[k]? = some x) (hl : liveB L k g = true) : dropL L k g = L.set k (dropped x) := by
  unfold dropL; rw [if_pos hl, Int.toNat_natCast, getD_of h]
theorem refsV_at {L : List Slt} {k : Nat} {x : Slt} {g : Int} (h : L[k]? = some x) (hl : liveB L k g = true) : refsV L k g = x.2 := by
  unfold refsV; rw [if_pos hl, Int.toNat_natCast, getD_of h]
theorem keepL_no {L : List Slt} {s g : Int} (hl : liveB L s g = false) : keepL L s g = L := by unfold keepL; rw [hl]; rfl
theorem dropL_no {L : List Slt} {s g : Int} (hl : liveB L s g = false) : dropL L s g = L := by unfold dropL; rw [hl]; rfl
theorem refsV_no {L : List Slt} {s g : Int} (hl : liveB L s g = false) : refsV L s g = 0 := by unfold refsV; rw [hl]; rfl
theorem callE_no {L : List Slt} {s g : Int} (hl : liveB L s g = false) : callE L s g = 7 := by unfold callE; rw [hl]; rfl
theorem callE_yes {L : List Slt} {s g : Int} (hl : liveB L s g = true) : callE L s g = 0 := by unfold callE; rw [hl]; rfl
theorem keepL_len (L : List Slt) (s g : Int) : (keepL L s g).length = L.length := by unfold keepL; split <;> simp
theorem dropL_len (L : List Slt) (s g : Int) : (dropL L s g).length = L.length := by unfold dropL; split <;> simp
theorem OkS.mono {M N : Int} {L : List Slt} (h : OkS M L) (hM : M ≤ N) : OkS N L := fun x hx => ⟨(h x hx).1, (h x hx).2.1, by have := (h x hx).2.2; omega⟩
theorem OkS.set {M : Int} {L : List Slt} (h : OkS M L) (k : Nat) (y : Slt) (hy : (0 ≤ y.1 ∧ y.1 < 4294967296) ∧ 0 ≤ y.2 ∧ y.2 ≤ M) : OkS M (L.set k y) := fun x hx => by
  rcases List.mem_or_eq_of_mem_set hx with hx | rfl
  · exact h x hx
  · exact hy
theorem OkS.keep {M : Int} {L : List Slt} (h : OkS M L) (s g : Int) : OkS (M + 1) (keepL L s g) := by
  rcases live_cases L s g with hl | ⟨k, x, rfl, hx, hp, rfl, hl⟩
  · rw [keepL_no hl]; exact h.mono (by omega)
  · rw [keepL_at hx hl]
    have := h.at_ hx
    exact (h.mono (by omega)).set k _ ⟨this.1, by show 0 ≤ x.2 + 1; omega, by show x.2 + 1 ≤ M + 1; omega⟩
theorem OkS.drop {M : Int} {L : List Slt} (h : OkS M L) (s g : Int) : OkS M (dropL L s g) := by
  rcases live_cases L s g with hl | ⟨k, x, rfl, hx, hp, rfl, hl⟩
  · rw [dropL_no hl]; exact h
  · rw [dropL_at hx hl]
    have := h.at_ hx
    refine h.set k _ ?_
    unfold dropped
    split
    · exact ⟨⟨by show 0 ≤ (x.1 + 1) % 4294967296; omega, by show (x.1 + 1) % 4294967296 < _; omega⟩, by show (0 : Int) ≤ 0; omega, by show (0 : Int) ≤ M; omega⟩
    · exact ⟨this.1, by show 0 ≤ x.2 - 1; omega, by show x.2 - 1 ≤ M; omega⟩

set_option maxHeartbeats 4000000 in
theorem keep_any (w : World) (b g : Nat) (L : List Slt) (s gn M : Int) (hA : Ar w b g L) (hL : L.length ≤ 1024) (hO : OkS M L) (hM : M ≤ 4611686018427387904) :
    Calls Try.prog 13 #[.pointer (some ⟨b, 0, none⟩), hnV s gn] w fun e w' => e = .returned (.int .i64 (callE L s gn)) ∧ Ar w' b g (keepL L s gn) ∧ Upd (· = g) w w' := by
  have CL : Hid (∀ W, Below w.heap.size w W → Calls Try.prog 26 #[.pointer (some ⟨b, 0, none⟩), hnV s gn] W fun e w' => e = .returned (.pointer (if liveB L s gn then some ⟨g, s.toNat * 2, none⟩ else none)) ∧ Below W.heap.size W w') :=
    fun W hW => live_any W b g L s gn (hA.bel hW) hL (fun x hx => (hO x hx).2.1)
  have hB := Lib.hid ((Below.refl w.heap.size w).alloc (Nat.le_refl _) (hnO s gn))
  have c0 : (w.alloc (hnO s gn)).cell? ⟨w.heap.size, 0, none⟩ = some (.int .i64 s) := cell_of_row _ _ 0 _ _ _ (heap_alloc_new w _)
  have c1 : (w.alloc (hnO s gn)).cell? ⟨w.heap.size, 1, none⟩ = some (.int .u32 gn) := cell_of_row _ _ 1 _ _ _ (heap_alloc_new w _)
  have HA := Lib.hid hA
  clear hA
  rcases live_cases L s gn with hl | ⟨k, x, rfl, hx, hp, rfl, hl⟩
  · rw [hl, if_neg (by decide)] at CL
    rw [callE_no hl, keepL_no hl]
    clear hl
    go_enter Try.func13, Try.ntmps13
    go_wp2_with fail
    refine (CL.out _ hB.out).mono ?_
    rintro e w2 ⟨rfl, hb2⟩
    have H2 := Lib.hid (hB.out.trans (hb2.mono hB.out.size))
    clear hb2 hB c0 c1
    go_wp2_with fail
    go_ret
    exact ⟨rfl, HA.out.bel H2.out, .of H2.out⟩
  · rw [hl, if_pos rfl, Int.toNat_natCast] at CL
    rw [callE_yes hl, keepL_at hx hl]
    clear hl
    have q1 : IntKind.i64.wrap (x.2 + 1) = x.2 + 1 := IntWalk.i64_in _ (by have := hO.at_ hx; omega)
    go_enter Try.func13, Try.ntmps13
    go_wp2_with fail
    refine (CL.out _ hB.out).mono ?_
    rintro e w2 ⟨rfl, hb2⟩
    have H2 := Lib.hid (hB.out.trans (hb2.mono hB.out.size))
    clear hb2 hB c0 c1
    have A2 := HA.out.bel H2.out
    have c := A2.row.refs hx
    have fz := A2.row.frozen (k * 2 + 1)
    have HU := Lib.hid ((Upd.of (S := (· = g)) H2.out).setCell (b := g) (i := k * 2 + 1) (.inl rfl) (.int .i64 (x.2 + 1)))
    have HR := Lib.hid (A2.row.setRefs hx (x.2 + 1))
    have HK : Hid ((w2.setCell ⟨g, k * 2 + 1, none⟩ (.int .i64 (x.2 + 1))).heap[b]? = w2.heap[b]?) := Below.heap_setCell w2 ⟨g, k * 2 + 1, none⟩ _ b A2.ne
    have HA2 := Lib.hid A2.blk
    clear A2
    go_wp2_with fail
    go_ret
    exact ⟨rfl, ⟨by rw [List.length_set]; exact HK.out.trans HA2.out, HR.out⟩, HU.out⟩

set_option maxHeartbeats 4000000 in
theorem refs_any (w : World) (b g : Nat) (L : List Slt) (s gn M : Int) (hA : Ar w b g L) (hL : L.length ≤ 1024) (hO : OkS M L) :
    Calls Try.prog 17 #[.pointer (some ⟨b, 0, none⟩), hnV s gn] w fun e w' => e = .returned (.int .i64 (refsV L s gn)) ∧ Below w.heap.size w w' := by
  have CL : Hid (∀ W, Below w.heap.size w W → Calls Try.prog 26 #[.pointer (some ⟨b, 0, none⟩), hnV s gn] W fun e w' => e = .returned (.pointer (if liveB L s gn then some ⟨g, s.toNat * 2, none⟩ else none)) ∧ Below W.heap.size W w') :=
    fun W hW => live_any W b g L s gn (hA.bel hW) hL (fun x hx => (hO x hx).2.1)
  have hB := Lib.hid ((Below.refl w.heap.size w).alloc (Nat.le_refl _) (hnO s gn))
  have c0 : (w.alloc (hnO s gn)).cell? ⟨w.heap.size, 0, none⟩ = some (.int .i64 s) := cell_of_row _ _ 0 _ _ _ (heap_alloc_new w _)
  have c1 : (w.alloc (hnO s gn)).cell? ⟨w.heap.size, 1, none⟩ = some (.int .u32 gn) := cell_of_row _ _ 1 _ _ _ (heap_alloc_new w _)
  have HA := Lib.hid hA
  clear hA
  rcases live_cases L s gn with hl | ⟨k, x, rfl, hx, hp, rfl, hl⟩
  · rw [hl, if_neg (by decide)] at CL
    rw [refsV_no hl]
    clear hl
    go_enter Try.func17, Try.ntmps17
    go_wp2_with fail
    refine (CL.out _ hB.out).mono ?_
    rintro e w2 ⟨rfl, hb2⟩
    have H2 := Lib.hid (hB.out.trans (hb2.mono hB.out.size))
    clear hb2 hB c0 c1
    go_wp2_with fail
    go_ret
    exact ⟨rfl, H2.out⟩
  · rw [hl, if_pos rfl, Int.toNat_natCast] at CL
    rw [refsV_at hx hl]
    clear hl
    go_enter Try.func17, Try.ntmps17
    go_wp2_with fail
    refine (CL.out _ hB.out).mono ?_
    rintro e w2 ⟨rfl, hb2⟩
    have H2 := Lib.hid (hB.out.trans (hb2.mono hB.out.size))
    clear hb2 hB c0 c1
    have A2 := HA.out.bel H2.out
    have c := A2.row.refs hx
    clear A2
    go_wp2_with fail
    go_ret
    exact ⟨rfl, H2.out⟩

set_option maxHeartbeats 4000000 in
theorem drop_any (w : World) (b g : Nat) (L : List Slt) (s gn M : Int) (hA : Ar w b g L) (hL : L.length ≤ 1024) (hO : OkS M L) (hM : M ≤ 4611686018427387904) :
    Calls Try.prog 15 #[.pointer (some ⟨b, 0, none⟩), hnV s gn] w fun e w' => e = .returned (.int .i64 (callE L s gn)) ∧ Ar w' b g (dropL L s gn) ∧ Upd (· = g) w w' := by
  have CL : Hid (∀ W, Below w.heap.size w W → Calls Try.prog 26 #[.pointer (some ⟨b, 0, none⟩), hnV s gn] W fun e w' => e = .returned (.pointer (if liveB L s gn then some ⟨g, s.toNat * 2, none⟩ else none)) ∧ Below W.heap.size W w') :=
    fun W hW => live_any W b g L s gn (hA.bel hW) hL (fun x hx => (hO x hx).2.1)
  have hB := Lib.hid ((Below.refl w.heap.size w).alloc (Nat.le_refl _) (hnO s gn))
  have c0 : (w.alloc (hnO s gn)).cell? ⟨w.heap.size, 0, none⟩ = some (.int .i64 s) := cell_of_row _ _ 0 _ _ _ (heap_alloc_new w _)
  have c1 : (w.alloc (hnO s gn)).cell? ⟨w.heap.size, 1, none⟩ = some (.int .u32 gn) := cell_of_row _ _ 1 _ _ _ (heap_alloc_new w _)
  have HA := Lib.hid hA
  clear hA
  rcases live_cases L s gn with hl | ⟨k, x, rfl, hx, hp, rfl, hl⟩
  · rw [hl, if_neg (by decide)] at CL
    rw [callE_no hl, dropL_no hl]
    clear hl
    go_enter Try.func15, Try.ntmps15
    go_wp2_with fail
    refine (CL.out _ hB.out).mono ?_
    rintro e w2 ⟨rfl, hb2⟩
    have H2 := Lib.hid (hB.out.trans (hb2.mono hB.out.size))
    clear hb2 hB c0 c1
    go_wp2_with fail
    go_ret
    exact ⟨rfl, HA.out.bel H2.out, .of H2.out⟩
  · rw [hl, if_pos rfl, Int.toNat_natCast] at CL
    rw [callE_yes hl, dropL_at hx hl]
    obtain ⟨Z, hZ⟩ : ∃ Z, L.set k (dropped x) = Z := ⟨_, rfl⟩
    rw [hZ]
    have HZ := Lib.hid hZ
    clear hl hZ
    have hxx := hO.at_ hx
    have hk : k < L.length := (List.getElem?_eq_some_iff.1 hx).1
    have q1 : IntKind.i64.wrap (x.2 - 1) = x.2 - 1 := IntWalk.i64_in _ (by omega)
    go_enter Try.func15, Try.ntmps15
    go_wp2_with fail
    refine (CL.out _ hB.out).mono ?_
    rintro e w2 ⟨rfl, hb2⟩
    have H2 := Lib.hid (hB.out.trans (hb2.mono hB.out.size))
    clear hb2 hB c0 c1
    have A2 := HA.out.bel H2.out
    have c := A2.row.refs hx
    have fz := A2.row.frozen (k * 2 + 1)
    obtain ⟨w3, hw3⟩ : ∃ w3, w2.setCell ⟨g, k * 2 + 1, none⟩ (.int .i64 (x.2 - 1)) = w3 := ⟨_, rfl⟩
    have HU := Lib.hid (hw3 ▸ (Upd.of (S := (· = g)) H2.out).setCell (b := g) (i := k * 2 + 1) (.inl rfl) (.int .i64 (x.2 - 1)))
    have hR : SRow w3 g (L.set k (x.1, x.2 - 1)) := hw3 ▸ A2.row.setRefs hx (x.2 - 1)
    have hx3 : (L.set k (x.1, x.2 - 1))[k]? = some (x.1, x.2 - 1) := by rw [List.getElem?_set, if_pos rfl, if_pos hk]
    have hK : w3.heap[b]? = w2.heap[b]? := hw3 ▸ Below.heap_setCell w2 ⟨g, k * 2 + 1, none⟩ _ b A2.ne
    have HA3 : Hid (Ar w3 b g (L.set k (x.1, x.2 - 1))) := ⟨by rw [List.length_set]; exact hK.trans A2.blk, hR⟩
    have d0 := hR.gen hx3
    have d1 := hR.refs hx3
    clear A2 hR hK
    go_wp2_with fail
    clear c fz hw3
    refine (isFree_any (x.1, x.2 - 1) _).mono ?_
    rintro e w4 ⟨rfl, hb4⟩
    have A4 := HA3.out.bel hb4
    have HU4 := Lib.hid (HU.out.trans (.of hb4))
    clear hb4 HU HA3
    by_cases h1 : x.2 = 1
    · have q : decide (x.2 - 1 = 0) = true := by simp; omega
      have qd : L.set k (dropped x) = (L.set k (x.1, x.2 - 1)).set k ((x.1 + 1) % 4294967296, x.2 - 1) := by rw [List.set_set]; unfold dropped; rw [if_pos h1, h1]; rfl
      have q2 : IntKind.u32.wrap (x.1 + 1) = (x.1 + 1) % 4294967296 := by simp [IntKind.wrap, IntKind.bits, IntKind.signed]
      rw [q]
      have HD := Lib.hid (HZ.out.symm.trans qd)
      have c := A4.row.gen hx3
      have fz := A4.row.frozen (k * 2)
      have HU5 := Lib.hid (HU4.out.setCell (b := g) (i := k * 2) (.inl rfl) (.int .u32 ((x.1 + 1) % 4294967296)))
      have HR := Lib.hid (A4.row.setGen hx3 ((x.1 + 1) % 4294967296))
      have HK : Hid ((w4.setCell ⟨g, k * 2, none⟩ (.int .u32 ((x.1 + 1) % 4294967296))).heap[b]? = w4.heap[b]?) := Below.heap_setCell w4 ⟨g, k * 2, none⟩ _ b A4.ne
      have HA4 := Lib.hid A4.blk
      clear A4 qd q d0 d1 h1
      generalize (x.1 + 1) % 4294967296 = y at *
      go_wp2_with fail
      go_ret
      exact ⟨rfl, by rw [HD.out]; exact ⟨by rw [List.length_set]; exact HK.out.trans HA4.out, HR.out⟩, HU5.out⟩
    · have q : decide (x.2 - 1 = 0) = false := by simp; omega
      have qd : L.set k (dropped x) = L.set k (x.1, x.2 - 1) := by unfold dropped; rw [if_neg h1]
      rw [q]
      have HD := Lib.hid (HZ.out.symm.trans qd)
      have HA4 := Lib.hid A4
      clear A4 qd q d0 d1 h1
      go_wp2_with fail
      go_ret
      exact ⟨rfl, by rw [HD.out]; exact HA4.out, HU4.out⟩
end Go.Proofs.Ytachodjpiklpkaa.Arn
