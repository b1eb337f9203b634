/- The contracts of the store's slots, Refs, Keep, Drop, Free, Slots, inPlace. -/
import Derived.Test.YtdnnfoacpjgloaaGb
set_option maxRecDepth 100000
namespace Go.Proofs.Ytdnnfoacpjgloaa.Stv
open Go.RowKit
open Arn (Slt Ar OkS Upd hnV hnO HBlk refsV callE keepL dropL freeN RetS liveB)
open Pat (OwnG BlkG)
set_option linter.unusedVariables false

set_option maxHeartbeats 4000000 in
theorem slots_of (w : World) (b ba ga g : Nat) (L : List Slt) (D : List (List Int)) (h : Sto w b ba ga g L D) :
    Calls Try.prog 31 #[.pointer (some ⟨b, 0, none⟩)] w fun e w' => e = .returned (.pointer (some ⟨ba, 0, none⟩)) ∧ w = w' := by
  have c := h.c0
  clear h
  go_enter Try.func31, Try.ntmps31
  go_wp2
  go_ret
  exact ⟨rfl, rfl⟩

set_option maxHeartbeats 4000000 in
theorem refs_st (w : World) (b ba ga g : Nat) (L : List Slt) (D : List (List Int)) (s gn M : Int) (h : Sto w b ba ga g L D) (hL : L.length ≤ 1024) (hO : OkS M L) :
    Calls Try.prog 21 #[.pointer (some ⟨b, 0, none⟩), hnV s gn] w fun e w' => e = .returned (.int .i64 (refsV L s gn)) ∧ Below w.heap.size w w' := by
  have hB := (Below.refl w.heap.size w).alloc (Nat.le_refl _) (hnO s gn)
  have hn := HBlk.new w s gn
  have h1 := h.bel hB
  generalize hw1 : w.alloc (hnO s gn) = w1 at hB hn h1
  have f0 : ∀ W, Below w1.heap.size w1 W → W.cell? ⟨w.heap.size, 0, none⟩ = some (.int .i64 s) := fun W hW => (hn.bel hW hn.lt).c0
  have f1 : ∀ W, Below w1.heap.size w1 W → W.cell? ⟨w.heap.size, 1, none⟩ = some (.int .u32 gn) := fun W hW => (hn.bel hW hn.lt).c1
  have CS : Hid (∀ W, Below w1.heap.size w1 W → Calls Try.prog 31 #[.pointer (some ⟨b, 0, none⟩)] W fun e w' => e = .returned (.pointer (some ⟨ba, 0, none⟩)) ∧ W = w') := fun W hW => slots_of W b ba ga g L D (h1.bel hW)
  have CR : Hid (∀ W, Below w1.heap.size w1 W → Calls Try.prog 40 #[.pointer (some ⟨ba, 0, none⟩), hnV s gn] W fun e w' => e = .returned (.int .i64 (refsV L s gn)) ∧ Below W.heap.size W w') := fun W hW => Arn.refs_any W ba ga L s gn M (h1.bel hW).ar hL hO
  have hS : Below w1.heap.size w1 w1.drew := (Below.refl _ _).drew
  have HB := Lib.hid hB
  clear hB hn h1 h
  go_enter Try.func21, Try.ntmps21
  go_wp2_with fail
  refine region_seq (Below w1.heap.size w1) [(0, false), (2, false), (1, true), (3, true), (4, false)] (by kernel_rfl) (by kernel_rfl) rfl (by kernel_rfl) ?_
  iterate 2 (refine seq_read (v := _) rfl (fun _ _ _ h => h) hS (Or.inl ⟨by rfl, fun W hW => by go_simp <;> with_reducible rfl⟩) ?_; simp only [Act.put, List.setIfInBounds_toArray, List.set_cons_zero, List.set_cons_succ])
  refine seq_do rfl (fun K hK => ?_)
  go_simp
  refine (CS.out _ hS).mono ?_
  rintro e w2 ⟨rfl, rfl⟩
  refine hK.out _ _ _ (fun W h => h) hS ?_
  clear hK K CS
  refine seq_do rfl (fun K hK => ?_)
  go_simp
  refine (CR.out _ hS).mono ?_
  rintro e w2 ⟨rfl, hb2⟩
  have hS2 : Below w1.heap.size w1 w2 := hS.trans (hb2.mono hS.size)
  clear hS
  have hS := hS2
  refine hK.out _ _ _ (fun W h => h) hS ?_
  clear hK K CR hb2 hS2
  iterate 1 (refine seq_read (v := _) rfl (fun _ _ _ h => h) hS (Or.inl ⟨by rfl, fun W hW => by go_simp <;> with_reducible rfl⟩) ?_; simp only [Act.put, List.setIfInBounds_toArray, List.set_cons_zero, List.set_cons_succ])
  refine seq_end ?_
  go_wp2_with fail
  go_ret
  exact ⟨rfl, HB.out.trans (hS.mono HB.out.size)⟩

set_option maxHeartbeats 4000000 in
theorem keep_st (w : World) (b ba ga g : Nat) (L : List Slt) (D : List (List Int)) (s gn M : Int) (h : Sto w b ba ga g L D) (hL : L.length ≤ 1024) (hO : OkS M L) (hM : M ≤ 4611686018427387904) :
    Calls Try.prog 13 #[.pointer (some ⟨b, 0, none⟩), hnV s gn] w fun e w' => e = .returned (.int .i64 (callE L s gn)) ∧ Sto w' b ba ga g (keepL L s gn) D ∧ Upd (· = ga) w w' := by
  have hB := (Below.refl w.heap.size w).alloc (Nat.le_refl _) (hnO s gn)
  have hn := HBlk.new w s gn
  have h1 := h.bel hB
  generalize hw1 : w.alloc (hnO s gn) = w1 at hB hn h1
  have f0 : ∀ W, HBlk W w.heap.size s gn → W.cell? ⟨w.heap.size, 0, none⟩ = some (.int .i64 s) := fun W h => h.c0
  have f1 : ∀ W, HBlk W w.heap.size s gn → W.cell? ⟨w.heap.size, 1, none⟩ = some (.int .u32 gn) := fun W h => h.c1
  have CS : Hid (∀ W, Below w1.heap.size w1 W → Calls Try.prog 31 #[.pointer (some ⟨b, 0, none⟩)] W fun e w' => e = .returned (.pointer (some ⟨ba, 0, none⟩)) ∧ W = w') := fun W hW => slots_of W b ba ga g L D (h1.bel hW)
  have CR : Hid (∀ W, Below w1.heap.size w1 W → Calls Try.prog 34 #[.pointer (some ⟨ba, 0, none⟩), hnV s gn] W fun e w' => e = .returned (.int .i64 (callE L s gn)) ∧ Ar w' ba ga (keepL L s gn) ∧ Upd (· = ga) W w') := fun W hW => Arn.keep_any W ba ga L s gn M (h1.bel hW).ar hL hO hM
  have hS : HBlk w1.drew w.heap.size s gn := hn
  have HR := Lib.hid (Below.refl w1.heap.size w1).drew
  have HG := Lib.hid (show w.heap.size ≠ ga from by have := h.lt; omega)
  have HB := Lib.hid hB
  have H1 := Lib.hid h1
  have HL := Lib.hid (Arn.keepL_len L s gn)
  generalize keepL L s gn = L' at CR HL ⊢
  clear hB hn h1 h
  go_enter Try.func13, Try.ntmps13
  go_wp2_with fail
  refine region_seq (fun W => HBlk W w.heap.size s gn) [(0, false), (2, false), (1, true), (3, true), (4, false)] (by kernel_rfl) (by kernel_rfl) rfl (by kernel_rfl) ?_
  iterate 2 (refine seq_read (v := _) rfl (fun _ _ _ h => h) hS (Or.inl ⟨by rfl, fun W hW => by go_simp <;> with_reducible rfl⟩) ?_; simp only [Act.put, List.setIfInBounds_toArray, List.set_cons_zero, List.set_cons_succ])
  refine seq_do rfl (fun K hK => ?_)
  go_simp
  refine (CS.out _ HR.out).mono ?_
  rintro e w2 ⟨rfl, rfl⟩
  refine hK.out _ _ _ (fun W h => h) hS ?_
  clear hK K CS
  refine seq_do rfl (fun K hK => ?_)
  go_simp
  refine (CR.out _ HR.out).mono ?_
  rintro e w2 ⟨rfl, ha, hu⟩
  have H2 : Hid (Sto w2 b ba ga g L' D ∧ Upd (· = ga) w w2) := ⟨(H1.out.bel HR.out).slots ha hu HL.out, (Upd.of (HB.out.trans (HR.out.mono HB.out.size))).trans hu⟩
  have hS2 : HBlk w2 w.heap.size s gn := hS.upd hu HG.out
  clear hS
  have hS := hS2
  clear hS2
  refine hK.out _ _ _ (fun W h => h) hS ?_
  clear hK K CR ha hu
  iterate 1 (refine seq_read (v := _) rfl (fun _ _ _ h => h) hS (Or.inl ⟨by rfl, fun W hW => by go_simp <;> with_reducible rfl⟩) ?_; simp only [Act.put, List.setIfInBounds_toArray, List.set_cons_zero, List.set_cons_succ])
  refine seq_end ?_
  go_wp2_with fail
  go_ret
  exact ⟨rfl, H2.out⟩

set_option maxHeartbeats 4000000 in
theorem drop_st (w : World) (b ba ga g : Nat) (L : List Slt) (D : List (List Int)) (s gn M : Int) (h : Sto w b ba ga g L D) (hL : L.length ≤ 1024) (hO : OkS M L) (hM : M ≤ 4611686018427387904) :
    Calls Try.prog 15 #[.pointer (some ⟨b, 0, none⟩), hnV s gn] w fun e w' => e = .returned (.int .i64 (callE L s gn)) ∧ Sto w' b ba ga g (dropL L s gn) D ∧ Upd (· = ga) w w' := by
  have hB := (Below.refl w.heap.size w).alloc (Nat.le_refl _) (hnO s gn)
  have hn := HBlk.new w s gn
  have h1 := h.bel hB
  generalize hw1 : w.alloc (hnO s gn) = w1 at hB hn h1
  have f0 : ∀ W, HBlk W w.heap.size s gn → W.cell? ⟨w.heap.size, 0, none⟩ = some (.int .i64 s) := fun W h => h.c0
  have f1 : ∀ W, HBlk W w.heap.size s gn → W.cell? ⟨w.heap.size, 1, none⟩ = some (.int .u32 gn) := fun W h => h.c1
  have CS : Hid (∀ W, Below w1.heap.size w1 W → Calls Try.prog 31 #[.pointer (some ⟨b, 0, none⟩)] W fun e w' => e = .returned (.pointer (some ⟨ba, 0, none⟩)) ∧ W = w') := fun W hW => slots_of W b ba ga g L D (h1.bel hW)
  have CR : Hid (∀ W, Below w1.heap.size w1 W → Calls Try.prog 36 #[.pointer (some ⟨ba, 0, none⟩), hnV s gn] W fun e w' => e = .returned (.int .i64 (callE L s gn)) ∧ Ar w' ba ga (dropL L s gn) ∧ Upd (· = ga) W w') := fun W hW => Arn.drop_any W ba ga L s gn M (h1.bel hW).ar hL hO hM
  have hS : HBlk w1.drew w.heap.size s gn := hn
  have HR := Lib.hid (Below.refl w1.heap.size w1).drew
  have HG := Lib.hid (show w.heap.size ≠ ga from by have := h.lt; omega)
  have HB := Lib.hid hB
  have H1 := Lib.hid h1
  have HL := Lib.hid (Arn.dropL_len L s gn)
  generalize dropL L s gn = L' at CR HL ⊢
  clear hB hn h1 h
  go_enter Try.func15, Try.ntmps15
  go_wp2_with fail
  refine region_seq (fun W => HBlk W w.heap.size s gn) [(0, false), (2, false), (1, true), (3, true), (4, false)] (by kernel_rfl) (by kernel_rfl) rfl (by kernel_rfl) ?_
  iterate 2 (refine seq_read (v := _) rfl (fun _ _ _ h => h) hS (Or.inl ⟨by rfl, fun W hW => by go_simp <;> with_reducible rfl⟩) ?_; simp only [Act.put, List.setIfInBounds_toArray, List.set_cons_zero, List.set_cons_succ])
  refine seq_do rfl (fun K hK => ?_)
  go_simp
  refine (CS.out _ HR.out).mono ?_
  rintro e w2 ⟨rfl, rfl⟩
  refine hK.out _ _ _ (fun W h => h) hS ?_
  clear hK K CS
  refine seq_do rfl (fun K hK => ?_)
  go_simp
  refine (CR.out _ HR.out).mono ?_
  rintro e w2 ⟨rfl, ha, hu⟩
  have H2 : Hid (Sto w2 b ba ga g L' D ∧ Upd (· = ga) w w2) := ⟨(H1.out.bel HR.out).slots ha hu HL.out, (Upd.of (HB.out.trans (HR.out.mono HB.out.size))).trans hu⟩
  have hS2 : HBlk w2 w.heap.size s gn := hS.upd hu HG.out
  clear hS
  have hS := hS2
  clear hS2
  refine hK.out _ _ _ (fun W h => h) hS ?_
  clear hK K CR ha hu
  iterate 1 (refine seq_read (v := _) rfl (fun _ _ _ h => h) hS (Or.inl ⟨by rfl, fun W hW => by go_simp <;> with_reducible rfl⟩) ?_; simp only [Act.put, List.setIfInBounds_toArray, List.set_cons_zero, List.set_cons_succ])
  refine seq_end ?_
  go_wp2_with fail
  go_ret
  exact ⟨rfl, H2.out⟩

set_option maxHeartbeats 4000000 in
theorem free_st (w : World) (b ba ga g : Nat) (L : List Slt) (D : List (List Int)) (h : Sto w b ba ga g L D) (hL : L.length ≤ 1024) :
    Calls Try.prog 23 #[.pointer (some ⟨b, 0, none⟩)] w fun e w' => e = .returned (.int .i64 (freeN L)) ∧ Below w.heap.size w w' := by
  have CS : Hid (Calls Try.prog 31 #[.pointer (some ⟨b, 0, none⟩)] w fun e w' => e = .returned (.pointer (some ⟨ba, 0, none⟩)) ∧ w = w') := slots_of w b ba ga g L D h
  have CF : Hid (Calls Try.prog 30 #[.pointer (some ⟨ba, 0, none⟩)] w fun e w' => e = .returned (.int .i64 (freeN L)) ∧ Below w.heap.size w w') := Arn.free_any w ba ga L h.ar hL
  clear h
  go_enter Try.func23, Try.ntmps23
  go_wp2_with fail
  refine CS.out.mono ?_
  rintro e w2 ⟨rfl, rfl⟩
  clear CS
  go_wp2_with fail
  refine CF.out.mono ?_
  rintro e w2 ⟨rfl, hb⟩
  clear CF
  go_wp2
  go_ret
  exact ⟨rfl, hb⟩
set_option maxHeartbeats 4000000 in
theorem slots_st (w : World) (b ba ga g : Nat) (L : List Slt) (D : List (List Int)) (h : Sto w b ba ga g L D) (hL : L.length ≤ 1024) :
    Calls Try.prog 26 #[.pointer (some ⟨b, 0, none⟩)] w (RetS w L) := by
  have CS : Hid (Calls Try.prog 31 #[.pointer (some ⟨b, 0, none⟩)] w fun e w' => e = .returned (.pointer (some ⟨ba, 0, none⟩)) ∧ w = w') := slots_of w b ba ga g L D h
  have CF : Hid (Calls Try.prog 41 #[.pointer (some ⟨ba, 0, none⟩)] w (RetS w L)) := Arn.slots_any w ba ga L h.ar hL
  clear h
  go_enter Try.func26, Try.ntmps26
  go_wp2_with fail
  refine CS.out.mono ?_
  rintro e w2 ⟨rfl, rfl⟩
  clear CS
  go_wp2_with fail
  refine CF.out.mono ?_
  rintro e w2 ⟨A, c, rfl, hb⟩
  clear CF
  have HB := Lib.hid hb
  clear hb
  go_wp2
  go_ret
  exact ⟨A, c, rfl, HB.out⟩

set_option maxHeartbeats 4000000 in
/-- The bytes of a slot, where they stand. -/
theorem inPlace_st (w : World) (b ba ga g k : Nat) (L : List Slt) (D : List (List Int)) (d : List Int) (gn : Int) (h : Sto w b ba ga g L D) (hk : D[k]? = some d) (hL : L.length ≤ 1024) :
    Calls Try.prog 38 #[.pointer (some ⟨b, 0, none⟩), hnV k gn] w fun e w' => e = .returned (.slice (some ⟨g, k * 513, none⟩) d.length d.length) ∧ Below w.heap.size w w' := by
  have hkl : k < L.length := by have := (List.getElem?_eq_some_iff.1 hk).1; rw [h.len] at this; exact this
  have hle := (h.rm.ok hk).2
  have hB := (Below.refl w.heap.size w).alloc (Nat.le_refl _) (hnO k gn)
  have hn := HBlk.new w k gn
  have h1 := h.bel hB
  generalize hw1 : w.alloc (hnO k gn) = w1 at hB hn h1
  obtain ⟨n, hdn⟩ : ∃ n, d.length = n := ⟨_, rfl⟩
  obtain ⟨N, hN⟩ : ∃ N, L.length = N := ⟨_, rfl⟩
  have f0 : ∀ W, Below w1.heap.size w1 W → W.cell? ⟨w.heap.size, 0, none⟩ = some (.int .i64 (k : Int)) := fun W hW => (hn.bel hW hn.lt).c0
  have fb : ∀ W, Below w1.heap.size w1 W → W.cell? ⟨b, 1, none⟩ = some (.slice (some ⟨g, 0, none⟩) N N) := fun W hW => by rw [← hN]; exact (h1.bel hW).c1
  have fs : ∀ W, Below w1.heap.size w1 W → W.cell? ⟨g, k * 513 + 512, none⟩ = some (.int .i64 n) := fun W hW => by rw [← hdn]; exact (h1.bel hW).rm.size hk
  have hS : Below w1.heap.size w1 w1.drew := (Below.refl _ _).drew
  have HB := Lib.hid hB
  rw [hN] at hkl
  rw [hdn] at hle ⊢
  have q1 : decide (N ≤ k) = false := by simp; omega
  have qs : ∀ W, (Instr.sliceAt 71 (.pointer (some ⟨g, k * 513, none⟩)) none (some (.int .i64 (n : Int))) (some (.int .i64 (n : Int)))).run Try.prog W = .ok (.slice (some ⟨g, k * 513, none⟩) n n) W := fun W => by
    have e := run_sliceAt_array_hm (P := Try.prog) W 71 ⟨g, k * 513, none⟩ Try.underlying71 .i64 .i64 (n : Int) (n : Int) (by omega) (by omega) (by rw [show Try.prog.arrayLen 71 = 512 from by kernel_rfl]; omega)
    obtain ⟨i0, hi0, hz0, hz1, hz2⟩ := info_parts info5
    rw [e, show Try.prog.elem 71 = 5 from rfl]
    simp [sizeOf, typeInfo, hi0, slicedAt, plain_add]
  clear hB hn h1 h hk hdn hN
  go_enter Try.func38, Try.ntmps38
  go_wp2_with fail
  refine region_seq (Below w1.heap.size w1) [(0, false), (1, false), (2, false), (3, false), (4, false), (5, false), (6, false), (7, false)] (by kernel_rfl) (by kernel_rfl) rfl (by kernel_rfl) ?_
  iterate 8 (refine seq_read (v := _) rfl (fun _ _ _ h => h) hS (Or.inl ⟨by rfl, fun W hW => by go_simp <;> with_reducible rfl⟩) ?_; simp only [Act.put, List.setIfInBounds_toArray, List.set_cons_zero, List.set_cons_succ])
  refine seq_end ?_
  go_wp2_with fail
  have hS := hS.drew
  refine region_seq (Below w1.heap.size w1) [(0, false), (1, false), (2, false), (3, false), (4, false), (5, false), (6, false), (7, false), (8, false), (9, false), (10, false), (11, false), (12, false)] (by kernel_rfl) (by kernel_rfl) rfl (by kernel_rfl) ?_
  iterate 13 (refine seq_read (v := _) rfl (fun _ _ _ h => h) hS (Or.inl ⟨by rfl, fun W hW => by go_simp <;> with_reducible rfl⟩) ?_; simp only [Act.put, List.setIfInBounds_toArray, List.set_cons_zero, List.set_cons_succ])
  refine seq_end ?_
  go_wp2_with fail
  go_ret
  exact ⟨rfl, HB.out.trans (hS.mono HB.out.size)⟩
end Go.Proofs.Ytdnnfoacpjgloaa.Stv
