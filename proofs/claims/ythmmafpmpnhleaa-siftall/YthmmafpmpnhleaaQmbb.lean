/- The reference's GetItem, some ways (part b). · The reference's GetItem, some ways (part c). · The reference's GetItem, some ways (part d). · The reference's GetItem, some ways (part e). · The reference's GetItem, some ways (part f). · The reference's GetItem, some ways (part g). · The reference's GetItem, some ways (part h). -/
import Derived.Test.YthmmafpmpnhleaaQm
set_option maxRecDepth 100000
namespace Go.Proofs.Ythmmafpmpnhleaa.Fbk
open Go.RowKit
set_option linter.unusedVariables false

set_option maxRecDepth 100000 in
set_option maxHeartbeats 4000000 in
theorem gi_none (b off n c : Nat) (x0 x1 x2 x3 m g : Int) (w : World) (h : 4 ≤ n) (hb : b < w.heap.size) (hx0 : 0 ≤ x0 ∧ x0 ≤ 255) (hx2 : 0 ≤ x2 ∧ x2 ≤ 255) (hx3 : 0 ≤ x3 ∧ x3 ≤ 255) (hx : x0 / 32 = 4) (hm : x0 % 32 = m) (hg : x2 * 256 + x3 = g) (d0 : w.cell? ⟨b, off, none⟩ = some (.int .u8 x0)) (d1 : w.cell? ⟨b, off + 1, none⟩ = some (.int .u8 x1)) (d2 : w.cell? ⟨b, off + 2, none⟩ = some (.int .u8 x2)) (d3 : w.cell? ⟨b, off + 3, none⟩ = some (.int .u8 x3)) (hx1 : 0 ≤ x1 ∧ x1 ≤ 255) (k0 : ¬ x1 = 200) (k1 : ¬ x1 = 201) (k2 : ¬ x1 = 203) (k3 : ¬ x1 = 205) (k4 : ¬ x1 = 206) :
    Calls Try.prog 54 #[.slice (some ⟨b, off, none⟩) n c] w (IRetA w zeroItm 0 4) := by
  have h' : ¬ (n : Int) < 4 := by omega
  have h0 : 0 < n := by omega
  have hp1 : 1 < n := by omega
  have hp2 : 2 < n := by omega
  have hp3 : 3 < n := by omega
  have hi1 : (1 : Int) < n := by omega
  have hi2 : (2 : Int) < n := by omega
  have hi3 : (3 : Int) < n := by omega
  have HB := Lib.hid (zz_below w)
  have HD := Lib.hid (zz_blk w)
  have e0 : (zz w).cell? ⟨b, off, none⟩ = some (.int .u8 x0) := (HB.out.cell (p := ⟨b, off, none⟩) hb).trans d0
  have e1 : (zz w).cell? ⟨b, off + 1, none⟩ = some (.int .u8 x1) := (HB.out.cell (p := ⟨b, off + 1, none⟩) hb).trans d1
  have e2 : (zz w).cell? ⟨b, off + 2, none⟩ = some (.int .u8 x2) := (HB.out.cell (p := ⟨b, off + 2, none⟩) hb).trans d2
  have e3 : (zz w).cell? ⟨b, off + 3, none⟩ = some (.int .u8 x3) := (HB.out.cell (p := ⟨b, off + 3, none⟩) hb).trans d3
  have q1 : x0.tdiv 32 = 4 := by rw [Int.tdiv_eq_ediv_of_nonneg hx0.1]; exact hx
  have q2 : x0.tmod 32 = m := by rw [Int.tmod_eq_emod_of_nonneg hx0.1]; exact hm
  have q3 : IntKind.i64.wrap m = m := IntWalk.i64_in _ (by omega)
  have q4 : IntKind.i64.wrap x2 = x2 := IntWalk.i64_in _ (by omega)
  have q5 : IntKind.i64.wrap x3 = x3 := IntWalk.i64_in _ (by omega)
  have q6 : IntKind.i64.wrap (x2 * 256) = x2 * 256 := IntWalk.i64_in _ (by omega)
  have q7 : IntKind.i64.wrap (x2 * 256 + x3) = g := by rw [IntWalk.i64_in _ (by omega)]; exact hg
  have hS : Fth b off x2 x3 (zz w).drew := ⟨e2, e3⟩
  have f2 : ∀ W, Fth b off x2 x3 W → W.cell? ⟨b, off + 2, none⟩ = some (.int .u8 x2) := fun W h => h.1
  have f3 : ∀ W, Fth b off x2 x3 W → W.cell? ⟨b, off + 3, none⟩ = some (.int .u8 x3) := fun W h => h.2
  have hgb : 0 ≤ g ∧ g ≤ 65535 := ⟨by omega, by omega⟩
  have hmb : 0 ≤ m ∧ m ≤ 31 := ⟨by omega, by omega⟩
  have q8 : IntKind.i64.wrap x1 = x1 := IntWalk.i64_in _ (by omega)
  have b0 : (x1 == 200) = false := by simpa using k0
  have b1 : (x1 == 201) = false := by simpa using k1
  have b2 : (x1 == 203) = false := by simpa using k2
  have b3 : (x1 == 205) = false := by simpa using k3
  have b4 : (x1 == 206) = false := by simpa using k4
  clear e2 e3 hg hm hx hx0 hx2 hx3 d0 d1 d2 d3
  go_enter Try.func54, Try.ntmps54
  go_wp2_with fail
  refine region_seq (Fth b off x2 x3) [(0, false), (1, false), (2, false), (3, false), (4, false), (5, false), (6, false), (7, false), (8, false), (9, false), (10, false)] (by kernel_rfl) (by kernel_rfl) rfl (by kernel_rfl) ?_
  iterate 11 (refine seq_read (v := _) rfl (fun _ _ _ h => h) hS (Or.inl ⟨by rfl, fun W hW => by go_simp <;> with_reducible rfl⟩) ?_; simp only [Act.put, List.setIfInBounds_toArray, List.set_cons_zero, List.set_cons_succ])
  refine seq_end ?_
  clear hS f2 f3 q1 q2 q3 q4 q5 q6 q7 e0 e1
  go_wp2
  exact retG_at HD.out (IRetA.none_ HB.out.drew)
end Go.Proofs.Ythmmafpmpnhleaa.Fbk

namespace Go.Proofs.Ythmmafpmpnhleaa.Fbk
open Go.RowKit
set_option linter.unusedVariables false

set_option maxRecDepth 100000 in
set_option maxHeartbeats 4000000 in
theorem gi_few203 (b off n c : Nat) (x0 x2 x3 m g : Int) (w : World) (h : 4 ≤ n) (hb : b < w.heap.size) (hx0 : 0 ≤ x0 ∧ x0 ≤ 255) (hx2 : 0 ≤ x2 ∧ x2 ≤ 255) (hx3 : 0 ≤ x3 ∧ x3 ≤ 255) (hx : x0 / 32 = 4) (hm : x0 % 32 = m) (hg : x2 * 256 + x3 = g) (d0 : w.cell? ⟨b, off, none⟩ = some (.int .u8 x0)) (d1 : w.cell? ⟨b, off + 1, none⟩ = some (.int .u8 203)) (d2 : w.cell? ⟨b, off + 2, none⟩ = some (.int .u8 x2)) (d3 : w.cell? ⟨b, off + 3, none⟩ = some (.int .u8 x3)) (hbad : m < 1) :
    Calls Try.prog 54 #[.slice (some ⟨b, off, none⟩) n c] w (IRetA w zeroItm 0 1) := by
  have h' : ¬ (n : Int) < 4 := by omega
  have h0 : 0 < n := by omega
  have hp1 : 1 < n := by omega
  have hp2 : 2 < n := by omega
  have hp3 : 3 < n := by omega
  have hi1 : (1 : Int) < n := by omega
  have hi2 : (2 : Int) < n := by omega
  have hi3 : (3 : Int) < n := by omega
  have HB := Lib.hid (zz_below w)
  have HD := Lib.hid (zz_blk w)
  have e0 : (zz w).cell? ⟨b, off, none⟩ = some (.int .u8 x0) := (HB.out.cell (p := ⟨b, off, none⟩) hb).trans d0
  have e1 : (zz w).cell? ⟨b, off + 1, none⟩ = some (.int .u8 203) := (HB.out.cell (p := ⟨b, off + 1, none⟩) hb).trans d1
  have e2 : (zz w).cell? ⟨b, off + 2, none⟩ = some (.int .u8 x2) := (HB.out.cell (p := ⟨b, off + 2, none⟩) hb).trans d2
  have e3 : (zz w).cell? ⟨b, off + 3, none⟩ = some (.int .u8 x3) := (HB.out.cell (p := ⟨b, off + 3, none⟩) hb).trans d3
  have q1 : x0.tdiv 32 = 4 := by rw [Int.tdiv_eq_ediv_of_nonneg hx0.1]; exact hx
  have q2 : x0.tmod 32 = m := by rw [Int.tmod_eq_emod_of_nonneg hx0.1]; exact hm
  have q3 : IntKind.i64.wrap m = m := IntWalk.i64_in _ (by omega)
  have q4 : IntKind.i64.wrap x2 = x2 := IntWalk.i64_in _ (by omega)
  have q5 : IntKind.i64.wrap x3 = x3 := IntWalk.i64_in _ (by omega)
  have q6 : IntKind.i64.wrap (x2 * 256) = x2 * 256 := IntWalk.i64_in _ (by omega)
  have q7 : IntKind.i64.wrap (x2 * 256 + x3) = g := by rw [IntWalk.i64_in _ (by omega)]; exact hg
  have hS : Fth b off x2 x3 (zz w).drew := ⟨e2, e3⟩
  have f2 : ∀ W, Fth b off x2 x3 W → W.cell? ⟨b, off + 2, none⟩ = some (.int .u8 x2) := fun W h => h.1
  have f3 : ∀ W, Fth b off x2 x3 W → W.cell? ⟨b, off + 3, none⟩ = some (.int .u8 x3) := fun W h => h.2
  have hgb : 0 ≤ g ∧ g ≤ 65535 := ⟨by omega, by omega⟩
  have hmb : 0 ≤ m ∧ m ≤ 31 := ⟨by omega, by omega⟩
  clear e2 e3 hg hm hx hx0 hx2 hx3 d0 d1 d2 d3
  go_enter Try.func54, Try.ntmps54
  go_wp2_with fail
  refine region_seq (Fth b off x2 x3) [(0, false), (1, false), (2, false), (3, false), (4, false), (5, false), (6, false), (7, false), (8, false), (9, false), (10, false)] (by kernel_rfl) (by kernel_rfl) rfl (by kernel_rfl) ?_
  iterate 11 (refine seq_read (v := _) rfl (fun _ _ _ h => h) hS (Or.inl ⟨by rfl, fun W hW => by go_simp <;> with_reducible rfl⟩) ?_; simp only [Act.put, List.setIfInBounds_toArray, List.set_cons_zero, List.set_cons_succ])
  refine seq_end ?_
  clear hS f2 f3 q1 q2 q3 q4 q5 q6 q7 e0 e1
  go_wp2
  exact retG_at HD.out (IRetA.none_ HB.out.drew)
set_option maxRecDepth 100000 in
set_option maxHeartbeats 4000000 in
theorem gi_many203 (b off n c : Nat) (x0 x2 x3 m g : Int) (w : World) (h : 4 ≤ n) (hb : b < w.heap.size) (hx0 : 0 ≤ x0 ∧ x0 ≤ 255) (hx2 : 0 ≤ x2 ∧ x2 ≤ 255) (hx3 : 0 ≤ x3 ∧ x3 ≤ 255) (hx : x0 / 32 = 4) (hm : x0 % 32 = m) (hg : x2 * 256 + x3 = g) (d0 : w.cell? ⟨b, off, none⟩ = some (.int .u8 x0)) (d1 : w.cell? ⟨b, off + 1, none⟩ = some (.int .u8 203)) (d2 : w.cell? ⟨b, off + 2, none⟩ = some (.int .u8 x2)) (d3 : w.cell? ⟨b, off + 3, none⟩ = some (.int .u8 x3)) (hone : ¬ m < 1) (hbad : 15 < m) :
    Calls Try.prog 54 #[.slice (some ⟨b, off, none⟩) n c] w (IRetA w zeroItm 0 1) := by
  have h' : ¬ (n : Int) < 4 := by omega
  have h0 : 0 < n := by omega
  have hp1 : 1 < n := by omega
  have hp2 : 2 < n := by omega
  have hp3 : 3 < n := by omega
  have hi1 : (1 : Int) < n := by omega
  have hi2 : (2 : Int) < n := by omega
  have hi3 : (3 : Int) < n := by omega
  have HB := Lib.hid (zz_below w)
  have HD := Lib.hid (zz_blk w)
  have e0 : (zz w).cell? ⟨b, off, none⟩ = some (.int .u8 x0) := (HB.out.cell (p := ⟨b, off, none⟩) hb).trans d0
  have e1 : (zz w).cell? ⟨b, off + 1, none⟩ = some (.int .u8 203) := (HB.out.cell (p := ⟨b, off + 1, none⟩) hb).trans d1
  have e2 : (zz w).cell? ⟨b, off + 2, none⟩ = some (.int .u8 x2) := (HB.out.cell (p := ⟨b, off + 2, none⟩) hb).trans d2
  have e3 : (zz w).cell? ⟨b, off + 3, none⟩ = some (.int .u8 x3) := (HB.out.cell (p := ⟨b, off + 3, none⟩) hb).trans d3
  have q1 : x0.tdiv 32 = 4 := by rw [Int.tdiv_eq_ediv_of_nonneg hx0.1]; exact hx
  have q2 : x0.tmod 32 = m := by rw [Int.tmod_eq_emod_of_nonneg hx0.1]; exact hm
  have q3 : IntKind.i64.wrap m = m := IntWalk.i64_in _ (by omega)
  have q4 : IntKind.i64.wrap x2 = x2 := IntWalk.i64_in _ (by omega)
  have q5 : IntKind.i64.wrap x3 = x3 := IntWalk.i64_in _ (by omega)
  have q6 : IntKind.i64.wrap (x2 * 256) = x2 * 256 := IntWalk.i64_in _ (by omega)
  have q7 : IntKind.i64.wrap (x2 * 256 + x3) = g := by rw [IntWalk.i64_in _ (by omega)]; exact hg
  have hS : Fth b off x2 x3 (zz w).drew := ⟨e2, e3⟩
  have f2 : ∀ W, Fth b off x2 x3 W → W.cell? ⟨b, off + 2, none⟩ = some (.int .u8 x2) := fun W h => h.1
  have f3 : ∀ W, Fth b off x2 x3 W → W.cell? ⟨b, off + 3, none⟩ = some (.int .u8 x3) := fun W h => h.2
  have hgb : 0 ≤ g ∧ g ≤ 65535 := ⟨by omega, by omega⟩
  have hmb : 0 ≤ m ∧ m ≤ 31 := ⟨by omega, by omega⟩
  clear e2 e3 hg hm hx hx0 hx2 hx3 d0 d1 d2 d3
  go_enter Try.func54, Try.ntmps54
  go_wp2_with fail
  refine region_seq (Fth b off x2 x3) [(0, false), (1, false), (2, false), (3, false), (4, false), (5, false), (6, false), (7, false), (8, false), (9, false), (10, false)] (by kernel_rfl) (by kernel_rfl) rfl (by kernel_rfl) ?_
  iterate 11 (refine seq_read (v := _) rfl (fun _ _ _ h => h) hS (Or.inl ⟨by rfl, fun W hW => by go_simp <;> with_reducible rfl⟩) ?_; simp only [Act.put, List.setIfInBounds_toArray, List.set_cons_zero, List.set_cons_succ])
  refine seq_end ?_
  clear hS f2 f3 q1 q2 q3 q4 q5 q6 q7 e0 e1
  go_wp2
  exact retG_at HD.out (IRetA.none_ HB.out.drew)
set_option maxRecDepth 100000 in
set_option maxHeartbeats 4000000 in
theorem gi_words203 (b off n c : Nat) (x0 x2 x3 m g : Int) (w : World) (h : 4 ≤ n) (hb : b < w.heap.size) (hx0 : 0 ≤ x0 ∧ x0 ≤ 255) (hx2 : 0 ≤ x2 ∧ x2 ≤ 255) (hx3 : 0 ≤ x3 ∧ x3 ≤ 255) (hx : x0 / 32 = 4) (hm : x0 % 32 = m) (hg : x2 * 256 + x3 = g) (d0 : w.cell? ⟨b, off, none⟩ = some (.int .u8 x0)) (d1 : w.cell? ⟨b, off + 1, none⟩ = some (.int .u8 203)) (d2 : w.cell? ⟨b, off + 2, none⟩ = some (.int .u8 x2)) (d3 : w.cell? ⟨b, off + 3, none⟩ = some (.int .u8 x3)) (hone : ¬ m < 1) (h15 : ¬ 15 < m) (hbad : (g != m) = true) :
    Calls Try.prog 54 #[.slice (some ⟨b, off, none⟩) n c] w (IRetA w zeroItm 0 1) := by
  have h' : ¬ (n : Int) < 4 := by omega
  have h0 : 0 < n := by omega
  have hp1 : 1 < n := by omega
  have hp2 : 2 < n := by omega
  have hp3 : 3 < n := by omega
  have hi1 : (1 : Int) < n := by omega
  have hi2 : (2 : Int) < n := by omega
  have hi3 : (3 : Int) < n := by omega
  have HB := Lib.hid (zz_below w)
  have HD := Lib.hid (zz_blk w)
  have e0 : (zz w).cell? ⟨b, off, none⟩ = some (.int .u8 x0) := (HB.out.cell (p := ⟨b, off, none⟩) hb).trans d0
  have e1 : (zz w).cell? ⟨b, off + 1, none⟩ = some (.int .u8 203) := (HB.out.cell (p := ⟨b, off + 1, none⟩) hb).trans d1
  have e2 : (zz w).cell? ⟨b, off + 2, none⟩ = some (.int .u8 x2) := (HB.out.cell (p := ⟨b, off + 2, none⟩) hb).trans d2
  have e3 : (zz w).cell? ⟨b, off + 3, none⟩ = some (.int .u8 x3) := (HB.out.cell (p := ⟨b, off + 3, none⟩) hb).trans d3
  have q1 : x0.tdiv 32 = 4 := by rw [Int.tdiv_eq_ediv_of_nonneg hx0.1]; exact hx
  have q2 : x0.tmod 32 = m := by rw [Int.tmod_eq_emod_of_nonneg hx0.1]; exact hm
  have q3 : IntKind.i64.wrap m = m := IntWalk.i64_in _ (by omega)
  have q4 : IntKind.i64.wrap x2 = x2 := IntWalk.i64_in _ (by omega)
  have q5 : IntKind.i64.wrap x3 = x3 := IntWalk.i64_in _ (by omega)
  have q6 : IntKind.i64.wrap (x2 * 256) = x2 * 256 := IntWalk.i64_in _ (by omega)
  have q7 : IntKind.i64.wrap (x2 * 256 + x3) = g := by rw [IntWalk.i64_in _ (by omega)]; exact hg
  have hS : Fth b off x2 x3 (zz w).drew := ⟨e2, e3⟩
  have f2 : ∀ W, Fth b off x2 x3 W → W.cell? ⟨b, off + 2, none⟩ = some (.int .u8 x2) := fun W h => h.1
  have f3 : ∀ W, Fth b off x2 x3 W → W.cell? ⟨b, off + 3, none⟩ = some (.int .u8 x3) := fun W h => h.2
  have hgb : 0 ≤ g ∧ g ≤ 65535 := ⟨by omega, by omega⟩
  have hmb : 0 ≤ m ∧ m ≤ 31 := ⟨by omega, by omega⟩
  have CW : Hid (∀ W, Calls Try.prog 81 #[.int .i64 203, .int .i64 m] W fun e w' => e = .returned (.int .i64 m) ∧ W = w') := fun W => words_203 m W ⟨by omega, by omega⟩
  clear e2 e3 hg hm hx hx0 hx2 hx3 d0 d1 d2 d3
  go_enter Try.func54, Try.ntmps54
  go_wp2_with fail
  refine region_seq (Fth b off x2 x3) [(0, false), (1, false), (2, false), (3, false), (4, false), (5, false), (6, false), (7, false), (8, false), (9, false), (10, false)] (by kernel_rfl) (by kernel_rfl) rfl (by kernel_rfl) ?_
  iterate 11 (refine seq_read (v := _) rfl (fun _ _ _ h => h) hS (Or.inl ⟨by rfl, fun W hW => by go_simp <;> with_reducible rfl⟩) ?_; simp only [Act.put, List.setIfInBounds_toArray, List.set_cons_zero, List.set_cons_succ])
  refine seq_end ?_
  clear hS f2 f3 q1 q2 q3 q4 q5 q6 q7 e0 e1
  go_wp2_with fail
  refine (CW.out _).mono ?_
  rintro e w' ⟨rfl, rfl⟩
  go_wp2
  exact retG_at HD.out (IRetA.none_ HB.out.drew)
set_option maxRecDepth 100000 in
set_option maxHeartbeats 4000000 in
theorem gi_cut203 (b off n c : Nat) (x0 x2 x3 m g : Int) (w : World) (h : 4 ≤ n) (hb : b < w.heap.size) (hx0 : 0 ≤ x0 ∧ x0 ≤ 255) (hx2 : 0 ≤ x2 ∧ x2 ≤ 255) (hx3 : 0 ≤ x3 ∧ x3 ≤ 255) (hx : x0 / 32 = 4) (hm : x0 % 32 = m) (hg : x2 * 256 + x3 = g) (d0 : w.cell? ⟨b, off, none⟩ = some (.int .u8 x0)) (d1 : w.cell? ⟨b, off + 1, none⟩ = some (.int .u8 203)) (d2 : w.cell? ⟨b, off + 2, none⟩ = some (.int .u8 x2)) (d3 : w.cell? ⟨b, off + 3, none⟩ = some (.int .u8 x3)) (hone : ¬ m < 1) (h15 : ¬ 15 < m) (hwd : g = m) (hbad : (n : Int) < 4 + 4 * g) :
    Calls Try.prog 54 #[.slice (some ⟨b, off, none⟩) n c] w (IRetA w zeroItm 0 2) := by
  have h' : ¬ (n : Int) < 4 := by omega
  have h0 : 0 < n := by omega
  have hp1 : 1 < n := by omega
  have hp2 : 2 < n := by omega
  have hp3 : 3 < n := by omega
  have hi1 : (1 : Int) < n := by omega
  have hi2 : (2 : Int) < n := by omega
  have hi3 : (3 : Int) < n := by omega
  have HB := Lib.hid (zz_below w)
  have HD := Lib.hid (zz_blk w)
  have e0 : (zz w).cell? ⟨b, off, none⟩ = some (.int .u8 x0) := (HB.out.cell (p := ⟨b, off, none⟩) hb).trans d0
  have e1 : (zz w).cell? ⟨b, off + 1, none⟩ = some (.int .u8 203) := (HB.out.cell (p := ⟨b, off + 1, none⟩) hb).trans d1
  have e2 : (zz w).cell? ⟨b, off + 2, none⟩ = some (.int .u8 x2) := (HB.out.cell (p := ⟨b, off + 2, none⟩) hb).trans d2
  have e3 : (zz w).cell? ⟨b, off + 3, none⟩ = some (.int .u8 x3) := (HB.out.cell (p := ⟨b, off + 3, none⟩) hb).trans d3
  have q1 : x0.tdiv 32 = 4 := by rw [Int.tdiv_eq_ediv_of_nonneg hx0.1]; exact hx
  have q2 : x0.tmod 32 = m := by rw [Int.tmod_eq_emod_of_nonneg hx0.1]; exact hm
  have q3 : IntKind.i64.wrap m = m := IntWalk.i64_in _ (by omega)
  have q4 : IntKind.i64.wrap x2 = x2 := IntWalk.i64_in _ (by omega)
  have q5 : IntKind.i64.wrap x3 = x3 := IntWalk.i64_in _ (by omega)
  have q6 : IntKind.i64.wrap (x2 * 256) = x2 * 256 := IntWalk.i64_in _ (by omega)
  have q7 : IntKind.i64.wrap (x2 * 256 + x3) = g := by rw [IntWalk.i64_in _ (by omega)]; exact hg
  have hS : Fth b off x2 x3 (zz w).drew := ⟨e2, e3⟩
  have f2 : ∀ W, Fth b off x2 x3 W → W.cell? ⟨b, off + 2, none⟩ = some (.int .u8 x2) := fun W h => h.1
  have f3 : ∀ W, Fth b off x2 x3 W → W.cell? ⟨b, off + 3, none⟩ = some (.int .u8 x3) := fun W h => h.2
  have hgb : 0 ≤ g ∧ g ≤ 65535 := ⟨by omega, by omega⟩
  have hmb : 0 ≤ m ∧ m ≤ 31 := ⟨by omega, by omega⟩
  have CW : Hid (∀ W, Calls Try.prog 81 #[.int .i64 203, .int .i64 m] W fun e w' => e = .returned (.int .i64 m) ∧ W = w') := fun W => words_203 m W ⟨by omega, by omega⟩
  have hwd2 : (g != m) = false := by simpa using hwd
  have hbad2 : (n : Int) < 4 + 4 * g := hbad
  clear hbad hwd
  clear e2 e3 hg hm hx hx0 hx2 hx3 d0 d1 d2 d3
  go_enter Try.func54, Try.ntmps54
  go_wp2_with fail
  refine region_seq (Fth b off x2 x3) [(0, false), (1, false), (2, false), (3, false), (4, false), (5, false), (6, false), (7, false), (8, false), (9, false), (10, false)] (by kernel_rfl) (by kernel_rfl) rfl (by kernel_rfl) ?_
  iterate 11 (refine seq_read (v := _) rfl (fun _ _ _ h => h) hS (Or.inl ⟨by rfl, fun W hW => by go_simp <;> with_reducible rfl⟩) ?_; simp only [Act.put, List.setIfInBounds_toArray, List.set_cons_zero, List.set_cons_succ])
  refine seq_end ?_
  clear hS f2 f3 q1 q2 q3 q4 q5 q6 q7 e0 e1
  go_wp2_with fail
  refine (CW.out _).mono ?_
  rintro e w' ⟨rfl, rfl⟩
  go_wp2
  exact retG_at HD.out (IRetA.none_ HB.out.drew)
end Go.Proofs.Ythmmafpmpnhleaa.Fbk

namespace Go.Proofs.Ythmmafpmpnhleaa.Fbk
open Go.RowKit
set_option linter.unusedVariables false

set_option maxRecDepth 100000 in
set_option maxHeartbeats 4000000 in
theorem gi_other205 (b off n c : Nat) (x0 x2 x3 m g : Int) (w : World) (h : 4 ≤ n) (hb : b < w.heap.size) (hx0 : 0 ≤ x0 ∧ x0 ≤ 255) (hx2 : 0 ≤ x2 ∧ x2 ≤ 255) (hx3 : 0 ≤ x3 ∧ x3 ≤ 255) (hx : x0 / 32 = 4) (hm : x0 % 32 = m) (hg : x2 * 256 + x3 = g) (d0 : w.cell? ⟨b, off, none⟩ = some (.int .u8 x0)) (d1 : w.cell? ⟨b, off + 1, none⟩ = some (.int .u8 205)) (d2 : w.cell? ⟨b, off + 2, none⟩ = some (.int .u8 x2)) (d3 : w.cell? ⟨b, off + 3, none⟩ = some (.int .u8 x3)) (hbad : (m != 1) = true) :
    Calls Try.prog 54 #[.slice (some ⟨b, off, none⟩) n c] w (IRetA w zeroItm 0 4) := by
  have h' : ¬ (n : Int) < 4 := by omega
  have h0 : 0 < n := by omega
  have hp1 : 1 < n := by omega
  have hp2 : 2 < n := by omega
  have hp3 : 3 < n := by omega
  have hi1 : (1 : Int) < n := by omega
  have hi2 : (2 : Int) < n := by omega
  have hi3 : (3 : Int) < n := by omega
  have HB := Lib.hid (zz_below w)
  have HD := Lib.hid (zz_blk w)
  have e0 : (zz w).cell? ⟨b, off, none⟩ = some (.int .u8 x0) := (HB.out.cell (p := ⟨b, off, none⟩) hb).trans d0
  have e1 : (zz w).cell? ⟨b, off + 1, none⟩ = some (.int .u8 205) := (HB.out.cell (p := ⟨b, off + 1, none⟩) hb).trans d1
  have e2 : (zz w).cell? ⟨b, off + 2, none⟩ = some (.int .u8 x2) := (HB.out.cell (p := ⟨b, off + 2, none⟩) hb).trans d2
  have e3 : (zz w).cell? ⟨b, off + 3, none⟩ = some (.int .u8 x3) := (HB.out.cell (p := ⟨b, off + 3, none⟩) hb).trans d3
  have q1 : x0.tdiv 32 = 4 := by rw [Int.tdiv_eq_ediv_of_nonneg hx0.1]; exact hx
  have q2 : x0.tmod 32 = m := by rw [Int.tmod_eq_emod_of_nonneg hx0.1]; exact hm
  have q3 : IntKind.i64.wrap m = m := IntWalk.i64_in _ (by omega)
  have q4 : IntKind.i64.wrap x2 = x2 := IntWalk.i64_in _ (by omega)
  have q5 : IntKind.i64.wrap x3 = x3 := IntWalk.i64_in _ (by omega)
  have q6 : IntKind.i64.wrap (x2 * 256) = x2 * 256 := IntWalk.i64_in _ (by omega)
  have q7 : IntKind.i64.wrap (x2 * 256 + x3) = g := by rw [IntWalk.i64_in _ (by omega)]; exact hg
  have hS : Fth b off x2 x3 (zz w).drew := ⟨e2, e3⟩
  have f2 : ∀ W, Fth b off x2 x3 W → W.cell? ⟨b, off + 2, none⟩ = some (.int .u8 x2) := fun W h => h.1
  have f3 : ∀ W, Fth b off x2 x3 W → W.cell? ⟨b, off + 3, none⟩ = some (.int .u8 x3) := fun W h => h.2
  have hgb : 0 ≤ g ∧ g ≤ 65535 := ⟨by omega, by omega⟩
  have hmb : 0 ≤ m ∧ m ≤ 31 := ⟨by omega, by omega⟩
  clear e2 e3 hg hm hx hx0 hx2 hx3 d0 d1 d2 d3
  go_enter Try.func54, Try.ntmps54
  go_wp2_with fail
  refine region_seq (Fth b off x2 x3) [(0, false), (1, false), (2, false), (3, false), (4, false), (5, false), (6, false), (7, false), (8, false), (9, false), (10, false)] (by kernel_rfl) (by kernel_rfl) rfl (by kernel_rfl) ?_
  iterate 11 (refine seq_read (v := _) rfl (fun _ _ _ h => h) hS (Or.inl ⟨by rfl, fun W hW => by go_simp <;> with_reducible rfl⟩) ?_; simp only [Act.put, List.setIfInBounds_toArray, List.set_cons_zero, List.set_cons_succ])
  refine seq_end ?_
  clear hS f2 f3 q1 q2 q3 q4 q5 q6 q7 e0 e1
  go_wp2
  exact retG_at HD.out (IRetA.none_ HB.out.drew)
set_option maxRecDepth 100000 in
set_option maxHeartbeats 4000000 in
theorem gi_few205 (b off n c : Nat) (x0 x2 x3 m g : Int) (w : World) (h : 4 ≤ n) (hb : b < w.heap.size) (hx0 : 0 ≤ x0 ∧ x0 ≤ 255) (hx2 : 0 ≤ x2 ∧ x2 ≤ 255) (hx3 : 0 ≤ x3 ∧ x3 ≤ 255) (hx : x0 / 32 = 4) (hm : x0 % 32 = m) (hg : x2 * 256 + x3 = g) (d0 : w.cell? ⟨b, off, none⟩ = some (.int .u8 x0)) (d1 : w.cell? ⟨b, off + 1, none⟩ = some (.int .u8 205)) (d2 : w.cell? ⟨b, off + 2, none⟩ = some (.int .u8 x2)) (d3 : w.cell? ⟨b, off + 3, none⟩ = some (.int .u8 x3)) (h1 : m = 1) (d : Int) (hd : g - 2 = d) (hbad : d < 1) :
    Calls Try.prog 54 #[.slice (some ⟨b, off, none⟩) n c] w (IRetA w zeroItm 0 1) := by
  have h' : ¬ (n : Int) < 4 := by omega
  have h0 : 0 < n := by omega
  have hp1 : 1 < n := by omega
  have hp2 : 2 < n := by omega
  have hp3 : 3 < n := by omega
  have hi1 : (1 : Int) < n := by omega
  have hi2 : (2 : Int) < n := by omega
  have hi3 : (3 : Int) < n := by omega
  have HB := Lib.hid (zz_below w)
  have HD := Lib.hid (zz_blk w)
  have e0 : (zz w).cell? ⟨b, off, none⟩ = some (.int .u8 x0) := (HB.out.cell (p := ⟨b, off, none⟩) hb).trans d0
  have e1 : (zz w).cell? ⟨b, off + 1, none⟩ = some (.int .u8 205) := (HB.out.cell (p := ⟨b, off + 1, none⟩) hb).trans d1
  have e2 : (zz w).cell? ⟨b, off + 2, none⟩ = some (.int .u8 x2) := (HB.out.cell (p := ⟨b, off + 2, none⟩) hb).trans d2
  have e3 : (zz w).cell? ⟨b, off + 3, none⟩ = some (.int .u8 x3) := (HB.out.cell (p := ⟨b, off + 3, none⟩) hb).trans d3
  have q1 : x0.tdiv 32 = 4 := by rw [Int.tdiv_eq_ediv_of_nonneg hx0.1]; exact hx
  have q2 : x0.tmod 32 = m := by rw [Int.tmod_eq_emod_of_nonneg hx0.1]; exact hm
  have q3 : IntKind.i64.wrap m = m := IntWalk.i64_in _ (by omega)
  have q4 : IntKind.i64.wrap x2 = x2 := IntWalk.i64_in _ (by omega)
  have q5 : IntKind.i64.wrap x3 = x3 := IntWalk.i64_in _ (by omega)
  have q6 : IntKind.i64.wrap (x2 * 256) = x2 * 256 := IntWalk.i64_in _ (by omega)
  have q7 : IntKind.i64.wrap (x2 * 256 + x3) = g := by rw [IntWalk.i64_in _ (by omega)]; exact hg
  have hS : Fth b off x2 x3 (zz w).drew := ⟨e2, e3⟩
  have f2 : ∀ W, Fth b off x2 x3 W → W.cell? ⟨b, off + 2, none⟩ = some (.int .u8 x2) := fun W h => h.1
  have f3 : ∀ W, Fth b off x2 x3 W → W.cell? ⟨b, off + 3, none⟩ = some (.int .u8 x3) := fun W h => h.2
  have hgb : 0 ≤ g ∧ g ≤ 65535 := ⟨by omega, by omega⟩
  have hmb : 0 ≤ m ∧ m ≤ 31 := ⟨by omega, by omega⟩
  have q8 : IntKind.i64.wrap (g - 2) = d := by rw [IntWalk.i64_in _ (by omega)]; exact hd
  have hone : (m != 1) = false := by simpa using h1
  clear h1 hd
  clear e2 e3 hg hm hx hx0 hx2 hx3 d0 d1 d2 d3
  go_enter Try.func54, Try.ntmps54
  go_wp2_with fail
  refine region_seq (Fth b off x2 x3) [(0, false), (1, false), (2, false), (3, false), (4, false), (5, false), (6, false), (7, false), (8, false), (9, false), (10, false)] (by kernel_rfl) (by kernel_rfl) rfl (by kernel_rfl) ?_
  iterate 11 (refine seq_read (v := _) rfl (fun _ _ _ h => h) hS (Or.inl ⟨by rfl, fun W hW => by go_simp <;> with_reducible rfl⟩) ?_; simp only [Act.put, List.setIfInBounds_toArray, List.set_cons_zero, List.set_cons_succ])
  refine seq_end ?_
  clear hS f2 f3 q1 q2 q3 q4 q5 q6 q7 e0 e1
  go_wp2
  exact retG_at HD.out (IRetA.none_ HB.out.drew)
set_option maxRecDepth 100000 in
set_option maxHeartbeats 4000000 in
theorem gi_many205 (b off n c : Nat) (x0 x2 x3 m g : Int) (w : World) (h : 4 ≤ n) (hb : b < w.heap.size) (hx0 : 0 ≤ x0 ∧ x0 ≤ 255) (hx2 : 0 ≤ x2 ∧ x2 ≤ 255) (hx3 : 0 ≤ x3 ∧ x3 ≤ 255) (hx : x0 / 32 = 4) (hm : x0 % 32 = m) (hg : x2 * 256 + x3 = g) (d0 : w.cell? ⟨b, off, none⟩ = some (.int .u8 x0)) (d1 : w.cell? ⟨b, off + 1, none⟩ = some (.int .u8 205)) (d2 : w.cell? ⟨b, off + 2, none⟩ = some (.int .u8 x2)) (d3 : w.cell? ⟨b, off + 3, none⟩ = some (.int .u8 x3)) (h1 : m = 1) (d : Int) (hd : g - 2 = d) (hlo : ¬ d < 1) (hbad : 16 < d) :
    Calls Try.prog 54 #[.slice (some ⟨b, off, none⟩) n c] w (IRetA w zeroItm 0 1) := by
  have h' : ¬ (n : Int) < 4 := by omega
  have h0 : 0 < n := by omega
  have hp1 : 1 < n := by omega
  have hp2 : 2 < n := by omega
  have hp3 : 3 < n := by omega
  have hi1 : (1 : Int) < n := by omega
  have hi2 : (2 : Int) < n := by omega
  have hi3 : (3 : Int) < n := by omega
  have HB := Lib.hid (zz_below w)
  have HD := Lib.hid (zz_blk w)
  have e0 : (zz w).cell? ⟨b, off, none⟩ = some (.int .u8 x0) := (HB.out.cell (p := ⟨b, off, none⟩) hb).trans d0
  have e1 : (zz w).cell? ⟨b, off + 1, none⟩ = some (.int .u8 205) := (HB.out.cell (p := ⟨b, off + 1, none⟩) hb).trans d1
  have e2 : (zz w).cell? ⟨b, off + 2, none⟩ = some (.int .u8 x2) := (HB.out.cell (p := ⟨b, off + 2, none⟩) hb).trans d2
  have e3 : (zz w).cell? ⟨b, off + 3, none⟩ = some (.int .u8 x3) := (HB.out.cell (p := ⟨b, off + 3, none⟩) hb).trans d3
  have q1 : x0.tdiv 32 = 4 := by rw [Int.tdiv_eq_ediv_of_nonneg hx0.1]; exact hx
  have q2 : x0.tmod 32 = m := by rw [Int.tmod_eq_emod_of_nonneg hx0.1]; exact hm
  have q3 : IntKind.i64.wrap m = m := IntWalk.i64_in _ (by omega)
  have q4 : IntKind.i64.wrap x2 = x2 := IntWalk.i64_in _ (by omega)
  have q5 : IntKind.i64.wrap x3 = x3 := IntWalk.i64_in _ (by omega)
  have q6 : IntKind.i64.wrap (x2 * 256) = x2 * 256 := IntWalk.i64_in _ (by omega)
  have q7 : IntKind.i64.wrap (x2 * 256 + x3) = g := by rw [IntWalk.i64_in _ (by omega)]; exact hg
  have hS : Fth b off x2 x3 (zz w).drew := ⟨e2, e3⟩
  have f2 : ∀ W, Fth b off x2 x3 W → W.cell? ⟨b, off + 2, none⟩ = some (.int .u8 x2) := fun W h => h.1
  have f3 : ∀ W, Fth b off x2 x3 W → W.cell? ⟨b, off + 3, none⟩ = some (.int .u8 x3) := fun W h => h.2
  have hgb : 0 ≤ g ∧ g ≤ 65535 := ⟨by omega, by omega⟩
  have hmb : 0 ≤ m ∧ m ≤ 31 := ⟨by omega, by omega⟩
  have q8 : IntKind.i64.wrap (g - 2) = d := by rw [IntWalk.i64_in _ (by omega)]; exact hd
  have hone : (m != 1) = false := by simpa using h1
  clear h1 hd
  clear e2 e3 hg hm hx hx0 hx2 hx3 d0 d1 d2 d3
  go_enter Try.func54, Try.ntmps54
  go_wp2_with fail
  refine region_seq (Fth b off x2 x3) [(0, false), (1, false), (2, false), (3, false), (4, false), (5, false), (6, false), (7, false), (8, false), (9, false), (10, false)] (by kernel_rfl) (by kernel_rfl) rfl (by kernel_rfl) ?_
  iterate 11 (refine seq_read (v := _) rfl (fun _ _ _ h => h) hS (Or.inl ⟨by rfl, fun W hW => by go_simp <;> with_reducible rfl⟩) ?_; simp only [Act.put, List.setIfInBounds_toArray, List.set_cons_zero, List.set_cons_succ])
  refine seq_end ?_
  clear hS f2 f3 q1 q2 q3 q4 q5 q6 q7 e0 e1
  go_wp2
  exact retG_at HD.out (IRetA.none_ HB.out.drew)
set_option maxRecDepth 100000 in
set_option maxHeartbeats 4000000 in
theorem gi_cut205 (b off n c : Nat) (x0 x2 x3 m g : Int) (w : World) (h : 4 ≤ n) (hb : b < w.heap.size) (hx0 : 0 ≤ x0 ∧ x0 ≤ 255) (hx2 : 0 ≤ x2 ∧ x2 ≤ 255) (hx3 : 0 ≤ x3 ∧ x3 ≤ 255) (hx : x0 / 32 = 4) (hm : x0 % 32 = m) (hg : x2 * 256 + x3 = g) (d0 : w.cell? ⟨b, off, none⟩ = some (.int .u8 x0)) (d1 : w.cell? ⟨b, off + 1, none⟩ = some (.int .u8 205)) (d2 : w.cell? ⟨b, off + 2, none⟩ = some (.int .u8 x2)) (d3 : w.cell? ⟨b, off + 3, none⟩ = some (.int .u8 x3)) (h1 : m = 1) (hlo : ¬ g - 2 < 1) (hhi : ¬ 16 < g - 2) (hbad : (n : Int) < 4 + 4 * g) :
    Calls Try.prog 54 #[.slice (some ⟨b, off, none⟩) n c] w (IRetA w zeroItm 0 2) := by
  have h' : ¬ (n : Int) < 4 := by omega
  have h0 : 0 < n := by omega
  have hp1 : 1 < n := by omega
  have hp2 : 2 < n := by omega
  have hp3 : 3 < n := by omega
  have hi1 : (1 : Int) < n := by omega
  have hi2 : (2 : Int) < n := by omega
  have hi3 : (3 : Int) < n := by omega
  have HB := Lib.hid (zz_below w)
  have HD := Lib.hid (zz_blk w)
  have e0 : (zz w).cell? ⟨b, off, none⟩ = some (.int .u8 x0) := (HB.out.cell (p := ⟨b, off, none⟩) hb).trans d0
  have e1 : (zz w).cell? ⟨b, off + 1, none⟩ = some (.int .u8 205) := (HB.out.cell (p := ⟨b, off + 1, none⟩) hb).trans d1
  have e2 : (zz w).cell? ⟨b, off + 2, none⟩ = some (.int .u8 x2) := (HB.out.cell (p := ⟨b, off + 2, none⟩) hb).trans d2
  have e3 : (zz w).cell? ⟨b, off + 3, none⟩ = some (.int .u8 x3) := (HB.out.cell (p := ⟨b, off + 3, none⟩) hb).trans d3
  have q1 : x0.tdiv 32 = 4 := by rw [Int.tdiv_eq_ediv_of_nonneg hx0.1]; exact hx
  have q2 : x0.tmod 32 = m := by rw [Int.tmod_eq_emod_of_nonneg hx0.1]; exact hm
  have q3 : IntKind.i64.wrap m = m := IntWalk.i64_in _ (by omega)
  have q4 : IntKind.i64.wrap x2 = x2 := IntWalk.i64_in _ (by omega)
  have q5 : IntKind.i64.wrap x3 = x3 := IntWalk.i64_in _ (by omega)
  have q6 : IntKind.i64.wrap (x2 * 256) = x2 * 256 := IntWalk.i64_in _ (by omega)
  have q7 : IntKind.i64.wrap (x2 * 256 + x3) = g := by rw [IntWalk.i64_in _ (by omega)]; exact hg
  have hS : Fth b off x2 x3 (zz w).drew := ⟨e2, e3⟩
  have f2 : ∀ W, Fth b off x2 x3 W → W.cell? ⟨b, off + 2, none⟩ = some (.int .u8 x2) := fun W h => h.1
  have f3 : ∀ W, Fth b off x2 x3 W → W.cell? ⟨b, off + 3, none⟩ = some (.int .u8 x3) := fun W h => h.2
  have hgb : 0 ≤ g ∧ g ≤ 65535 := ⟨by omega, by omega⟩
  have hmb : 0 ≤ m ∧ m ≤ 31 := ⟨by omega, by omega⟩
  have q8 : IntKind.i64.wrap (g - 2) = g - 2 := IntWalk.i64_in _ (by omega)
  have CW : Hid (∀ W, Calls Try.prog 81 #[.int .i64 205, .int .i64 (g - 2)] W fun e w' => e = .returned (.int .i64 g) ∧ W = w') := fun W => by
    have := words_205 (g - 2) W ⟨by omega, by omega⟩
    rwa [show 2 + (g - 2) = g from by omega] at this
  have hone : (m != 1) = false := by simpa using h1
  clear h1
  clear e2 e3 hg hm hx hx0 hx2 hx3 d0 d1 d2 d3
  go_enter Try.func54, Try.ntmps54
  go_wp2_with fail
  refine region_seq (Fth b off x2 x3) [(0, false), (1, false), (2, false), (3, false), (4, false), (5, false), (6, false), (7, false), (8, false), (9, false), (10, false)] (by kernel_rfl) (by kernel_rfl) rfl (by kernel_rfl) ?_
  iterate 11 (refine seq_read (v := _) rfl (fun _ _ _ h => h) hS (Or.inl ⟨by rfl, fun W hW => by go_simp <;> with_reducible rfl⟩) ?_; simp only [Act.put, List.setIfInBounds_toArray, List.set_cons_zero, List.set_cons_succ])
  refine seq_end ?_
  clear hS f2 f3 q1 q2 q3 q4 q5 q6 q7 e0 e1
  go_wp2_with fail
  refine (CW.out _).mono ?_
  rintro e w' ⟨rfl, rfl⟩
  go_wp2
  exact retG_at HD.out (IRetA.none_ HB.out.drew)
end Go.Proofs.Ythmmafpmpnhleaa.Fbk

namespace Go.Proofs.Ythmmafpmpnhleaa.Fbk
open Go.RowKit
set_option linter.unusedVariables false

set_option maxRecDepth 100000 in
set_option maxHeartbeats 4000000 in
theorem gi_other206 (b off n c : Nat) (x0 x2 x3 m g : Int) (w : World) (h : 4 ≤ n) (hb : b < w.heap.size) (hx0 : 0 ≤ x0 ∧ x0 ≤ 255) (hx2 : 0 ≤ x2 ∧ x2 ≤ 255) (hx3 : 0 ≤ x3 ∧ x3 ≤ 255) (hx : x0 / 32 = 4) (hm : x0 % 32 = m) (hg : x2 * 256 + x3 = g) (d0 : w.cell? ⟨b, off, none⟩ = some (.int .u8 x0)) (d1 : w.cell? ⟨b, off + 1, none⟩ = some (.int .u8 206)) (d2 : w.cell? ⟨b, off + 2, none⟩ = some (.int .u8 x2)) (d3 : w.cell? ⟨b, off + 3, none⟩ = some (.int .u8 x3)) (hbad : (m != 1) = true) :
    Calls Try.prog 54 #[.slice (some ⟨b, off, none⟩) n c] w (IRetA w zeroItm 0 4) := by
  have h' : ¬ (n : Int) < 4 := by omega
  have h0 : 0 < n := by omega
  have hp1 : 1 < n := by omega
  have hp2 : 2 < n := by omega
  have hp3 : 3 < n := by omega
  have hi1 : (1 : Int) < n := by omega
  have hi2 : (2 : Int) < n := by omega
  have hi3 : (3 : Int) < n := by omega
  have HB := Lib.hid (zz_below w)
  have HD := Lib.hid (zz_blk w)
  have e0 : (zz w).cell? ⟨b, off, none⟩ = some (.int .u8 x0) := (HB.out.cell (p := ⟨b, off, none⟩) hb).trans d0
  have e1 : (zz w).cell? ⟨b, off + 1, none⟩ = some (.int .u8 206) := (HB.out.cell (p := ⟨b, off + 1, none⟩) hb).trans d1
  have e2 : (zz w).cell? ⟨b, off + 2, none⟩ = some (.int .u8 x2) := (HB.out.cell (p := ⟨b, off + 2, none⟩) hb).trans d2
  have e3 : (zz w).cell? ⟨b, off + 3, none⟩ = some (.int .u8 x3) := (HB.out.cell (p := ⟨b, off + 3, none⟩) hb).trans d3
  have q1 : x0.tdiv 32 = 4 := by rw [Int.tdiv_eq_ediv_of_nonneg hx0.1]; exact hx
  have q2 : x0.tmod 32 = m := by rw [Int.tmod_eq_emod_of_nonneg hx0.1]; exact hm
  have q3 : IntKind.i64.wrap m = m := IntWalk.i64_in _ (by omega)
  have q4 : IntKind.i64.wrap x2 = x2 := IntWalk.i64_in _ (by omega)
  have q5 : IntKind.i64.wrap x3 = x3 := IntWalk.i64_in _ (by omega)
  have q6 : IntKind.i64.wrap (x2 * 256) = x2 * 256 := IntWalk.i64_in _ (by omega)
  have q7 : IntKind.i64.wrap (x2 * 256 + x3) = g := by rw [IntWalk.i64_in _ (by omega)]; exact hg
  have hS : Fth b off x2 x3 (zz w).drew := ⟨e2, e3⟩
  have f2 : ∀ W, Fth b off x2 x3 W → W.cell? ⟨b, off + 2, none⟩ = some (.int .u8 x2) := fun W h => h.1
  have f3 : ∀ W, Fth b off x2 x3 W → W.cell? ⟨b, off + 3, none⟩ = some (.int .u8 x3) := fun W h => h.2
  have hgb : 0 ≤ g ∧ g ≤ 65535 := ⟨by omega, by omega⟩
  have hmb : 0 ≤ m ∧ m ≤ 31 := ⟨by omega, by omega⟩
  clear e2 e3 hg hm hx hx0 hx2 hx3 d0 d1 d2 d3
  go_enter Try.func54, Try.ntmps54
  go_wp2_with fail
  refine region_seq (Fth b off x2 x3) [(0, false), (1, false), (2, false), (3, false), (4, false), (5, false), (6, false), (7, false), (8, false), (9, false), (10, false)] (by kernel_rfl) (by kernel_rfl) rfl (by kernel_rfl) ?_
  iterate 11 (refine seq_read (v := _) rfl (fun _ _ _ h => h) hS (Or.inl ⟨by rfl, fun W hW => by go_simp <;> with_reducible rfl⟩) ?_; simp only [Act.put, List.setIfInBounds_toArray, List.set_cons_zero, List.set_cons_succ])
  refine seq_end ?_
  clear hS f2 f3 q1 q2 q3 q4 q5 q6 q7 e0 e1
  go_wp2
  exact retG_at HD.out (IRetA.none_ HB.out.drew)
set_option maxRecDepth 100000 in
set_option maxHeartbeats 4000000 in
theorem gi_few206 (b off n c : Nat) (x0 x2 x3 m g : Int) (w : World) (h : 4 ≤ n) (hb : b < w.heap.size) (hx0 : 0 ≤ x0 ∧ x0 ≤ 255) (hx2 : 0 ≤ x2 ∧ x2 ≤ 255) (hx3 : 0 ≤ x3 ∧ x3 ≤ 255) (hx : x0 / 32 = 4) (hm : x0 % 32 = m) (hg : x2 * 256 + x3 = g) (d0 : w.cell? ⟨b, off, none⟩ = some (.int .u8 x0)) (d1 : w.cell? ⟨b, off + 1, none⟩ = some (.int .u8 206)) (d2 : w.cell? ⟨b, off + 2, none⟩ = some (.int .u8 x2)) (d3 : w.cell? ⟨b, off + 3, none⟩ = some (.int .u8 x3)) (h1 : m = 1) (d : Int) (hd : g - 2 = d) (hbad : d < 0) :
    Calls Try.prog 54 #[.slice (some ⟨b, off, none⟩) n c] w (IRetA w zeroItm 0 1) := by
  have h' : ¬ (n : Int) < 4 := by omega
  have h0 : 0 < n := by omega
  have hp1 : 1 < n := by omega
  have hp2 : 2 < n := by omega
  have hp3 : 3 < n := by omega
  have hi1 : (1 : Int) < n := by omega
  have hi2 : (2 : Int) < n := by omega
  have hi3 : (3 : Int) < n := by omega
  have HB := Lib.hid (zz_below w)
  have HD := Lib.hid (zz_blk w)
  have e0 : (zz w).cell? ⟨b, off, none⟩ = some (.int .u8 x0) := (HB.out.cell (p := ⟨b, off, none⟩) hb).trans d0
  have e1 : (zz w).cell? ⟨b, off + 1, none⟩ = some (.int .u8 206) := (HB.out.cell (p := ⟨b, off + 1, none⟩) hb).trans d1
  have e2 : (zz w).cell? ⟨b, off + 2, none⟩ = some (.int .u8 x2) := (HB.out.cell (p := ⟨b, off + 2, none⟩) hb).trans d2
  have e3 : (zz w).cell? ⟨b, off + 3, none⟩ = some (.int .u8 x3) := (HB.out.cell (p := ⟨b, off + 3, none⟩) hb).trans d3
  have q1 : x0.tdiv 32 = 4 := by rw [Int.tdiv_eq_ediv_of_nonneg hx0.1]; exact hx
  have q2 : x0.tmod 32 = m := by rw [Int.tmod_eq_emod_of_nonneg hx0.1]; exact hm
  have q3 : IntKind.i64.wrap m = m := IntWalk.i64_in _ (by omega)
  have q4 : IntKind.i64.wrap x2 = x2 := IntWalk.i64_in _ (by omega)
  have q5 : IntKind.i64.wrap x3 = x3 := IntWalk.i64_in _ (by omega)
  have q6 : IntKind.i64.wrap (x2 * 256) = x2 * 256 := IntWalk.i64_in _ (by omega)
  have q7 : IntKind.i64.wrap (x2 * 256 + x3) = g := by rw [IntWalk.i64_in _ (by omega)]; exact hg
  have hS : Fth b off x2 x3 (zz w).drew := ⟨e2, e3⟩
  have f2 : ∀ W, Fth b off x2 x3 W → W.cell? ⟨b, off + 2, none⟩ = some (.int .u8 x2) := fun W h => h.1
  have f3 : ∀ W, Fth b off x2 x3 W → W.cell? ⟨b, off + 3, none⟩ = some (.int .u8 x3) := fun W h => h.2
  have hgb : 0 ≤ g ∧ g ≤ 65535 := ⟨by omega, by omega⟩
  have hmb : 0 ≤ m ∧ m ≤ 31 := ⟨by omega, by omega⟩
  have q8 : IntKind.i64.wrap (g - 2) = d := by rw [IntWalk.i64_in _ (by omega)]; exact hd
  have hone : (m != 1) = false := by simpa using h1
  clear h1 hd
  clear e2 e3 hg hm hx hx0 hx2 hx3 d0 d1 d2 d3
  go_enter Try.func54, Try.ntmps54
  go_wp2_with fail
  refine region_seq (Fth b off x2 x3) [(0, false), (1, false), (2, false), (3, false), (4, false), (5, false), (6, false), (7, false), (8, false), (9, false), (10, false)] (by kernel_rfl) (by kernel_rfl) rfl (by kernel_rfl) ?_
  iterate 11 (refine seq_read (v := _) rfl (fun _ _ _ h => h) hS (Or.inl ⟨by rfl, fun W hW => by go_simp <;> with_reducible rfl⟩) ?_; simp only [Act.put, List.setIfInBounds_toArray, List.set_cons_zero, List.set_cons_succ])
  refine seq_end ?_
  clear hS f2 f3 q1 q2 q3 q4 q5 q6 q7 e0 e1
  go_wp2
  exact retG_at HD.out (IRetA.none_ HB.out.drew)
set_option maxRecDepth 100000 in
set_option maxHeartbeats 4000000 in
theorem gi_many206 (b off n c : Nat) (x0 x2 x3 m g : Int) (w : World) (h : 4 ≤ n) (hb : b < w.heap.size) (hx0 : 0 ≤ x0 ∧ x0 ≤ 255) (hx2 : 0 ≤ x2 ∧ x2 ≤ 255) (hx3 : 0 ≤ x3 ∧ x3 ≤ 255) (hx : x0 / 32 = 4) (hm : x0 % 32 = m) (hg : x2 * 256 + x3 = g) (d0 : w.cell? ⟨b, off, none⟩ = some (.int .u8 x0)) (d1 : w.cell? ⟨b, off + 1, none⟩ = some (.int .u8 206)) (d2 : w.cell? ⟨b, off + 2, none⟩ = some (.int .u8 x2)) (d3 : w.cell? ⟨b, off + 3, none⟩ = some (.int .u8 x3)) (h1 : m = 1) (d : Int) (hd : g - 2 = d) (hlo : ¬ d < 0) (hbad : 0 < d) :
    Calls Try.prog 54 #[.slice (some ⟨b, off, none⟩) n c] w (IRetA w zeroItm 0 1) := by
  have h' : ¬ (n : Int) < 4 := by omega
  have h0 : 0 < n := by omega
  have hp1 : 1 < n := by omega
  have hp2 : 2 < n := by omega
  have hp3 : 3 < n := by omega
  have hi1 : (1 : Int) < n := by omega
  have hi2 : (2 : Int) < n := by omega
  have hi3 : (3 : Int) < n := by omega
  have HB := Lib.hid (zz_below w)
  have HD := Lib.hid (zz_blk w)
  have e0 : (zz w).cell? ⟨b, off, none⟩ = some (.int .u8 x0) := (HB.out.cell (p := ⟨b, off, none⟩) hb).trans d0
  have e1 : (zz w).cell? ⟨b, off + 1, none⟩ = some (.int .u8 206) := (HB.out.cell (p := ⟨b, off + 1, none⟩) hb).trans d1
  have e2 : (zz w).cell? ⟨b, off + 2, none⟩ = some (.int .u8 x2) := (HB.out.cell (p := ⟨b, off + 2, none⟩) hb).trans d2
  have e3 : (zz w).cell? ⟨b, off + 3, none⟩ = some (.int .u8 x3) := (HB.out.cell (p := ⟨b, off + 3, none⟩) hb).trans d3
  have q1 : x0.tdiv 32 = 4 := by rw [Int.tdiv_eq_ediv_of_nonneg hx0.1]; exact hx
  have q2 : x0.tmod 32 = m := by rw [Int.tmod_eq_emod_of_nonneg hx0.1]; exact hm
  have q3 : IntKind.i64.wrap m = m := IntWalk.i64_in _ (by omega)
  have q4 : IntKind.i64.wrap x2 = x2 := IntWalk.i64_in _ (by omega)
  have q5 : IntKind.i64.wrap x3 = x3 := IntWalk.i64_in _ (by omega)
  have q6 : IntKind.i64.wrap (x2 * 256) = x2 * 256 := IntWalk.i64_in _ (by omega)
  have q7 : IntKind.i64.wrap (x2 * 256 + x3) = g := by rw [IntWalk.i64_in _ (by omega)]; exact hg
  have hS : Fth b off x2 x3 (zz w).drew := ⟨e2, e3⟩
  have f2 : ∀ W, Fth b off x2 x3 W → W.cell? ⟨b, off + 2, none⟩ = some (.int .u8 x2) := fun W h => h.1
  have f3 : ∀ W, Fth b off x2 x3 W → W.cell? ⟨b, off + 3, none⟩ = some (.int .u8 x3) := fun W h => h.2
  have hgb : 0 ≤ g ∧ g ≤ 65535 := ⟨by omega, by omega⟩
  have hmb : 0 ≤ m ∧ m ≤ 31 := ⟨by omega, by omega⟩
  have q8 : IntKind.i64.wrap (g - 2) = d := by rw [IntWalk.i64_in _ (by omega)]; exact hd
  have hone : (m != 1) = false := by simpa using h1
  clear h1 hd
  clear e2 e3 hg hm hx hx0 hx2 hx3 d0 d1 d2 d3
  go_enter Try.func54, Try.ntmps54
  go_wp2_with fail
  refine region_seq (Fth b off x2 x3) [(0, false), (1, false), (2, false), (3, false), (4, false), (5, false), (6, false), (7, false), (8, false), (9, false), (10, false)] (by kernel_rfl) (by kernel_rfl) rfl (by kernel_rfl) ?_
  iterate 11 (refine seq_read (v := _) rfl (fun _ _ _ h => h) hS (Or.inl ⟨by rfl, fun W hW => by go_simp <;> with_reducible rfl⟩) ?_; simp only [Act.put, List.setIfInBounds_toArray, List.set_cons_zero, List.set_cons_succ])
  refine seq_end ?_
  clear hS f2 f3 q1 q2 q3 q4 q5 q6 q7 e0 e1
  go_wp2
  exact retG_at HD.out (IRetA.none_ HB.out.drew)
set_option maxRecDepth 100000 in
set_option maxHeartbeats 4000000 in
theorem gi_cut206 (b off n c : Nat) (x0 x2 x3 m g : Int) (w : World) (h : 4 ≤ n) (hb : b < w.heap.size) (hx0 : 0 ≤ x0 ∧ x0 ≤ 255) (hx2 : 0 ≤ x2 ∧ x2 ≤ 255) (hx3 : 0 ≤ x3 ∧ x3 ≤ 255) (hx : x0 / 32 = 4) (hm : x0 % 32 = m) (hg : x2 * 256 + x3 = g) (d0 : w.cell? ⟨b, off, none⟩ = some (.int .u8 x0)) (d1 : w.cell? ⟨b, off + 1, none⟩ = some (.int .u8 206)) (d2 : w.cell? ⟨b, off + 2, none⟩ = some (.int .u8 x2)) (d3 : w.cell? ⟨b, off + 3, none⟩ = some (.int .u8 x3)) (h1 : m = 1) (hg2 : g = 2) (hbad : n < 12) :
    Calls Try.prog 54 #[.slice (some ⟨b, off, none⟩) n c] w (IRetA w zeroItm 0 2) := by
  have hbad2 : (n : Int) < 12 := by omega
  have h' : ¬ (n : Int) < 4 := by omega
  have h0 : 0 < n := by omega
  have hp1 : 1 < n := by omega
  have hp2 : 2 < n := by omega
  have hp3 : 3 < n := by omega
  have hi1 : (1 : Int) < n := by omega
  have hi2 : (2 : Int) < n := by omega
  have hi3 : (3 : Int) < n := by omega
  have HB := Lib.hid (zz_below w)
  have HD := Lib.hid (zz_blk w)
  have e0 : (zz w).cell? ⟨b, off, none⟩ = some (.int .u8 x0) := (HB.out.cell (p := ⟨b, off, none⟩) hb).trans d0
  have e1 : (zz w).cell? ⟨b, off + 1, none⟩ = some (.int .u8 206) := (HB.out.cell (p := ⟨b, off + 1, none⟩) hb).trans d1
  have e2 : (zz w).cell? ⟨b, off + 2, none⟩ = some (.int .u8 x2) := (HB.out.cell (p := ⟨b, off + 2, none⟩) hb).trans d2
  have e3 : (zz w).cell? ⟨b, off + 3, none⟩ = some (.int .u8 x3) := (HB.out.cell (p := ⟨b, off + 3, none⟩) hb).trans d3
  have q1 : x0.tdiv 32 = 4 := by rw [Int.tdiv_eq_ediv_of_nonneg hx0.1]; exact hx
  have q2 : x0.tmod 32 = m := by rw [Int.tmod_eq_emod_of_nonneg hx0.1]; exact hm
  have q3 : IntKind.i64.wrap m = m := IntWalk.i64_in _ (by omega)
  have q4 : IntKind.i64.wrap x2 = x2 := IntWalk.i64_in _ (by omega)
  have q5 : IntKind.i64.wrap x3 = x3 := IntWalk.i64_in _ (by omega)
  have q6 : IntKind.i64.wrap (x2 * 256) = x2 * 256 := IntWalk.i64_in _ (by omega)
  have q7 : IntKind.i64.wrap (x2 * 256 + x3) = 2 := by rw [IntWalk.i64_in _ (by omega)]; omega
  have hS : Fth b off x2 x3 (zz w).drew := ⟨e2, e3⟩
  have f2 : ∀ W, Fth b off x2 x3 W → W.cell? ⟨b, off + 2, none⟩ = some (.int .u8 x2) := fun W h => h.1
  have f3 : ∀ W, Fth b off x2 x3 W → W.cell? ⟨b, off + 3, none⟩ = some (.int .u8 x3) := fun W h => h.2
  have hgb : 0 ≤ g ∧ g ≤ 65535 := ⟨by omega, by omega⟩
  have hmb : 0 ≤ m ∧ m ≤ 31 := ⟨by omega, by omega⟩
  have CW : Hid (∀ W, Calls Try.prog 81 #[.int .i64 206, .int .i64 0] W fun e w' => e = .returned (.int .i64 2) ∧ W = w') := fun W => words_206 0 W ⟨by omega, by omega⟩
  have hone : (m != 1) = false := by simpa using h1
  clear h1 hg2 hgb
  clear e2 e3 hg hm hx hx0 hx2 hx3 d0 d1 d2 d3
  go_enter Try.func54, Try.ntmps54
  go_wp2_with fail
  refine region_seq (Fth b off x2 x3) [(0, false), (1, false), (2, false), (3, false), (4, false), (5, false), (6, false), (7, false), (8, false), (9, false), (10, false)] (by kernel_rfl) (by kernel_rfl) rfl (by kernel_rfl) ?_
  iterate 11 (refine seq_read (v := _) rfl (fun _ _ _ h => h) hS (Or.inl ⟨by rfl, fun W hW => by go_simp <;> with_reducible rfl⟩) ?_; simp only [Act.put, List.setIfInBounds_toArray, List.set_cons_zero, List.set_cons_succ])
  refine seq_end ?_
  clear hS f2 f3 q1 q2 q3 q4 q5 q6 q7 e0 e1
  go_wp2_with fail
  refine (CW.out _).mono ?_
  rintro e w' ⟨rfl, rfl⟩
  go_wp2
  exact retG_at HD.out (IRetA.none_ HB.out.drew)
end Go.Proofs.Ythmmafpmpnhleaa.Fbk

namespace Go.Proofs.Ythmmafpmpnhleaa.Fbk
open Go.RowKit
set_option linter.unusedVariables false

set_option maxRecDepth 100000 in
set_option maxHeartbeats 4000000 in
theorem gi_ok203 (b off n c : Nat) (x0 x2 x3 m g : Int) (w : World) (h : 4 ≤ n) (hb : b < w.heap.size) (hx0 : 0 ≤ x0 ∧ x0 ≤ 255) (hx2 : 0 ≤ x2 ∧ x2 ≤ 255) (hx3 : 0 ≤ x3 ∧ x3 ≤ 255) (hx : x0 / 32 = 4) (hm : x0 % 32 = m) (hg : x2 * 256 + x3 = g) (d0 : w.cell? ⟨b, off, none⟩ = some (.int .u8 x0)) (d1 : w.cell? ⟨b, off + 1, none⟩ = some (.int .u8 203)) (d2 : w.cell? ⟨b, off + 2, none⟩ = some (.int .u8 x2)) (d3 : w.cell? ⟨b, off + 3, none⟩ = some (.int .u8 x3)) (hwd : g = m) (hlo : ¬ m < 1) (hhi : ¬ 15 < m) (k N : Nat) (hN : 4 + 4 * g = N) (hn : N ≤ n) (hk : m = k) (ys : List Int) (CI : Hid (∀ W X, Below w.heap.size w W → (c ≠ 4 → X = some ⟨b, off + 4, none⟩) → Calls Try.prog 82 #[.int .i64 203, .int .i64 k, .slice X (N - 4) (c - 4)] W fun e w' => ∃ A z, e = .returned (itm ⟨203, 0, 0, 0, 0, 0, none, 0, 0, A, k, z, 0, none, 0, 0⟩) ∧ RowOwn w32L w' W.heap.size A k z (wordsAt ys 0 k) ∧ Below W.heap.size W w')) (hnc : n ≤ c) :
    Calls Try.prog 54 #[.slice (some ⟨b, off, none⟩) n c] w (fun e w' => ∃ A z, e = .returned (.tuple #[itm ⟨203, 0, 0, 0, 0, 0, none, 0, 0, A, k, z, 0, none, 0, 0⟩, .int .i64 N, .int .i64 0]) ∧ RowOwn w32L w' w.heap.size A k z (wordsAt ys 0 k) ∧ Below w.heap.size w w') := by
  have h' : ¬ (n : Int) < 4 := by omega
  have h0 : 0 < n := by omega
  have hp1 : 1 < n := by omega
  have hp2 : 2 < n := by omega
  have hp3 : 3 < n := by omega
  have hi1 : (1 : Int) < n := by omega
  have hi2 : (2 : Int) < n := by omega
  have hi3 : (3 : Int) < n := by omega
  have HB := Lib.hid (zz_below w)
  have HD := Lib.hid (zz_blk w)
  have e0 : (zz w).cell? ⟨b, off, none⟩ = some (.int .u8 x0) := (HB.out.cell (p := ⟨b, off, none⟩) hb).trans d0
  have e1 : (zz w).cell? ⟨b, off + 1, none⟩ = some (.int .u8 203) := (HB.out.cell (p := ⟨b, off + 1, none⟩) hb).trans d1
  have e2 : (zz w).cell? ⟨b, off + 2, none⟩ = some (.int .u8 x2) := (HB.out.cell (p := ⟨b, off + 2, none⟩) hb).trans d2
  have e3 : (zz w).cell? ⟨b, off + 3, none⟩ = some (.int .u8 x3) := (HB.out.cell (p := ⟨b, off + 3, none⟩) hb).trans d3
  have q1 : x0.tdiv 32 = 4 := by rw [Int.tdiv_eq_ediv_of_nonneg hx0.1]; exact hx
  have q2 : x0.tmod 32 = m := by rw [Int.tmod_eq_emod_of_nonneg hx0.1]; exact hm
  have q3 : IntKind.i64.wrap m = m := IntWalk.i64_in _ (by omega)
  have q4 : IntKind.i64.wrap x2 = x2 := IntWalk.i64_in _ (by omega)
  have q5 : IntKind.i64.wrap x3 = x3 := IntWalk.i64_in _ (by omega)
  have q6 : IntKind.i64.wrap (x2 * 256) = x2 * 256 := IntWalk.i64_in _ (by omega)
  have q7 : IntKind.i64.wrap (x2 * 256 + x3) = g := by rw [IntWalk.i64_in _ (by omega)]; exact hg
  have hS : Fth b off x2 x3 (zz w).drew := ⟨e2, e3⟩
  have f2 : ∀ W, Fth b off x2 x3 W → W.cell? ⟨b, off + 2, none⟩ = some (.int .u8 x2) := fun W h => h.1
  have f3 : ∀ W, Fth b off x2 x3 W → W.cell? ⟨b, off + 3, none⟩ = some (.int .u8 x3) := fun W h => h.2
  have hgb : 0 ≤ g ∧ g ≤ 65535 := ⟨by omega, by omega⟩
  have hmb : 0 ≤ m ∧ m ≤ 31 := ⟨by omega, by omega⟩
  have CW : Hid (∀ W, Calls Try.prog 81 #[.int .i64 203, .int .i64 k] W fun e w' => e = .returned (.int .i64 k) ∧ W = w') := fun W => words_203 k W ⟨by omega, by omega⟩
  have hwd2 : (g != (k : Int)) = false := by rw [← hk]; simpa using hwd
  have hone : ¬ (k : Int) < 1 := by omega
  have h15 : ¬ (15 : Int) < k := by omega
  obtain ⟨X, hX, sX⟩ := cut_run b off n c 4 N 4 N rfl rfl (by omega) (by omega)
  have HX := Lib.hid hX
  have hn2 : ¬ (n : Int) < N := by omega
  have w1 : IntKind.i64.wrap (4 * g) = 4 * g := IntWalk.i64_in _ (by omega)
  have w2 : IntKind.i64.wrap (4 + 4 * g) = N := by rw [IntWalk.i64_in _ (by omega)]; exact hN
  have hN4 : 4 ≤ N := by omega
  subst hk
  clear hwd
  clear hX hN
  clear e2 e3 hg hm hx hx0 hx2 hx3 d0 d1 d2 d3
  go_enter Try.func54, Try.ntmps54
  go_wp2_with fail
  refine region_seq (Fth b off x2 x3) [(0, false), (1, false), (2, false), (3, false), (4, false), (5, false), (6, false), (7, false), (8, false), (9, false), (10, false)] (by kernel_rfl) (by kernel_rfl) rfl (by kernel_rfl) ?_
  iterate 11 (refine seq_read (v := _) rfl (fun _ _ _ h => h) hS (Or.inl ⟨by rfl, fun W hW => by go_simp <;> with_reducible rfl⟩) ?_; simp only [Act.put, List.setIfInBounds_toArray, List.set_cons_zero, List.set_cons_succ])
  refine seq_end ?_
  clear hS f2 f3 q1 q2 q3 q4 q5 q6 q7 e0 e1
  go_wp2_with fail
  refine (CW.out _).mono ?_
  rintro e w' ⟨rfl, rfl⟩
  go_wp2_with fail
  refine (CI.out _ X HB.out.drew HX.out).mono ?_
  rintro e u0 ⟨A, z, rfl, ho, hb1⟩
  obtain ⟨v, hv⟩ : ∃ v : IV, v = ⟨203, 0, 0, 0, 0, 0, none, 0, 0, A, k, z, 0, none, 0, 0⟩ := ⟨_, rfl⟩
  rw [← hv]
  have D : IBlk u0 w.heap.size ziv := (show IBlk (zz w).drew w.heap.size ziv from HD.out).bel hb1
  have hlt : w.heap.size < (zz w).drew.heap.size := HD.out.lt
  obtain ⟨z0, f0, z1, f1, z2, f2, z3, f3, z4, f4, z5, f5, z6, f6, z7, f7, z8, f8, z9, f9⟩ := D.cf
  have HW := Lib.hid (show IBlk ((((((((((u0.setCell ⟨w.heap.size, 0, none⟩ (.int .i64 v.kind)).setCell ⟨w.heap.size, 1, none⟩ (.int .u32 v.ssrc)).setCell ⟨w.heap.size, 2, none⟩ (.int .u64 v.ntp)).setCell ⟨w.heap.size, 3, none⟩ (.int .u32 v.time)).setCell ⟨w.heap.size, 4, none⟩ (.int .u32 v.pks)).setCell ⟨w.heap.size, 5, none⟩ (.int .u32 v.ocs)).setCell ⟨w.heap.size, 6, none⟩ (.slice v.ba v.bn v.bc)).setCell ⟨w.heap.size, 7, none⟩ (.slice v.ga v.gn v.gc)).setCell ⟨w.heap.size, 8, none⟩ (.int .u32 v.media)).setCell ⟨w.heap.size, 9, none⟩ (.slice v.pa v.pn v.pc)) w.heap.size v ∧ Below w.heap.size w ((((((((((u0.setCell ⟨w.heap.size, 0, none⟩ (.int .i64 v.kind)).setCell ⟨w.heap.size, 1, none⟩ (.int .u32 v.ssrc)).setCell ⟨w.heap.size, 2, none⟩ (.int .u64 v.ntp)).setCell ⟨w.heap.size, 3, none⟩ (.int .u32 v.time)).setCell ⟨w.heap.size, 4, none⟩ (.int .u32 v.pks)).setCell ⟨w.heap.size, 5, none⟩ (.int .u32 v.ocs)).setCell ⟨w.heap.size, 6, none⟩ (.slice v.ba v.bn v.bc)).setCell ⟨w.heap.size, 7, none⟩ (.slice v.ga v.gn v.gc)).setCell ⟨w.heap.size, 8, none⟩ (.int .u32 v.media)).setCell ⟨w.heap.size, 9, none⟩ (.slice v.pa v.pn v.pc)) ∧ RowOwn w32L ((((((((((u0.setCell ⟨w.heap.size, 0, none⟩ (.int .i64 v.kind)).setCell ⟨w.heap.size, 1, none⟩ (.int .u32 v.ssrc)).setCell ⟨w.heap.size, 2, none⟩ (.int .u64 v.ntp)).setCell ⟨w.heap.size, 3, none⟩ (.int .u32 v.time)).setCell ⟨w.heap.size, 4, none⟩ (.int .u32 v.pks)).setCell ⟨w.heap.size, 5, none⟩ (.int .u32 v.ocs)).setCell ⟨w.heap.size, 6, none⟩ (.slice v.ba v.bn v.bc)).setCell ⟨w.heap.size, 7, none⟩ (.slice v.ga v.gn v.gc)).setCell ⟨w.heap.size, 8, none⟩ (.int .u32 v.media)).setCell ⟨w.heap.size, 9, none⟩ (.slice v.pa v.pn v.pc)) w.heap.size A k z (wordsAt ys 0 k) from
    ⟨D.store v, below_istore (HB.out.drew.trans (hb1.mono (Nat.le_of_lt hlt))) (Nat.le_refl _) _ _ _ _ _ _ _ _ _ _, (RowOwn.ist ho hlt v).lower (Nat.le_of_lt hlt)⟩)
  have HV := Lib.hid hv
  clear D hlt ho hb1 hv CI CW HX sX
  go_wp2
  generalize ((((((((((u0.setCell ⟨w.heap.size, 0, none⟩ (.int .i64 v.kind)).setCell ⟨w.heap.size, 1, none⟩ (.int .u32 v.ssrc)).setCell ⟨w.heap.size, 2, none⟩ (.int .u64 v.ntp)).setCell ⟨w.heap.size, 3, none⟩ (.int .u32 v.time)).setCell ⟨w.heap.size, 4, none⟩ (.int .u32 v.pks)).setCell ⟨w.heap.size, 5, none⟩ (.int .u32 v.ocs)).setCell ⟨w.heap.size, 6, none⟩ (.slice v.ba v.bn v.bc)).setCell ⟨w.heap.size, 7, none⟩ (.slice v.ga v.gn v.gc)).setCell ⟨w.heap.size, 8, none⟩ (.int .u32 v.media)).setCell ⟨w.heap.size, 9, none⟩ (.slice v.pa v.pn v.pc)) = u1 at *
  refine retG_at HW.out.1 ?_
  rw [HV.out]
  exact ⟨A, z, rfl, HW.out.2.2, HW.out.2.1⟩
end Go.Proofs.Ythmmafpmpnhleaa.Fbk

namespace Go.Proofs.Ythmmafpmpnhleaa.Fbk
open Go.RowKit
set_option linter.unusedVariables false

set_option maxRecDepth 100000 in
set_option maxHeartbeats 4000000 in
theorem gi_ok205 (b off n c : Nat) (x0 x2 x3 m g : Int) (w : World) (h : 4 ≤ n) (hb : b < w.heap.size) (hx0 : 0 ≤ x0 ∧ x0 ≤ 255) (hx2 : 0 ≤ x2 ∧ x2 ≤ 255) (hx3 : 0 ≤ x3 ∧ x3 ≤ 255) (hx : x0 / 32 = 4) (hm : x0 % 32 = m) (hg : x2 * 256 + x3 = g) (d0 : w.cell? ⟨b, off, none⟩ = some (.int .u8 x0)) (d1 : w.cell? ⟨b, off + 1, none⟩ = some (.int .u8 205)) (d2 : w.cell? ⟨b, off + 2, none⟩ = some (.int .u8 x2)) (d3 : w.cell? ⟨b, off + 3, none⟩ = some (.int .u8 x3)) (h1 : m = 1) (hlo : ¬ g - 2 < 1) (hhi : ¬ 16 < g - 2) (k N : Nat) (hN : 4 + 4 * g = N) (hn : N ≤ n) (hk : g - 2 = k) (ys : List Int) (CI : Hid (∀ W X, Below w.heap.size w W → (c ≠ 4 → X = some ⟨b, off + 4, none⟩) → Calls Try.prog 82 #[.int .i64 205, .int .i64 k, .slice X (N - 4) (c - 4)] W fun e w' => ∃ A z, e = .returned (itm ⟨205, nb ys 0 4, 0, 0, 0, 0, none, 0, 0, none, 0, 0, nb ys 4 4, A, k, z⟩) ∧ RowOwn pairL w' W.heap.size A k z (pairsAt ys 8 k) ∧ Below W.heap.size W w')) (hnc : n ≤ c) :
    Calls Try.prog 54 #[.slice (some ⟨b, off, none⟩) n c] w (fun e w' => ∃ A z, e = .returned (.tuple #[itm ⟨205, nb ys 0 4, 0, 0, 0, 0, none, 0, 0, none, 0, 0, nb ys 4 4, A, k, z⟩, .int .i64 N, .int .i64 0]) ∧ RowOwn pairL w' w.heap.size A k z (pairsAt ys 8 k) ∧ Below w.heap.size w w') := by
  have h' : ¬ (n : Int) < 4 := by omega
  have h0 : 0 < n := by omega
  have hp1 : 1 < n := by omega
  have hp2 : 2 < n := by omega
  have hp3 : 3 < n := by omega
  have hi1 : (1 : Int) < n := by omega
  have hi2 : (2 : Int) < n := by omega
  have hi3 : (3 : Int) < n := by omega
  have HB := Lib.hid (zz_below w)
  have HD := Lib.hid (zz_blk w)
  have e0 : (zz w).cell? ⟨b, off, none⟩ = some (.int .u8 x0) := (HB.out.cell (p := ⟨b, off, none⟩) hb).trans d0
  have e1 : (zz w).cell? ⟨b, off + 1, none⟩ = some (.int .u8 205) := (HB.out.cell (p := ⟨b, off + 1, none⟩) hb).trans d1
  have e2 : (zz w).cell? ⟨b, off + 2, none⟩ = some (.int .u8 x2) := (HB.out.cell (p := ⟨b, off + 2, none⟩) hb).trans d2
  have e3 : (zz w).cell? ⟨b, off + 3, none⟩ = some (.int .u8 x3) := (HB.out.cell (p := ⟨b, off + 3, none⟩) hb).trans d3
  have q1 : x0.tdiv 32 = 4 := by rw [Int.tdiv_eq_ediv_of_nonneg hx0.1]; exact hx
  have q2 : x0.tmod 32 = m := by rw [Int.tmod_eq_emod_of_nonneg hx0.1]; exact hm
  have q3 : IntKind.i64.wrap m = m := IntWalk.i64_in _ (by omega)
  have q4 : IntKind.i64.wrap x2 = x2 := IntWalk.i64_in _ (by omega)
  have q5 : IntKind.i64.wrap x3 = x3 := IntWalk.i64_in _ (by omega)
  have q6 : IntKind.i64.wrap (x2 * 256) = x2 * 256 := IntWalk.i64_in _ (by omega)
  have q7 : IntKind.i64.wrap (x2 * 256 + x3) = g := by rw [IntWalk.i64_in _ (by omega)]; exact hg
  have hS : Fth b off x2 x3 (zz w).drew := ⟨e2, e3⟩
  have f2 : ∀ W, Fth b off x2 x3 W → W.cell? ⟨b, off + 2, none⟩ = some (.int .u8 x2) := fun W h => h.1
  have f3 : ∀ W, Fth b off x2 x3 W → W.cell? ⟨b, off + 3, none⟩ = some (.int .u8 x3) := fun W h => h.2
  have hgb : 0 ≤ g ∧ g ≤ 65535 := ⟨by omega, by omega⟩
  have hmb : 0 ≤ m ∧ m ≤ 31 := ⟨by omega, by omega⟩
  have CW : Hid (∀ W, Calls Try.prog 81 #[.int .i64 205, .int .i64 k] W fun e w' => e = .returned (.int .i64 g) ∧ W = w') := fun W => by
    have := words_205 k W ⟨by omega, by omega⟩
    rwa [show 2 + (k : Int) = g from by omega] at this
  have q8 : IntKind.i64.wrap (g - 2) = k := by rw [IntWalk.i64_in _ (by omega)]; exact hk
  have hone : (m != 1) = false := by simpa using h1
  have hl2 : ¬ (k : Int) < 1 := by omega
  have hh2 : ¬ (16 : Int) < k := by omega
  obtain ⟨X, hX, sX⟩ := cut_run b off n c 4 N 4 N rfl rfl (by omega) (by omega)
  have HX := Lib.hid hX
  have hn2 : ¬ (n : Int) < N := by omega
  have w1 : IntKind.i64.wrap (4 * g) = 4 * g := IntWalk.i64_in _ (by omega)
  have w2 : IntKind.i64.wrap (4 + 4 * g) = N := by rw [IntWalk.i64_in _ (by omega)]; exact hN
  have hN4 : 4 ≤ N := by omega
  clear h1 hk hlo hhi
  clear hX hN
  clear e2 e3 hg hm hx hx0 hx2 hx3 d0 d1 d2 d3
  go_enter Try.func54, Try.ntmps54
  go_wp2_with fail
  refine region_seq (Fth b off x2 x3) [(0, false), (1, false), (2, false), (3, false), (4, false), (5, false), (6, false), (7, false), (8, false), (9, false), (10, false)] (by kernel_rfl) (by kernel_rfl) rfl (by kernel_rfl) ?_
  iterate 11 (refine seq_read (v := _) rfl (fun _ _ _ h => h) hS (Or.inl ⟨by rfl, fun W hW => by go_simp <;> with_reducible rfl⟩) ?_; simp only [Act.put, List.setIfInBounds_toArray, List.set_cons_zero, List.set_cons_succ])
  refine seq_end ?_
  clear hS f2 f3 q1 q2 q3 q4 q5 q6 q7 e0 e1
  go_wp2_with fail
  refine (CW.out _).mono ?_
  rintro e w' ⟨rfl, rfl⟩
  go_wp2_with fail
  refine (CI.out _ X HB.out.drew HX.out).mono ?_
  rintro e u0 ⟨A, z, rfl, ho, hb1⟩
  obtain ⟨v, hv⟩ : ∃ v : IV, v = ⟨205, nb ys 0 4, 0, 0, 0, 0, none, 0, 0, none, 0, 0, nb ys 4 4, A, k, z⟩ := ⟨_, rfl⟩
  rw [← hv]
  have D : IBlk u0 w.heap.size ziv := (show IBlk (zz w).drew w.heap.size ziv from HD.out).bel hb1
  have hlt : w.heap.size < (zz w).drew.heap.size := HD.out.lt
  obtain ⟨z0, f0, z1, f1, z2, f2, z3, f3, z4, f4, z5, f5, z6, f6, z7, f7, z8, f8, z9, f9⟩ := D.cf
  have HW := Lib.hid (show IBlk ((((((((((u0.setCell ⟨w.heap.size, 0, none⟩ (.int .i64 v.kind)).setCell ⟨w.heap.size, 1, none⟩ (.int .u32 v.ssrc)).setCell ⟨w.heap.size, 2, none⟩ (.int .u64 v.ntp)).setCell ⟨w.heap.size, 3, none⟩ (.int .u32 v.time)).setCell ⟨w.heap.size, 4, none⟩ (.int .u32 v.pks)).setCell ⟨w.heap.size, 5, none⟩ (.int .u32 v.ocs)).setCell ⟨w.heap.size, 6, none⟩ (.slice v.ba v.bn v.bc)).setCell ⟨w.heap.size, 7, none⟩ (.slice v.ga v.gn v.gc)).setCell ⟨w.heap.size, 8, none⟩ (.int .u32 v.media)).setCell ⟨w.heap.size, 9, none⟩ (.slice v.pa v.pn v.pc)) w.heap.size v ∧ Below w.heap.size w ((((((((((u0.setCell ⟨w.heap.size, 0, none⟩ (.int .i64 v.kind)).setCell ⟨w.heap.size, 1, none⟩ (.int .u32 v.ssrc)).setCell ⟨w.heap.size, 2, none⟩ (.int .u64 v.ntp)).setCell ⟨w.heap.size, 3, none⟩ (.int .u32 v.time)).setCell ⟨w.heap.size, 4, none⟩ (.int .u32 v.pks)).setCell ⟨w.heap.size, 5, none⟩ (.int .u32 v.ocs)).setCell ⟨w.heap.size, 6, none⟩ (.slice v.ba v.bn v.bc)).setCell ⟨w.heap.size, 7, none⟩ (.slice v.ga v.gn v.gc)).setCell ⟨w.heap.size, 8, none⟩ (.int .u32 v.media)).setCell ⟨w.heap.size, 9, none⟩ (.slice v.pa v.pn v.pc)) ∧ RowOwn pairL ((((((((((u0.setCell ⟨w.heap.size, 0, none⟩ (.int .i64 v.kind)).setCell ⟨w.heap.size, 1, none⟩ (.int .u32 v.ssrc)).setCell ⟨w.heap.size, 2, none⟩ (.int .u64 v.ntp)).setCell ⟨w.heap.size, 3, none⟩ (.int .u32 v.time)).setCell ⟨w.heap.size, 4, none⟩ (.int .u32 v.pks)).setCell ⟨w.heap.size, 5, none⟩ (.int .u32 v.ocs)).setCell ⟨w.heap.size, 6, none⟩ (.slice v.ba v.bn v.bc)).setCell ⟨w.heap.size, 7, none⟩ (.slice v.ga v.gn v.gc)).setCell ⟨w.heap.size, 8, none⟩ (.int .u32 v.media)).setCell ⟨w.heap.size, 9, none⟩ (.slice v.pa v.pn v.pc)) w.heap.size A k z (pairsAt ys 8 k) from
    ⟨D.store v, below_istore (HB.out.drew.trans (hb1.mono (Nat.le_of_lt hlt))) (Nat.le_refl _) _ _ _ _ _ _ _ _ _ _, (RowOwn.ist ho hlt v).lower (Nat.le_of_lt hlt)⟩)
  have HV := Lib.hid hv
  clear D hlt ho hb1 hv CI CW HX sX
  go_wp2
  generalize ((((((((((u0.setCell ⟨w.heap.size, 0, none⟩ (.int .i64 v.kind)).setCell ⟨w.heap.size, 1, none⟩ (.int .u32 v.ssrc)).setCell ⟨w.heap.size, 2, none⟩ (.int .u64 v.ntp)).setCell ⟨w.heap.size, 3, none⟩ (.int .u32 v.time)).setCell ⟨w.heap.size, 4, none⟩ (.int .u32 v.pks)).setCell ⟨w.heap.size, 5, none⟩ (.int .u32 v.ocs)).setCell ⟨w.heap.size, 6, none⟩ (.slice v.ba v.bn v.bc)).setCell ⟨w.heap.size, 7, none⟩ (.slice v.ga v.gn v.gc)).setCell ⟨w.heap.size, 8, none⟩ (.int .u32 v.media)).setCell ⟨w.heap.size, 9, none⟩ (.slice v.pa v.pn v.pc)) = u1 at *
  refine retG_at HW.out.1 ?_
  rw [HV.out]
  exact ⟨A, z, rfl, HW.out.2.2, HW.out.2.1⟩
end Go.Proofs.Ythmmafpmpnhleaa.Fbk

namespace Go.Proofs.Ythmmafpmpnhleaa.Fbk
open Go.RowKit
set_option linter.unusedVariables false

set_option maxRecDepth 100000 in
set_option maxHeartbeats 4000000 in
theorem gi_ok206 (b off n c : Nat) (x0 x2 x3 m g : Int) (w : World) (h : 4 ≤ n) (hb : b < w.heap.size) (hx0 : 0 ≤ x0 ∧ x0 ≤ 255) (hx2 : 0 ≤ x2 ∧ x2 ≤ 255) (hx3 : 0 ≤ x3 ∧ x3 ≤ 255) (hx : x0 / 32 = 4) (hm : x0 % 32 = m) (hg : x2 * 256 + x3 = g) (d0 : w.cell? ⟨b, off, none⟩ = some (.int .u8 x0)) (d1 : w.cell? ⟨b, off + 1, none⟩ = some (.int .u8 206)) (d2 : w.cell? ⟨b, off + 2, none⟩ = some (.int .u8 x2)) (d3 : w.cell? ⟨b, off + 3, none⟩ = some (.int .u8 x3)) (h1 : m = 1) (hg2 : g = 2) (hn : 12 ≤ n) (ys : List Int) (CI : Hid (∀ W X, Below w.heap.size w W → (c ≠ 4 → X = some ⟨b, off + 4, none⟩) → Calls Try.prog 82 #[.int .i64 206, .int .i64 0, .slice X 8 (c - 4)] W fun e w' => ∃ A z, e = .returned (itm ⟨206, nb ys 0 4, 0, 0, 0, 0, none, 0, 0, none, 0, 0, nb ys 4 4, A, 0, z⟩) ∧ (∀ b2 o2, A = some ⟨b2, o2, none⟩ → w.heap.size ≤ b2) ∧ Below W.heap.size W w')) (hnc : n ≤ c) :
    Calls Try.prog 54 #[.slice (some ⟨b, off, none⟩) n c] w (fun e w' => ∃ A z, e = .returned (.tuple #[itm ⟨206, nb ys 0 4, 0, 0, 0, 0, none, 0, 0, none, 0, 0, nb ys 4 4, A, 0, z⟩, .int .i64 12, .int .i64 0]) ∧ (∀ b2 o2, A = some ⟨b2, o2, none⟩ → w.heap.size ≤ b2) ∧ Below w.heap.size w w') := by
  have h' : ¬ (n : Int) < 4 := by omega
  have h0 : 0 < n := by omega
  have hp1 : 1 < n := by omega
  have hp2 : 2 < n := by omega
  have hp3 : 3 < n := by omega
  have hi1 : (1 : Int) < n := by omega
  have hi2 : (2 : Int) < n := by omega
  have hi3 : (3 : Int) < n := by omega
  have HB := Lib.hid (zz_below w)
  have HD := Lib.hid (zz_blk w)
  have e0 : (zz w).cell? ⟨b, off, none⟩ = some (.int .u8 x0) := (HB.out.cell (p := ⟨b, off, none⟩) hb).trans d0
  have e1 : (zz w).cell? ⟨b, off + 1, none⟩ = some (.int .u8 206) := (HB.out.cell (p := ⟨b, off + 1, none⟩) hb).trans d1
  have e2 : (zz w).cell? ⟨b, off + 2, none⟩ = some (.int .u8 x2) := (HB.out.cell (p := ⟨b, off + 2, none⟩) hb).trans d2
  have e3 : (zz w).cell? ⟨b, off + 3, none⟩ = some (.int .u8 x3) := (HB.out.cell (p := ⟨b, off + 3, none⟩) hb).trans d3
  have q1 : x0.tdiv 32 = 4 := by rw [Int.tdiv_eq_ediv_of_nonneg hx0.1]; exact hx
  have q2 : x0.tmod 32 = m := by rw [Int.tmod_eq_emod_of_nonneg hx0.1]; exact hm
  have q3 : IntKind.i64.wrap m = m := IntWalk.i64_in _ (by omega)
  have q4 : IntKind.i64.wrap x2 = x2 := IntWalk.i64_in _ (by omega)
  have q5 : IntKind.i64.wrap x3 = x3 := IntWalk.i64_in _ (by omega)
  have q6 : IntKind.i64.wrap (x2 * 256) = x2 * 256 := IntWalk.i64_in _ (by omega)
  have q7 : IntKind.i64.wrap (x2 * 256 + x3) = 2 := by rw [IntWalk.i64_in _ (by omega)]; omega
  have hS : Fth b off x2 x3 (zz w).drew := ⟨e2, e3⟩
  have f2 : ∀ W, Fth b off x2 x3 W → W.cell? ⟨b, off + 2, none⟩ = some (.int .u8 x2) := fun W h => h.1
  have f3 : ∀ W, Fth b off x2 x3 W → W.cell? ⟨b, off + 3, none⟩ = some (.int .u8 x3) := fun W h => h.2
  have hgb : 0 ≤ g ∧ g ≤ 65535 := ⟨by omega, by omega⟩
  have hmb : 0 ≤ m ∧ m ≤ 31 := ⟨by omega, by omega⟩
  have CW : Hid (∀ W, Calls Try.prog 81 #[.int .i64 206, .int .i64 0] W fun e w' => e = .returned (.int .i64 2) ∧ W = w') := fun W => words_206 0 W ⟨by omega, by omega⟩
  have hone : (m != 1) = false := by simpa using h1
  obtain ⟨X, hX, sX⟩ := cut_run b off n c 4 12 4 12 rfl rfl (by omega) (by omega)
  have HX := Lib.hid hX
  have hn2 : ¬ (n : Int) < 12 := by omega
  clear hX h1 hg2 hgb
  clear e2 e3 hg hm hx hx0 hx2 hx3 d0 d1 d2 d3
  go_enter Try.func54, Try.ntmps54
  go_wp2_with fail
  refine region_seq (Fth b off x2 x3) [(0, false), (1, false), (2, false), (3, false), (4, false), (5, false), (6, false), (7, false), (8, false), (9, false), (10, false)] (by kernel_rfl) (by kernel_rfl) rfl (by kernel_rfl) ?_
  iterate 11 (refine seq_read (v := _) rfl (fun _ _ _ h => h) hS (Or.inl ⟨by rfl, fun W hW => by go_simp <;> with_reducible rfl⟩) ?_; simp only [Act.put, List.setIfInBounds_toArray, List.set_cons_zero, List.set_cons_succ])
  refine seq_end ?_
  clear hS f2 f3 q1 q2 q3 q4 q5 q6 q7 e0 e1
  go_wp2_with fail
  refine (CW.out _).mono ?_
  rintro e w' ⟨rfl, rfl⟩
  go_wp2_with fail
  refine (CI.out _ X HB.out.drew HX.out).mono ?_
  rintro e u0 ⟨A, z, rfl, hge, hb1⟩
  have HGE := Lib.hid hge
  obtain ⟨v, hv⟩ : ∃ v : IV, v = ⟨206, nb ys 0 4, 0, 0, 0, 0, none, 0, 0, none, 0, 0, nb ys 4 4, A, 0, z⟩ := ⟨_, rfl⟩
  rw [← hv]
  have D : IBlk u0 w.heap.size ziv := (show IBlk (zz w).drew w.heap.size ziv from HD.out).bel hb1
  have hlt : w.heap.size < (zz w).drew.heap.size := HD.out.lt
  obtain ⟨z0, f0, z1, f1, z2, f2, z3, f3, z4, f4, z5, f5, z6, f6, z7, f7, z8, f8, z9, f9⟩ := D.cf
  have HW := Lib.hid (show IBlk ((((((((((u0.setCell ⟨w.heap.size, 0, none⟩ (.int .i64 v.kind)).setCell ⟨w.heap.size, 1, none⟩ (.int .u32 v.ssrc)).setCell ⟨w.heap.size, 2, none⟩ (.int .u64 v.ntp)).setCell ⟨w.heap.size, 3, none⟩ (.int .u32 v.time)).setCell ⟨w.heap.size, 4, none⟩ (.int .u32 v.pks)).setCell ⟨w.heap.size, 5, none⟩ (.int .u32 v.ocs)).setCell ⟨w.heap.size, 6, none⟩ (.slice v.ba v.bn v.bc)).setCell ⟨w.heap.size, 7, none⟩ (.slice v.ga v.gn v.gc)).setCell ⟨w.heap.size, 8, none⟩ (.int .u32 v.media)).setCell ⟨w.heap.size, 9, none⟩ (.slice v.pa v.pn v.pc)) w.heap.size v ∧ Below w.heap.size w ((((((((((u0.setCell ⟨w.heap.size, 0, none⟩ (.int .i64 v.kind)).setCell ⟨w.heap.size, 1, none⟩ (.int .u32 v.ssrc)).setCell ⟨w.heap.size, 2, none⟩ (.int .u64 v.ntp)).setCell ⟨w.heap.size, 3, none⟩ (.int .u32 v.time)).setCell ⟨w.heap.size, 4, none⟩ (.int .u32 v.pks)).setCell ⟨w.heap.size, 5, none⟩ (.int .u32 v.ocs)).setCell ⟨w.heap.size, 6, none⟩ (.slice v.ba v.bn v.bc)).setCell ⟨w.heap.size, 7, none⟩ (.slice v.ga v.gn v.gc)).setCell ⟨w.heap.size, 8, none⟩ (.int .u32 v.media)).setCell ⟨w.heap.size, 9, none⟩ (.slice v.pa v.pn v.pc)) from
    ⟨D.store v, below_istore (HB.out.drew.trans (hb1.mono (Nat.le_of_lt hlt))) (Nat.le_refl _) _ _ _ _ _ _ _ _ _ _⟩)
  have HV := Lib.hid hv
  clear D hlt hb1 hv CI CW HX sX hge
  go_wp2
  generalize ((((((((((u0.setCell ⟨w.heap.size, 0, none⟩ (.int .i64 v.kind)).setCell ⟨w.heap.size, 1, none⟩ (.int .u32 v.ssrc)).setCell ⟨w.heap.size, 2, none⟩ (.int .u64 v.ntp)).setCell ⟨w.heap.size, 3, none⟩ (.int .u32 v.time)).setCell ⟨w.heap.size, 4, none⟩ (.int .u32 v.pks)).setCell ⟨w.heap.size, 5, none⟩ (.int .u32 v.ocs)).setCell ⟨w.heap.size, 6, none⟩ (.slice v.ba v.bn v.bc)).setCell ⟨w.heap.size, 7, none⟩ (.slice v.ga v.gn v.gc)).setCell ⟨w.heap.size, 8, none⟩ (.int .u32 v.media)).setCell ⟨w.heap.size, 9, none⟩ (.slice v.pa v.pn v.pc)) = u1 at *
  refine retG_at HW.out.1 ?_
  rw [HV.out]
  exact ⟨A, z, rfl, HGE.out, HW.out.2⟩
end Go.Proofs.Ythmmafpmpnhleaa.Fbk
