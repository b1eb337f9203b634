/- The reference's GetItem, some ways (part b). · The reference's GetItem, some ways (part c). · The reference's GetItem, some ways (part d). -/
import Derived.Test.YtjbgfaoancmknaaQmba
namespace Go.Proofs.Ytjbgfaoancmknaa.Fbk
open Go.RowKit
set_option linter.unusedVariables false

set_option maxRecDepth 100000 in
set_option maxHeartbeats 4000000 in
theorem gi_none (b off n c : Nat) (x0 x1 x2 x3 m g : Int) (w : World) (h : 4 ≤ n) (hb : b < w.heap.size) (hx0 : 0 ≤ x0 ∧ x0 ≤ 255) (hx2 : 0 ≤ x2 ∧ x2 ≤ 255) (hx3 : 0 ≤ x3 ∧ x3 ≤ 255) (hx : x0 / 32 = 4) (hm : x0 % 32 = m) (hg : x2 * 256 + x3 = g) (d0 : w.cell? ⟨b, off, none⟩ = some (.int .u8 x0)) (d1 : w.cell? ⟨b, off + 1, none⟩ = some (.int .u8 x1)) (d2 : w.cell? ⟨b, off + 2, none⟩ = some (.int .u8 x2)) (d3 : w.cell? ⟨b, off + 3, none⟩ = some (.int .u8 x3)) (hx1 : 0 ≤ x1 ∧ x1 ≤ 255) (k0 : ¬ x1 = 200) (k1 : ¬ x1 = 201) (k2 : ¬ x1 = 203) (k3 : ¬ x1 = 205) (k4 : ¬ x1 = 206) :
    Calls Try.prog 27 #[.slice (some ⟨b, off, none⟩) n c] w (IRetA w zeroItm 0 4) := by
  have h' : ¬ (n : Int) < 4 := by omega
  have h0 : 0 < n := by omega
  have hp1 : 1 < n := by omega
  have hp2 : 2 < n := by omega
  have hp3 : 3 < n := by omega
  have hi1 : (1 : Int) < n := by omega
  have hi2 : (2 : Int) < n := by omega
  have hi3 : (3 : Int) < n := by omega
  have HB := Lib.hid (zz_below w)
  have HD := Lib.hid (zz_blk w)
  have e0 : (zz w).cell? ⟨b, off, none⟩ = some (.int .u8 x0) := (HB.out.cell (p := ⟨b, off, none⟩) hb).trans d0
  have e1 : (zz w).cell? ⟨b, off + 1, none⟩ = some (.int .u8 x1) := (HB.out.cell (p := ⟨b, off + 1, none⟩) hb).trans d1
  have e2 : (zz w).cell? ⟨b, off + 2, none⟩ = some (.int .u8 x2) := (HB.out.cell (p := ⟨b, off + 2, none⟩) hb).trans d2
  have e3 : (zz w).cell? ⟨b, off + 3, none⟩ = some (.int .u8 x3) := (HB.out.cell (p := ⟨b, off + 3, none⟩) hb).trans d3
  have q1 : x0.tdiv 32 = 4 := by rw [Int.tdiv_eq_ediv_of_nonneg hx0.1]; exact hx
  have q2 : x0.tmod 32 = m := by rw [Int.tmod_eq_emod_of_nonneg hx0.1]; exact hm
  have q3 : IntKind.i64.wrap m = m := IntWalk.i64_in _ (by omega)
  have q4 : IntKind.i64.wrap x2 = x2 := IntWalk.i64_in _ (by omega)
  have q5 : IntKind.i64.wrap x3 = x3 := IntWalk.i64_in _ (by omega)
  have q6 : IntKind.i64.wrap (x2 * 256) = x2 * 256 := IntWalk.i64_in _ (by omega)
  have q7 : IntKind.i64.wrap (x2 * 256 + x3) = g := by rw [IntWalk.i64_in _ (by omega)]; exact hg
  have hS : Fth b off x2 x3 (zz w).drew := ⟨e2, e3⟩
  have f2 : ∀ W, Fth b off x2 x3 W → W.cell? ⟨b, off + 2, none⟩ = some (.int .u8 x2) := fun W h => h.1
  have f3 : ∀ W, Fth b off x2 x3 W → W.cell? ⟨b, off + 3, none⟩ = some (.int .u8 x3) := fun W h => h.2
  have hgb : 0 ≤ g ∧ g ≤ 65535 := ⟨by omega, by omega⟩
  have hmb : 0 ≤ m ∧ m ≤ 31 := ⟨by omega, by omega⟩
  have q8 : IntKind.i64.wrap x1 = x1 := IntWalk.i64_in _ (by omega)
  have b0 : (x1 == 200) = false := by simpa using k0
  have b1 : (x1 == 201) = false := by simpa using k1
  have b2 : (x1 == 203) = false := by simpa using k2
  have b3 : (x1 == 205) = false := by simpa using k3
  have b4 : (x1 == 206) = false := by simpa using k4
  clear e2 e3 hg hm hx hx0 hx2 hx3 d0 d1 d2 d3
  go_enter Try.func27, Try.ntmps27
  go_wp2_with fail
  refine region_seq (Fth b off x2 x3) [(0, false), (1, false), (2, false), (3, false), (4, false), (5, false), (6, false), (7, false), (8, false), (9, false), (10, false)] (by kernel_rfl) (by kernel_rfl) rfl (by kernel_rfl) ?_
  iterate 11 (refine seq_read (v := _) rfl (fun _ _ _ h => h) hS (Or.inl ⟨by rfl, fun W hW => by go_simp <;> with_reducible rfl⟩) ?_; simp only [Act.put, List.setIfInBounds_toArray, List.set_cons_zero, List.set_cons_succ])
  refine seq_end ?_
  clear hS f2 f3 q1 q2 q3 q4 q5 q6 q7 e0 e1
  go_wp2
  exact retG_at HD.out (IRetA.none_ HB.out.drew)
end Go.Proofs.Ytjbgfaoancmknaa.Fbk

namespace Go.Proofs.Ytjbgfaoancmknaa.Fbk
open Go.RowKit
set_option linter.unusedVariables false

set_option maxRecDepth 100000 in
set_option maxHeartbeats 4000000 in
theorem gi_few203 (b off n c : Nat) (x0 x2 x3 m g : Int) (w : World) (h : 4 ≤ n) (hb : b < w.heap.size) (hx0 : 0 ≤ x0 ∧ x0 ≤ 255) (hx2 : 0 ≤ x2 ∧ x2 ≤ 255) (hx3 : 0 ≤ x3 ∧ x3 ≤ 255) (hx : x0 / 32 = 4) (hm : x0 % 32 = m) (hg : x2 * 256 + x3 = g) (d0 : w.cell? ⟨b, off, none⟩ = some (.int .u8 x0)) (d1 : w.cell? ⟨b, off + 1, none⟩ = some (.int .u8 203)) (d2 : w.cell? ⟨b, off + 2, none⟩ = some (.int .u8 x2)) (d3 : w.cell? ⟨b, off + 3, none⟩ = some (.int .u8 x3)) (hbad : m < 1) :
    Calls Try.prog 27 #[.slice (some ⟨b, off, none⟩) n c] w (IRetA w zeroItm 0 1) := by
  have h' : ¬ (n : Int) < 4 := by omega
  have h0 : 0 < n := by omega
  have hp1 : 1 < n := by omega
  have hp2 : 2 < n := by omega
  have hp3 : 3 < n := by omega
  have hi1 : (1 : Int) < n := by omega
  have hi2 : (2 : Int) < n := by omega
  have hi3 : (3 : Int) < n := by omega
  have HB := Lib.hid (zz_below w)
  have HD := Lib.hid (zz_blk w)
  have e0 : (zz w).cell? ⟨b, off, none⟩ = some (.int .u8 x0) := (HB.out.cell (p := ⟨b, off, none⟩) hb).trans d0
  have e1 : (zz w).cell? ⟨b, off + 1, none⟩ = some (.int .u8 203) := (HB.out.cell (p := ⟨b, off + 1, none⟩) hb).trans d1
  have e2 : (zz w).cell? ⟨b, off + 2, none⟩ = some (.int .u8 x2) := (HB.out.cell (p := ⟨b, off + 2, none⟩) hb).trans d2
  have e3 : (zz w).cell? ⟨b, off + 3, none⟩ = some (.int .u8 x3) := (HB.out.cell (p := ⟨b, off + 3, none⟩) hb).trans d3
  have q1 : x0.tdiv 32 = 4 := by rw [Int.tdiv_eq_ediv_of_nonneg hx0.1]; exact hx
  have q2 : x0.tmod 32 = m := by rw [Int.tmod_eq_emod_of_nonneg hx0.1]; exact hm
  have q3 : IntKind.i64.wrap m = m := IntWalk.i64_in _ (by omega)
  have q4 : IntKind.i64.wrap x2 = x2 := IntWalk.i64_in _ (by omega)
  have q5 : IntKind.i64.wrap x3 = x3 := IntWalk.i64_in _ (by omega)
  have q6 : IntKind.i64.wrap (x2 * 256) = x2 * 256 := IntWalk.i64_in _ (by omega)
  have q7 : IntKind.i64.wrap (x2 * 256 + x3) = g := by rw [IntWalk.i64_in _ (by omega)]; exact hg
  have hS : Fth b off x2 x3 (zz w).drew := ⟨e2, e3⟩
  have f2 : ∀ W, Fth b off x2 x3 W → W.cell? ⟨b, off + 2, none⟩ = some (.int .u8 x2) := fun W h => h.1
  have f3 : ∀ W, Fth b off x2 x3 W → W.cell? ⟨b, off + 3, none⟩ = some (.int .u8 x3) := fun W h => h.2
  have hgb : 0 ≤ g ∧ g ≤ 65535 := ⟨by omega, by omega⟩
  have hmb : 0 ≤ m ∧ m ≤ 31 := ⟨by omega, by omega⟩
  clear e2 e3 hg hm hx hx0 hx2 hx3 d0 d1 d2 d3
  go_enter Try.func27, Try.ntmps27
  go_wp2_with fail
  refine region_seq (Fth b off x2 x3) [(0, false), (1, false), (2, false), (3, false), (4, false), (5, false), (6, false), (7, false), (8, false), (9, false), (10, false)] (by kernel_rfl) (by kernel_rfl) rfl (by kernel_rfl) ?_
  iterate 11 (refine seq_read (v := _) rfl (fun _ _ _ h => h) hS (Or.inl ⟨by rfl, fun W hW => by go_simp <;> with_reducible rfl⟩) ?_; simp only [Act.put, List.setIfInBounds_toArray, List.set_cons_zero, List.set_cons_succ])
  refine seq_end ?_
  clear hS f2 f3 q1 q2 q3 q4 q5 q6 q7 e0 e1
  go_wp2
  exact retG_at HD.out (IRetA.none_ HB.out.drew)
set_option maxRecDepth 100000 in
set_option maxHeartbeats 4000000 in
theorem gi_many203 (b off n c : Nat) (x0 x2 x3 m g : Int) (w : World) (h : 4 ≤ n) (hb : b < w.heap.size) (hx0 : 0 ≤ x0 ∧ x0 ≤ 255) (hx2 : 0 ≤ x2 ∧ x2 ≤ 255) (hx3 : 0 ≤ x3 ∧ x3 ≤ 255) (hx : x0 / 32 = 4) (hm : x0 % 32 = m) (hg : x2 * 256 + x3 = g) (d0 : w.cell? ⟨b, off, none⟩ = some (.int .u8 x0)) (d1 : w.cell? ⟨b, off + 1, none⟩ = some (.int .u8 203)) (d2 : w.cell? ⟨b, off + 2, none⟩ = some (.int .u8 x2)) (d3 : w.cell? ⟨b, off + 3, none⟩ = some (.int .u8 x3)) (hone : ¬ m < 1) (hbad : 15 < m) :
    Calls Try.prog 27 #[.slice (some ⟨b, off, none⟩) n c] w (IRetA w zeroItm 0 1) := by
  have h' : ¬ (n : Int) < 4 := by omega
  have h0 : 0 < n := by omega
  have hp1 : 1 < n := by omega
  have hp2 : 2 < n := by omega
  have hp3 : 3 < n := by omega
  have hi1 : (1 : Int) < n := by omega
  have hi2 : (2 : Int) < n := by omega
  have hi3 : (3 : Int) < n := by omega
  have HB := Lib.hid (zz_below w)
  have HD := Lib.hid (zz_blk w)
  have e0 : (zz w).cell? ⟨b, off, none⟩ = some (.int .u8 x0) := (HB.out.cell (p := ⟨b, off, none⟩) hb).trans d0
  have e1 : (zz w).cell? ⟨b, off + 1, none⟩ = some (.int .u8 203) := (HB.out.cell (p := ⟨b, off + 1, none⟩) hb).trans d1
  have e2 : (zz w).cell? ⟨b, off + 2, none⟩ = some (.int .u8 x2) := (HB.out.cell (p := ⟨b, off + 2, none⟩) hb).trans d2
  have e3 : (zz w).cell? ⟨b, off + 3, none⟩ = some (.int .u8 x3) := (HB.out.cell (p := ⟨b, off + 3, none⟩) hb).trans d3
  have q1 : x0.tdiv 32 = 4 := by rw [Int.tdiv_eq_ediv_of_nonneg hx0.1]; exact hx
  have q2 : x0.tmod 32 = m := by rw [Int.tmod_eq_emod_of_nonneg hx0.1]; exact hm
  have q3 : IntKind.i64.wrap m = m := IntWalk.i64_in _ (by omega)
  have q4 : IntKind.i64.wrap x2 = x2 := IntWalk.i64_in _ (by omega)
  have q5 : IntKind.i64.wrap x3 = x3 := IntWalk.i64_in _ (by omega)
  have q6 : IntKind.i64.wrap (x2 * 256) = x2 * 256 := IntWalk.i64_in _ (by omega)
  have q7 : IntKind.i64.wrap (x2 * 256 + x3) = g := by rw [IntWalk.i64_in _ (by omega)]; exact hg
  have hS : Fth b off x2 x3 (zz w).drew := ⟨e2, e3⟩
  have f2 : ∀ W, Fth b off x2 x3 W → W.cell? ⟨b, off + 2, none⟩ = some (.int .u8 x2) := fun W h => h.1
  have f3 : ∀ W, Fth b off x2 x3 W → W.cell? ⟨b, off + 3, none⟩ = some (.int .u8 x3) := fun W h => h.2
  have hgb : 0 ≤ g ∧ g ≤ 65535 := ⟨by omega, by omega⟩
  have hmb : 0 ≤ m ∧ m ≤ 31 := ⟨by omega, by omega⟩
  clear e2 e3 hg hm hx hx0 hx2 hx3 d0 d1 d2 d3
  go_enter Try.func27, Try.ntmps27
  go_wp2_with fail
  refine region_seq (Fth b off x2 x3) [(0, false), (1, false), (2, false), (3, false), (4, false), (5, false), (6, false), (7, false), (8, false), (9, false), (10, false)] (by kernel_rfl) (by kernel_rfl) rfl (by kernel_rfl) ?_
  iterate 11 (refine seq_read (v := _) rfl (fun _ _ _ h => h) hS (Or.inl ⟨by rfl, fun W hW => by go_simp <;> with_reducible rfl⟩) ?_; simp only [Act.put, List.setIfInBounds_toArray, List.set_cons_zero, List.set_cons_succ])
  refine seq_end ?_
  clear hS f2 f3 q1 q2 q3 q4 q5 q6 q7 e0 e1
  go_wp2
  exact retG_at HD.out (IRetA.none_ HB.out.drew)
set_option maxRecDepth 100000 in
set_option maxHeartbeats 4000000 in
theorem gi_words203 (b off n c : Nat) (x0 x2 x3 m g : Int) (w : World) (h : 4 ≤ n) (hb : b < w.heap.size) (hx0 : 0 ≤ x0 ∧ x0 ≤ 255) (hx2 : 0 ≤ x2 ∧ x2 ≤ 255) (hx3 : 0 ≤ x3 ∧ x3 ≤ 255) (hx : x0 / 32 = 4) (hm : x0 % 32 = m) (hg : x2 * 256 + x3 = g) (d0 : w.cell? ⟨b, off, none⟩ = some (.int .u8 x0)) (d1 : w.cell? ⟨b, off + 1, none⟩ = some (.int .u8 203)) (d2 : w.cell? ⟨b, off + 2, none⟩ = some (.int .u8 x2)) (d3 : w.cell? ⟨b, off + 3, none⟩ = some (.int .u8 x3)) (hone : ¬ m < 1) (h15 : ¬ 15 < m) (hbad : (g != m) = true) :
    Calls Try.prog 27 #[.slice (some ⟨b, off, none⟩) n c] w (IRetA w zeroItm 0 1) := by
  have h' : ¬ (n : Int) < 4 := by omega
  have h0 : 0 < n := by omega
  have hp1 : 1 < n := by omega
  have hp2 : 2 < n := by omega
  have hp3 : 3 < n := by omega
  have hi1 : (1 : Int) < n := by omega
  have hi2 : (2 : Int) < n := by omega
  have hi3 : (3 : Int) < n := by omega
  have HB := Lib.hid (zz_below w)
  have HD := Lib.hid (zz_blk w)
  have e0 : (zz w).cell? ⟨b, off, none⟩ = some (.int .u8 x0) := (HB.out.cell (p := ⟨b, off, none⟩) hb).trans d0
  have e1 : (zz w).cell? ⟨b, off + 1, none⟩ = some (.int .u8 203) := (HB.out.cell (p := ⟨b, off + 1, none⟩) hb).trans d1
  have e2 : (zz w).cell? ⟨b, off + 2, none⟩ = some (.int .u8 x2) := (HB.out.cell (p := ⟨b, off + 2, none⟩) hb).trans d2
  have e3 : (zz w).cell? ⟨b, off + 3, none⟩ = some (.int .u8 x3) := (HB.out.cell (p := ⟨b, off + 3, none⟩) hb).trans d3
  have q1 : x0.tdiv 32 = 4 := by rw [Int.tdiv_eq_ediv_of_nonneg hx0.1]; exact hx
  have q2 : x0.tmod 32 = m := by rw [Int.tmod_eq_emod_of_nonneg hx0.1]; exact hm
  have q3 : IntKind.i64.wrap m = m := IntWalk.i64_in _ (by omega)
  have q4 : IntKind.i64.wrap x2 = x2 := IntWalk.i64_in _ (by omega)
  have q5 : IntKind.i64.wrap x3 = x3 := IntWalk.i64_in _ (by omega)
  have q6 : IntKind.i64.wrap (x2 * 256) = x2 * 256 := IntWalk.i64_in _ (by omega)
  have q7 : IntKind.i64.wrap (x2 * 256 + x3) = g := by rw [IntWalk.i64_in _ (by omega)]; exact hg
  have hS : Fth b off x2 x3 (zz w).drew := ⟨e2, e3⟩
  have f2 : ∀ W, Fth b off x2 x3 W → W.cell? ⟨b, off + 2, none⟩ = some (.int .u8 x2) := fun W h => h.1
  have f3 : ∀ W, Fth b off x2 x3 W → W.cell? ⟨b, off + 3, none⟩ = some (.int .u8 x3) := fun W h => h.2
  have hgb : 0 ≤ g ∧ g ≤ 65535 := ⟨by omega, by omega⟩
  have hmb : 0 ≤ m ∧ m ≤ 31 := ⟨by omega, by omega⟩
  have CW : Hid (∀ W, Calls Try.prog 41 #[.int .i64 203, .int .i64 m] W fun e w' => e = .returned (.int .i64 m) ∧ W = w') := fun W => words_203 m W ⟨by omega, by omega⟩
  clear e2 e3 hg hm hx hx0 hx2 hx3 d0 d1 d2 d3
  go_enter Try.func27, Try.ntmps27
  go_wp2_with fail
  refine region_seq (Fth b off x2 x3) [(0, false), (1, false), (2, false), (3, false), (4, false), (5, false), (6, false), (7, false), (8, false), (9, false), (10, false)] (by kernel_rfl) (by kernel_rfl) rfl (by kernel_rfl) ?_
  iterate 11 (refine seq_read (v := _) rfl (fun _ _ _ h => h) hS (Or.inl ⟨by rfl, fun W hW => by go_simp <;> with_reducible rfl⟩) ?_; simp only [Act.put, List.setIfInBounds_toArray, List.set_cons_zero, List.set_cons_succ])
  refine seq_end ?_
  clear hS f2 f3 q1 q2 q3 q4 q5 q6 q7 e0 e1
  go_wp2_with fail
  refine (CW.out _).mono ?_
  rintro e w' ⟨rfl, rfl⟩
  go_wp2
  exact retG_at HD.out (IRetA.none_ HB.out.drew)
set_option maxRecDepth 100000 in
set_option maxHeartbeats 4000000 in
theorem gi_cut203 (b off n c : Nat) (x0 x2 x3 m g : Int) (w : World) (h : 4 ≤ n) (hb : b < w.heap.size) (hx0 : 0 ≤ x0 ∧ x0 ≤ 255) (hx2 : 0 ≤ x2 ∧ x2 ≤ 255) (hx3 : 0 ≤ x3 ∧ x3 ≤ 255) (hx : x0 / 32 = 4) (hm : x0 % 32 = m) (hg : x2 * 256 + x3 = g) (d0 : w.cell? ⟨b, off, none⟩ = some (.int .u8 x0)) (d1 : w.cell? ⟨b, off + 1, none⟩ = some (.int .u8 203)) (d2 : w.cell? ⟨b, off + 2, none⟩ = some (.int .u8 x2)) (d3 : w.cell? ⟨b, off + 3, none⟩ = some (.int .u8 x3)) (hone : ¬ m < 1) (h15 : ¬ 15 < m) (hwd : g = m) (hbad : (n : Int) < 4 + 4 * g) :
    Calls Try.prog 27 #[.slice (some ⟨b, off, none⟩) n c] w (IRetA w zeroItm 0 2) := by
  have h' : ¬ (n : Int) < 4 := by omega
  have h0 : 0 < n := by omega
  have hp1 : 1 < n := by omega
  have hp2 : 2 < n := by omega
  have hp3 : 3 < n := by omega
  have hi1 : (1 : Int) < n := by omega
  have hi2 : (2 : Int) < n := by omega
  have hi3 : (3 : Int) < n := by omega
  have HB := Lib.hid (zz_below w)
  have HD := Lib.hid (zz_blk w)
  have e0 : (zz w).cell? ⟨b, off, none⟩ = some (.int .u8 x0) := (HB.out.cell (p := ⟨b, off, none⟩) hb).trans d0
  have e1 : (zz w).cell? ⟨b, off + 1, none⟩ = some (.int .u8 203) := (HB.out.cell (p := ⟨b, off + 1, none⟩) hb).trans d1
  have e2 : (zz w).cell? ⟨b, off + 2, none⟩ = some (.int .u8 x2) := (HB.out.cell (p := ⟨b, off + 2, none⟩) hb).trans d2
  have e3 : (zz w).cell? ⟨b, off + 3, none⟩ = some (.int .u8 x3) := (HB.out.cell (p := ⟨b, off + 3, none⟩) hb).trans d3
  have q1 : x0.tdiv 32 = 4 := by rw [Int.tdiv_eq_ediv_of_nonneg hx0.1]; exact hx
  have q2 : x0.tmod 32 = m := by rw [Int.tmod_eq_emod_of_nonneg hx0.1]; exact hm
  have q3 : IntKind.i64.wrap m = m := IntWalk.i64_in _ (by omega)
  have q4 : IntKind.i64.wrap x2 = x2 := IntWalk.i64_in _ (by omega)
  have q5 : IntKind.i64.wrap x3 = x3 := IntWalk.i64_in _ (by omega)
  have q6 : IntKind.i64.wrap (x2 * 256) = x2 * 256 := IntWalk.i64_in _ (by omega)
  have q7 : IntKind.i64.wrap (x2 * 256 + x3) = g := by rw [IntWalk.i64_in _ (by omega)]; exact hg
  have hS : Fth b off x2 x3 (zz w).drew := ⟨e2, e3⟩
  have f2 : ∀ W, Fth b off x2 x3 W → W.cell? ⟨b, off + 2, none⟩ = some (.int .u8 x2) := fun W h => h.1
  have f3 : ∀ W, Fth b off x2 x3 W → W.cell? ⟨b, off + 3, none⟩ = some (.int .u8 x3) := fun W h => h.2
  have hgb : 0 ≤ g ∧ g ≤ 65535 := ⟨by omega, by omega⟩
  have hmb : 0 ≤ m ∧ m ≤ 31 := ⟨by omega, by omega⟩
  have CW : Hid (∀ W, Calls Try.prog 41 #[.int .i64 203, .int .i64 m] W fun e w' => e = .returned (.int .i64 m) ∧ W = w') := fun W => words_203 m W ⟨by omega, by omega⟩
  have hwd2 : (g != m) = false := by simpa using hwd
  have hbad2 : (n : Int) < 4 + 4 * g := hbad
  clear hbad hwd
  clear e2 e3 hg hm hx hx0 hx2 hx3 d0 d1 d2 d3
  go_enter Try.func27, Try.ntmps27
  go_wp2_with fail
  refine region_seq (Fth b off x2 x3) [(0, false), (1, false), (2, false), (3, false), (4, false), (5, false), (6, false), (7, false), (8, false), (9, false), (10, false)] (by kernel_rfl) (by kernel_rfl) rfl (by kernel_rfl) ?_
  iterate 11 (refine seq_read (v := _) rfl (fun _ _ _ h => h) hS (Or.inl ⟨by rfl, fun W hW => by go_simp <;> with_reducible rfl⟩) ?_; simp only [Act.put, List.setIfInBounds_toArray, List.set_cons_zero, List.set_cons_succ])
  refine seq_end ?_
  clear hS f2 f3 q1 q2 q3 q4 q5 q6 q7 e0 e1
  go_wp2_with fail
  refine (CW.out _).mono ?_
  rintro e w' ⟨rfl, rfl⟩
  go_wp2
  exact retG_at HD.out (IRetA.none_ HB.out.drew)
end Go.Proofs.Ytjbgfaoancmknaa.Fbk

namespace Go.Proofs.Ytjbgfaoancmknaa.Fbk
open Go.RowKit
set_option linter.unusedVariables false

set_option maxRecDepth 100000 in
set_option maxHeartbeats 4000000 in
theorem gi_other205 (b off n c : Nat) (x0 x2 x3 m g : Int) (w : World) (h : 4 ≤ n) (hb : b < w.heap.size) (hx0 : 0 ≤ x0 ∧ x0 ≤ 255) (hx2 : 0 ≤ x2 ∧ x2 ≤ 255) (hx3 : 0 ≤ x3 ∧ x3 ≤ 255) (hx : x0 / 32 = 4) (hm : x0 % 32 = m) (hg : x2 * 256 + x3 = g) (d0 : w.cell? ⟨b, off, none⟩ = some (.int .u8 x0)) (d1 : w.cell? ⟨b, off + 1, none⟩ = some (.int .u8 205)) (d2 : w.cell? ⟨b, off + 2, none⟩ = some (.int .u8 x2)) (d3 : w.cell? ⟨b, off + 3, none⟩ = some (.int .u8 x3)) (hbad : (m != 1) = true) :
    Calls Try.prog 27 #[.slice (some ⟨b, off, none⟩) n c] w (IRetA w zeroItm 0 4) := by
  have h' : ¬ (n : Int) < 4 := by omega
  have h0 : 0 < n := by omega
  have hp1 : 1 < n := by omega
  have hp2 : 2 < n := by omega
  have hp3 : 3 < n := by omega
  have hi1 : (1 : Int) < n := by omega
  have hi2 : (2 : Int) < n := by omega
  have hi3 : (3 : Int) < n := by omega
  have HB := Lib.hid (zz_below w)
  have HD := Lib.hid (zz_blk w)
  have e0 : (zz w).cell? ⟨b, off, none⟩ = some (.int .u8 x0) := (HB.out.cell (p := ⟨b, off, none⟩) hb).trans d0
  have e1 : (zz w).cell? ⟨b, off + 1, none⟩ = some (.int .u8 205) := (HB.out.cell (p := ⟨b, off + 1, none⟩) hb).trans d1
  have e2 : (zz w).cell? ⟨b, off + 2, none⟩ = some (.int .u8 x2) := (HB.out.cell (p := ⟨b, off + 2, none⟩) hb).trans d2
  have e3 : (zz w).cell? ⟨b, off + 3, none⟩ = some (.int .u8 x3) := (HB.out.cell (p := ⟨b, off + 3, none⟩) hb).trans d3
  have q1 : x0.tdiv 32 = 4 := by rw [Int.tdiv_eq_ediv_of_nonneg hx0.1]; exact hx
  have q2 : x0.tmod 32 = m := by rw [Int.tmod_eq_emod_of_nonneg hx0.1]; exact hm
  have q3 : IntKind.i64.wrap m = m := IntWalk.i64_in _ (by omega)
  have q4 : IntKind.i64.wrap x2 = x2 := IntWalk.i64_in _ (by omega)
  have q5 : IntKind.i64.wrap x3 = x3 := IntWalk.i64_in _ (by omega)
  have q6 : IntKind.i64.wrap (x2 * 256) = x2 * 256 := IntWalk.i64_in _ (by omega)
  have q7 : IntKind.i64.wrap (x2 * 256 + x3) = g := by rw [IntWalk.i64_in _ (by omega)]; exact hg
  have hS : Fth b off x2 x3 (zz w).drew := ⟨e2, e3⟩
  have f2 : ∀ W, Fth b off x2 x3 W → W.cell? ⟨b, off + 2, none⟩ = some (.int .u8 x2) := fun W h => h.1
  have f3 : ∀ W, Fth b off x2 x3 W → W.cell? ⟨b, off + 3, none⟩ = some (.int .u8 x3) := fun W h => h.2
  have hgb : 0 ≤ g ∧ g ≤ 65535 := ⟨by omega, by omega⟩
  have hmb : 0 ≤ m ∧ m ≤ 31 := ⟨by omega, by omega⟩
  clear e2 e3 hg hm hx hx0 hx2 hx3 d0 d1 d2 d3
  go_enter Try.func27, Try.ntmps27
  go_wp2_with fail
  refine region_seq (Fth b off x2 x3) [(0, false), (1, false), (2, false), (3, false), (4, false), (5, false), (6, false), (7, false), (8, false), (9, false), (10, false)] (by kernel_rfl) (by kernel_rfl) rfl (by kernel_rfl) ?_
  iterate 11 (refine seq_read (v := _) rfl (fun _ _ _ h => h) hS (Or.inl ⟨by rfl, fun W hW => by go_simp <;> with_reducible rfl⟩) ?_; simp only [Act.put, List.setIfInBounds_toArray, List.set_cons_zero, List.set_cons_succ])
  refine seq_end ?_
  clear hS f2 f3 q1 q2 q3 q4 q5 q6 q7 e0 e1
  go_wp2
  exact retG_at HD.out (IRetA.none_ HB.out.drew)
set_option maxRecDepth 100000 in
set_option maxHeartbeats 4000000 in
theorem gi_few205 (b off n c : Nat) (x0 x2 x3 m g : Int) (w : World) (h : 4 ≤ n) (hb : b < w.heap.size) (hx0 : 0 ≤ x0 ∧ x0 ≤ 255) (hx2 : 0 ≤ x2 ∧ x2 ≤ 255) (hx3 : 0 ≤ x3 ∧ x3 ≤ 255) (hx : x0 / 32 = 4) (hm : x0 % 32 = m) (hg : x2 * 256 + x3 = g) (d0 : w.cell? ⟨b, off, none⟩ = some (.int .u8 x0)) (d1 : w.cell? ⟨b, off + 1, none⟩ = some (.int .u8 205)) (d2 : w.cell? ⟨b, off + 2, none⟩ = some (.int .u8 x2)) (d3 : w.cell? ⟨b, off + 3, none⟩ = some (.int .u8 x3)) (h1 : m = 1) (d : Int) (hd : g - 2 = d) (hbad : d < 1) :
    Calls Try.prog 27 #[.slice (some ⟨b, off, none⟩) n c] w (IRetA w zeroItm 0 1) := by
  have h' : ¬ (n : Int) < 4 := by omega
  have h0 : 0 < n := by omega
  have hp1 : 1 < n := by omega
  have hp2 : 2 < n := by omega
  have hp3 : 3 < n := by omega
  have hi1 : (1 : Int) < n := by omega
  have hi2 : (2 : Int) < n := by omega
  have hi3 : (3 : Int) < n := by omega
  have HB := Lib.hid (zz_below w)
  have HD := Lib.hid (zz_blk w)
  have e0 : (zz w).cell? ⟨b, off, none⟩ = some (.int .u8 x0) := (HB.out.cell (p := ⟨b, off, none⟩) hb).trans d0
  have e1 : (zz w).cell? ⟨b, off + 1, none⟩ = some (.int .u8 205) := (HB.out.cell (p := ⟨b, off + 1, none⟩) hb).trans d1
  have e2 : (zz w).cell? ⟨b, off + 2, none⟩ = some (.int .u8 x2) := (HB.out.cell (p := ⟨b, off + 2, none⟩) hb).trans d2
  have e3 : (zz w).cell? ⟨b, off + 3, none⟩ = some (.int .u8 x3) := (HB.out.cell (p := ⟨b, off + 3, none⟩) hb).trans d3
  have q1 : x0.tdiv 32 = 4 := by rw [Int.tdiv_eq_ediv_of_nonneg hx0.1]; exact hx
  have q2 : x0.tmod 32 = m := by rw [Int.tmod_eq_emod_of_nonneg hx0.1]; exact hm
  have q3 : IntKind.i64.wrap m = m := IntWalk.i64_in _ (by omega)
  have q4 : IntKind.i64.wrap x2 = x2 := IntWalk.i64_in _ (by omega)
  have q5 : IntKind.i64.wrap x3 = x3 := IntWalk.i64_in _ (by omega)
  have q6 : IntKind.i64.wrap (x2 * 256) = x2 * 256 := IntWalk.i64_in _ (by omega)
  have q7 : IntKind.i64.wrap (x2 * 256 + x3) = g := by rw [IntWalk.i64_in _ (by omega)]; exact hg
  have hS : Fth b off x2 x3 (zz w).drew := ⟨e2, e3⟩
  have f2 : ∀ W, Fth b off x2 x3 W → W.cell? ⟨b, off + 2, none⟩ = some (.int .u8 x2) := fun W h => h.1
  have f3 : ∀ W, Fth b off x2 x3 W → W.cell? ⟨b, off + 3, none⟩ = some (.int .u8 x3) := fun W h => h.2
  have hgb : 0 ≤ g ∧ g ≤ 65535 := ⟨by omega, by omega⟩
  have hmb : 0 ≤ m ∧ m ≤ 31 := ⟨by omega, by omega⟩
  have q8 : IntKind.i64.wrap (g - 2) = d := by rw [IntWalk.i64_in _ (by omega)]; exact hd
  have hone : (m != 1) = false := by simpa using h1
  clear h1 hd
  clear e2 e3 hg hm hx hx0 hx2 hx3 d0 d1 d2 d3
  go_enter Try.func27, Try.ntmps27
  go_wp2_with fail
  refine region_seq (Fth b off x2 x3) [(0, false), (1, false), (2, false), (3, false), (4, false), (5, false), (6, false), (7, false), (8, false), (9, false), (10, false)] (by kernel_rfl) (by kernel_rfl) rfl (by kernel_rfl) ?_
  iterate 11 (refine seq_read (v := _) rfl (fun _ _ _ h => h) hS (Or.inl ⟨by rfl, fun W hW => by go_simp <;> with_reducible rfl⟩) ?_; simp only [Act.put, List.setIfInBounds_toArray, List.set_cons_zero, List.set_cons_succ])
  refine seq_end ?_
  clear hS f2 f3 q1 q2 q3 q4 q5 q6 q7 e0 e1
  go_wp2
  exact retG_at HD.out (IRetA.none_ HB.out.drew)
set_option maxRecDepth 100000 in
set_option maxHeartbeats 4000000 in
theorem gi_many205 (b off n c : Nat) (x0 x2 x3 m g : Int) (w : World) (h : 4 ≤ n) (hb : b < w.heap.size) (hx0 : 0 ≤ x0 ∧ x0 ≤ 255) (hx2 : 0 ≤ x2 ∧ x2 ≤ 255) (hx3 : 0 ≤ x3 ∧ x3 ≤ 255) (hx : x0 / 32 = 4) (hm : x0 % 32 = m) (hg : x2 * 256 + x3 = g) (d0 : w.cell? ⟨b, off, none⟩ = some (.int .u8 x0)) (d1 : w.cell? ⟨b, off + 1, none⟩ = some (.int .u8 205)) (d2 : w.cell? ⟨b, off + 2, none⟩ = some (.int .u8 x2)) (d3 : w.cell? ⟨b, off + 3, none⟩ = some (.int .u8 x3)) (h1 : m = 1) (d : Int) (hd : g - 2 = d) (hlo : ¬ d < 1) (hbad : 16 < d) :
    Calls Try.prog 27 #[.slice (some ⟨b, off, none⟩) n c] w (IRetA w zeroItm 0 1) := by
  have h' : ¬ (n : Int) < 4 := by omega
  have h0 : 0 < n := by omega
  have hp1 : 1 < n := by omega
  have hp2 : 2 < n := by omega
  have hp3 : 3 < n := by omega
  have hi1 : (1 : Int) < n := by omega
  have hi2 : (2 : Int) < n := by omega
  have hi3 : (3 : Int) < n := by omega
  have HB := Lib.hid (zz_below w)
  have HD := Lib.hid (zz_blk w)
  have e0 : (zz w).cell? ⟨b, off, none⟩ = some (.int .u8 x0) := (HB.out.cell (p := ⟨b, off, none⟩) hb).trans d0
  have e1 : (zz w).cell? ⟨b, off + 1, none⟩ = some (.int .u8 205) := (HB.out.cell (p := ⟨b, off + 1, none⟩) hb).trans d1
  have e2 : (zz w).cell? ⟨b, off + 2, none⟩ = some (.int .u8 x2) := (HB.out.cell (p := ⟨b, off + 2, none⟩) hb).trans d2
  have e3 : (zz w).cell? ⟨b, off + 3, none⟩ = some (.int .u8 x3) := (HB.out.cell (p := ⟨b, off + 3, none⟩) hb).trans d3
  have q1 : x0.tdiv 32 = 4 := by rw [Int.tdiv_eq_ediv_of_nonneg hx0.1]; exact hx
  have q2 : x0.tmod 32 = m := by rw [Int.tmod_eq_emod_of_nonneg hx0.1]; exact hm
  have q3 : IntKind.i64.wrap m = m := IntWalk.i64_in _ (by omega)
  have q4 : IntKind.i64.wrap x2 = x2 := IntWalk.i64_in _ (by omega)
  have q5 : IntKind.i64.wrap x3 = x3 := IntWalk.i64_in _ (by omega)
  have q6 : IntKind.i64.wrap (x2 * 256) = x2 * 256 := IntWalk.i64_in _ (by omega)
  have q7 : IntKind.i64.wrap (x2 * 256 + x3) = g := by rw [IntWalk.i64_in _ (by omega)]; exact hg
  have hS : Fth b off x2 x3 (zz w).drew := ⟨e2, e3⟩
  have f2 : ∀ W, Fth b off x2 x3 W → W.cell? ⟨b, off + 2, none⟩ = some (.int .u8 x2) := fun W h => h.1
  have f3 : ∀ W, Fth b off x2 x3 W → W.cell? ⟨b, off + 3, none⟩ = some (.int .u8 x3) := fun W h => h.2
  have hgb : 0 ≤ g ∧ g ≤ 65535 := ⟨by omega, by omega⟩
  have hmb : 0 ≤ m ∧ m ≤ 31 := ⟨by omega, by omega⟩
  have q8 : IntKind.i64.wrap (g - 2) = d := by rw [IntWalk.i64_in _ (by omega)]; exact hd
  have hone : (m != 1) = false := by simpa using h1
  clear h1 hd
  clear e2 e3 hg hm hx hx0 hx2 hx3 d0 d1 d2 d3
  go_enter Try.func27, Try.ntmps27
  go_wp2_with fail
  refine region_seq (Fth b off x2 x3) [(0, false), (1, false), (2, false), (3, false), (4, false), (5, false), (6, false), (7, false), (8, false), (9, false), (10, false)] (by kernel_rfl) (by kernel_rfl) rfl (by kernel_rfl) ?_
  iterate 11 (refine seq_read (v := _) rfl (fun _ _ _ h => h) hS (Or.inl ⟨by rfl, fun W hW => by go_simp <;> with_reducible rfl⟩) ?_; simp only [Act.put, List.setIfInBounds_toArray, List.set_cons_zero, List.set_cons_succ])
  refine seq_end ?_
  clear hS f2 f3 q1 q2 q3 q4 q5 q6 q7 e0 e1
  go_wp2
  exact retG_at HD.out (IRetA.none_ HB.out.drew)
set_option maxRecDepth 100000 in
set_option maxHeartbeats 4000000 in
theorem gi_cut205 (b off n c : Nat) (x0 x2 x3 m g : Int) (w : World) (h : 4 ≤ n) (hb : b < w.heap.size) (hx0 : 0 ≤ x0 ∧ x0 ≤ 255) (hx2 : 0 ≤ x2 ∧ x2 ≤ 255) (hx3 : 0 ≤ x3 ∧ x3 ≤ 255) (hx : x0 / 32 = 4) (hm : x0 % 32 = m) (hg : x2 * 256 + x3 = g) (d0 : w.cell? ⟨b, off, none⟩ = some (.int .u8 x0)) (d1 : w.cell? ⟨b, off + 1, none⟩ = some (.int .u8 205)) (d2 : w.cell? ⟨b, off + 2, none⟩ = some (.int .u8 x2)) (d3 : w.cell? ⟨b, off + 3, none⟩ = some (.int .u8 x3)) (h1 : m = 1) (hlo : ¬ g - 2 < 1) (hhi : ¬ 16 < g - 2) (hbad : (n : Int) < 4 + 4 * g) :
    Calls Try.prog 27 #[.slice (some ⟨b, off, none⟩) n c] w (IRetA w zeroItm 0 2) := by
  have h' : ¬ (n : Int) < 4 := by omega
  have h0 : 0 < n := by omega
  have hp1 : 1 < n := by omega
  have hp2 : 2 < n := by omega
  have hp3 : 3 < n := by omega
  have hi1 : (1 : Int) < n := by omega
  have hi2 : (2 : Int) < n := by omega
  have hi3 : (3 : Int) < n := by omega
  have HB := Lib.hid (zz_below w)
  have HD := Lib.hid (zz_blk w)
  have e0 : (zz w).cell? ⟨b, off, none⟩ = some (.int .u8 x0) := (HB.out.cell (p := ⟨b, off, none⟩) hb).trans d0
  have e1 : (zz w).cell? ⟨b, off + 1, none⟩ = some (.int .u8 205) := (HB.out.cell (p := ⟨b, off + 1, none⟩) hb).trans d1
  have e2 : (zz w).cell? ⟨b, off + 2, none⟩ = some (.int .u8 x2) := (HB.out.cell (p := ⟨b, off + 2, none⟩) hb).trans d2
  have e3 : (zz w).cell? ⟨b, off + 3, none⟩ = some (.int .u8 x3) := (HB.out.cell (p := ⟨b, off + 3, none⟩) hb).trans d3
  have q1 : x0.tdiv 32 = 4 := by rw [Int.tdiv_eq_ediv_of_nonneg hx0.1]; exact hx
  have q2 : x0.tmod 32 = m := by rw [Int.tmod_eq_emod_of_nonneg hx0.1]; exact hm
  have q3 : IntKind.i64.wrap m = m := IntWalk.i64_in _ (by omega)
  have q4 : IntKind.i64.wrap x2 = x2 := IntWalk.i64_in _ (by omega)
  have q5 : IntKind.i64.wrap x3 = x3 := IntWalk.i64_in _ (by omega)
  have q6 : IntKind.i64.wrap (x2 * 256) = x2 * 256 := IntWalk.i64_in _ (by omega)
  have q7 : IntKind.i64.wrap (x2 * 256 + x3) = g := by rw [IntWalk.i64_in _ (by omega)]; exact hg
  have hS : Fth b off x2 x3 (zz w).drew := ⟨e2, e3⟩
  have f2 : ∀ W, Fth b off x2 x3 W → W.cell? ⟨b, off + 2, none⟩ = some (.int .u8 x2) := fun W h => h.1
  have f3 : ∀ W, Fth b off x2 x3 W → W.cell? ⟨b, off + 3, none⟩ = some (.int .u8 x3) := fun W h => h.2
  have hgb : 0 ≤ g ∧ g ≤ 65535 := ⟨by omega, by omega⟩
  have hmb : 0 ≤ m ∧ m ≤ 31 := ⟨by omega, by omega⟩
  have q8 : IntKind.i64.wrap (g - 2) = g - 2 := IntWalk.i64_in _ (by omega)
  have CW : Hid (∀ W, Calls Try.prog 41 #[.int .i64 205, .int .i64 (g - 2)] W fun e w' => e = .returned (.int .i64 g) ∧ W = w') := fun W => by
    have := words_205 (g - 2) W ⟨by omega, by omega⟩
    rwa [show 2 + (g - 2) = g from by omega] at this
  have hone : (m != 1) = false := by simpa using h1
  clear h1
  clear e2 e3 hg hm hx hx0 hx2 hx3 d0 d1 d2 d3
  go_enter Try.func27, Try.ntmps27
  go_wp2_with fail
  refine region_seq (Fth b off x2 x3) [(0, false), (1, false), (2, false), (3, false), (4, false), (5, false), (6, false), (7, false), (8, false), (9, false), (10, false)] (by kernel_rfl) (by kernel_rfl) rfl (by kernel_rfl) ?_
  iterate 11 (refine seq_read (v := _) rfl (fun _ _ _ h => h) hS (Or.inl ⟨by rfl, fun W hW => by go_simp <;> with_reducible rfl⟩) ?_; simp only [Act.put, List.setIfInBounds_toArray, List.set_cons_zero, List.set_cons_succ])
  refine seq_end ?_
  clear hS f2 f3 q1 q2 q3 q4 q5 q6 q7 e0 e1
  go_wp2_with fail
  refine (CW.out _).mono ?_
  rintro e w' ⟨rfl, rfl⟩
  go_wp2
  exact retG_at HD.out (IRetA.none_ HB.out.drew)
end Go.Proofs.Ytjbgfaoancmknaa.Fbk
