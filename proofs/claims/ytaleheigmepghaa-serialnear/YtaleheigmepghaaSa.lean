/- The contracts of package serial. -/
import Derived.Test.YtaleheigmepghaaRows
import Derived.Test.YtaleheigmepghaaSp
import Derived.WalkKit
import Derived.WalkSpells
import Derived.WalkLawsBesides
import Derived.Lib.Hide
namespace Go.Proofs.Ytaleheigmepghaa
open Go.RowKit
set_option linter.unusedVariables false

theorem ret_int {k : IntKind} {a b : Int} (h : a = b) : Ending.returned (.int k a) = .returned (.int k b) := by rw [h]

set_option maxHeartbeats 400000 in
theorem diff16_any (a b : Int) (w : World) :
    Calls Try.prog 12 #[.int .u16 a, .int .u16 b] w fun e w' => e = .returned (.int .i64 (d16 a b)) ∧ w = w' := by
  go_enter Try.func12, Try.ntmps12
  go_wp2
  go_ret
  exact ⟨ret_int (wrap_d16 a b), rfl⟩
set_option maxHeartbeats 400000 in
theorem diff32_any (a b : Int) (w : World) :
    Calls Try.prog 14 #[.int .u32 a, .int .u32 b] w fun e w' => e = .returned (.int .i64 (d32 a b)) ∧ w = w' := by
  go_enter Try.func14, Try.ntmps14
  go_wp2
  go_ret
  exact ⟨ret_int (wrap_d32 a b), rfl⟩
set_option maxHeartbeats 400000 in
theorem ahead16_any (a b : Int) (w : World) :
    Calls Try.prog 13 #[.int .u16 a, .int .u16 b] w fun e w' => e = .returned (.bool (ah16 a b)) ∧ w = w' := by
  go_enter Try.func13, Try.ntmps13
  go_wp2_with (go_at_call 12; refine (diff16_any _ _ _).mono ?_; rintro e w' ⟨rfl, rfl⟩)
  go_ret
  exact ⟨rfl, rfl⟩
set_option maxHeartbeats 400000 in
theorem ahead32_any (a b : Int) (w : World) :
    Calls Try.prog 15 #[.int .u32 a, .int .u32 b] w fun e w' => e = .returned (.bool (ah32 a b)) ∧ w = w' := by
  go_enter Try.func15, Try.ntmps15
  go_wp2_with (go_at_call 14; refine (diff32_any _ _ _).mono ?_; rintro e w' ⟨rfl, rfl⟩)
  go_ret
  exact ⟨rfl, rfl⟩

theorem u16_wrap (n : Int) : IntKind.u16.wrap n = n % 65536 := by
  simp only [IntKind.wrap, IntKind.bits, IntKind.signed]
  simp

theorem ext_low {a : Int} (s : Int) (h : a < 0) : ext a s = extAt 0 s := by unfold ext held; rw [if_pos h]
theorem ext_high {a : Int} (s : Int) (h : 1099511627776 < a) : ext a s = extAt 1099511627776 s := by unfold ext held; rw [if_neg (by omega), if_pos h]
theorem ext_mid {a : Int} (s : Int) (h : 0 ≤ a) (h2 : a ≤ 1099511627776) : ext a s = extAt a s := by unfold ext held; rw [if_neg (by omega), if_neg (by omega)]

set_option maxHeartbeats 400000 in
theorem extend_any (a s : Int) (w : World) :
    Calls Try.prog 16 #[.int .i64 a, .int .u16 s] w fun e w' => e = .returned (.int .i64 (ext a s)) ∧ w = w' := by
  by_cases h0 : a < 0
  · have HE := Lib.hid (ext_low s h0)
    go_enter Try.func16, Try.ntmps16
    go_wp2_with (go_at_call 12; refine (diff16_any _ _ _).mono ?_; rintro e w' ⟨rfl, rfl⟩)
    all_goals
      go_ret
      refine ⟨ret_int ?_, rfl⟩
      rw [HE.out]
      rcases extAt_or 0 s with ⟨hc, he⟩ | ⟨hc, he⟩ <;> rw [he] <;> simp only [wrap64, beq_iff_eq, beq_eq_false_iff_ne, d16] at * <;> omega
  · by_cases h1 : 1099511627776 < a
    · have HE := Lib.hid (ext_high s h1)
      go_enter Try.func16, Try.ntmps16
      go_wp2_with (go_at_call 12; refine (diff16_any _ _ _).mono ?_; rintro e w' ⟨rfl, rfl⟩)
      all_goals
        go_ret
        refine ⟨ret_int ?_, rfl⟩
        rw [HE.out]
        rcases extAt_or 1099511627776 s with ⟨hc, he⟩ | ⟨hc, he⟩ <;> rw [he] <;> simp only [u16_wrap, wrap64, beq_iff_eq, beq_eq_false_iff_ne, d16] at * <;> omega
    · have HE := Lib.hid (ext_mid s (by omega : 0 ≤ a) (by omega))
      go_enter Try.func16, Try.ntmps16
      go_wp2_with (go_at_call 12; refine (diff16_any _ _ _).mono ?_; rintro e w' ⟨rfl, rfl⟩)
      all_goals
        go_ret
        refine ⟨ret_int ?_, rfl⟩
        rw [HE.out]
        rcases extAt_or a s with ⟨hc, he⟩ | ⟨hc, he⟩ <;> rw [he] <;> simp only [u16_wrap, wrap64, beq_iff_eq, beq_eq_false_iff_ne, d16] at * <;> omega
end Go.Proofs.Ytaleheigmepghaa
