/- The contracts of package serial. -/
import Derived.Test.YtolobojidnomfaaRows
import Derived.Test.YtolobojidnomfaaSp
import Derived.WalkKit
import Derived.WalkSpells
import Derived.WalkLawsBesides
import Derived.Lib.Hide
set_option maxRecDepth 100000
namespace Go.Proofs.Ytolobojidnomfaa
open Go.RowKit
set_option linter.unusedVariables false

theorem ret_int {k : IntKind} {a b : Int} (h : a = b) : Ending.returned (.int k a) = .returned (.int k b) := by rw [h]

set_option maxHeartbeats 400000 in
theorem diff16_any (a b : Int) (w : World) :
    Calls Try.prog 41 #[.int .u16 a, .int .u16 b] w fun e w' => e = .returned (.int .i64 (d16 a b)) ∧ w = w' := by
  go_enter Try.func41, Try.ntmps41
  go_wp2
  go_ret
  exact ⟨ret_int (wrap_d16 a b), rfl⟩
set_option maxHeartbeats 400000 in
theorem ahead16_any (a b : Int) (w : World) :
    Calls Try.prog 22 #[.int .u16 a, .int .u16 b] w fun e w' => e = .returned (.bool (ah16 a b)) ∧ w = w' := by
  go_enter Try.func22, Try.ntmps22
  go_wp2_with (go_at_call 41; refine (diff16_any _ _ _).mono ?_; rintro e w' ⟨rfl, rfl⟩)
  go_ret
  exact ⟨rfl, rfl⟩

theorem u16_wrap (n : Int) : IntKind.u16.wrap n = n % 65536 := by
  simp only [IntKind.wrap, IntKind.bits, IntKind.signed]
  simp

theorem ext_low {a : Int} (s : Int) (h : a < 0) : ext a s = extAt 0 s := by unfold ext held; rw [if_pos h]
theorem ext_high {a : Int} (s : Int) (h : 1099511627776 < a) : ext a s = extAt 1099511627776 s := by unfold ext held; rw [if_neg (by omega), if_pos h]
theorem ext_mid {a : Int} (s : Int) (h : 0 ≤ a) (h2 : a ≤ 1099511627776) : ext a s = extAt a s := by unfold ext held; rw [if_neg (by omega), if_neg (by omega)]

end Go.Proofs.Ytolobojidnomfaa
