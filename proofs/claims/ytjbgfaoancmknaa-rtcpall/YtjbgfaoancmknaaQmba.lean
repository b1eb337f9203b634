/- The contract of the reference's GetItem: every kind. -/
import Derived.Test.YtjbgfaoancmknaaQm
import Derived.Test.YtjbgfaoancmknaaQlb
namespace Go.Proofs.Ytjbgfaoancmknaa.Fbk
open Go.RowKit
set_option linter.unusedVariables false

set_option maxHeartbeats 400000 in
theorem words_203 (n : Int) (w : World) (h : 0 ≤ n ∧ n ≤ 31) : Calls Try.prog 41 #[.int .i64 203, .int .i64 n] w fun e w' => e = .returned (.int .i64 (n)) ∧ w = w' := by
  obtain ⟨h1, h2⟩ := h
  go_enter Try.func41, Try.ntmps41
  go_wp2
  go_ret
  exact ⟨rfl, rfl⟩
set_option maxHeartbeats 400000 in
theorem words_205 (n : Int) (w : World) (h : 0 ≤ n ∧ n ≤ 31) : Calls Try.prog 41 #[.int .i64 205, .int .i64 n] w fun e w' => e = .returned (.int .i64 (2 + n)) ∧ w = w' := by
  obtain ⟨h1, h2⟩ := h
  go_enter Try.func41, Try.ntmps41
  go_wp2
  go_ret
  exact ⟨rfl, rfl⟩
set_option maxHeartbeats 400000 in
theorem words_206 (n : Int) (w : World) (h : 0 ≤ n ∧ n ≤ 31) : Calls Try.prog 41 #[.int .i64 206, .int .i64 n] w fun e w' => e = .returned (.int .i64 (2)) ∧ w = w' := by
  obtain ⟨h1, h2⟩ := h
  go_enter Try.func41, Try.ntmps41
  go_wp2
  go_ret
  exact ⟨rfl, rfl⟩
end Go.Proofs.Ytjbgfaoancmknaa.Fbk
