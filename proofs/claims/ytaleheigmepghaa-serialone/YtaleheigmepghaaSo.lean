/- The law SerialOne, walked. -/
import Derived.Test.YtaleheigmepghaaSl
namespace Go.Proofs.Ytaleheigmepghaa
open Go.RowKit
set_option linter.unusedVariables false

theorem ah16_t (a b : Int) : ah16 a b = true ↔ 0 < d16 a b := by unfold ah16; exact decide_eq_true_iff
theorem ah16_f (a b : Int) : ah16 a b = false ↔ ¬ 0 < d16 a b := by unfold ah16; exact decide_eq_false_iff_not
theorem ah32_t (a b : Int) : ah32 a b = true ↔ 0 < d32 a b := by unfold ah32; exact decide_eq_true_iff
theorem ah32_f (a b : Int) : ah32 a b = false ↔ ¬ 0 < d32 a b := by unfold ah32; exact decide_eq_false_iff_not
theorem pair16 (a b : Int) (ha : 0 ≤ a) (ha2 : a ≤ 65535) (hb : 0 ≤ b) (hb2 : b ≤ 65535) : a = b ∧ ah16 b b = false ∨ ¬ a = b ∧ IntKind.u16.wrap (a - b) = 32768 ∧ ah16 a b = false ∧ ah16 b a = false ∨
    ¬ a = b ∧ ¬ IntKind.u16.wrap (a - b) = 32768 ∧ ah16 a b = true ∧ ah16 b a = false ∨ ¬ a = b ∧ ¬ IntKind.u16.wrap (a - b) = 32768 ∧ ah16 a b = false ∧ ah16 b a = true := by
  rw [ah16_t, ah16_t, ah16_f, ah16_f, ah16_f, u16_wrap]
  unfold d16
  omega
theorem pair32 (a b : Int) (ha : 0 ≤ a) (ha2 : a ≤ 4294967295) (hb : 0 ≤ b) (hb2 : b ≤ 4294967295) : a = b ∧ ah32 b b = false ∨ ¬ a = b ∧ (a - b) % 4294967296 = 2147483648 ∧ ah32 a b = false ∧ ah32 b a = false ∨
    ¬ a = b ∧ ¬ (a - b) % 4294967296 = 2147483648 ∧ ah32 a b = true ∧ ah32 b a = false ∨ ¬ a = b ∧ ¬ (a - b) % 4294967296 = 2147483648 ∧ ah32 a b = false ∧ ah32 b a = true := by
  rw [ah32_t, ah32_t, ah32_f, ah32_f, ah32_f]
  unfold d32
  omega
theorem bne_yes {a b : Int} (h : ¬ a = b) : (a != b) = true := by simpa using h
set_option maxHeartbeats 3200000 in
theorem serialOne_law (a b c d : Int) (w : World) (ha : 0 ≤ a) (ha2 : a ≤ 65535) (hb : 0 ≤ b) (hb2 : b ≤ 65535) (hc : 0 ≤ c) (hc2 : c ≤ 4294967295) (hd : 0 ≤ d) (hd2 : d ≤ 4294967295) :
    Calls Try.prog 6 #[.int .u16 a, .int .u16 b, .int .u32 c, .int .u32 d] w fun e w' => e = .returned (.bool true) ∧ w = w' := by
  rcases pair16 a b ha ha2 hb hb2 with ⟨rfl, p1⟩ | ⟨p0, p1, p2, p3⟩ | ⟨p0, p1, p2, p3⟩ | ⟨p0, p1, p2, p3⟩ <;> rcases pair32 c d hc hc2 hd hd2 with ⟨rfl, q1⟩ | ⟨q0, q1, q2, q3⟩ | ⟨q0, q1, q2, q3⟩ | ⟨q0, q1, q2, q3⟩
  all_goals
    try have p0' := bne_yes p0
    try have p1' := bne_yes p1
    try have q0' := bne_yes q0
    try have q1' := bne_yes q1
    go_enter Try.func6, Try.ntmps6
    go_wp2_with (first
      | (go_at_call 9; refine (shown2_any _).mono ?_; rintro e w' ⟨rfl, rfl⟩)
      | (go_at_call 13; refine (ahead16_any _ _ _).mono ?_; rintro e w' ⟨rfl, rfl⟩)
      | (go_at_call 15; refine (ahead32_any _ _ _).mono ?_; rintro e w' ⟨rfl, rfl⟩))
    go_ret
    exact ⟨rfl, rfl⟩
end Go.Proofs.Ytaleheigmepghaa
