/- The laws of layer 2, walked. -/
import Derived.Test.YtaleheigmepghaaSb
namespace Go.Proofs.Ytaleheigmepghaa
open Go.RowKit
set_option linter.unusedVariables false

set_option maxHeartbeats 400000 in
theorem shown2_any (w : World) : Calls Try.prog 9 #[] w fun e w' => e = .returned (.bool true) ∧ w = w' := by
  have h1 : d16 1 65535 = 2 := by decide
  have h2 : ah16 1 65535 = true := by decide
  have h3 : ah16 65535 1 = false := by decide
  have h4 : ah32 0 4294967295 = true := by decide
  have h5 : ext 65535 1 = 65537 := by decide
  go_enter Try.func9, Try.ntmps9
  go_wp2_with (first
    | (go_at_call 12; refine (diff16_any _ _ _).mono ?_; rintro e w' ⟨rfl, rfl⟩)
    | (go_at_call 13; refine (ahead16_any _ _ _).mono ?_; rintro e w' ⟨rfl, rfl⟩)
    | (go_at_call 15; refine (ahead32_any _ _ _).mono ?_; rintro e w' ⟨rfl, rfl⟩)
    | (go_at_call 16; refine (extend_any _ _ _).mono ?_; rintro e w' ⟨rfl, rfl⟩))
  go_ret
  exact ⟨rfl, rfl⟩

theorem ret_bool {a b : Bool} (h : a = b) : Ending.returned (.bool a) = .returned (.bool b) := by rw [h]

set_option maxHeartbeats 400000 in
theorem serialAll_law (a b c d l : Int) (w : World) (ha : 0 ≤ a) (ha2 : a ≤ 65535) (hb : 0 ≤ b) (hb2 : b ≤ 65535) (hc : 0 ≤ c) (hc2 : c ≤ 4294967295) (hd : 0 ≤ d) (hd2 : d ≤ 4294967295) :
    Calls Try.prog 3 #[.int .u16 a, .int .u16 b, .int .u32 c, .int .u32 d, .int .i64 l] w fun e w' => e = .returned (.bool true) ∧ w = w' := by
  have h1 : (ah16 a b == decide (0 < d16 a b)) = true := by simp [ah16]
  have h2 : (ah32 c d == decide (0 < d32 c d)) = true := by simp [ah32]
  go_enter Try.func3, Try.ntmps3
  go_wp2_with (first
    | (go_at_call 9; refine (shown2_any _).mono ?_; rintro e w' ⟨rfl, rfl⟩)
    | (go_at_call 10; refine (rdiff16_any _ _ _ ha ha2 hb hb2).mono ?_; rintro e w' ⟨rfl, rfl⟩)
    | (go_at_call 11; refine (rdiff32_any _ _ _ hc hc2 hd hd2).mono ?_; rintro e w' ⟨rfl, rfl⟩)
    | (go_at_call 17; refine (rext_any _ _ _ ha ha2).mono ?_; rintro e w' ⟨rfl, rfl⟩)
    | (go_at_call 12; refine (diff16_any _ _ _).mono ?_; rintro e w' ⟨rfl, rfl⟩)
    | (go_at_call 14; refine (diff32_any _ _ _).mono ?_; rintro e w' ⟨rfl, rfl⟩)
    | (go_at_call 13; refine (ahead16_any _ _ _).mono ?_; rintro e w' ⟨rfl, rfl⟩)
    | (go_at_call 15; refine (ahead32_any _ _ _).mono ?_; rintro e w' ⟨rfl, rfl⟩)
    | (go_at_call 16; refine (extend_any _ _ _).mono ?_; rintro e w' ⟨rfl, rfl⟩))
  go_ret
  exact ⟨rfl, rfl⟩

theorem d16_turn (a b : Int) : d16 a b = -32768 ∨ d16 b a = -d16 a b := by unfold d16; omega
theorem d32_turn (a b : Int) : d32 a b = -2147483648 ∨ d32 b a = -d32 a b := by unfold d32; omega

set_option maxHeartbeats 800000 in
theorem serialTurn_law (a b c d : Int) (w : World) (ha : 0 ≤ a) (ha2 : a ≤ 65535) (hb : 0 ≤ b) (hb2 : b ≤ 65535) (hc : 0 ≤ c) (hc2 : c ≤ 4294967295) (hd : 0 ≤ d) (hd2 : d ≤ 4294967295) :
    Calls Try.prog 4 #[.int .u16 a, .int .u16 b, .int .u32 c, .int .u32 d] w fun e w' => e = .returned (.bool true) ∧ w = w' := by
  obtain ⟨h1, h2⟩ := d16_bd a b
  obtain ⟨h3, h4⟩ := d32_bd c d
  have f1 : IntKind.u16.wrap (b + IntKind.u16.wrap (d16 a b)) = a := by simp only [u16_wrap, d16]; omega
  have f2 : (d + d32 c d) % 4294967296 = c := by simp only [d32]; omega
  have T1 := Lib.hid (d16_turn a b)
  have T2 := Lib.hid (d32_turn c d)
  go_enter Try.func4, Try.ntmps4
  go_wp2_with (first
    | (go_at_call 9; refine (shown2_any _).mono ?_; rintro e w' ⟨rfl, rfl⟩)
    | (go_at_call 12; refine (diff16_any _ _ _).mono ?_; rintro e w' ⟨rfl, rfl⟩)
    | (go_at_call 14; refine (diff32_any _ _ _).mono ?_; rintro e w' ⟨rfl, rfl⟩))
  all_goals
    have t1 := T1.out
    have t2 := T2.out
    go_ret
    refine ⟨ret_bool ?_, rfl⟩
    first | rfl | (simp; omega)

theorem d16_shift (a b k : Int) : d16 (IntKind.u16.wrap (a + k)) (IntKind.u16.wrap (b + k)) = d16 a b := by simp only [u16_wrap, d16]; omega
theorem d32_shift (a b k : Int) : d32 ((a + k) % 4294967296) ((b + k) % 4294967296) = d32 a b := by simp only [d32]; omega
set_option maxHeartbeats 400000 in
theorem serialShift_law (a b k c d m : Int) (w : World) :
    Calls Try.prog 5 #[.int .u16 a, .int .u16 b, .int .u16 k, .int .u32 c, .int .u32 d, .int .u32 m] w fun e w' => e = .returned (.bool true) ∧ w = w' := by
  have f1 := d16_shift a b k
  have f2 := d32_shift c d m
  go_enter Try.func5, Try.ntmps5
  go_wp2_with (first
    | (go_at_call 9; refine (shown2_any _).mono ?_; rintro e w' ⟨rfl, rfl⟩)
    | (go_at_call 12; refine (diff16_any _ _ _).mono ?_; rintro e w' ⟨rfl, rfl⟩)
    | (go_at_call 14; refine (diff32_any _ _ _).mono ?_; rintro e w' ⟨rfl, rfl⟩))
  go_ret
  exact ⟨rfl, rfl⟩

theorem ext_mod (l s : Int) (hs : 0 ≤ s) (hs2 : s ≤ 65535) : ext l s % 65536 = s := by
  have := extAt_or (held l) s
  have h := held_bd l
  unfold ext
  unfold d16 at this
  omega
theorem ext_none (l s : Int) (hs : 0 ≤ s) (hs2 : s ≤ 65535) (h : l ≤ 0) : ext l s = s := by
  have e : held l = 0 := by unfold held; split; rfl; rw [if_neg (by omega)]; omega
  have := extAt_or (held l) s
  rw [e] at this
  unfold ext
  rw [e]
  unfold d16 at this
  omega
theorem ext_over (l s : Int) (h : 1099511627776 ≤ l) : ext l s = ext 1099511627776 s := by
  have e : held l = held 1099511627776 := by
    have e2 : held 1099511627776 = 1099511627776 := by decide
    rw [e2]
    unfold held
    rw [if_neg (by omega)]
    split <;> omega
  unfold ext
  rw [e]
set_option maxHeartbeats 400000 in
theorem serialLow_law (l s : Int) (w : World) (hs : 0 ≤ s) (hs2 : s ≤ 65535) :
    Calls Try.prog 8 #[.int .i64 l, .int .u16 s] w fun e w' => e = .returned (.bool true) ∧ w = w' := by
  by_cases h0 : l ≤ 0
  · have f1 := ext_none l s hs hs2 h0
    have f2 : s % 65536 = s := by omega
    have h0' : ¬ 1099511627776 ≤ l := by omega
    go_enter Try.func8, Try.ntmps8
    go_wp2_with (first
      | (go_at_call 9; refine (shown2_any _).mono ?_; rintro e w' ⟨rfl, rfl⟩)
      | (go_at_call 16; refine (extend_any _ _ _).mono ?_; rintro e w' ⟨rfl, rfl⟩))
    go_ret
    exact ⟨rfl, rfl⟩
  · by_cases h1 : l < 1099511627776
    · obtain ⟨h2, h3⟩ := ext_bd l s
      have f1 := ext_mod l s hs hs2
      go_enter Try.func8, Try.ntmps8
      go_wp2_with (first
        | (go_at_call 9; refine (shown2_any _).mono ?_; rintro e w' ⟨rfl, rfl⟩)
        | (go_at_call 16; refine (extend_any _ _ _).mono ?_; rintro e w' ⟨rfl, rfl⟩))
      go_ret
      exact ⟨rfl, rfl⟩
    · obtain ⟨h2, h3⟩ := ext_bd 1099511627776 s
      have f1 := ext_mod 1099511627776 s hs hs2
      have f2 := ext_over l s (by omega)
      go_enter Try.func8, Try.ntmps8
      go_wp2_with (first
        | (go_at_call 9; refine (shown2_any _).mono ?_; rintro e w' ⟨rfl, rfl⟩)
        | (go_at_call 16; refine (extend_any _ _ _).mono ?_; rintro e w' ⟨rfl, rfl⟩))
      go_ret
      exact ⟨rfl, rfl⟩
end Go.Proofs.Ytaleheigmepghaa
