/- The walk of FieldParts. -/
import Derived.Test.YtklodmbccmomoaaWh
namespace Go.Proofs.Ytklodmbccmomoaa
open Go.RowKit
set_option linter.unusedVariables false

theorem parts_num (xs : List Int) (i k s : Nat) (hk : k ≤ s) (h : i + s ≤ xs.length) :
    num ((xs.drop i).take s) = num ((xs.drop i).take k) * 256 ^ (s - k) + num ((xs.drop (i + k)).take (s - k)) := by
  have e : (xs.drop i).take s = (xs.drop i).take k ++ (xs.drop (i + k)).take (s - k) := by
    rw [← List.drop_drop, ← List.take_add, show k + (s - k) = s from by omega]
  rw [e, num_append, List.length_take, List.length_drop, Nat.min_eq_left (by omega)]

theorem or_parts (m x : Int) (k j : Nat) (h0 : 0 ≤ m) (h1 : m < 256 ^ k) (hkj : k + j ≤ 8) (h2 : 0 ≤ x) (h3 : x < 256 ^ j) :
    bits BinOp.or IntKind.u64 (IntKind.u64.wrap (m * 2 ^ (8 * j))) x = m * 256 ^ j + x := by
  have e2 : (2 : Int) ^ (8 * j) = 256 ^ j := by rw [Int.pow_mul]; rfl
  have b1 : m * 256 ^ j < 256 ^ (k + j) := by
    rw [Int.pow_add]
    exact Int.mul_lt_mul_of_pos_right h1 (pow_pos j)
  have b2 := pow_le8 (k + j) hkj
  have b3 : 0 ≤ m * 256 ^ j := Int.mul_nonneg h0 (Int.le_of_lt (pow_pos j))
  have b4 := pow_le8 j (by omega)
  rw [e2, IntKind.wrap_u64, Int.emod_eq_of_lt b3 (by omega), u64_or _ _ b3 (by omega) h2 (by omega)]
  obtain ⟨a, rfl⟩ := Int.eq_ofNat_of_zero_le h0
  obtain ⟨b, rfl⟩ := Int.eq_ofNat_of_zero_le h2
  have e3 : ((256 : Int) ^ j) = ((2 ^ (8 * j) : Nat) : Int) := by rw [← e2]; simp
  have hb : b < 2 ^ (8 * j) := by rw [e3] at h3; omega
  have e := Nat.two_pow_add_eq_or_of_lt hb a
  rw [e3, ← Int.natCast_mul, Int.toNat_natCast, Int.toNat_natCast, Nat.mul_comm a, ← e]
  rw [Int.natCast_add]

set_option maxHeartbeats 1000000 in
theorem parts_early (a : Option Addr) (len cap : Nat) (i s k : Int) (w : World) (h : s < 2 ∨ 8 < s ∨ k < 1 ∨ s ≤ k ∨ i < 0 ∨ (len : Int) < i) :
    Calls Try.prog 5 #[.slice a len cap, .int .i64 i, .int .i64 s, .int .i64 k] w fun e w' => e = .returned (.bool true) ∧ Below w.heap.size w w' := by
  by_cases h1 : s < 2
  · go_enter Try.func5, Try.ntmps5
    go_wp2_with (go_at_call 8; refine (shown_any _).mono ?_; rintro e w1 ⟨rfl, hb1⟩)
    go_ret
    exact ⟨rfl, hb1⟩
  by_cases h2 : 8 < s
  · go_enter Try.func5, Try.ntmps5
    go_wp2_with (go_at_call 8; refine (shown_any _).mono ?_; rintro e w1 ⟨rfl, hb1⟩)
    go_ret
    exact ⟨rfl, hb1⟩
  by_cases h3 : k < 1
  · go_enter Try.func5, Try.ntmps5
    go_wp2_with (go_at_call 8; refine (shown_any _).mono ?_; rintro e w1 ⟨rfl, hb1⟩)
    go_ret
    exact ⟨rfl, hb1⟩
  by_cases h4 : s ≤ k
  · go_enter Try.func5, Try.ntmps5
    go_wp2_with (go_at_call 8; refine (shown_any _).mono ?_; rintro e w1 ⟨rfl, hb1⟩)
    go_ret
    exact ⟨rfl, hb1⟩
  by_cases h5 : i < 0
  · go_enter Try.func5, Try.ntmps5
    go_wp2_with (go_at_call 8; refine (shown_any _).mono ?_; rintro e w1 ⟨rfl, hb1⟩)
    go_ret
    exact ⟨rfl, hb1⟩
  have h6 : (len : Int) < i := by omega
  go_enter Try.func5, Try.ntmps5
  go_wp2_with (go_at_call 8; refine (shown_any _).mono ?_; rintro e w1 ⟨rfl, hb1⟩)
  go_ret
  exact ⟨rfl, hb1⟩

set_option maxHeartbeats 1000000 in
theorem parts_no (a : Option Addr) (len cap : Nat) (i s k : Nat) (xs : List Int) (w : World) (hl : len ≤ 140737488351232) (hlc : len ≤ cap) (hr : Rd w w.heap.size a len xs)
    (h1 : 2 ≤ s) (h2 : s ≤ 8) (h3 : 1 ≤ k) (h4 : k < s) (h5 : i ≤ len) (hno : len < i + s) :
    Calls Try.prog 5 #[.slice a len cap, .int .i64 i, .int .i64 s, .int .i64 k] w fun e w' => e = .returned (.bool true) ∧ Below w.heap.size w w' := by
  have hlm : len ≤ maxLen := by unfold maxLen; omega
  have w1 : withinB len i s = false := by simp [withinB]; omega
  have w3 : withinB len ((i : Int) + k) ((s : Int) - k) = false := by simp [withinB]; omega
  have HR := Lib.hid hr
  clear hr
  rcases w2 : withinB len i k with _ | _
  all_goals
    go_enter Try.func5, Try.ntmps5
    go_wp2_with (first
      | (go_at_call 8; refine (shown_any _).mono ?_; rintro e w4 ⟨rfl, hb4⟩)
      | (go_at_call 9; refine (get_any _ _ _ _ _ _ xs _ hlm hlc (HR.out.below hb4)).mono ?_; rintro e w' ⟨rfl, rfl⟩))
    go_ret
    exact ⟨rfl, hb4⟩

set_option maxHeartbeats 1000000 in
theorem parts_yes (a : Option Addr) (len cap : Nat) (i s k : Nat) (xs : List Int) (w : World) (hl : len ≤ 140737488351232) (hlc : len ≤ cap) (hr : Rd w w.heap.size a len xs)
    (h1 : 2 ≤ s) (h2 : s ≤ 8) (h3 : 1 ≤ k) (h4 : k < s) (h5 : i + s ≤ len) :
    Calls Try.prog 5 #[.slice a len cap, .int .i64 i, .int .i64 s, .int .i64 k] w fun e w' => e = .returned (.bool true) ∧ Below w.heap.size w w' := by
  have hlm : len ≤ maxLen := by unfold maxLen; omega
  have w1 : withinB len i s = true := by simp [withinB]; omega
  have w2 : withinB len i k = true := by simp [withinB]; omega
  have w3 : withinB len ((i : Int) + k) ((s : Int) - k) = true := by simp [withinB]; omega
  have HR := Lib.hid hr
  have HX := Lib.hid hr.1
  have e1 : getV xs i s = num ((xs.drop i).take s) := by unfold getV; rw [HX.out, w1, if_pos rfl]; rfl
  have e2 : getV xs i k = num ((xs.drop i).take k) := by unfold getV; rw [HX.out, w2, if_pos rfl]; rfl
  have e3 : getV xs ((i : Int) + k) ((s : Int) - k) = num ((xs.drop (i + k)).take (s - k)) := by
    unfold getV; rw [HX.out, w3, if_pos rfl, show ((i : Int) + k).toNat = i + k from by omega, show ((s : Int) - k).toNat = s - k from by omega]
  have hb := hr.2.1
  have hfin : Hid ((num ((xs.drop i).take s) == bits BinOp.or IntKind.u64 (IntKind.u64.wrap (num ((xs.drop i).take k) * 2 ^ (8 * (s - k)))) (num ((xs.drop (i + k)).take (s - k)))) = true) := by
    have b2 := num_bd _ ((hb.drop i).take k)
    have b3 := num_bd _ ((hb.drop (i + k)).take (s - k))
    rw [List.length_take, List.length_drop, HX.out, Nat.min_eq_left (by omega)] at b2 b3
    show (_ == _) = true
    rw [or_parts _ _ k (s - k) b2.1 b2.2 (by omega) b3.1 b3.2, parts_num xs i k s (by omega) (by rw [HX.out]; omega)]
    simp
  clear hr hb
  go_enter Try.func5, Try.ntmps5
  go_wp2_with (first
    | (go_at_call 8; refine (shown_any _).mono ?_; rintro e w4 ⟨rfl, hb4⟩)
    | (go_at_call 9; refine (get_any _ _ _ _ _ _ xs _ hlm hlc (HR.out.below hb4)).mono ?_; rintro e w' ⟨rfl, rfl⟩))
  go_ret
  exact ⟨ret_bool hfin.out, hb4⟩

theorem parts_any (a : Option Addr) (len cap : Nat) (i s k : Int) (xs : List Int) (w : World) (hl : len ≤ 140737488351232) (hlc : len ≤ cap) (hr : Rd w w.heap.size a len xs) :
    Calls Try.prog 5 #[.slice a len cap, .int .i64 i, .int .i64 s, .int .i64 k] w fun e w' => e = .returned (.bool true) ∧ Below w.heap.size w w' := by
  by_cases h : s < 2 ∨ 8 < s ∨ k < 1 ∨ s ≤ k ∨ i < 0 ∨ (len : Int) < i
  · exact parts_early a len cap i s k w h
  · obtain ⟨i', rfl⟩ := Int.eq_ofNat_of_zero_le (show 0 ≤ i from by omega)
    obtain ⟨s', rfl⟩ := Int.eq_ofNat_of_zero_le (show 0 ≤ s from by omega)
    obtain ⟨k', rfl⟩ := Int.eq_ofNat_of_zero_le (show 0 ≤ k from by omega)
    by_cases hy : i' + s' ≤ len
    · exact parts_yes a len cap i' s' k' xs w hl hlc hr (by omega) (by omega) (by omega) (by omega) hy
    · exact parts_no a len cap i' s' k' xs w hl hlc hr (by omega) (by omega) (by omega) (by omega) (by omega) (by omega)
end Go.Proofs.Ytklodmbccmomoaa
