/- The reference's Out and Whose. -/
import Derived.Test.YtolobojidnomfaaYa
import Derived.Test.YtolobojidnomfaaYb
import Derived.Test.YtolobojidnomfaaJo
set_option maxRecDepth 100000
namespace Go.Proofs.Ytolobojidnomfaa.Stp
open Go.RowKit Go.Proofs.Ytolobojidnomfaa.Gat
set_option linter.unusedVariables false

set_option maxHeartbeats 4000000 in
theorem rout_any (w : World) (p s : Int) : Calls Try.prog 18 #[.int .i64 p, .int .i64 s] w fun e w' => e = .returned (.int .u32 (outN p s)) ∧ w = w' := by
  by_cases h1 : p < 1
  · rw [show outN p s = 0 from by unfold outN; rw [if_neg (fun h => by obtain ⟨h5, h6, h7, h8⟩ := h; omega)]]
    go_enter Try.func18, Try.ntmps18
    go_wp2
    go_ret
    exact ⟨rfl, rfl⟩
  by_cases h2 : 8 < p
  · rw [show outN p s = 0 from by unfold outN; rw [if_neg (fun h => by obtain ⟨h5, h6, h7, h8⟩ := h; omega)]]
    go_enter Try.func18, Try.ntmps18
    go_wp2
    go_ret
    exact ⟨rfl, rfl⟩
  by_cases h3 : s < 1
  · rw [show outN p s = 0 from by unfold outN; rw [if_neg (fun h => by obtain ⟨h5, h6, h7, h8⟩ := h; omega)]]
    go_enter Try.func18, Try.ntmps18
    go_wp2
    go_ret
    exact ⟨rfl, rfl⟩
  by_cases h4 : 8 < s
  · rw [show outN p s = 0 from by unfold outN; rw [if_neg (fun h => by obtain ⟨h5, h6, h7, h8⟩ := h; omega)]]
    go_enter Try.func18, Try.ntmps18
    go_wp2
    go_ret
    exact ⟨rfl, rfl⟩
  rw [show outN p s = 3221225472 + p * 256 + s from by unfold outN; rw [if_pos ⟨by omega, by omega, by omega, by omega⟩]; omega]
  go_enter Try.func18, Try.ntmps18
  go_wp2
  go_ret
  exact ⟨rfl, rfl⟩
theorem who_yes {r i j : Int} (h : kn i j) (hr : outN i j = r) : whoV r = (i, j, true) := by
  unfold outN at hr
  rw [if_pos h] at hr
  subst hr
  have hh := h
  obtain ⟨h1, h2, h3, h4⟩ := hh
  have e1 : whP (3221225472 + 256 * i + j) = i := by
    unfold whP
    rw [show (3221225472 + 256 * i + j - 3221225472 : Int) = 256 * i + j from by omega, Int.tdiv_eq_ediv_of_nonneg (by omega)]
    omega
  have e2 : whS (3221225472 + 256 * i + j) = j := by
    unfold whS
    rw [show (3221225472 + 256 * i + j - 3221225472 : Int) = 256 * i + j from by omega, Int.tmod_eq_emod_of_nonneg (by omega)]
    omega
  unfold whoV
  rw [e1, e2, if_pos h]
theorem who_no {r : Int} (h : ∀ i j, kn i j → outN i j ≠ r) : whoV r = (0, 0, false) := by
  unfold whoV
  rw [if_neg]
  intro hk
  refine h _ _ hk ?_
  unfold outN
  rw [if_pos hk]
  have := Int.mul_tdiv_add_tmod (r - 3221225472) 256
  unfold whP whS
  omega
set_option maxHeartbeats 4000000 in
theorem rwhose_any (w : World) (r : Int) : Calls Try.prog 16 #[.int .u32 r] w fun e w' => e = .returned (whV (whoV r)) ∧ w = w' := by
  obtain ⟨x, hx⟩ : ∃ x, whoV r = x := ⟨_, rfl⟩
  rw [hx]
  have HX := Lib.hid hx
  clear hx
  go_enter Try.func16, Try.ntmps16
  go_wp2_with fail
  go_loopw [5] (fun s5 wx => ∃ i : Nat, 1 ≤ i ∧ i ≤ 9 ∧ s5 = .int .i64 i ∧ w = wx ∧ Hid (∀ p s : Int, p < i → kn p s → outN p s ≠ r)) (fun s5 _ => 9 - (intOf s5).toNat)
  case atStart => exact ⟨1, by omega, by omega, rfl, rfl, Lib.hid (fun p s hp hk => by obtain ⟨h1, _⟩ := hk; omega)⟩
  case round =>
    obtain ⟨i, hi1, hi9, rfl, rfl, hno⟩ := hrel
    by_cases h1 : i ≤ 8
    · have hd1 : decide ((i : Int) ≤ 8) = true := by simp; omega
      go_wp2_with fail
      go_loopw [6] (fun s6 wx => ∃ j : Nat, 1 ≤ j ∧ j ≤ 9 ∧ s6 = .int .i64 j ∧ w = wx ∧ Hid (∀ s : Int, s < j → kn i s → outN i s ≠ r)) (fun s6 _ => 9 - (intOf s6).toNat)
      case atStart => exact ⟨1, by omega, by omega, rfl, rfl, Lib.hid (fun s hs hk => by obtain ⟨_, _, h1, _⟩ := hk; omega)⟩
      case round =>
        obtain ⟨j, hj1, hj9, rfl, rfl, hnj⟩ := hrel
        by_cases h2 : j ≤ 8
        · have hd2 : decide ((j : Int) ≤ 8) = true := by simp; omega
          by_cases h3 : outN i j = r
          · have HW := Lib.hid (who_yes (r := r) (i := i) (j := j) ⟨by omega, by omega, by omega, by omega⟩ h3)
            have hd3 : (outN i j == r) = true := by simpa using h3
            go_wp2_with (go_at_call 18; refine (rout_any _ _ _).mono ?_; rintro e w' ⟨rfl, rfl⟩)
            exact retW_at (x := (i, j, true)) Try.results16 ⟨by rw [← HX.out, HW.out], rfl⟩
          · have hd3 : (outN i j == r) = false := by simpa using h3
            go_wp2_with (go_at_call 18; refine (rout_any _ _ _).mono ?_; rintro e w' ⟨rfl, rfl⟩)
            go_roundw
            case rel => exact ⟨j + 1, by omega, by omega, by go_num, by trivial, Lib.hid (fun s hs hk => by
              rcases Int.lt_or_eq_of_le (show s ≤ j by omega) with h | h
              · exact hnj.out s h hk
              · rw [h]; exact h3)⟩
            case measure => simp [intOf]; omega
        · obtain rfl : j = 9 := by omega
          go_wp2_with fail
          go_roundw
          case rel => exact ⟨i + 1, by omega, by omega, by go_num, by trivial, Lib.hid (fun p s hp hk => by
            rcases Int.lt_or_eq_of_le (show p ≤ i by omega) with h | h
            · exact hno.out p s h hk
            · rw [h] at hk ⊢
              exact hnj.out s (by obtain ⟨_, _, _, h4⟩ := hk; omega) hk)⟩
          case measure => simp [intOf]; omega
    · obtain rfl : i = 9 := by omega
      have HW := Lib.hid (who_no (r := r) (fun p s hk => hno.out p s (by obtain ⟨_, h2, _⟩ := hk; omega) hk))
      go_wp2
      exact retW_at (x := (0, 0, false)) Try.results16 ⟨by rw [← HX.out, HW.out], rfl⟩
end Go.Proofs.Ytolobojidnomfaa.Stp
