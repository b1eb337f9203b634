/- The contracts of the small functions of package field. -/
import Derived.Test.YtklodmbccmomoaaRows
import Derived.Test.YtklodmbccmomoaaPure
import Derived.WalkKit
import Derived.WalkSpells
import Derived.WalkLawsBesides
import Derived.Lib.Hide
namespace Go.Proofs.Ytklodmbccmomoaa
open Go.RowKit
set_option linter.unusedVariables false

def sizeB (s : Int) : Bool := decide (1 ≤ s ∧ s ≤ 8)
def withinB (len : Nat) (at_ s : Int) : Bool := decide (1 ≤ s ∧ s ≤ 8 ∧ 0 ≤ at_ ∧ at_ ≤ (len : Int) - s)
def fitsB (s n : Int) : Bool := decide (n < 256 ^ s.toNat)

theorem ret_bool {a b : Bool} (h : a = b) : Ending.returned (.bool a) = .returned (.bool b) := by rw [h]

set_option maxHeartbeats 400000 in
theorem sizeMay_any (s : Int) (w : World) :
    Calls Try.prog 22 #[.int .i64 s] w fun e w' => e = .returned (.bool (sizeB s)) ∧ w = w' := by
  by_cases h1 : 1 ≤ s
  · by_cases h2 : s ≤ 8
    · go_enter Try.func22, Try.ntmps22
      go_wp2
      go_ret
      exact ⟨by simp [sizeB, h1, h2], rfl⟩
    · go_enter Try.func22, Try.ntmps22
      go_wp2
      go_ret
      exact ⟨by simp [sizeB, h1, h2], rfl⟩
  · go_enter Try.func22, Try.ntmps22
    go_wp2
    go_ret
    exact ⟨by simp [sizeB]; omega, rfl⟩

theorem pow_two_eight (s : Int) (h1 : 0 ≤ s) : (2 : Int) ^ (8 * s).toNat = 256 ^ s.toNat := by
  rw [show (8 * s).toNat = 8 * s.toNat from by omega, Int.pow_mul]; rfl
theorem div_zero_iff (n m : Int) (hn : 0 ≤ n) (hm : 0 < m) : (n / m == 0) = decide (n < m) := by
  rw [Bool.eq_iff_iff, beq_iff_eq, decide_eq_true_iff]
  constructor
  · intro h
    have := Int.lt_ediv_add_one_mul_self n hm
    rw [h] at this
    simpa using this
  · intro h; exact Int.ediv_eq_zero_of_lt hn h

set_option maxHeartbeats 400000 in
theorem fits_any (s n : Int) (w : World) (h1 : 1 ≤ s) (h2 : s ≤ 8) (hn : 0 ≤ n) (_hn2 : n ≤ 18446744073709551615) :
    Calls Try.prog 18 #[.int .i64 s, .int .u64 n] w fun e w' => e = .returned (.bool (fitsB s n)) ∧ w = w' := by
  go_enter Try.func18, Try.ntmps18
  go_wp2
  go_ret
  exact ⟨ret_bool (by rw [pow_two_eight s (by omega), div_zero_iff n _ hn (pow_pos _)]; rfl), rfl⟩

set_option maxHeartbeats 400000 in
theorem within_any (a : Option Addr) (len cap : Nat) (i s : Int) (w : World) (hl : len ≤ maxLen) :
    Calls Try.prog 16 #[.slice a len cap, .int .i64 i, .int .i64 s] w fun e w' => e = .returned (.bool (withinB len i s)) ∧ w = w' := by
  unfold maxLen at hl
  by_cases h1 : 1 ≤ s ∧ s ≤ 8
  · have hs : sizeB s = true := by simp [sizeB, h1.1, h1.2]
    obtain ⟨h1, h2⟩ := h1
    by_cases h3 : 0 ≤ i
    · go_enter Try.func16, Try.ntmps16
      go_wp2_with (go_at_call 22; refine (sizeMay_any _ _).mono ?_; rintro e w' ⟨rfl, rfl⟩)
      go_ret
      exact ⟨ret_bool (by simp [withinB, h1, h2, h3]), rfl⟩
    · go_enter Try.func16, Try.ntmps16
      go_wp2_with (go_at_call 22; refine (sizeMay_any _ _).mono ?_; rintro e w' ⟨rfl, rfl⟩)
      go_ret
      exact ⟨ret_bool (by simp [withinB]; omega), rfl⟩
  · have hs : sizeB s = false := by simp [sizeB]; omega
    go_enter Try.func16, Try.ntmps16
    go_wp2_with (go_at_call 22; refine (sizeMay_any _ _).mono ?_; rintro e w' ⟨rfl, rfl⟩)
    go_ret
    exact ⟨ret_bool (by simp [withinB]; omega), rfl⟩

/-- A slice of bytes that reads as a list, nil let in, and lies below block B. -/
def Rd (w : World) (B : Nat) (a : Option Addr) (n : Nat) (xs : List Int) : Prop :=
  xs.length = n ∧ Bytes xs ∧ (0 < n → ∃ b off, a = some ⟨b, off, none⟩ ∧ b < B ∧ ∀ i, i < n → w.cell? ⟨b, off + i, none⟩ = some (.int .u8 (xs.getD i 0)))

set_option maxHeartbeats 400000 in
theorem rwithin_any (a : Option Addr) (len cap : Nat) (i s : Int) (w : World) (hl : len ≤ maxLen) :
    Calls Try.prog 17 #[.slice a len cap, .int .i64 i, .int .i64 s] w fun e w' => e = .returned (.bool (withinB len i s)) ∧ w = w' := by
  unfold maxLen at hl
  by_cases h1 : 1 ≤ s
  · by_cases h2 : s ≤ 8
    · by_cases h3 : 0 ≤ i
      · by_cases h4 : i ≤ (len : Int)
        · go_enter Try.func17, Try.ntmps17
          go_wp2
          go_ret
          exact ⟨ret_bool (by rw [Bool.eq_iff_iff]; simp [withinB]; omega), rfl⟩
        · go_enter Try.func17, Try.ntmps17
          go_wp2
          go_ret
          exact ⟨ret_bool (by simp [withinB]; omega), rfl⟩
      · go_enter Try.func17, Try.ntmps17
        go_wp2
        go_ret
        exact ⟨ret_bool (by simp [withinB]; omega), rfl⟩
    · go_enter Try.func17, Try.ntmps17
      go_wp2
      go_ret
      exact ⟨ret_bool (by simp [withinB]; omega), rfl⟩
  · go_enter Try.func17, Try.ntmps17
    go_wp2
    go_ret
    exact ⟨ret_bool (by simp [withinB]; omega), rfl⟩

set_option maxHeartbeats 400000 in
theorem get_no (a : Option Addr) (len cap : Nat) (i s : Int) (w : World) (hl : len ≤ maxLen) (hno : withinB len i s = false) :
    Calls Try.prog 9 #[.slice a len cap, .int .i64 i, .int .i64 s] w fun e w' => e = .returned (.tuple #[.int .u64 0, .bool false]) ∧ w = w' := by
  go_enter Try.func9, Try.ntmps9
  go_wp2_with (go_at_call 16; refine (within_any _ _ _ _ _ _ hl).mono ?_; rintro e w' ⟨rfl, rfl⟩)
  go_ret2
  exact ⟨rfl, rfl⟩

set_option maxHeartbeats 400000 in
theorem get_yes (a : Option Addr) (len cap B : Nat) (i s : Nat) (xs : List Int) (w : World) (hl : len ≤ maxLen) (hlc : len ≤ cap) (hr : Rd w B a len xs) (h1 : 1 ≤ s) (h2 : s ≤ 8) (h3 : i + s ≤ len) :
    Calls Try.prog 9 #[.slice a len cap, .int .i64 i, .int .i64 s] w fun e w' => e = .returned (.tuple #[.int .u64 (num ((xs.drop i).take s)), .bool true]) ∧ w = w' := by
  obtain ⟨hx, hb, hc⟩ := hr
  obtain ⟨b, off, rfl, -, hcell⟩ := hc (by omega)
  have hw : withinB len i s = true := by simp [withinB]; omega
  have hl' := hl
  unfold maxLen at hl'
  have hsub : i + s - i = s := by omega
  have HX := Lib.hid hx
  have HC := Lib.hid hcell
  clear hx hcell hc
  go_enter Try.func9, Try.ntmps9
  go_wp2_with (go_at_call 16; refine (within_any _ _ _ _ _ _ hl).mono ?_; rintro e w' ⟨rfl, rfl⟩)
  go_loop [8, 23] (fun n j => ∃ k : Nat, k ≤ s ∧ j = .int .i64 k ∧ n = .int .u64 (num ((xs.drop i).take k))) (fun _ j => s - (intOf j).toNat)
  case atStart => exact ⟨0, by omega, rfl, rfl⟩
  case round =>
    obtain ⟨k, hk, rfl, rfl⟩ := hrel
    by_cases hlt : k < s
    · obtain ⟨x, hck, hx0, hx1, HN⟩ : ∃ x : Int, w.cell? ⟨b, off + i + k, none⟩ = some (.int .u8 x) ∧ 0 ≤ x ∧ x ≤ 255 ∧ Hid (num ((xs.drop i).take (k + 1)) = num ((xs.drop i).take k) * 256 + x) :=
        ⟨_, by rw [Nat.add_assoc]; exact HC.out (i + k) (by omega), (hb.getD (i + k)).1, (hb.getD (i + k)).2, num_step xs i k (by rw [HX.out]; omega)⟩
      obtain ⟨m, hm⟩ : ∃ m, m = num ((xs.drop i).take k) := ⟨_, rfl⟩
      obtain ⟨hm0, hm1⟩ : 0 ≤ m ∧ m < 72057594037927936 := by
        rw [hm]; exact num_lt7 _ ((hb.drop i).take k) k (List.length_take_le _ _) (by omega)
      rw [← hm] at HN
      rw [← hm]
      clear hm
      go_wp2
      go_round
      case rel => exact ⟨k + 1, by omega, by go_num, by rw [HN.out]; exact congrArg (Value.int IntKind.u64) (or_step m x hm0 hm1 hx0 hx1)⟩
      case measure => simp [intOf]; omega
    · obtain rfl : k = s := by omega
      go_wp2
      go_ret2
      exact ⟨rfl, rfl⟩

set_option maxHeartbeats 400000 in
theorem rget_no (a : Option Addr) (len cap : Nat) (i s : Int) (w : World) (hl : len ≤ maxLen) (hno : withinB len i s = false) :
    Calls Try.prog 10 #[.slice a len cap, .int .i64 i, .int .i64 s] w fun e w' => e = .returned (.tuple #[.int .u64 0, .bool false]) ∧ w = w' := by
  go_enter Try.func10, Try.ntmps10
  go_wp2_with (go_at_call 17; refine (rwithin_any _ _ _ _ _ _ hl).mono ?_; rintro e w' ⟨rfl, rfl⟩)
  go_ret2
  exact ⟨rfl, rfl⟩

set_option maxHeartbeats 400000 in
theorem rget_yes (a : Option Addr) (len cap B : Nat) (i s : Nat) (xs : List Int) (w : World) (hl : len ≤ maxLen) (hlc : len ≤ cap) (hr : Rd w B a len xs) (h1 : 1 ≤ s) (h2 : s ≤ 8) (h3 : i + s ≤ len) :
    Calls Try.prog 10 #[.slice a len cap, .int .i64 i, .int .i64 s] w fun e w' => e = .returned (.tuple #[.int .u64 (num ((xs.drop i).take s)), .bool true]) ∧ w = w' := by
  obtain ⟨hx, hb, hc⟩ := hr
  obtain ⟨b, off, rfl, -, hcell⟩ := hc (by omega)
  have hw : withinB len i s = true := by simp [withinB]; omega
  have hl' := hl
  unfold maxLen at hl'
  have hsub : i + s - i = s := by omega
  have HX := Lib.hid hx
  have HC := Lib.hid hcell
  clear hx hcell hc
  go_enter Try.func10, Try.ntmps10
  go_wp2_with (go_at_call 17; refine (rwithin_any _ _ _ _ _ _ hl).mono ?_; rintro e w' ⟨rfl, rfl⟩)
  go_loop [8, 23] (fun n j => ∃ k : Nat, k ≤ s ∧ j = .int .i64 k ∧ n = .int .u64 (num ((xs.drop i).take k))) (fun _ j => s - (intOf j).toNat)
  case atStart => exact ⟨0, by omega, rfl, rfl⟩
  case round =>
    obtain ⟨k, hk, rfl, rfl⟩ := hrel
    by_cases hlt : k < s
    · obtain ⟨x, hck, hx0, hx1, HN⟩ : ∃ x : Int, w.cell? ⟨b, off + i + k, none⟩ = some (.int .u8 x) ∧ 0 ≤ x ∧ x ≤ 255 ∧ Hid (num ((xs.drop i).take (k + 1)) = num ((xs.drop i).take k) * 256 + x) :=
        ⟨_, by rw [Nat.add_assoc]; exact HC.out (i + k) (by omega), (hb.getD (i + k)).1, (hb.getD (i + k)).2, num_step xs i k (by rw [HX.out]; omega)⟩
      obtain ⟨m, hm⟩ : ∃ m, m = num ((xs.drop i).take k) := ⟨_, rfl⟩
      obtain ⟨hm0, hm1⟩ : 0 ≤ m ∧ m < 72057594037927936 := by
        rw [hm]; exact num_lt7 _ ((hb.drop i).take k) k (List.length_take_le _ _) (by omega)
      rw [← hm] at HN
      rw [← hm]
      clear hm
      go_wp2
      go_round
      case rel => exact ⟨k + 1, by omega, by go_num, by rw [HN.out]⟩
      case measure => simp [intOf]; omega
    · obtain rfl : k = s := by omega
      go_wp2
      go_ret2
      exact ⟨rfl, rfl⟩

end Go.Proofs.Ytklodmbccmomoaa
