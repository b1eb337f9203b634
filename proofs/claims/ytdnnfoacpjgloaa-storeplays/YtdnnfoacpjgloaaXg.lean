/- The contracts of package field, as far as the dump has its functions. -/
import Derived.Test.YtdnnfoacpjgloaaXr
set_option maxRecDepth 100000
namespace Go.Proofs.Ytdnnfoacpjgloaa.Fld
open Go.RowKit
set_option linter.unusedVariables false

set_option maxHeartbeats 400000 in
theorem sizeMay_any (s : Int) (w : World) :
    Calls Try.prog 88 #[.int .i64 s] w fun e w' => e = .returned (.bool (sizeB s)) ∧ w = w' := by
  by_cases h1 : 1 ≤ s
  · by_cases h2 : s ≤ 8
    · go_enter Try.func88, Try.ntmps88
      go_wp2
      go_ret
      exact ⟨by simp [sizeB, h1, h2], rfl⟩
    · go_enter Try.func88, Try.ntmps88
      go_wp2
      go_ret
      exact ⟨by simp [sizeB, h1, h2], rfl⟩
  · go_enter Try.func88, Try.ntmps88
    go_wp2
    go_ret
    exact ⟨by simp [sizeB]; omega, rfl⟩
set_option maxHeartbeats 400000 in
theorem fits_any (s n : Int) (w : World) (h1 : 1 ≤ s) (h2 : s ≤ 8) (hn : 0 ≤ n) (_hn2 : n ≤ 18446744073709551615) :
    Calls Try.prog 81 #[.int .i64 s, .int .u64 n] w fun e w' => e = .returned (.bool (fitsB s n)) ∧ w = w' := by
  go_enter Try.func81, Try.ntmps81
  go_wp2
  go_ret
  exact ⟨ret_bool (by rw [pow_two_eight s (by omega), div_zero_iff n _ hn (pow_pos _)]; rfl), rfl⟩
set_option maxHeartbeats 400000 in
theorem within_any (a : Option Addr) (len cap : Nat) (i s : Int) (w : World) (hl : len ≤ maxLen) :
    Calls Try.prog 80 #[.slice a len cap, .int .i64 i, .int .i64 s] w fun e w' => e = .returned (.bool (withinB len i s)) ∧ w = w' := by
  unfold maxLen at hl
  by_cases h1 : 1 ≤ s ∧ s ≤ 8
  · have hs : sizeB s = true := by simp [sizeB, h1.1, h1.2]
    obtain ⟨h1, h2⟩ := h1
    by_cases h3 : 0 ≤ i
    · go_enter Try.func80, Try.ntmps80
      go_wp2_with (go_at_call 88; refine (sizeMay_any _ _).mono ?_; rintro e w' ⟨rfl, rfl⟩)
      go_ret
      exact ⟨ret_bool (by simp [withinB, h1, h2, h3]), rfl⟩
    · go_enter Try.func80, Try.ntmps80
      go_wp2_with (go_at_call 88; refine (sizeMay_any _ _).mono ?_; rintro e w' ⟨rfl, rfl⟩)
      go_ret
      exact ⟨ret_bool (by simp [withinB]; omega), rfl⟩
  · have hs : sizeB s = false := by simp [sizeB]; omega
    go_enter Try.func80, Try.ntmps80
    go_wp2_with (go_at_call 88; refine (sizeMay_any _ _).mono ?_; rintro e w' ⟨rfl, rfl⟩)
    go_ret
    exact ⟨ret_bool (by simp [withinB]; omega), rfl⟩
set_option maxHeartbeats 400000 in
theorem get_no (a : Option Addr) (len cap : Nat) (i s : Int) (w : World) (hl : len ≤ maxLen) (hno : withinB len i s = false) :
    Calls Try.prog 93 #[.slice a len cap, .int .i64 i, .int .i64 s] w fun e w' => e = .returned (.tuple #[.int .u64 0, .bool false]) ∧ w = w' := by
  go_enter Try.func93, Try.ntmps93
  go_wp2_with (go_at_call 80; refine (within_any _ _ _ _ _ _ hl).mono ?_; rintro e w' ⟨rfl, rfl⟩)
  go_ret2
  exact ⟨rfl, rfl⟩
set_option maxHeartbeats 400000 in
theorem get_yes (a : Option Addr) (len cap B : Nat) (i s : Nat) (xs : List Int) (w : World) (hl : len ≤ maxLen) (hlc : len ≤ cap) (hr : Rd w B a len xs) (h1 : 1 ≤ s) (h2 : s ≤ 8) (h3 : i + s ≤ len) :
    Calls Try.prog 93 #[.slice a len cap, .int .i64 i, .int .i64 s] w fun e w' => e = .returned (.tuple #[.int .u64 (num ((xs.drop i).take s)), .bool true]) ∧ w = w' := by
  obtain ⟨hx, hb, hc⟩ := hr
  obtain ⟨b, off, rfl, -, hcell⟩ := hc (by omega)
  have hw : withinB len i s = true := by simp [withinB]; omega
  have hl' := hl
  unfold maxLen at hl'
  have hsub : i + s - i = s := by omega
  have HX := Lib.hid hx
  have HC := Lib.hid hcell
  clear hx hcell hc
  go_enter Try.func93, Try.ntmps93
  go_wp2_with (go_at_call 80; refine (within_any _ _ _ _ _ _ hl).mono ?_; rintro e w' ⟨rfl, rfl⟩)
  go_loop [8, 23] (fun n j => ∃ k : Nat, k ≤ s ∧ j = .int .i64 k ∧ n = .int .u64 (num ((xs.drop i).take k))) (fun _ j => s - (intOf j).toNat)
  case atStart => exact ⟨0, by omega, rfl, rfl⟩
  case round =>
    obtain ⟨k, hk, rfl, rfl⟩ := hrel
    by_cases hlt : k < s
    · obtain ⟨x, hck, hx0, hx1, HN⟩ : ∃ x : Int, w.cell? ⟨b, off + i + k, none⟩ = some (.int .u8 x) ∧ 0 ≤ x ∧ x ≤ 255 ∧ Hid (num ((xs.drop i).take (k + 1)) = num ((xs.drop i).take k) * 256 + x) :=
        ⟨_, by rw [Nat.add_assoc]; exact HC.out (i + k) (by omega), (hb.getD (i + k)).1, (hb.getD (i + k)).2, num_step xs i k (by rw [HX.out]; omega)⟩
      obtain ⟨m, hm⟩ : ∃ m, m = num ((xs.drop i).take k) := ⟨_, rfl⟩
      obtain ⟨hm0, hm1⟩ : 0 ≤ m ∧ m < 72057594037927936 := by
        rw [hm]; exact num_lt7 _ ((hb.drop i).take k) k (List.length_take_le _ _) (by omega)
      rw [← hm] at HN
      rw [← hm]
      clear hm
      go_wp2
      go_round
      case rel => exact ⟨k + 1, by omega, by go_num, by rw [HN.out]; exact congrArg (Value.int IntKind.u64) (or_step m x hm0 hm1 hx0 hx1)⟩
      case measure => simp [intOf]; omega
    · obtain rfl : k = s := by omega
      go_wp2
      go_ret2
      exact ⟨rfl, rfl⟩
set_option maxHeartbeats 400000 in
theorem write_any (a : Option Addr) (g off n cap : Nat) (v : Int) (L : List Int) (T : List Value) (w : World) (hn : n ≤ 8) (hv : 0 ≤ v) (hv2 : v ≤ 18446744073709551615)
    (ha : 0 < n → a = some ⟨g, off, none⟩) (hfit : off + n ≤ L.length) (hg : Blk w g L T) :
    Calls Try.prog 82 #[.slice a n cap, .int .u64 v] w fun e w' => e = .returned (.tuple #[]) ∧ Blk w' g (written L off n 0 v) T ∧ w.grownBy w' (some g) := by
  go_enter Try.func82, Try.ntmps82
  go_wp2
  go_loopw [1, 4] (fun sv si wx => ∃ i : Int, -1 ≤ i ∧ i < n ∧ si = .int .i64 i ∧ sv = .int .u64 (v / 256 ^ (n - (i + 1).toNat)) ∧ Blk wx g (written L off n (i + 1).toNat v) T ∧ w.grownBy wx (some g))
    (fun _ si _ => (intOf si + 1).toNat)
  case atStart =>
    refine ⟨(n : Int) - 1, by omega, by omega, rfl, ?_, ?_, World.grownBy.refl w _⟩
    · rw [show ((n : Int) - 1 + 1).toNat = n from by omega]; simp
    · rw [show ((n : Int) - 1 + 1).toNat = n from by omega, written_full]; exact hg
  case round =>
    obtain ⟨i, hi1, hi2, rfl, rfl, hb, hgr⟩ := hrel
    by_cases hlt : 0 ≤ i
    · obtain ⟨j, rfl⟩ := Int.eq_ofNat_of_zero_le hlt
      obtain rfl := ha (by omega)
      rw [show ((j : Int) + 1).toNat = j + 1 from by omega] at hb
      have hc := hb.cell (off + j) (by rw [written_length _ _ _ _ _ hfit (by omega)]; omega)
      have hf := hb.frozen (off + j)
      go_wp2
      go_roundw
      case rel =>
        refine ⟨(j : Int) - 1, by omega, by omega, rfl, ?_, ?_, only_setCell hgr rfl _⟩
        · rw [show ((j : Int) - 1 + 1).toNat = j from by omega, div_pow, show n - (j + 1) + 1 = n - j from by omega]
        · rw [show ((j : Int) - 1 + 1).toNat = j from by omega, ← written_step L off n j v hfit (by omega)]; exact hb.set_ _ (by rw [written_length _ _ _ _ _ hfit (by omega)]; omega) _
      case measure => simp [intOf]
    · obtain rfl : i = -1 := by omega
      go_wp2
      go_end0
      exact ⟨rfl, hb, hgr⟩
set_option maxHeartbeats 400000 in
theorem put_no (a : Option Addr) (len cap : Nat) (i s n : Int) (w : World) (hl : len ≤ maxLen) (hn : 0 ≤ n) (hn2 : n ≤ 18446744073709551615) (hno : (withinB len i s && fitsB s n) = false) :
    Calls Try.prog 71 #[.slice a len cap, .int .i64 i, .int .i64 s, .int .u64 n] w fun e w' => e = .returned (.bool false) ∧ w = w' := by
  by_cases hw : withinB len i s = true
  · have hf : fitsB s n = false := by simpa [hw] using hno
    have hs : 1 ≤ s ∧ s ≤ 8 := by simp [withinB] at hw; omega
    clear hno
    go_enter Try.func71, Try.ntmps71
    go_wp2_with (first | (go_at_call 80; refine (within_any _ _ _ _ _ _ hl).mono ?_; rintro e w' ⟨rfl, rfl⟩) | (go_at_call 81; refine (fits_any _ _ _ hs.1 hs.2 hn hn2).mono ?_; rintro e w' ⟨rfl, rfl⟩))
    go_ret
    exact ⟨rfl, rfl⟩
  · have hw' : withinB len i s = false := by simpa using hw
    clear hno hw
    go_enter Try.func71, Try.ntmps71
    go_wp2_with (go_at_call 80; refine (within_any _ _ _ _ _ _ hl).mono ?_; rintro e w' ⟨rfl, rfl⟩)
    go_ret
    exact ⟨rfl, rfl⟩
set_option maxHeartbeats 400000 in
theorem put_yes (g off len cap : Nat) (i s : Nat) (n : Int) (L : List Int) (T : List Value) (w : World) (hl : len ≤ maxLen) (hlc : len ≤ cap) (hn : 0 ≤ n) (hn2 : n ≤ 18446744073709551615)
    (hfit : off + len ≤ L.length) (hg : Blk w g L T) (h1 : 1 ≤ s) (h2 : s ≤ 8) (h3 : i + s ≤ len) (hf : fitsB s n = true) :
    Calls Try.prog 71 #[.slice (some ⟨g, off, none⟩) len cap, .int .i64 i, .int .i64 s, .int .u64 n] w fun e w' => e = .returned (.bool true) ∧ Blk w' g (written L (off + i) s 0 n) T ∧ w.grownBy w' (some g) := by
  have hw : withinB len i s = true := by simp [withinB]; omega
  have hl' := hl
  unfold maxLen at hl'
  have hsub : i + s - i = s := by omega
  go_enter Try.func71, Try.ntmps71
  go_wp2_with (first | (go_at_call 80; refine (within_any _ _ _ _ _ _ hl).mono ?_; rintro e w' ⟨rfl, rfl⟩) | (go_at_call 81; refine (fits_any _ _ _ (by omega) (by omega) hn hn2).mono ?_; rintro e w' ⟨rfl, rfl⟩))
  refine (write_any _ g (off + i) s _ n L T _ h2 hn hn2 (fun _ => rfl) (by omega) hg).mono ?_
  rintro e w' ⟨rfl, hb, hgr⟩
  go_wp2
  go_ret
  exact ⟨rfl, hb, hgr⟩
theorem put_own (A : Option Addr) (len cap base : Nat) (i s n : Int) (xs : List Int) (w : World) (ho : Own w base A len cap xs) (hn : 0 ≤ n) (hn2 : n ≤ 18446744073709551615) :
    Calls Try.prog 71 #[.slice A len cap, .int .i64 i, .int .i64 s, .int .u64 n] w fun e w' => e = .returned (.bool (withinB len i s && fitsB s n)) ∧ Own w' base A len cap (numPut xs i s n) ∧ Below base w w' := by
  have hl : len ≤ maxLen := Nat.le_trans ho.2.2.1 ho.2.2.2.1
  unfold numPut
  rw [ho.len]
  rcases hy : (withinB len i s && fitsB s n) with _ | _
  · refine (put_no A len cap i s n w hl hn hn2 hy).mono ?_
    rintro e w' ⟨rfl, rfl⟩
    exact ⟨rfl, by simpa using ho, Below.refl _ _⟩
  · rw [Bool.and_eq_true] at hy
    have hw := hy.1
    simp only [withinB, decide_eq_true_eq] at hw
    obtain ⟨i', rfl⟩ := Int.eq_ofNat_of_zero_le hw.2.2.1
    obtain ⟨s', rfl⟩ := Int.eq_ofNat_of_zero_le (show 0 ≤ s from by omega)
    obtain ⟨hx, hb, hnc, hcm, ho⟩ := ho
    rcases ho with ⟨rfl, rfl, rfl⟩ | ⟨g, T, rfl, hbg, hk, hlT⟩
    · omega
    · refine (put_yes g 0 len cap i' s' n xs T w hl hnc hn hn2 (by omega) hk (by omega) (by omega) (by omega) hy.2).mono ?_
      rintro e w' ⟨rfl, hk', hg⟩
      refine ⟨rfl, ?_, (Below.refl _ _).grown hg (Nat.le_trans hbg (Nat.le_of_lt hk.lt)) (by rintro k h; injection h with h; omega)⟩
      rw [Nat.zero_add] at hk'
      have hlen : (written xs i' s' 0 n).length = xs.length := written_length xs i' s' 0 n (by omega) (by omega)
      simp only [if_true, Int.toNat_natCast]
      exact ⟨by omega, written_bytes hb _ _ _, hnc, hcm, .inr ⟨g, T, rfl, hbg, hk', by omega⟩⟩
theorem get_any (a : Option Addr) (len cap B : Nat) (i s : Int) (xs : List Int) (w : World) (hl : len ≤ maxLen) (hlc : len ≤ cap) (hr : Rd w B a len xs) :
    Calls Try.prog 93 #[.slice a len cap, .int .i64 i, .int .i64 s] w fun e w' => e = .returned (.tuple #[.int .u64 (numGet xs i s), .bool (withinB len i s)]) ∧ w = w' := by
  unfold numGet
  rw [hr.1]
  rcases hw : withinB len i s with _ | _
  · rw [if_neg (by simp)]; exact get_no a len cap i s w hl hw
  · rw [if_pos rfl]
    simp only [withinB, decide_eq_true_eq] at hw
    obtain ⟨i', rfl⟩ := Int.eq_ofNat_of_zero_le hw.2.2.1
    obtain ⟨s', rfl⟩ := Int.eq_ofNat_of_zero_le (show 0 ≤ s from by omega)
    exact get_yes a len cap B i' s' xs w hl hlc hr (by omega) (by omega) (by omega)
end Go.Proofs.Ytdnnfoacpjgloaa.Fld
