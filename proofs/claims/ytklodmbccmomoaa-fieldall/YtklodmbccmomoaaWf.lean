/- The contracts of Put and Append over rows of the call's own; the reference's Put and Append. -/
import Derived.Test.YtklodmbccmomoaaWe
import Derived.Deep.RegionWith
import Derived.RegionTactic
import Derived.Deep.Draws
namespace Go.Proofs.Ytklodmbccmomoaa
open Go.RowKit
set_option linter.unusedVariables false

theorem written_bytes {xs : List Int} (h : Bytes xs) (off s : Nat) (n : Int) : Bytes (written xs off s 0 n) := ((h.take _).append (be_bytes _ _)).append (h.drop _)
/-- What comes of bytes by Put. -/
def putV (xs : List Int) (i s n : Int) : List Int := if withinB xs.length i s && fitsB s n then written xs i.toNat s.toNat 0 n else xs

theorem put_own (A : Option Addr) (len cap base : Nat) (i s n : Int) (xs : List Int) (w : World) (ho : Own w base A len cap xs) (hn : 0 ≤ n) (hn2 : n ≤ 18446744073709551615) :
    Calls Try.prog 11 #[.slice A len cap, .int .i64 i, .int .i64 s, .int .u64 n] w fun e w' => e = .returned (.bool (withinB len i s && fitsB s n)) ∧ Own w' base A len cap (putV xs i s n) ∧ Below base w w' := by
  have hl : len ≤ maxLen := Nat.le_trans ho.2.2.1 ho.2.2.2.1
  unfold putV
  rw [ho.len]
  rcases hy : (withinB len i s && fitsB s n) with _ | _
  · refine (put_no A len cap i s n w hl hn hn2 hy).mono ?_
    rintro e w' ⟨rfl, rfl⟩
    exact ⟨rfl, by simpa using ho, Below.refl _ _⟩
  · rw [Bool.and_eq_true] at hy
    have hw := hy.1
    simp only [withinB, decide_eq_true_eq] at hw
    obtain ⟨i', rfl⟩ := Int.eq_ofNat_of_zero_le hw.2.2.1
    obtain ⟨s', rfl⟩ := Int.eq_ofNat_of_zero_le (show 0 ≤ s from by omega)
    obtain ⟨hx, hb, hnc, hcm, ho⟩ := ho
    rcases ho with ⟨rfl, rfl, rfl⟩ | ⟨g, T, rfl, hbg, hk, hlT⟩
    · omega
    · refine (put_yes g 0 len cap i' s' n xs T w hl hnc hn hn2 (by omega) hk (by omega) (by omega) (by omega) hy.2).mono ?_
      rintro e w' ⟨rfl, hk', hg⟩
      refine ⟨rfl, ?_, (Below.refl _ _).grown hg (Nat.le_trans hbg (Nat.le_of_lt hk.lt)) (by rintro k h; injection h with h; omega)⟩
      rw [Nat.zero_add] at hk'
      have hlen : (written xs i' s' 0 n).length = xs.length := written_length xs i' s' 0 n (by omega) (by omega)
      simp only [if_true, Int.toNat_natCast]
      exact ⟨by omega, written_bytes hb _ _ _, hnc, hcm, .inr ⟨g, T, rfl, hbg, hk', by omega⟩⟩

theorem appV_bytes {xs : List Int} (h : Bytes xs) (s n : Int) : Bytes (appV xs s n) := by
  unfold appV; split
  · exact h.append (be_bytes _ _)
  · exact h
theorem appV_le (xs : List Int) (s n : Int) : (appV xs s n).length ≤ xs.length + 8 := by
  unfold appV; split
  · rename_i h
    rw [Bool.and_eq_true] at h
    have := h.1
    simp only [sizeB, decide_eq_true_eq] at this
    simp [be_length]; omega
  · omega

/-- What an Append leaves: a new row of bytes. -/
def NewRow (w : World) (ys : List Int) (e : Ending) (w' : World) : Prop := ∃ A c, e = .returned (.slice A ys.length c) ∧ Own w' w.heap.size A ys.length c ys ∧ Below w.heap.size w w'

theorem append_any (a : Option Addr) (len cap B : Nat) (s n : Int) (xs : List Int) (w : World) (hl : len ≤ 140737488351232) (hr : Rd w B a len xs) (hB : B ≤ w.heap.size) (hn : 0 ≤ n) (hn2 : n ≤ 18446744073709551615) :
    Calls Try.prog 13 #[.slice a len cap, .int .i64 s, .int .u64 n] w (NewRow w (appV xs s n)) := by
  have hbx := hr.2.1
  have hx := hr.1
  have hby := appV_bytes hbx s n
  unfold appV at hby ⊢
  rcases hy : (sizeB s && fitsB s n) with _ | _
  · refine (append_no a len cap B s n xs w hl hr hB hn hn2 hy).mono ?_
    rintro e w' ⟨rfl, hk, hb⟩
    rw [if_neg (by simp)]
    rw [← hx]
    exact ⟨_, _, rfl, Own.of_blk hk (Nat.le_refl _) hbx rfl (by unfold maxLen; omega), hb⟩
  · rw [hy, if_pos rfl] at hby
    rw [Bool.and_eq_true] at hy
    have hw := hy.1
    simp only [sizeB, decide_eq_true_eq] at hw
    obtain ⟨s', rfl⟩ := Int.eq_ofNat_of_zero_le (show 0 ≤ s from by omega)
    refine (append_yes a len cap B s' n xs w hl hr hB hn hn2 (by omega) (by omega) hy.2).mono ?_
    rintro e w' ⟨rfl, hk, hb⟩
    rw [if_pos rfl, Int.toNat_natCast]
    have hlen : (xs ++ be s' n).length = len + s' := by rw [List.length_append, be_length, hx]
    refine ⟨_, len + s', by rw [hlen], ?_, hb⟩
    rw [hlen]
    exact Own.of_blk hk (Nat.le_refl _) hby hlen (by unfold maxLen; omega)

theorem fitsB_most (s : Nat) (n : Int) : decide ((256 : Int) ^ s - 1 < n) = !fitsB s n := by
  unfold fitsB
  rw [Int.toNat_natCast, Bool.eq_iff_iff]
  simp
  omega

set_option maxHeartbeats 1000000 in
theorem rappend_any (a : Option Addr) (len cap B : Nat) (s n : Int) (xs : List Int) (w : World) (hl : len ≤ 140737488351232) (hr : Rd w B a len xs) (hB : B ≤ w.heap.size) (hn : 0 ≤ n) (hn2 : n ≤ 18446744073709551615) :
    Calls Try.prog 14 #[.slice a len cap, .int .i64 s, .int .u64 n] w (NewRow w (appV xs s n)) := by
  have HX := Lib.hid hr.1
  have fin0 : ∀ A c w1, Own w1 w.heap.size A len c xs → Below w.heap.size w w1 → NewRow w xs (.returned (.slice A len c)) w1 := by
    intro A c w1 ho hb
    have hx := HX.out
    subst hx
    exact ⟨A, c, rfl, ho, hb⟩
  rcases hsb : sizeB s with _ | _
  · have hv : appV xs s n = xs := by simp [appV, hsb]
    rw [hv]
    clear hv
    have hF := Lib.hid fin0
    clear fin0
    by_cases h1 : s < 1
    case' neg => have h8 : 8 < s := by simp [sizeB] at hsb; omega
    all_goals
      go_enter Try.func14, Try.ntmps14
      go_wp2_with (at_builtin; refine wpList_append_bytes rfl _ _ rfl w.heap.size B 0 0 len cap len none a [] xs xs (Nat.zero_add _) rfl rfl rfl (Own.nil _ _) hr (Nat.le_refl _) (by omega) ?_; intro A c w1 ho hb)
      go_ret
      exact hF.out A c w1 ho hb
  · have hs : 1 ≤ s ∧ s ≤ 8 := by simp [sizeB] at hsb; omega
    obtain ⟨s, rfl⟩ := Int.eq_ofNat_of_zero_le (show 0 ≤ s from by omega)
    have hs1 : ¬ ((s : Int) < 1) := by omega
    have hs8 : ¬ ((8 : Int) < (s : Int)) := by omega
    rcases hf : fitsB s n with _ | _
    · have hv : appV xs s n = xs := by simp [appV, hsb, hf]
      rw [hv]
      clear hv
      have hF := Lib.hid fin0
      clear fin0
      have hm : decide ((256 : Int) ^ s - 1 < n) = true := by rw [fitsB_most, hf]; rfl
      go_enter Try.func14, Try.ntmps14
      go_wp2_with (first
        | (at_builtin; refine wpList_append_bytes rfl _ _ rfl w.heap.size B 0 0 len cap len none a [] xs xs (Nat.zero_add _) rfl rfl rfl (Own.nil _ _) hr (Nat.le_refl _) (by omega) ?_; intro A c w1 ho hb)
        | (go_at_call 20; refine (most_any _ _ (by omega)).mono ?_; rintro e w' ⟨rfl, rfl⟩))
      go_ret
      exact hF.out A c w1 ho hb
    · have hv : appV xs s n = xs ++ be s n := by simp [appV, hsb, hf]
      have hm : decide ((256 : Int) ^ s - 1 < n) = false := by rw [fitsB_most, hf]; rfl
      have hF : Hid (∀ A c w1, Own w1 w.heap.size A (len + s) c (xs ++ be s n) → Below w.heap.size w w1 → NewRow w (xs ++ be s n) (.returned (.slice A (len + s) c)) w1) := by
        intro A c w1 ho hb
        have e : len + s = (xs ++ be s n).length := by rw [List.length_append, be_length, HX.out]
        rw [e] at ho
        rw [e]
        exact ⟨A, c, rfl, ho, hb⟩
      rw [hv]
      clear hv fin0
      go_enter Try.func14, Try.ntmps14
      go_wp2_with (first
        | (at_builtin; refine wpList_append_bytes rfl (.const (.slice none 0 0)) (.tmp 8) rfl w.heap.size B 0 0 len cap len none a [] xs xs (Nat.zero_add _) rfl rfl rfl (Own.nil _ _) hr (Nat.le_refl _) (by omega) ?_; intro A c w1 ho hb)
        | (go_at_call 20; refine (most_any _ _ (by omega)).mono ?_; rintro e w' ⟨rfl, rfl⟩)
        | (go_at_call 21; refine (bytes_any _ _ _ (by omega) (by omega) hn hn2).mono ?_; rintro e w2 ⟨rfl, hk2, hb2⟩)
        | (at_builtin; refine wpList_append_bytes rfl (.tmp 23) (.tmp 26) rfl w.heap.size w2.heap.size len c s s (len + s) A _ xs (be s n) (xs ++ be s n) rfl rfl rfl rfl (ho.below hb2 (Nat.le_refl _)) (hk2.rd (be_bytes _ _) (be_length _ _)) (Nat.le_trans hb.size hb2.size) (by omega) ?_; intro A' c' w3 ho3 hb3))
      go_ret
      exact hF.out A' c' w3 ho3 ((hb.trans (hb2.mono hb.size)).trans hb3)
end Go.Proofs.Ytklodmbccmomoaa
