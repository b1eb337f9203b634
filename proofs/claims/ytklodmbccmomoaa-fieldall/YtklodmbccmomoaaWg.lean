/- The contract of the reference's Put. -/
import Derived.Test.YtklodmbccmomoaaWf
namespace Go.Proofs.Ytklodmbccmomoaa
open Go.RowKit
set_option linter.unusedVariables false

/-- What the reference's Put leaves. -/
def PutRow (w : World) (ys : List Int) (b : Bool) (e : Ending) (w' : World) : Prop :=
  ∃ A c, e = .returned (.tuple #[.slice A ys.length c, .bool b]) ∧ Own w' w.heap.size A ys.length c ys ∧ Below w.heap.size w w'

theorem splice_be (xs : List Int) (i s : Nat) (n : Int) : splice xs i (be s n) = written xs i s 0 n := by
  unfold splice written
  rw [be_length, Nat.add_zero, Nat.sub_zero, List.append_assoc]

set_option maxHeartbeats 1000000 in
theorem rput_yes (a : Option Addr) (len cap B : Nat) (i s : Nat) (n : Int) (xs : List Int) (w : World) (hl : len ≤ 140737488351232) (hr : Rd w B a len xs) (hB : B ≤ w.heap.size) (hn : 0 ≤ n) (hn2 : n ≤ 18446744073709551615)
    (h1 : 1 ≤ s) (h2 : s ≤ 8) (h3 : i + s ≤ len) (hf : fitsB s n = true) :
    Calls Try.prog 12 #[.slice a len cap, .int .i64 i, .int .i64 s, .int .u64 n] w (PutRow w (written xs i s 0 n) true) := by
  have hlm : len ≤ maxLen := by unfold maxLen; omega
  have hw : withinB len i s = true := by simp [withinB]; omega
  have hm : decide ((256 : Int) ^ s - 1 < n) = false := by rw [fitsB_most, hf]; rfl
  go_enter Try.func12, Try.ntmps12
  go_wp2_with (first
    | (at_builtin; refine wpList_append_bytes rfl (.const (.slice none 0 0)) (.tmp 11) rfl w.heap.size B 0 0 len cap len none a [] xs xs (Nat.zero_add _) rfl rfl rfl (Own.nil _ _) hr (Nat.le_refl _) (by omega) ?_; intro A c w1 ho hb)
    | (go_at_call 17; refine (rwithin_any _ _ _ _ _ _ hlm).mono ?_; rintro e w' ⟨rfl, rfl⟩)
    | (go_at_call 20; refine (most_any _ _ (by omega)).mono ?_; rintro e w' ⟨rfl, rfl⟩))
  obtain ⟨hx, hbx, hnc, hcm, h⟩ := ho
  rcases h with ⟨-, h0, -⟩ | ⟨g, T, rfl, hbg, hk, hlT⟩
  · omega
  have HX := Lib.hid hx
  have HT := Lib.hid hlT
  have hic : i < c := by omega
  clear hx hlT
  go_region_with ((go_at_call 21; refine (bytes_any _ _ _ (by omega) (by omega) hn hn2).mono ?_; rintro e w2 ⟨rfl, hk2, hb2⟩
                   obtain ⟨w3, hcp, hk3, hg3⟩ := copy_run (n := len - i) (c := c - i) (cap := s) (off := i) 3 (Blk.below (show Blk w1.drew g xs T from hk) hb2 hk.lt) (hk2.rd (be_bytes _ _) (be_length _ _)) (by omega) (by rw [HX.out]; omega)
                   change (Builtin.copy_ #[22, 22] 3 #[.slice (some ⟨g, i, none⟩) (len - i) (c - i), .slice (some ⟨w1.heap.size, 0, none⟩) s s]).run Try.prog w2 = _ at hcp
                   have HK3 := Lib.hid hk3
                   clear hk3))
  all_goals
    go_wp2
    go_ret2
    have hlen : (written xs i s 0 n).length = len := by rw [written_length xs i s 0 n (by rw [HX.out]; omega) (by omega)]; exact HX.out
    have hw2 : Below w.heap.size w w2 := hb.trans (((Below.refl w1.heap.size w1).drew.trans hb2).mono hb.size)
    have hw3 : Below w.heap.size w w3 := hw2.grown hg3 hw2.size (by rintro q h; injection h with h; omega)
    refine ⟨some ⟨g, 0, none⟩, c, by rw [hlen]; rfl, ?_, hw3⟩
    rw [hlen]
    have hk3 := HK3.out
    rw [splice_be] at hk3
    have hT := HT.out
    exact ⟨hlen, written_bytes hbx _ _ _, hnc, hcm, .inr ⟨g, T, rfl, hbg, hk3, by rw [hlen]; rw [HX.out] at hT; exact hT⟩⟩

set_option maxHeartbeats 1000000 in
theorem rput_no (a : Option Addr) (len cap B : Nat) (i s n : Int) (xs : List Int) (w : World) (hl : len ≤ 140737488351232) (hr : Rd w B a len xs) (hB : B ≤ w.heap.size) (hn : 0 ≤ n) (hn2 : n ≤ 18446744073709551615)
    (hno : (withinB len i s && fitsB s n) = false) :
    Calls Try.prog 12 #[.slice a len cap, .int .i64 i, .int .i64 s, .int .u64 n] w (PutRow w xs false) := by
  have hlm : len ≤ maxLen := by unfold maxLen; omega
  have hF : Hid (∀ A c w1, Own w1 w.heap.size A len c xs → Below w.heap.size w w1 → PutRow w xs false (.returned (.tuple #[.slice A len c, .bool false])) w1) := by
    intro A c w1 ho hb
    have hx := hr.1
    subst hx
    exact ⟨A, c, rfl, ho, hb⟩
  rcases hw : withinB len i s with _ | _
  · clear hno
    go_enter Try.func12, Try.ntmps12
    go_wp2_with (first
      | (at_builtin; refine wpList_append_bytes rfl (.const (.slice none 0 0)) (.tmp 11) rfl w.heap.size B 0 0 len cap len none a [] xs xs (Nat.zero_add _) rfl rfl rfl (Own.nil _ _) hr (Nat.le_refl _) (by omega) ?_; intro A c w1 ho hb)
      | (go_at_call 17; refine (rwithin_any _ _ _ _ _ _ hlm).mono ?_; rintro e w' ⟨rfl, rfl⟩))
    go_ret2
    exact hF.out A c w1 ho hb
  · have hf : fitsB s n = false := by simpa [hw] using hno
    have hs : 1 ≤ s ∧ s ≤ 8 := by simp [withinB] at hw; omega
    obtain ⟨s, rfl⟩ := Int.eq_ofNat_of_zero_le (show 0 ≤ s from by omega)
    have hm : decide ((256 : Int) ^ s - 1 < n) = true := by rw [fitsB_most, hf]; rfl
    clear hno
    go_enter Try.func12, Try.ntmps12
    go_wp2_with (first
      | (at_builtin; refine wpList_append_bytes rfl (.const (.slice none 0 0)) (.tmp 11) rfl w.heap.size B 0 0 len cap len none a [] xs xs (Nat.zero_add _) rfl rfl rfl (Own.nil _ _) hr (Nat.le_refl _) (by omega) ?_; intro A c w1 ho hb)
      | (go_at_call 17; refine (rwithin_any _ _ _ _ _ _ hlm).mono ?_; rintro e w' ⟨rfl, rfl⟩)
      | (go_at_call 20; refine (most_any _ _ (by omega)).mono ?_; rintro e w' ⟨rfl, rfl⟩))
    go_ret2
    exact hF.out A c w1 ho hb

theorem rput_any (a : Option Addr) (len cap B : Nat) (i s n : Int) (xs : List Int) (w : World) (hl : len ≤ 140737488351232) (hr : Rd w B a len xs) (hB : B ≤ w.heap.size) (hn : 0 ≤ n) (hn2 : n ≤ 18446744073709551615) :
    Calls Try.prog 12 #[.slice a len cap, .int .i64 i, .int .i64 s, .int .u64 n] w (PutRow w (putV xs i s n) (withinB len i s && fitsB s n)) := by
  unfold putV
  rw [hr.1]
  rcases hy : (withinB len i s && fitsB s n) with _ | _
  · rw [if_neg (by simp)]
    exact rput_no a len cap B i s n xs w hl hr hB hn hn2 hy
  · rw [if_pos rfl]
    rw [Bool.and_eq_true] at hy
    have hw := hy.1
    simp only [withinB, decide_eq_true_eq] at hw
    obtain ⟨i', rfl⟩ := Int.eq_ofNat_of_zero_le hw.2.2.1
    obtain ⟨s', rfl⟩ := Int.eq_ofNat_of_zero_le (show 0 ≤ s from by omega)
    exact rput_yes a len cap B i' s' n xs w hl hr hB hn hn2 (by omega) (by omega) (by omega) hy.2

/-- The two readers, whatever stands there. -/
def getV (xs : List Int) (i s : Int) : Int := if withinB xs.length i s then num ((xs.drop i.toNat).take s.toNat) else 0
theorem get_any (a : Option Addr) (len cap B : Nat) (i s : Int) (xs : List Int) (w : World) (hl : len ≤ maxLen) (hlc : len ≤ cap) (hr : Rd w B a len xs) :
    Calls Try.prog 9 #[.slice a len cap, .int .i64 i, .int .i64 s] w fun e w' => e = .returned (.tuple #[.int .u64 (getV xs i s), .bool (withinB len i s)]) ∧ w = w' := by
  unfold getV
  rw [hr.1]
  rcases hw : withinB len i s with _ | _
  · rw [if_neg (by simp)]; exact get_no a len cap i s w hl hw
  · rw [if_pos rfl]
    simp only [withinB, decide_eq_true_eq] at hw
    obtain ⟨i', rfl⟩ := Int.eq_ofNat_of_zero_le hw.2.2.1
    obtain ⟨s', rfl⟩ := Int.eq_ofNat_of_zero_le (show 0 ≤ s from by omega)
    exact get_yes a len cap B i' s' xs w hl hlc hr (by omega) (by omega) (by omega)
theorem rget_any (a : Option Addr) (len cap B : Nat) (i s : Int) (xs : List Int) (w : World) (hl : len ≤ maxLen) (hlc : len ≤ cap) (hr : Rd w B a len xs) :
    Calls Try.prog 10 #[.slice a len cap, .int .i64 i, .int .i64 s] w fun e w' => e = .returned (.tuple #[.int .u64 (getV xs i s), .bool (withinB len i s)]) ∧ w = w' := by
  unfold getV
  rw [hr.1]
  rcases hw : withinB len i s with _ | _
  · rw [if_neg (by simp)]; exact rget_no a len cap i s w hl hw
  · rw [if_pos rfl]
    simp only [withinB, decide_eq_true_eq] at hw
    obtain ⟨i', rfl⟩ := Int.eq_ofNat_of_zero_le hw.2.2.1
    obtain ⟨s', rfl⟩ := Int.eq_ofNat_of_zero_le (show 0 ≤ s from by omega)
    exact rget_yes a len cap B i' s' xs w hl hlc hr (by omega) (by omega) (by omega)

end Go.Proofs.Ytklodmbccmomoaa
