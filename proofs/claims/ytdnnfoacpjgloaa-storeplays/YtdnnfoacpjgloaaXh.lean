/- The contracts of the reference's numbers in bytes, as far as the dump has its functions. -/
import Derived.Test.YtdnnfoacpjgloaaXr
import Derived.Deep.RegionWith
import Derived.RegionTactic
import Derived.Deep.Draws
set_option maxRecDepth 100000
namespace Go.Proofs.Ytdnnfoacpjgloaa.R1
open Go.RowKit
set_option linter.unusedVariables false

set_option maxHeartbeats 400000 in
theorem rwithin_any (a : Option Addr) (len cap : Nat) (i s : Int) (w : World) (hl : len ≤ maxLen) :
    Calls Try.prog 89 #[.slice a len cap, .int .i64 i, .int .i64 s] w fun e w' => e = .returned (.bool (withinB len i s)) ∧ w = w' := by
  unfold maxLen at hl
  by_cases h1 : 1 ≤ s
  · by_cases h2 : s ≤ 8
    · by_cases h3 : 0 ≤ i
      · by_cases h4 : i ≤ (len : Int)
        · go_enter Try.func89, Try.ntmps89
          go_wp2
          go_ret
          exact ⟨ret_bool (by rw [Bool.eq_iff_iff]; simp [withinB]; omega), rfl⟩
        · go_enter Try.func89, Try.ntmps89
          go_wp2
          go_ret
          exact ⟨ret_bool (by simp [withinB]; omega), rfl⟩
      · go_enter Try.func89, Try.ntmps89
        go_wp2
        go_ret
        exact ⟨ret_bool (by simp [withinB]; omega), rfl⟩
    · go_enter Try.func89, Try.ntmps89
      go_wp2
      go_ret
      exact ⟨ret_bool (by simp [withinB]; omega), rfl⟩
  · go_enter Try.func89, Try.ntmps89
    go_wp2
    go_ret
    exact ⟨ret_bool (by simp [withinB]; omega), rfl⟩
set_option maxHeartbeats 400000 in
theorem rget_no (a : Option Addr) (len cap : Nat) (i s : Int) (w : World) (hl : len ≤ maxLen) (hno : withinB len i s = false) :
    Calls Try.prog 83 #[.slice a len cap, .int .i64 i, .int .i64 s] w fun e w' => e = .returned (.tuple #[.int .u64 0, .bool false]) ∧ w = w' := by
  go_enter Try.func83, Try.ntmps83
  go_wp2_with (go_at_call 89; refine (rwithin_any _ _ _ _ _ _ hl).mono ?_; rintro e w' ⟨rfl, rfl⟩)
  go_ret2
  exact ⟨rfl, rfl⟩
set_option maxHeartbeats 400000 in
theorem rget_yes (a : Option Addr) (len cap B : Nat) (i s : Nat) (xs : List Int) (w : World) (hl : len ≤ maxLen) (hlc : len ≤ cap) (hr : Rd w B a len xs) (h1 : 1 ≤ s) (h2 : s ≤ 8) (h3 : i + s ≤ len) :
    Calls Try.prog 83 #[.slice a len cap, .int .i64 i, .int .i64 s] w fun e w' => e = .returned (.tuple #[.int .u64 (num ((xs.drop i).take s)), .bool true]) ∧ w = w' := by
  obtain ⟨hx, hb, hc⟩ := hr
  obtain ⟨b, off, rfl, -, hcell⟩ := hc (by omega)
  have hw : withinB len i s = true := by simp [withinB]; omega
  have hl' := hl
  unfold maxLen at hl'
  have hsub : i + s - i = s := by omega
  have HX := Lib.hid hx
  have HC := Lib.hid hcell
  clear hx hcell hc
  go_enter Try.func83, Try.ntmps83
  go_wp2_with (go_at_call 89; refine (rwithin_any _ _ _ _ _ _ hl).mono ?_; rintro e w' ⟨rfl, rfl⟩)
  go_loop [8, 23] (fun n j => ∃ k : Nat, k ≤ s ∧ j = .int .i64 k ∧ n = .int .u64 (num ((xs.drop i).take k))) (fun _ j => s - (intOf j).toNat)
  case atStart => exact ⟨0, by omega, rfl, rfl⟩
  case round =>
    obtain ⟨k, hk, rfl, rfl⟩ := hrel
    by_cases hlt : k < s
    · obtain ⟨x, hck, hx0, hx1, HN⟩ : ∃ x : Int, w.cell? ⟨b, off + i + k, none⟩ = some (.int .u8 x) ∧ 0 ≤ x ∧ x ≤ 255 ∧ Hid (num ((xs.drop i).take (k + 1)) = num ((xs.drop i).take k) * 256 + x) :=
        ⟨_, by rw [Nat.add_assoc]; exact HC.out (i + k) (by omega), (hb.getD (i + k)).1, (hb.getD (i + k)).2, num_step xs i k (by rw [HX.out]; omega)⟩
      obtain ⟨m, hm⟩ : ∃ m, m = num ((xs.drop i).take k) := ⟨_, rfl⟩
      obtain ⟨hm0, hm1⟩ : 0 ≤ m ∧ m < 72057594037927936 := by
        rw [hm]; exact num_lt7 _ ((hb.drop i).take k) k (List.length_take_le _ _) (by omega)
      rw [← hm] at HN
      rw [← hm]
      clear hm
      go_wp2
      go_round
      case rel => exact ⟨k + 1, by omega, by go_num, by rw [HN.out]⟩
      case measure => simp [intOf]; omega
    · obtain rfl : k = s := by omega
      go_wp2
      go_ret2
      exact ⟨rfl, rfl⟩
set_option maxHeartbeats 400000 in
theorem most_any (s : Nat) (w : World) (h2 : s ≤ 8) :
    Calls Try.prog 74 #[.int .i64 s] w fun e w' => e = .returned (.int .u64 (256 ^ s - 1)) ∧ w = w' := by
  go_enter Try.func74, Try.ntmps74
  go_wp2
  go_loop [3, 4] (fun sn si => ∃ k : Nat, k ≤ s ∧ si = .int .i64 k ∧ sn = .int .u64 (256 ^ k - 1)) (fun _ si => s - (intOf si).toNat)
  case atStart => exact ⟨0, by omega, rfl, rfl⟩
  case round =>
    obtain ⟨k, hk, rfl, rfl⟩ := hrel
    by_cases hlt : k < s
    · obtain ⟨m, hm⟩ : ∃ m, m = (256 : Int) ^ k - 1 := ⟨_, rfl⟩
      obtain ⟨hm0, hm1⟩ : 0 ≤ m ∧ m < 72057594037927936 := by
        have h3 := pow_le7 k (by omega)
        have h4 := pow_pos k
        omega
      have HM := Lib.hid (most_step k)
      rw [← hm] at HM ⊢
      clear hm
      have hlt8 : (k : Int) < 8 := by omega
      go_wp2
      go_round
      case rel => exact ⟨k + 1, by omega, by go_num, by rw [HM.out]⟩
      case measure => simp [intOf]; omega
    · obtain rfl : k = s := by omega
      go_wp2
      go_ret
      exact ⟨rfl, rfl⟩
set_option maxHeartbeats 400000 in
theorem bytes_any (s : Nat) (v : Int) (w : World) (h1 : 1 ≤ s) (h2 : s ≤ 8) (hv : 0 ≤ v) (hv2 : v ≤ 18446744073709551615) :
    Calls Try.prog 59 #[.int .i64 s, .int .u64 v] w fun e w' => e = .returned (.slice (some ⟨w.heap.size, 0, none⟩) s s) ∧ Blk w' w.heap.size (be s v) [] ∧ Below w.heap.size w w' := by
  obtain ⟨i0, hi0, hz0, hz1, hz2⟩ := info_parts info5
  go_enter Try.func59, Try.ntmps59
  go_wp2_with (at_make; refine wpList_make_full _ rfl _ _ 36 rfl w.heap.size 5 i0 _ 1 Try.underlying36 hi0 hz0 hz1 .i64 .i64 _ _ s rfl rfl ?c1 ?c2 ?c3 ?c4 ?c5 ?_
               case c1 => omega
               case c2 => omega
               case c3 => rw [hz2]; omega
               case c4 => unfold maxLen; omega
               case c5 => exact Nat.le_refl _
               intro w1 hown1 hg1
               rw [bcells_zeros] at hown1
               have HO := Lib.hid (own_blk hown1 rfl)
               have hb1 : Below w.heap.size w w1 := (Below.refl _ _).grown hg1 (Nat.le_refl _) (by simp)
               clear hown1 hg1)
  go_loopw [1, 6] (fun sv si wx => ∃ i : Int, -1 ≤ i ∧ i < s ∧ si = .int .i64 i ∧ sv = .int .u64 (v / 256 ^ (s - (i + 1).toNat)) ∧ Blk wx w.heap.size (written (List.replicate s 0) 0 s (i + 1).toNat v) [] ∧ Below w.heap.size w wx)
    (fun _ si _ => (intOf si + 1).toNat)
  case atStart =>
    refine ⟨(s : Int) - 1, by omega, by omega, rfl, ?_, ?_, hb1⟩
    · rw [show ((s : Int) - 1 + 1).toNat = s from by omega]; simp
    · rw [show ((s : Int) - 1 + 1).toNat = s from by omega, written_full]; exact HO.out
  case round =>
    obtain ⟨i, hi1, hi2, rfl, rfl, hb, hgr⟩ := hrel
    have hfit : 0 + s ≤ (List.replicate s (0 : Int)).length := by simp
    by_cases hlt : 0 ≤ i
    · obtain ⟨j, rfl⟩ := Int.eq_ofNat_of_zero_le hlt
      rw [show ((j : Int) + 1).toNat = j + 1 from by omega] at hb ⊢
      have hc := hb.cell j (by rw [written_length _ _ _ _ _ hfit (by omega)]; simp; omega)
      have hf := hb.frozen j
      obtain ⟨q, hq⟩ : ∃ q, q = v / 256 ^ (s - (j + 1)) := ⟨_, rfl⟩
      have hq0 : 0 ≤ q := by rw [hq]; exact Int.ediv_nonneg hv (Int.le_of_lt (pow_pos _))
      have hq1 : q ≤ 18446744073709551615 := by
        have h5 : q ≤ v := by rw [hq]; exact Int.ediv_le_self _ hv
        omega
      rw [← hq]
      have HQ := Lib.hid hq
      clear hq
      go_wp2
      go_roundw
      case rel =>
        refine ⟨(j : Int) - 1, by omega, by omega, rfl, ?_, ?_, hgr.setCell (Nat.le_refl _) _⟩
        · rw [show ((j : Int) - 1 + 1).toNat = j from by omega, HQ.out, div_pow, show s - (j + 1) + 1 = s - j from by omega]
        · rw [show ((j : Int) - 1 + 1).toNat = j from by omega, ← written_step _ 0 s j v hfit (by omega), Nat.zero_add, HQ.out]
          exact hb.set_ _ (by rw [written_length _ _ _ _ _ hfit (by omega)]; simp; omega) _
      case measure => simp [intOf]
    · obtain rfl : i = -1 := by omega
      go_wp2
      go_ret
      refine ⟨rfl, ?_, hgr⟩
      simpa [written] using hb
set_option maxHeartbeats 1000000 in
theorem rappend_any (a : Option Addr) (len cap B : Nat) (s n : Int) (xs : List Int) (w : World) (hl : len ≤ 140737488351232) (hr : Rd w B a len xs) (hB : B ≤ w.heap.size) (hn : 0 ≤ n) (hn2 : n ≤ 18446744073709551615) :
    Calls Try.prog 62 #[.slice a len cap, .int .i64 s, .int .u64 n] w (NewRow w (numApp xs s n)) := by
  have HX := Lib.hid hr.1
  have fin0 : ∀ A c w1, Own w1 w.heap.size A len c xs → Below w.heap.size w w1 → NewRow w xs (.returned (.slice A len c)) w1 := by
    intro A c w1 ho hb
    have hx := HX.out
    subst hx
    exact ⟨A, c, rfl, ho, hb⟩
  rcases hsb : sizeB s with _ | _
  · have hv : numApp xs s n = xs := by simp [numApp, hsb]
    rw [hv]
    clear hv
    have hF := Lib.hid fin0
    clear fin0
    by_cases h1 : s < 1
    case' neg => have h8 : 8 < s := by simp [sizeB] at hsb; omega
    all_goals
      go_enter Try.func62, Try.ntmps62
      go_wp2_with (at_builtin; refine wpList_append_bytes rfl _ _ rfl w.heap.size B 0 0 len cap len none a [] xs xs (Nat.zero_add _) rfl rfl rfl (Own.nil _ _) hr (Nat.le_refl _) (by omega) ?_; intro A c w1 ho hb)
      go_ret
      exact hF.out A c w1 ho hb
  · have hs : 1 ≤ s ∧ s ≤ 8 := by simp [sizeB] at hsb; omega
    obtain ⟨s, rfl⟩ := Int.eq_ofNat_of_zero_le (show 0 ≤ s from by omega)
    have hs1 : ¬ ((s : Int) < 1) := by omega
    have hs8 : ¬ ((8 : Int) < (s : Int)) := by omega
    rcases hf : fitsB s n with _ | _
    · have hv : numApp xs s n = xs := by simp [numApp, hsb, hf]
      rw [hv]
      clear hv
      have hF := Lib.hid fin0
      clear fin0
      have hm : decide ((256 : Int) ^ s - 1 < n) = true := by rw [fitsB_most, hf]; rfl
      go_enter Try.func62, Try.ntmps62
      go_wp2_with (first
        | (at_builtin; refine wpList_append_bytes rfl _ _ rfl w.heap.size B 0 0 len cap len none a [] xs xs (Nat.zero_add _) rfl rfl rfl (Own.nil _ _) hr (Nat.le_refl _) (by omega) ?_; intro A c w1 ho hb)
        | (go_at_call 74; refine (most_any _ _ (by omega)).mono ?_; rintro e w' ⟨rfl, rfl⟩))
      go_ret
      exact hF.out A c w1 ho hb
    · have hv : numApp xs s n = xs ++ be s n := by simp [numApp, hsb, hf]
      have hm : decide ((256 : Int) ^ s - 1 < n) = false := by rw [fitsB_most, hf]; rfl
      have hF : Hid (∀ A c w1, Own w1 w.heap.size A (len + s) c (xs ++ be s n) → Below w.heap.size w w1 → NewRow w (xs ++ be s n) (.returned (.slice A (len + s) c)) w1) := by
        intro A c w1 ho hb
        have e : len + s = (xs ++ be s n).length := by rw [List.length_append, be_length, HX.out]
        rw [e] at ho
        rw [e]
        exact ⟨A, c, rfl, ho, hb⟩
      rw [hv]
      clear hv fin0
      go_enter Try.func62, Try.ntmps62
      go_wp2_with (first
        | (at_builtin; refine wpList_append_bytes rfl (.const (.slice none 0 0)) (.tmp 8) rfl w.heap.size B 0 0 len cap len none a [] xs xs (Nat.zero_add _) rfl rfl rfl (Own.nil _ _) hr (Nat.le_refl _) (by omega) ?_; intro A c w1 ho hb)
        | (go_at_call 74; refine (most_any _ _ (by omega)).mono ?_; rintro e w' ⟨rfl, rfl⟩)
        | (go_at_call 59; refine (bytes_any _ _ _ (by omega) (by omega) hn hn2).mono ?_; rintro e w2 ⟨rfl, hk2, hb2⟩)
        | (at_builtin; refine wpList_append_bytes rfl (.tmp 23) (.tmp 26) rfl w.heap.size w2.heap.size len c s s (len + s) A _ xs (be s n) (xs ++ be s n) rfl rfl rfl rfl (ho.below hb2 (Nat.le_refl _)) (hk2.rd (be_bytes _ _) (be_length _ _)) (Nat.le_trans hb.size hb2.size) (by omega) ?_; intro A' c' w3 ho3 hb3))
      go_ret
      exact hF.out A' c' w3 ho3 ((hb.trans (hb2.mono hb.size)).trans hb3)
theorem rget_any (a : Option Addr) (len cap B : Nat) (i s : Int) (xs : List Int) (w : World) (hl : len ≤ maxLen) (hlc : len ≤ cap) (hr : Rd w B a len xs) :
    Calls Try.prog 83 #[.slice a len cap, .int .i64 i, .int .i64 s] w fun e w' => e = .returned (.tuple #[.int .u64 (numGet xs i s), .bool (withinB len i s)]) ∧ w = w' := by
  unfold numGet
  rw [hr.1]
  rcases hw : withinB len i s with _ | _
  · rw [if_neg (by simp)]; exact rget_no a len cap i s w hl hw
  · rw [if_pos rfl]
    simp only [withinB, decide_eq_true_eq] at hw
    obtain ⟨i', rfl⟩ := Int.eq_ofNat_of_zero_le hw.2.2.1
    obtain ⟨s', rfl⟩ := Int.eq_ofNat_of_zero_le (show 0 ≤ s from by omega)
    exact rget_yes a len cap B i' s' xs w hl hlc hr (by omega) (by omega) (by omega)
end Go.Proofs.Ytdnnfoacpjgloaa.R1
