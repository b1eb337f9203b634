/- The contracts of rtp.number, words, copied, headErr, padding. -/
import Derived.Test.YtiamdaeodkiccaaKa
import Derived.Test.YtiamdaeodkiccaaXg
import Derived.Test.YtiamdaeodkiccaaXw
namespace Go.Proofs.Ytiamdaeodkiccaa.Rtp
open Go.RowKit
set_option linter.unusedVariables false

set_option maxHeartbeats 400000 in
theorem number_any (a : Option Addr) (len cap B : Nat) (i s : Int) (xs : List Int) (w : World) (hl : len ≤ maxLen) (hlc : len ≤ cap) (hr : Rd w B a len xs) :
    Calls Try.prog 28 #[.slice a len cap, .int .i64 i, .int .i64 s] w fun e w' => e = .returned (.int .u64 (numGet xs i s)) ∧ w = w' := by
  have C := Fld.get_any a len cap B i s xs w hl hlc hr
  generalize numGet xs i s = n at C ⊢
  generalize withinB len i s = k at C
  have HC := Lib.hid C
  clear C
  go_enter Try.func28, Try.ntmps28
  go_wp2_with fail
  refine HC.out.mono ?_
  rintro e w' ⟨rfl, rfl⟩
  go_wp2
  go_ret
  exact ⟨rfl, rfl⟩
/-- Of bytes that are all there. -/
theorem numGet_nb (xs : List Int) (i s : Nat) (h1 : 1 ≤ s) (h2 : s ≤ 8) (h3 : i + s ≤ xs.length) : numGet xs i s = nb xs i s := by
  have hw : withinB xs.length i s = true := by simp [withinB]; omega
  rw [numGet, hw, if_pos rfl]; rfl
theorem number_nb (a : Option Addr) (len cap B : Nat) (i s : Nat) (xs : List Int) (w : World) (hl : len ≤ maxLen) (hlc : len ≤ cap) (hr : Rd w B a len xs) (h1 : 1 ≤ s) (h2 : s ≤ 8) (h3 : i + s ≤ len) :
    Calls Try.prog 28 #[.slice a len cap, .int .i64 i, .int .i64 s] w fun e w' => e = .returned (.int .u64 (nb xs i s)) ∧ w = w' := by
  rw [← numGet_nb xs i s h1 h2 (by rw [hr.1]; exact h3)]
  exact number_any a len cap B i s xs w hl hlc hr

theorem copied_any (a : Option Addr) (len cap B : Nat) (xs : List Int) (w : World) (hl : len ≤ 140737488351232) (hr : Rd w B a len xs) :
    Calls Try.prog 30 #[.slice a len cap] w (NewRow w xs) := by
  have fin0 : Hid (∀ A c w1, Own w1 w.heap.size A len c xs → Below w.heap.size w w1 → NewRow w xs (.returned (.slice A len c)) w1) := by
    intro A c w1 ho hb
    have hx := hr.1
    subst hx
    exact ⟨A, c, rfl, ho, hb⟩
  go_enter Try.func30, Try.ntmps30
  go_wp2_with (at_builtin; refine wpList_append_bytes rfl (.const (.slice none 0 0)) (.tmp 3) rfl w.heap.size B 0 0 len cap len none a [] xs xs (Nat.zero_add _) rfl rfl rfl (Own.nil _ _) hr (Nat.le_refl _) (by omega) ?_; intro A c w1 ho hb)
  go_ret
  exact fin0.out A c w1 ho hb

/-- A new row of 32-bit numbers. -/
def NewW (w : World) (ys : List Int) (e : Ending) (w' : World) : Prop := ∃ A c, e = .returned (.slice A ys.length c) ∧ OwnW w' w.heap.size A ys.length c ys ∧ Below w.heap.size w w'

set_option maxHeartbeats 1000000 in
theorem words_any (a : Option Addr) (n cap B : Nat) (xs : List Int) (w : World) (hn : n ≤ 15) (hlc : 4 * n ≤ cap) (hr : Rd w B a (4 * n) xs) (hB : B ≤ w.heap.size) :
    Calls Try.prog 29 #[.slice a ((4 * n : Nat) : Int).toNat cap] w (NewW w (wordsAt xs 0 n)) := by
  obtain ⟨L, hL⟩ : ∃ L, 4 * n = L := ⟨_, rfl⟩
  have CN : Hid (∀ W k, Below w.heap.size w W → k < n → Calls Try.prog 28 #[.slice a L cap, .int .i64 ((4 * k : Nat) : Int), .int .i64 4] W fun e w' => e = .returned (.int .u64 (nb xs (4 * k) 4)) ∧ W = w') := fun W k hW hk => by
    have := number_nb a L cap B (4 * k) 4 xs W (by unfold maxLen; omega) (by omega) (by rw [← hL]; exact hr.below (hW.mono hB)) (by omega) (by omega) (by omega)
    exact this
  have HB : Hid (∀ k, 0 ≤ nb xs (4 * k) 4 ∧ nb xs (4 * k) 4 ≤ 4294967295) := fun k => by
    have := nb_bd xs hr.2.1 (4 * k) 4
    omega
  have fin0 : Hid (∀ A c w1, OwnW w1 w.heap.size A n c (wordsAt xs 0 n) → Below w.heap.size w w1 → NewW w (wordsAt xs 0 n) (.returned (.slice A n c)) w1) := by
    intro A c w1 ho hb
    have hx := ho.1
    generalize wordsAt xs 0 n = ys at *
    subst hx
    exact ⟨A, c, rfl, ho, hb⟩
  rw [Int.toNat_natCast, hL]
  clear hr
  go_enter Try.func29, Try.ntmps29
  go_wp2
  go_loopw [3, 4] (fun sl sa wx => ∃ k A c, k ≤ n ∧ sa = .int .i64 ((4 * k : Nat) : Int) ∧ sl = .slice A k c ∧ OwnW wx w.heap.size A k c (wordsAt xs 0 k) ∧ Below w.heap.size w wx)
    (fun _ sa _ => L - (intOf sa).toNat)
  case atStart => exact ⟨0, none, 0, by omega, rfl, rfl, OwnW.nil _ _, Below.refl _ _⟩
  case round =>
    obtain ⟨k, A, c, hk, rfl, rfl, ho, hb⟩ := hrel
    rename World => wx
    by_cases hlt : k < n
    · have C := CN.out wx k hb hlt
      have b := HB.out k
      have e := wordsAt_snoc xs 0 k
      rw [Nat.zero_add] at e
      generalize nb xs (4 * k) 4 = m at C b e
      have HE := Lib.hid e
      have HC := Lib.hid C
      clear e C
      obtain ⟨j, hj⟩ : ∃ j, 4 * k = j := ⟨_, rfl⟩
      have hjl : j < L := by omega
      rw [hj] at HC
      simp only [hj]
      have q : IntKind.u32.wrap m = m := by simp [IntKind.wrap, IntKind.bits, IntKind.signed]; omega
      go_wp2_with fail
      refine HC.out.mono ?_
      rintro e w' ⟨rfl, rfl⟩
      have HW := alloc_w1 wx m
      have hwx : Below w.heap.size w (wx.alloc (.cells #[.int .u32 m] 23)) := hb.alloc hb.size _
      go_wp2_with (at_builtin; refine wpList_append_words rfl (.tmp 11) (.tmp 16) rfl w.heap.size _ k c 1 1 (k + 1) A _ (wordsAt xs 0 k) [m] (wordsAt xs 0 (k + 1)) rfl HE.out.symm rfl rfl (ho.below ((Below.refl wx.heap.size wx).alloc (Nat.le_refl _) _) (Nat.le_refl _)) (HW.rd (by intro x hx; simp at hx; omega) rfl) hwx.size (by omega) ?_; intro A' c' w3 ho3 hb3)
      go_roundw
      case rel => exact ⟨k + 1, A', c', by omega, by rw [show 4 * (k + 1) = j + 4 from by omega]; go_num, rfl, ho3, hwx.trans hb3⟩
      case measure => simp [intOf]; omega
    · obtain rfl : k = n := by omega
      rw [hL]
      go_wp2
      go_ret
      exact fin0.out A c wx ho hb
end Go.Proofs.Ytiamdaeodkiccaa.Rtp
