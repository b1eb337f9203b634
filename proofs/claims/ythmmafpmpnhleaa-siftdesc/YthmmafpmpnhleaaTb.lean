/- Copies: the contracts of sift.copied (of bytes, words, blocks, pairs, items), of copiedPacket, of copiedItems. -/
import Derived.Test.YthmmafpmpnhleaaKg
import Derived.Test.YthmmafpmpnhleaaXt
import Derived.Test.YthmmafpmpnhleaaVn
import Derived.Handy
set_option maxRecDepth 100000
namespace Go.Proofs.Ythmmafpmpnhleaa.Sft
open Go.RowKit
open Rtp (PV pkt pobj PBlk pvOf PRd zpv)
open Fbk (ILoc ItsRd ItsOwn its IRd INe w32L bloL pairL itmL ivC ivOf)
set_option linter.unusedVariables false

def RetRow {α : Type} (L : Lay α) (w : World) (xs : List α) (e : Ending) (w' : World) : Prop := ∃ A c, e = .returned (.slice A xs.length c) ∧ RowOwn L w' w.heap.size A xs.length c xs ∧ Below w.heap.size w w'
theorem wd_rowRd {w : World} {B n : Nat} {a : Option Addr} {xs : List Int} (h : Wd w B a n xs) : RowRd w32L w B a n xs :=
  ⟨h.1, fun hn => by
    obtain ⟨b, off, e, hlt, hc⟩ := h.2.2 hn
    refine ⟨b, off, e, hlt, fun i x hx j v hv => ?_⟩
    have hi := (List.getElem?_eq_some_iff.1 hx).1
    have hq := hc i (by rw [← h.1]; exact hi)
    rw [List.getD_eq_getElem?_getD, hx] at hq
    match j with
    | 0 =>
      obtain rfl : Value.int .u32 x = v := Option.some.inj hv
      rw [show off + i * w32L.s + 0 = off + i from by show off + i * 1 + 0 = _; omega]; exact hq
    | j + 1 => simp [w32L] at hv⟩
theorem _root_.Go.Proofs.Ythmmafpmpnhleaa.Own.setOff {w : World} {base n c b i : Nat} {A : Option Addr} {xs : List Int} (h : Own w base A n c xs) (hb : b < base) (u : Value) : Own (w.setCell ⟨b, i, none⟩ u) base A n c xs := by
  obtain ⟨h1, h2, h3, h4, h5⟩ := h
  refine ⟨h1, h2, h3, h4, ?_⟩
  rcases h5 with h5 | ⟨g, T, rfl, hg, hk, hl⟩
  · exact .inl h5
  · exact .inr ⟨g, T, rfl, hg, (Below.heap_setCell w ⟨b, i, none⟩ u g (by show g ≠ b; omega)).trans hk, hl⟩

theorem copy8_any (a : Option Addr) (n c B : Nat) (xs : List Int) (w : World) (hl : n ≤ 140737488351232) (hr : Rd w B a n xs) :
    Calls Try.prog 57 #[.slice a n c] w (NewRow w xs) := by
  have fin0 : Hid (∀ A c w1, Own w1 w.heap.size A n c xs → Below w.heap.size w w1 → NewRow w xs (.returned (.slice A n c)) w1) := by
    intro A c w1 ho hb
    have hx := hr.1
    subst hx
    exact ⟨A, c, rfl, ho, hb⟩
  go_enter Try.func57, Try.ntmps57
  go_wp2_with (at_builtin; refine wpList_append_bytes rfl (.const (.slice none 0 0)) (.tmp 3) rfl w.heap.size B 0 0 n c n none a [] xs xs (Nat.zero_add _) rfl rfl rfl (Own.nil _ _) hr (Nat.le_refl _) (by omega) ?_; intro A c w1 ho hb)
  go_ret
  exact fin0.out A c w1 ho hb

theorem copyW_any (a : Option Addr) (n c B : Nat) (xs : List Int) (w : World) (hl : n * 4 ≤ 140737488355328) (hr : RowRd w32L w B a n xs) :
    Calls Try.prog 56 #[.slice a n c] w (RetRow w32L w xs) := by
  obtain ⟨i0, hi0, hz0, hz1, hz2⟩ := info_parts Fbk.info_w32
  have fin0 : Hid (∀ A c w1, RowOwn w32L w1 w.heap.size A n c xs → Below w.heap.size w w1 → RetRow w32L w xs (.returned (.slice A n c)) w1) := by
    intro A c w1 ho hb
    have hx := hr.1
    subst hx
    exact ⟨A, c, rfl, ho, hb⟩
  go_enter Try.func56, Try.ntmps56
  go_wp2_with (at_builtin; refine wpList_append_all (L := w32L) rfl (.const (.slice none 0 0)) (.tmp 3) rfl Try.underlying31 hi0 hz0 hz1 hz2 rfl xs (Nat.zero_add _) rfl rfl rfl (RowOwn.nil _ _) hr (Nat.le_refl _) (by unfold maxLen; omega) (by omega) ?_; intro A c w1 ho hb)
  go_ret
  exact fin0.out A c w1 ho hb

theorem copyB_any (a : Option Addr) (n c B : Nat) (xs : List Blo) (w : World) (hl : n * 28 ≤ 140737488355328) (hr : RowRd bloL w B a n xs) :
    Calls Try.prog 59 #[.slice a n c] w (RetRow bloL w xs) := by
  obtain ⟨i0, hi0, hz0, hz1, hz2⟩ := info_parts Fbk.info_blo
  have fin0 : Hid (∀ A c w1, RowOwn bloL w1 w.heap.size A n c xs → Below w.heap.size w w1 → RetRow bloL w xs (.returned (.slice A n c)) w1) := by
    intro A c w1 ho hb
    have hx := hr.1
    subst hx
    exact ⟨A, c, rfl, ho, hb⟩
  go_enter Try.func59, Try.ntmps59
  go_wp2_with (at_builtin; refine wpList_append_all (L := bloL) rfl (.const (.slice none 0 0)) (.tmp 3) rfl Try.underlying65 hi0 hz0 hz1 hz2 rfl xs (Nat.zero_add _) rfl rfl rfl (RowOwn.nil _ _) hr (Nat.le_refl _) (by unfold maxLen; omega) (by omega) ?_; intro A c w1 ho hb)
  go_ret
  exact fin0.out A c w1 ho hb

theorem copyP_any (a : Option Addr) (n c B : Nat) (xs : List (Int × Int)) (w : World) (hl : n * 4 ≤ 140737488355328) (hr : RowRd pairL w B a n xs) :
    Calls Try.prog 60 #[.slice a n c] w (RetRow pairL w xs) := by
  obtain ⟨i0, hi0, hz0, hz1, hz2⟩ := info_parts Fbk.info_pair
  have fin0 : Hid (∀ A c w1, RowOwn pairL w1 w.heap.size A n c xs → Below w.heap.size w w1 → RetRow pairL w xs (.returned (.slice A n c)) w1) := by
    intro A c w1 ho hb
    have hx := hr.1
    subst hx
    exact ⟨A, c, rfl, ho, hb⟩
  go_enter Try.func60, Try.ntmps60
  go_wp2_with (at_builtin; refine wpList_append_all (L := pairL) rfl (.const (.slice none 0 0)) (.tmp 3) rfl Try.underlying66 hi0 hz0 hz1 hz2 rfl xs (Nat.zero_add _) rfl rfl rfl (RowOwn.nil _ _) hr (Nat.le_refl _) (by unfold maxLen; omega) (by omega) ?_; intro A c w1 ho hb)
  go_ret
  exact fin0.out A c w1 ho hb

theorem copyI_any (a : Option Addr) (n c B : Nat) (xs : List (Itm × ILoc)) (w : World) (hl : n * 120 ≤ 140737488355328) (hr : RowRd itmL w B a n xs) :
    Calls Try.prog 58 #[.slice a n c] w (RetRow itmL w xs) := by
  obtain ⟨i0, hi0, hz0, hz1, hz2⟩ := info_parts Fbk.info_item
  have fin0 : Hid (∀ A c w1, RowOwn itmL w1 w.heap.size A n c xs → Below w.heap.size w w1 → RetRow itmL w xs (.returned (.slice A n c)) w1) := by
    intro A c w1 ho hb
    have hx := hr.1
    subst hx
    exact ⟨A, c, rfl, ho, hb⟩
  go_enter Try.func58, Try.ntmps58
  go_wp2_with (at_builtin; refine wpList_append_all (L := itmL) rfl (.const (.slice none 0 0)) (.tmp 3) rfl Try.underlying36 hi0 hz0 hz1 hz2 rfl xs (Nat.zero_add _) rfl rfl rfl (RowOwn.nil _ _) hr (Nat.le_refl _) (by unfold maxLen; omega) (by omega) ?_; intro A c w1 ho hb)
  go_ret
  exact fin0.out A c w1 ho hb
end Go.Proofs.Ythmmafpmpnhleaa.Sft
