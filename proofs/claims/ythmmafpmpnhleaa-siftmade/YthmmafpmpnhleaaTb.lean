/- Copies: the contracts of sift.copied (of bytes, words, blocks, pairs, items), of copiedPacket, of copiedItems. · The contract of sift.copiedPacket. · The contract of sift.copiedItems. -/
import Derived.Test.YthmmafpmpnhleaaKg
import Derived.Test.YthmmafpmpnhleaaXt
import Derived.Test.YthmmafpmpnhleaaVn
import Derived.Handy
import Derived.Test.YthmmafpmpnhleaaKn
set_option maxRecDepth 100000
namespace Go.Proofs.Ythmmafpmpnhleaa.Sft
open Go.RowKit
open Rtp (PV pkt pobj PBlk pvOf PRd zpv)
open Fbk (ILoc ItsRd ItsOwn its IRd INe w32L bloL pairL itmL ivC ivOf)
set_option linter.unusedVariables false

def RetRow {α : Type} (L : Lay α) (w : World) (xs : List α) (e : Ending) (w' : World) : Prop := ∃ A c, e = .returned (.slice A xs.length c) ∧ RowOwn L w' w.heap.size A xs.length c xs ∧ Below w.heap.size w w'
theorem wd_rowRd {w : World} {B n : Nat} {a : Option Addr} {xs : List Int} (h : Wd w B a n xs) : RowRd w32L w B a n xs :=
  ⟨h.1, fun hn => by
    obtain ⟨b, off, e, hlt, hc⟩ := h.2.2 hn
    refine ⟨b, off, e, hlt, fun i x hx j v hv => ?_⟩
    have hi := (List.getElem?_eq_some_iff.1 hx).1
    have hq := hc i (by rw [← h.1]; exact hi)
    rw [List.getD_eq_getElem?_getD, hx] at hq
    match j with
    | 0 =>
      obtain rfl : Value.int .u32 x = v := Option.some.inj hv
      rw [show off + i * w32L.s + 0 = off + i from by show off + i * 1 + 0 = _; omega]; exact hq
    | j + 1 => simp [w32L] at hv⟩
theorem _root_.Go.Proofs.Ythmmafpmpnhleaa.Own.setOff {w : World} {base n c b i : Nat} {A : Option Addr} {xs : List Int} (h : Own w base A n c xs) (hb : b < base) (u : Value) : Own (w.setCell ⟨b, i, none⟩ u) base A n c xs := by
  obtain ⟨h1, h2, h3, h4, h5⟩ := h
  refine ⟨h1, h2, h3, h4, ?_⟩
  rcases h5 with h5 | ⟨g, T, rfl, hg, hk, hl⟩
  · exact .inl h5
  · exact .inr ⟨g, T, rfl, hg, (Below.heap_setCell w ⟨b, i, none⟩ u g (by show g ≠ b; omega)).trans hk, hl⟩

theorem copy8_any (a : Option Addr) (n c B : Nat) (xs : List Int) (w : World) (hl : n ≤ 140737488351232) (hr : Rd w B a n xs) :
    Calls Try.prog 57 #[.slice a n c] w (NewRow w xs) := by
  have fin0 : Hid (∀ A c w1, Own w1 w.heap.size A n c xs → Below w.heap.size w w1 → NewRow w xs (.returned (.slice A n c)) w1) := by
    intro A c w1 ho hb
    have hx := hr.1
    subst hx
    exact ⟨A, c, rfl, ho, hb⟩
  go_enter Try.func57, Try.ntmps57
  go_wp2_with (at_builtin; refine wpList_append_bytes rfl (.const (.slice none 0 0)) (.tmp 3) rfl w.heap.size B 0 0 n c n none a [] xs xs (Nat.zero_add _) rfl rfl rfl (Own.nil _ _) hr (Nat.le_refl _) (by omega) ?_; intro A c w1 ho hb)
  go_ret
  exact fin0.out A c w1 ho hb

theorem copyW_any (a : Option Addr) (n c B : Nat) (xs : List Int) (w : World) (hl : n * 4 ≤ 140737488355328) (hr : RowRd w32L w B a n xs) :
    Calls Try.prog 56 #[.slice a n c] w (RetRow w32L w xs) := by
  obtain ⟨i0, hi0, hz0, hz1, hz2⟩ := info_parts Fbk.info_w32
  have fin0 : Hid (∀ A c w1, RowOwn w32L w1 w.heap.size A n c xs → Below w.heap.size w w1 → RetRow w32L w xs (.returned (.slice A n c)) w1) := by
    intro A c w1 ho hb
    have hx := hr.1
    subst hx
    exact ⟨A, c, rfl, ho, hb⟩
  go_enter Try.func56, Try.ntmps56
  go_wp2_with (at_builtin; refine wpList_append_all (L := w32L) rfl (.const (.slice none 0 0)) (.tmp 3) rfl Try.underlying31 hi0 hz0 hz1 hz2 rfl xs (Nat.zero_add _) rfl rfl rfl (RowOwn.nil _ _) hr (Nat.le_refl _) (by unfold maxLen; omega) (by omega) ?_; intro A c w1 ho hb)
  go_ret
  exact fin0.out A c w1 ho hb

theorem copyB_any (a : Option Addr) (n c B : Nat) (xs : List Blo) (w : World) (hl : n * 28 ≤ 140737488355328) (hr : RowRd bloL w B a n xs) :
    Calls Try.prog 59 #[.slice a n c] w (RetRow bloL w xs) := by
  obtain ⟨i0, hi0, hz0, hz1, hz2⟩ := info_parts Fbk.info_blo
  have fin0 : Hid (∀ A c w1, RowOwn bloL w1 w.heap.size A n c xs → Below w.heap.size w w1 → RetRow bloL w xs (.returned (.slice A n c)) w1) := by
    intro A c w1 ho hb
    have hx := hr.1
    subst hx
    exact ⟨A, c, rfl, ho, hb⟩
  go_enter Try.func59, Try.ntmps59
  go_wp2_with (at_builtin; refine wpList_append_all (L := bloL) rfl (.const (.slice none 0 0)) (.tmp 3) rfl Try.underlying65 hi0 hz0 hz1 hz2 rfl xs (Nat.zero_add _) rfl rfl rfl (RowOwn.nil _ _) hr (Nat.le_refl _) (by unfold maxLen; omega) (by omega) ?_; intro A c w1 ho hb)
  go_ret
  exact fin0.out A c w1 ho hb

theorem copyP_any (a : Option Addr) (n c B : Nat) (xs : List (Int × Int)) (w : World) (hl : n * 4 ≤ 140737488355328) (hr : RowRd pairL w B a n xs) :
    Calls Try.prog 60 #[.slice a n c] w (RetRow pairL w xs) := by
  obtain ⟨i0, hi0, hz0, hz1, hz2⟩ := info_parts Fbk.info_pair
  have fin0 : Hid (∀ A c w1, RowOwn pairL w1 w.heap.size A n c xs → Below w.heap.size w w1 → RetRow pairL w xs (.returned (.slice A n c)) w1) := by
    intro A c w1 ho hb
    have hx := hr.1
    subst hx
    exact ⟨A, c, rfl, ho, hb⟩
  go_enter Try.func60, Try.ntmps60
  go_wp2_with (at_builtin; refine wpList_append_all (L := pairL) rfl (.const (.slice none 0 0)) (.tmp 3) rfl Try.underlying66 hi0 hz0 hz1 hz2 rfl xs (Nat.zero_add _) rfl rfl rfl (RowOwn.nil _ _) hr (Nat.le_refl _) (by unfold maxLen; omega) (by omega) ?_; intro A c w1 ho hb)
  go_ret
  exact fin0.out A c w1 ho hb

theorem copyI_any (a : Option Addr) (n c B : Nat) (xs : List (Itm × ILoc)) (w : World) (hl : n * 120 ≤ 140737488355328) (hr : RowRd itmL w B a n xs) :
    Calls Try.prog 58 #[.slice a n c] w (RetRow itmL w xs) := by
  obtain ⟨i0, hi0, hz0, hz1, hz2⟩ := info_parts Fbk.info_item
  have fin0 : Hid (∀ A c w1, RowOwn itmL w1 w.heap.size A n c xs → Below w.heap.size w w1 → RetRow itmL w xs (.returned (.slice A n c)) w1) := by
    intro A c w1 ho hb
    have hx := hr.1
    subst hx
    exact ⟨A, c, rfl, ho, hb⟩
  go_enter Try.func58, Try.ntmps58
  go_wp2_with (at_builtin; refine wpList_append_all (L := itmL) rfl (.const (.slice none 0 0)) (.tmp 3) rfl Try.underlying36 hi0 hz0 hz1 hz2 rfl xs (Nat.zero_add _) rfl rfl rfl (RowOwn.nil _ _) hr (Nat.le_refl _) (by unfold maxLen; omega) (by omega) ?_; intro A c w1 ho hb)
  go_ret
  exact fin0.out A c w1 ho hb
end Go.Proofs.Ythmmafpmpnhleaa.Sft

namespace Go.Proofs.Ythmmafpmpnhleaa.Sft
open Go.RowKit
open Rtp (PV pkt pobj PBlk pvOf PRd zpv)
open Fbk (w32L)
set_option linter.unusedVariables false

/-- A packet of the call's own. -/
def RetK (w : World) (p : Pkt) (e : Ending) (w' : World) : Prop := ∃ lc, e = .returned (pkt (pvOf p lc)) ∧ PRd w' w'.heap.size p lc ∧ Rtp.PNw w.heap.size p lc ∧ Below w.heap.size w w'
section
variable {w : World} {b : Nat} {v : PV}
theorem _root_.Go.Proofs.Ythmmafpmpnhleaa.Rtp.PBlk.cp5 (h : PBlk w b v) (A : Option Addr) (c : Nat) : PBlk (w.setCell ⟨b, 5, none⟩ (.slice A v.cn c)) b { v with ca := A, cc := c } := by
  have := heap_setCell_same w b 5 _ 33 (.slice A v.cn c) h
  simp only [List.setIfInBounds_toArray, List.set_cons_zero, List.set_cons_succ] at this
  exact this
theorem _root_.Go.Proofs.Ythmmafpmpnhleaa.Rtp.PBlk.cp8 (h : PBlk w b v) (A : Option Addr) (c : Nat) : PBlk (w.setCell ⟨b, 8, none⟩ (.slice A v.en c)) b { v with ea := A, ec := c } := by
  have := heap_setCell_same w b 8 _ 33 (.slice A v.en c) h
  simp only [List.setIfInBounds_toArray, List.set_cons_zero, List.set_cons_succ] at this
  exact this
theorem _root_.Go.Proofs.Ythmmafpmpnhleaa.Rtp.PBlk.cp9 (h : PBlk w b v) (A : Option Addr) (c : Nat) : PBlk (w.setCell ⟨b, 9, none⟩ (.slice A v.pn c)) b { v with pa := A, pc := c } := by
  have := heap_setCell_same w b 9 _ 33 (.slice A v.pn c) h
  simp only [List.setIfInBounds_toArray, List.set_cons_zero, List.set_cons_succ] at this
  exact this
theorem _root_.Go.Proofs.Ythmmafpmpnhleaa.Rtp.PBlk.cpB {g i : Nat} (h : PBlk w b v) (hg : b ≠ g) (u : Value) : PBlk (w.setCell ⟨g, i, none⟩ u) b v := (Below.heap_setCell w ⟨g, i, none⟩ u b hg).trans h
end
theorem _root_.Go.Proofs.Ythmmafpmpnhleaa.Own.offB {w w' : World} {base n c b : Nat} {A : Option Addr} {xs : List Int} (h : Own w base A n c xs) (hb : b < base) (ho : Rtp.Off b w w') : Own w' base A n c xs := by
  obtain ⟨h1, h2, h3, h4, h5⟩ := h
  refine ⟨h1, h2, h3, h4, ?_⟩
  rcases h5 with h5 | ⟨g, T, rfl, hg, hk, hl⟩
  · exact .inl h5
  · exact .inr ⟨g, T, rfl, hg, (ho g (by omega)).trans hk, hl⟩
theorem _root_.Go.Proofs.Ythmmafpmpnhleaa.RowOwn.offB {α : Type} {L : Lay α} {w w' : World} {base n c b : Nat} {A : Option Addr} {xs : List α} (h : RowOwn L w base A n c xs) (hb : b < base) (ho : Rtp.Off b w w') : RowOwn L w' base A n c xs :=
  h.keepB fun g hg _ => ho g (by omega)
theorem _root_.Go.Proofs.Ythmmafpmpnhleaa.RowRd.len' {α : Type} {L : Lay α} {w : World} {B n m : Nat} {A : Option Addr} {xs : List α} (h : RowRd L w B A n xs) (hm : m = n) : RowRd L w B A m xs := hm ▸ h
theorem _root_.Go.Proofs.Ythmmafpmpnhleaa.Rd.len' {w : World} {B n m : Nat} {A : Option Addr} {xs : List Int} (h : Rd w B A n xs) (hm : m = n) : Rd w B A m xs := hm ▸ h
theorem _root_.Go.Proofs.Ythmmafpmpnhleaa.RowOwn.at_ {α : Type} {L : Lay α} {w : World} {base n c : Nat} {A : Option Addr} {xs : List α} (h : RowOwn L w base A n c xs) (hn : 0 < n) : ∃ a, A = some a ∧ base ≤ a.block := by
  rcases h.2.2.2 with ⟨-, e, -⟩ | ⟨g, T, rfl, hg, -⟩
  · omega
  · exact ⟨_, rfl, hg⟩
theorem _root_.Go.Proofs.Ythmmafpmpnhleaa.Own.at_ {w : World} {base n c : Nat} {A : Option Addr} {xs : List Int} (h : Own w base A n c xs) (hn : 0 < n) : ∃ a, A = some a ∧ base ≤ a.block := by
  rcases h.2.2.2.2 with ⟨-, e, -⟩ | ⟨g, T, rfl, hg, -⟩
  · omega
  · exact ⟨_, rfl, hg⟩
theorem retK_at {W : World} {b : Nat} {v : PV} {tmps : Array Value} {R : Ending → World → Prop} (D : PBlk W b v) (hR : R (.returned (pkt v)) W) (h2 : tmps[2]?.getD undef = .pointer (some ⟨b, 0, none⟩) := by rfl) :
    bodyPost Try.prog Try.f29 R .ret ⟨tmps, []⟩ W := by
  obtain ⟨c0, c1, c2, c3, c4, c5, c6, c7, c8, c9, c10⟩ := D.cells
  exact bodyPost_ret (v := pkt v) (by simp [results, Try.results29, go_sem, h2, c0, c1, c2, c3, c4, c5, c6, c7, c8, c9, c10]) rfl hR

set_option maxHeartbeats 4000000 in
theorem copiedPacket_any (w : World) (B : Nat) (p : Pkt) (lc : Rtp.Loc) (h : PRd w B p lc) (hB : B ≤ w.heap.size) (hc : p.csrc.length * 4 ≤ 140737488355328) :
    Calls Try.prog 29 #[pkt (pvOf p lc)] w (RetK w p) := by
  obtain ⟨v, hv⟩ : ∃ v, pvOf p lc = v := ⟨_, rfl⟩
  rw [hv]
  have CW : Hid (∀ W, Below w.heap.size w W → Calls Try.prog 56 #[.slice v.ca v.cn v.cc] W (RetRow w32L W p.csrc)) := fun W hW => by
    subst hv; exact copyW_any _ _ _ B _ W hc (wd_rowRd (h.csrc.below (hW.mono hB)))
  have CE : Hid (∀ W, Below w.heap.size w W → Calls Try.prog 57 #[.slice v.ea v.en v.ec] W (NewRow W p.ext)) := fun W hW => by
    subst hv; exact copy8_any _ _ _ B _ W h.en (h.ext.below (hW.mono hB))
  have CP : Hid (∀ W, Below w.heap.size w W → Calls Try.prog 57 #[.slice v.pa v.pn v.pc] W (NewRow W p.pay)) := fun W hW => by
    subst hv; exact copy8_any _ _ _ B _ W h.pn (h.pay.below (hW.mono hB))
  have hn1 : p.csrc.length = v.cn := by subst hv; rfl
  have hn2 : p.ext.length = v.en := by subst hv; rfl
  have hn3 : p.pay.length = v.pn := by subst hv; rfl
  have HV := Lib.hid hv
  have HW : Hid (Words p.csrc) := h.csrc.2.1
  have HN : Hid (p.csrc.length ≤ 140737488351232 ∧ p.ext.length ≤ 140737488351232 ∧ p.pay.length ≤ 140737488351232) := ⟨h.cn, h.en, h.pn⟩
  clear h hc hv
  go_enter Try.func29, Try.ntmps29
  go_wp2_with fail
  have HB0 : Hid (Below w.heap.size w ((w.alloc (pobj v)).alloc (pobj zpv))) := ((Below.refl w.heap.size w).alloc (Nat.le_refl _) (pobj v)).alloc (by simp) (pobj zpv)
  have D0 : PBlk ((w.alloc (pobj v)).alloc (pobj zpv)) w.heap.size v := (PBlk.new w v).below ((Below.refl (w.alloc (pobj v)).heap.size _).alloc (Nat.le_refl _) (pobj zpv)) (by simp)
  have Z0 : PBlk ((w.alloc (pobj v)).alloc (pobj zpv)) (w.heap.size + 1) zpv := by
    have := PBlk.new (w.alloc (pobj v)) zpv
    rw [show (w.alloc (pobj v)).heap.size = w.heap.size + 1 from by simp] at this
    exact this
  have HQ0 : Hid (((w.alloc (pobj v)).alloc (pobj zpv)).heap.size = w.heap.size + 2) := by show _ = _; simp
  have d5 := D0.c5
  generalize (w.alloc (pobj v)).alloc (pobj zpv) = w0 at *
  refine (CW.out w0 HB0.out).mono ?_
  rintro e w1 ⟨A1, k1, rfl, ho1, hb1⟩
  rw [hn1] at ho1 ⊢
  have hs0 := HQ0.out
  have HO1 := Lib.hid ho1
  have HB1 := Lib.hid (HB0.out.trans (hb1.mono HB0.out.size))
  have D1 := D0.below hb1 D0.lt
  have Z1 := Z0.below hb1 Z0.lt
  have HS1 : Hid (w.heap.size + 2 ≤ w1.heap.size) := by show _ ≤ _; have := hb1.size; omega
  clear hb1 ho1 d5 D0 Z0 HB0 CW hs0
  have g5 := D1.frozen 5
  have d5 := D1.c5
  have HZ2 := Lib.hid (Z1.cpB (g := w.heap.size) (i := 5) (by omega) (.slice A1 v.cn k1))
  have HB2 := Lib.hid (HB1.out.setCell (p := ⟨w.heap.size, 5, none⟩) (Nat.le_refl _) (.slice A1 v.cn k1))
  have HO2 := Lib.hid (HO1.out.setOff (b := w.heap.size) (i := 5) (by have := HQ0.out; omega) (.slice A1 v.cn k1))
  have D2 := D1.cp5 A1 k1
  have HS2 : Hid (w.heap.size + 2 ≤ (w1.setCell ⟨w.heap.size, 5, none⟩ (.slice A1 v.cn k1)).heap.size) := by show _ ≤ _; have := HS1.out; simpa using this
  have d8 := D2.c8
  clear Z1 HB1 HO1 D1 HS1
  go_wp2_with fail
  clear d5 g5
  generalize w1.setCell ⟨w.heap.size, 5, none⟩ (.slice A1 v.cn k1) = w2 at *
  refine (CE.out w2 HB2.out).mono ?_
  rintro e w3 ⟨A2, k2, rfl, ho3, hb3⟩
  rw [hn2] at ho3 ⊢
  have HO3 := Lib.hid ho3
  have HB3 := Lib.hid (HB2.out.trans (hb3.mono HB2.out.size))
  have HP3 := Lib.hid (HO2.out.lower (base' := w.heap.size + 2) (by have := HQ0.out; omega) |>.bel hb3)
  have D3 := D2.below hb3 D2.lt
  have HZ3 := Lib.hid (HZ2.out.below hb3 HZ2.out.lt)
  have HS3 : Hid (w.heap.size + 2 ≤ w3.heap.size) := by show _ ≤ _; have := hb3.size; have := HS2.out; omega
  have HS2' := HS2
  clear hb3 ho3 d8 D2 HB2 HZ2 HO2 CE HS2
  have g8 := D3.frozen 8
  have d8 := D3.c8
  have HZ4 := Lib.hid (HZ3.out.cpB (g := w.heap.size) (i := 8) (by omega) (.slice A2 v.en k2))
  have HB4 := Lib.hid (HB3.out.setCell (p := ⟨w.heap.size, 8, none⟩) (Nat.le_refl _) (.slice A2 v.en k2))
  have HO4 := Lib.hid (HO3.out.setOff (b := w.heap.size) (i := 8) (by have := HS2'.out; omega) (.slice A2 v.en k2))
  have HP4 := Lib.hid (HP3.out.setOff (b := w.heap.size) (i := 8) (by omega) (.slice A2 v.en k2))
  have D4 := D3.cp8 A2 k2
  have HS4 : Hid (w.heap.size + 2 ≤ (w3.setCell ⟨w.heap.size, 8, none⟩ (.slice A2 v.en k2)).heap.size) := by show _ ≤ _; have := HS3.out; simpa using this
  have d9 := D4.c9
  clear HZ3 HB3 HO3 HP3 D3 HS3
  go_wp2_with fail
  clear d8 g8
  generalize w3.setCell ⟨w.heap.size, 8, none⟩ (.slice A2 v.en k2) = w4 at *
  refine (CP.out w4 HB4.out).mono ?_
  rintro e w5 ⟨A3, k3, rfl, ho5, hb5⟩
  rw [hn3] at ho5 ⊢
  have HO5 := Lib.hid (HO4.out.lower (base' := w.heap.size + 2) (by have := HS2'.out; omega) |>.below hb5 (Nat.le_refl _))
  have HP5 := Lib.hid (HP4.out.bel hb5)
  have HR5 := Lib.hid (ho5.lower (base' := w.heap.size + 2) HS4.out)
  have HB5 := Lib.hid (HB4.out.trans (hb5.mono HB4.out.size))
  have D5 := D4.below hb5 D4.lt
  have Z5 := HZ4.out.below hb5 HZ4.out.lt
  clear hb5 ho5 d9 D4 HB4 HZ4 HO4 HP4 CP HS4 HS2'
  have Z6 := Z5.cpB (g := w.heap.size) (i := 9) (by omega) (.slice A3 v.pn k3)
  have HB6 := Lib.hid (HB5.out.setCell (p := ⟨w.heap.size, 9, none⟩) (Nat.le_refl _) (.slice A3 v.pn k3))
  have HO6 := Lib.hid (HO5.out.setOff (b := w.heap.size) (i := 9) (by omega) (.slice A3 v.pn k3))
  have HP6 := Lib.hid (HP5.out.setOff (b := w.heap.size) (i := 9) (by omega) (.slice A3 v.pn k3))
  have HR6 := Lib.hid (HR5.out.setOff (b := w.heap.size) (i := 9) (by omega) (.slice A3 v.pn k3))
  have D6 := D5.cp9 A3 k3
  have HZ6 := Lib.hid Z6
  have HO5w := Lib.hid (HP6.out.lower (base' := w.heap.size) (by omega))
  have HP5w := Lib.hid (HO6.out.lower (base' := w.heap.size) (by omega))
  have HR5w := Lib.hid (HR6.out.lower (base' := w.heap.size) (by omega))
  have g9 := D5.frozen 9
  have d9 := D5.c9
  obtain ⟨f0, f1, f2, f3, f4, f5, f6, f7, f8, f9, f10⟩ := D6.cells
  obtain ⟨y0, y1, y2, y3, y4, y5, y6, y7, y8, y9, y10, z0, z1, z2, z3, z4, z5, z6, z7, z8, z9, z10⟩ := Z6.cf
  clear D5 Z5 HB5 HO5 HP5 HR5 D6 Z6
  go_wp2
  refine retK_at (HZ6.out.store { v with ca := A1, cc := k1, ea := A2, ec := k2, pa := A3, pc := k3 }) ⟨⟨A1, k1, A2, k2, A3, k3⟩, ?_, ?_, ⟨fun hp => HO5w.out.at_ (hn1 ▸ hp), fun hp => HP5w.out.at_ (hn2 ▸ hp), fun hp => HR5w.out.at_ (hn3 ▸ hp)⟩, Rtp.below_pstore HB6.out (Nat.le_succ _) _ _ _ _ _ _ _ _ _ _ _⟩
  · rw [← HV.out]; rfl
  · exact ⟨Fbk.rowRd_wd ((HP6.out.offB (Nat.lt_succ_self _) (Rtp.off_pstore _ _ _ _ _ _ _ _ _ _ _ _ _)).rd.len' hn1) HW.out, ((HO6.out.offB (Nat.lt_succ_self _) (Rtp.off_pstore _ _ _ _ _ _ _ _ _ _ _ _ _)).rd.len' hn2), ((HR6.out.offB (Nat.lt_succ_self _) (Rtp.off_pstore _ _ _ _ _ _ _ _ _ _ _ _ _)).rd.len' hn3), HN.out.1, HN.out.2.1, HN.out.2.2, hn1 ▸ HP6.out.2.1, hn2 ▸ HO6.out.2.2.1, hn3 ▸ HR6.out.2.2.1⟩
end Go.Proofs.Ythmmafpmpnhleaa.Sft

namespace Go.Proofs.Ythmmafpmpnhleaa.Sft
open Go.RowKit
open Fbk (ILoc ItsRd ItsOwn its IRd INe w32L bloL pairL itmL ivC ivOf its_at)
set_option linter.unusedVariables false

theorem flat_set {α : Type} (L : Lay α) (T : List Value) : ∀ (qs : List α) (k j : Nat) (x y : α) (u : Value), qs[k]? = some x → j < L.s → (L.cel x).set j u = L.cel y → (flat L qs ++ T).set (k * L.s + j) u = flat L (qs.set k y) ++ T
  | [], k, j, x, y, u, h, _, _ => by simp at h
  | z :: r, 0, j, x, y, u, h, hj, hc => by
    simp only [List.getElem?_cons_zero, Option.some.injEq] at h
    subst h
    simp only [flat, List.flatMap_cons, List.set_cons_zero, List.append_assoc, Nat.zero_mul, Nat.zero_add]
    rw [List.set_append_left _ _ (by rw [L.len]; exact hj), hc]
  | z :: r, k + 1, j, x, y, u, h, hj, hc => by
    rw [List.getElem?_cons_succ] at h
    have ih := flat_set L T r k j x y u h hj hc
    simp only [flat, List.flatMap_cons, List.set_cons_succ, List.append_assoc] at ih ⊢
    rw [List.set_append_right _ _ (by rw [L.len, Nat.add_mul]; omega), L.len, show (k + 1) * L.s + j - L.s = k * L.s + j from by rw [Nat.add_mul]; omega, ih]
def IBd (i : Itm) : Prop := i.blocks.length * 28 ≤ 140737488355328 ∧ i.gone.length * 4 ≤ 140737488355328 ∧ i.pairs.length * 4 ≤ 140737488355328
section
variable {w : World} {base g n c k : Nat} {qs : List (Itm × ILoc)} {i : Itm} {l l' : ILoc}
theorem its_set {j : Nat} (h : ItsOwn w base (some ⟨g, 0, none⟩) n c qs) (hq : qs[k]? = some (i, l)) (u : Value) (hj : j < 10) (hc : (ivC (ivOf i l)).set j u = ivC (ivOf i l')) (hi : IRd w w.heap.size i l') (hne : INe g i l') :
    ItsOwn (w.setCell ⟨g, k * 10 + j, none⟩ u) base (some ⟨g, 0, none⟩) n c (qs.set k (i, l')) := by
  have hs : w.heap.size ≤ (w.setCell ⟨g, k * 10 + j, none⟩ u).heap.size := ((Below.refl 0 w).setCell (p := ⟨g, k * 10 + j, none⟩) (Nat.zero_le _) u).size
  have hst : ∀ p : Itm × ILoc, IRd w w.heap.size p.1 p.2 → INe g p.1 p.2 → IRd (w.setCell ⟨g, k * 10 + j, none⟩ u) (w.setCell ⟨g, k * 10 + j, none⟩ u).heap.size p.1 p.2 := fun p hp hn =>
    (hp.apart hn fun b _ hb => Below.heap_setCell w ⟨g, k * 10 + j, none⟩ u b hb).more hs
  have hall : ∀ p ∈ qs.set k (i, l'), IRd w w.heap.size p.1 p.2 ∧ INe g p.1 p.2 := fun p hp => by
    rcases List.mem_or_eq_of_mem_set hp with hp | rfl
    · exact ⟨h.each p hp, h.apart g rfl p hp⟩
    · exact ⟨hi, hne⟩
  refine ⟨?_, fun p hp => hst p (hall p hp).1 (hall p hp).2, fun g' e p hp => ?_⟩
  · obtain ⟨h1, h2, h3, h4⟩ := h.row
    refine ⟨by rw [List.length_set]; exact h1, h2, h3, ?_⟩
    rcases h4 with ⟨e, -⟩ | ⟨g', T, e, hg, hk, hl⟩
    · cases e
    · obtain rfl : g = g' := by simpa using e
      refine .inr ⟨g, T, rfl, hg, ?_, ?_⟩
      · have := heap_setCell_same w g (k * 10 + j) _ _ u hk
        rw [this, List.setIfInBounds_toArray]
        have hf := flat_set itmL T qs k j (i, l) (i, l') u hq hj hc
        rw [← hf]; rfl
      · rw [← hl, flat_len, flat_len, List.length_set]
  · obtain rfl : g = g' := by simpa using e
    exact (hall p hp).2
theorem its_map (h : qs[k]? = some (i, l)) : its (qs.set k (i, l')) = its qs := by
  have hk := (List.getElem?_eq_some_iff.1 h)
  apply List.ext_getElem?
  intro m
  simp only [its, List.map_set, List.getElem?_set, List.getElem?_map]
  by_cases hm : k = m
  · subst hm
    rw [if_pos rfl, h]
    simp [hk.1]
  · rw [if_neg hm]
theorem ne_of {α : Type} {L : Lay α} {b m c' : Nat} {A : Option Addr} {xs : List α} (h : RowOwn L w b A m c' xs) (hg : g < b) : ∀ off, A ≠ some ⟨g, off, none⟩ := fun off e => by
  rcases h.2.2.2 with ⟨rfl, -, -⟩ | ⟨g', T, rfl, hb, -⟩
  · cases e
  · simp only [Option.some.injEq, Addr.mk.injEq, and_true] at e; omega
theorem set_blocks {b c' : Nat} {A : Option Addr} (h : ItsOwn w base (some ⟨g, 0, none⟩) n c qs) (hq : qs[k]? = some (i, l)) (ho : RowOwn bloL w b A i.blocks.length c' i.blocks) (hg : g < b) :
    ItsOwn (w.setCell ⟨g, k * 10 + 6, none⟩ (.slice A i.blocks.length c')) base (some ⟨g, 0, none⟩) n c (qs.set k (i, { l with ba := A, bc := c' })) := by
  have hm := List.mem_of_getElem? hq
  have hr := h.each _ hm
  have hn := h.apart g rfl _ hm
  exact its_set h hq _ (by decide) rfl ⟨ho.rd, hr.gone, hr.pairs, hr.bn, hr.gn, hr.pn, ho.2.1, hr.gc, hr.pc⟩ ⟨fun _ => ne_of ho hg, hn.2.1, hn.2.2⟩
theorem set_gone {b c' : Nat} {A : Option Addr} (h : ItsOwn w base (some ⟨g, 0, none⟩) n c qs) (hq : qs[k]? = some (i, l)) (ho : RowOwn w32L w b A i.gone.length c' i.gone) (hg : g < b) :
    ItsOwn (w.setCell ⟨g, k * 10 + 7, none⟩ (.slice A i.gone.length c')) base (some ⟨g, 0, none⟩) n c (qs.set k (i, { l with ga := A, gc := c' })) := by
  have hm := List.mem_of_getElem? hq
  have hr := h.each _ hm
  have hn := h.apart g rfl _ hm
  exact its_set h hq _ (by decide) rfl ⟨hr.blocks, Fbk.rowRd_wd ho.rd hr.gone.2.1, hr.pairs, hr.bn, hr.gn, hr.pn, hr.bc, ho.2.1, hr.pc⟩ ⟨hn.1, fun _ => ne_of ho hg, hn.2.2⟩
theorem set_pairs {b c' : Nat} {A : Option Addr} (h : ItsOwn w base (some ⟨g, 0, none⟩) n c qs) (hq : qs[k]? = some (i, l)) (ho : RowOwn pairL w b A i.pairs.length c' i.pairs) (hg : g < b) :
    ItsOwn (w.setCell ⟨g, k * 10 + 9, none⟩ (.slice A i.pairs.length c')) base (some ⟨g, 0, none⟩) n c (qs.set k (i, { l with pa := A, pc := c' })) := by
  have hm := List.mem_of_getElem? hq
  have hr := h.each _ hm
  have hn := h.apart g rfl _ hm
  exact its_set h hq _ (by decide) rfl ⟨hr.blocks, hr.gone, ho.rd, hr.bn, hr.gn, hr.pn, hr.bc, hr.gc, ho.2.1⟩ ⟨hn.1, hn.2.1, fun _ => ne_of ho hg⟩
end
theorem own_at {w : World} {base g n c k : Nat} {qs : List (Itm × ILoc)} (h : ItsOwn w base (some ⟨g, 0, none⟩) n c qs) (hk : k < n) :
    ∃ i l, qs[k]? = some (i, l) ∧ i ∈ its qs ∧ IRd w w.heap.size i l ∧ g < w.heap.size ∧ w.cell? ⟨g, k * 10 + 6, none⟩ = some (.slice l.ba i.blocks.length l.bc) ∧ w.cell? ⟨g, k * 10 + 7, none⟩ = some (.slice l.ga i.gone.length l.gc) ∧
      w.cell? ⟨g, k * 10 + 9, none⟩ = some (.slice l.pa i.pairs.length l.pc) ∧ ∀ j, w.frozen? ⟨g, j, none⟩ = false := by
  obtain ⟨b, off, p, v, e, hb, hx, hm, rfl, hi, d0, d1, d2, d3, d4, d5, d6, d7, d8, d9⟩ := its_at h.rd hk
  obtain ⟨rfl, rfl⟩ : g = b ∧ 0 = off := by simpa using e
  rw [Nat.zero_add] at d6 d7 d9
  refine ⟨p.1, p.2, hx, List.mem_map.2 ⟨p, hm, rfl⟩, hi, hb, d6, d7, d9, fun j => ?_⟩
  rcases h.row.2.2.2 with ⟨e, -⟩ | ⟨g', T, e, -, hk, -⟩
  · cases e
  · obtain rfl : g = g' := by simpa using e
    exact frozen_of_row w g j _ _ hk

/-- Items of the call's own. -/
def RetC (w : World) (is : List Itm) (e : Ending) (w' : World) : Prop := ∃ A c ps, e = .returned (.slice A is.length c) ∧ its ps = is ∧ ItsOwn w' w.heap.size A is.length c ps ∧ Below w.heap.size w w'
set_option maxHeartbeats 4000000 in
theorem copiedItems_any (a : Option Addr) (n c B : Nat) (ps : List (Itm × ILoc)) (w : World) (hr : ItsRd w B a n ps) (hB : B ≤ w.heap.size) (hn : n * 120 ≤ 140737488355328) (hbd : ∀ i ∈ its ps, IBd i) :
    Calls Try.prog 30 #[.slice a n c] w (RetC w (its ps)) := by
  have CI := Lib.hid (copyI_any a n c B ps w hn hr.row)
  have HR := Lib.hid (hr.more hB)
  have HD := Lib.hid hbd
  have hlen := hr.len
  have hil : (its ps).length = n := by simp [its, hlen]
  have HL := Lib.hid hil
  clear hr hbd hil
  rcases Nat.eq_zero_or_pos n with h0 | h0
  · subst h0
    have HZ : Hid (∀ A c w1, RowOwn itmL w1 w.heap.size A 0 c ps → Below w.heap.size w w1 → RetC w (its ps) (.returned (.slice A 0 c)) w1) := fun A c w1 ho hb => by
      have e0 := HL.out
      have hp := List.eq_nil_of_length_eq_zero hlen
      subst hp
      exact ⟨A, c, [], rfl, rfl, ⟨ho, fun p hp => by simp at hp, fun g _ p hp => by simp at hp⟩, hb⟩
    go_enter Try.func30, Try.ntmps30
    go_wp2_with fail
    refine CI.out.mono ?_
    rintro e w1 ⟨A, c1, rfl, ho, hb⟩
    rw [hlen] at ho ⊢
    have HO := Lib.hid ho
    clear ho CI
    go_wp2
    go_loopw [8] (fun sk wx => sk = .int .i64 0 ∧ wx = w1) (fun _ _ => 0)
    case atStart => exact ⟨rfl, rfl⟩
    case round =>
      obtain ⟨rfl, rfl⟩ := hrel
      go_wp2
      go_ret
      exact HZ.out _ _ _ HO.out hb
  · go_enter Try.func30, Try.ntmps30
    go_wp2_with fail
    refine CI.out.mono ?_
    rintro e w1 ⟨A, c1, rfl, ho, hb⟩
    rw [hlen] at ho ⊢
    obtain ⟨g, hA, hg⟩ : ∃ g, A = some ⟨g, 0, none⟩ ∧ w.heap.size ≤ g := by
      rcases ho.2.2.2 with ⟨-, e, -⟩ | ⟨g, T, e, hg, -⟩
      · omega
      · exact ⟨g, e, hg⟩
    subst hA
    have HO : Hid (ItsOwn w1 w.heap.size (some ⟨g, 0, none⟩) n c1 ps) := ⟨ho, fun p hp => ((HR.out.each p hp).below hb).more hb.size, fun g' e p hp => by
      obtain rfl : g = g' := by simpa using e
      exact INe.of_ge (HR.out.each p hp) hg⟩
    have HZ : Hid (∀ W qs, its qs = its ps → ItsOwn W w.heap.size (some ⟨g, 0, none⟩) n c1 qs → Below w.heap.size w W → RetC w (its ps) (.returned (.slice (some ⟨g, 0, none⟩) n c1)) W) := fun W qs he ho hb =>
      ⟨_, c1, qs, by rw [HL.out], he, by rw [HL.out]; exact ho, hb⟩
    clear ho CI
    go_wp2
    go_loopw [8] (fun sk wx => ∃ k : Nat, k ≤ n ∧ sk = .int .i64 k ∧ Hid (∃ qs, its qs = its ps ∧ ItsOwn wx w.heap.size (some ⟨g, 0, none⟩) n c1 qs) ∧ Hid (Below w.heap.size w wx)) (fun sk _ => n - (intOf sk).toNat)
    case atStart => exact ⟨0, by omega, rfl, ⟨ps, rfl, HO.out⟩, hb⟩
    case round =>
      obtain ⟨k, hk, rfl, hqs, hbx⟩ := hrel
      rename World => wx
      obtain ⟨qs, he, ho⟩ := hqs.out
      have HE := Lib.hid he
      clear hqs he
      by_cases hlt : k < n
      · have HO0 := Lib.hid ho
        clear ho
        have HE0 := HE
        have HB0 := hbx
        obtain ⟨i0, l0, hx0, hm0, hi0, hg0, e6, e7, e9, -⟩ := own_at HO0.out hlt
        have d6 := e6
        have HI0 : Hid (IBd i0) := HD.out i0 (HE0.out ▸ hm0)
        have HX0 := Lib.hid hx0
        have HC0 := Lib.hid (copyB_any l0.ba i0.blocks.length l0.bc _ i0.blocks wx HI0.out.1 hi0.blocks)
        clear hx0 hm0 hi0 e6 e7 e9
        go_wp2_with fail
        refine HC0.out.mono ?_
        rintro e v0 ⟨A0, k0, rfl, ho0, hb0⟩
        obtain ⟨ia, la, -, -, -, -, e6, e7, e9, fz⟩ := own_at (HO0.out.bel hb0) hlt
        have f6 := fz (k * 10 + 6)
        have c6 := e6
        have HB1 := Lib.hid ((HB0.out.trans (hb0.mono HB0.out.size)).setCell (p := ⟨g, k * 10 + 6, none⟩) hg (.slice A0 i0.blocks.length k0))
        have ho' := set_blocks (HO0.out.bel hb0) HX0.out ho0 hg0
        have he' := (its_map HX0.out (l' := { l0 with ba := A0, bc := k0 })).trans HE0.out
        generalize qs.set k (i0, { l0 with ba := A0, bc := k0 }) = qs1 at ho' he'
        have HO1 := Lib.hid ho'
        have HE1 := Lib.hid he'
        clear fz e6 e7 e9 ho' he' ho0 hb0 HO0 HE0 HB0 HX0 HI0 HC0 d6 hg0
        obtain ⟨i1, l1, hx1, hm1, hi1, hg1, e6, e7, e9, -⟩ := own_at HO1.out hlt
        have d7 := e7
        have HI1 : Hid (IBd i1) := HD.out i1 (HE1.out ▸ hm1)
        have HX1 := Lib.hid hx1
        have HC1 := Lib.hid (copyW_any l1.ga i1.gone.length l1.gc _ i1.gone _ HI1.out.2.1 (wd_rowRd hi1.gone))
        clear hx1 hm1 hi1 e6 e7 e9
        go_wp2_with fail
        generalize v0.setCell ⟨g, k * 10 + 6, none⟩ (.slice A0 i0.blocks.length k0) = x1 at *
        clear c6 f6
        refine HC1.out.mono ?_
        rintro e v1 ⟨A1, k1, rfl, ho1, hb1⟩
        obtain ⟨ia, la, -, -, -, -, e6, e7, e9, fz⟩ := own_at (HO1.out.bel hb1) hlt
        have f7 := fz (k * 10 + 7)
        have c7 := e7
        have HB2 := Lib.hid ((HB1.out.trans (hb1.mono HB1.out.size)).setCell (p := ⟨g, k * 10 + 7, none⟩) hg (.slice A1 i1.gone.length k1))
        have ho' := set_gone (HO1.out.bel hb1) HX1.out ho1 hg1
        have he' := (its_map HX1.out (l' := { l1 with ga := A1, gc := k1 })).trans HE1.out
        generalize qs1.set k (i1, { l1 with ga := A1, gc := k1 }) = qs2 at ho' he'
        have HO2 := Lib.hid ho'
        have HE2 := Lib.hid he'
        clear fz e6 e7 e9 ho' he' ho1 hb1 HO1 HE1 HB1 HX1 HI1 HC1 d7 hg1
        obtain ⟨i2, l2, hx2, hm2, hi2, hg2, e6, e7, e9, -⟩ := own_at HO2.out hlt
        have d9 := e9
        have HI2 : Hid (IBd i2) := HD.out i2 (HE2.out ▸ hm2)
        have HX2 := Lib.hid hx2
        have HC2 := Lib.hid (copyP_any l2.pa i2.pairs.length l2.pc _ i2.pairs _ HI2.out.2.2 hi2.pairs)
        clear hx2 hm2 hi2 e6 e7 e9
        go_wp2_with fail
        generalize v1.setCell ⟨g, k * 10 + 7, none⟩ (.slice A1 i1.gone.length k1) = x2 at *
        clear c7 f7
        refine HC2.out.mono ?_
        rintro e v2 ⟨A2, k2, rfl, ho2, hb2⟩
        obtain ⟨ia, la, -, -, -, -, e6, e7, e9, fz⟩ := own_at (HO2.out.bel hb2) hlt
        have f9 := fz (k * 10 + 9)
        have c9 := e9
        have HB3 := Lib.hid ((HB2.out.trans (hb2.mono HB2.out.size)).setCell (p := ⟨g, k * 10 + 9, none⟩) hg (.slice A2 i2.pairs.length k2))
        have ho' := set_pairs (HO2.out.bel hb2) HX2.out ho2 hg2
        have he' := (its_map HX2.out (l' := { l2 with pa := A2, pc := k2 })).trans HE2.out
        generalize qs2.set k (i2, { l2 with pa := A2, pc := k2 }) = qs3 at ho' he'
        have HO3 := Lib.hid ho'
        have HE3 := Lib.hid he'
        clear fz e6 e7 e9 ho' he' ho2 hb2 HO2 HE2 HB2 HX2 HI2 HC2 d9 hg2
        go_wp2
        generalize v2.setCell ⟨g, k * 10 + 9, none⟩ (.slice A2 i2.pairs.length k2) = x3 at *
        go_roundw
        case rel => exact ⟨k + 1, by omega, by go_num, ⟨qs3, HE3.out, HO3.out⟩, HB3⟩
        case measure => simp [intOf]; omega
      · obtain rfl : k = n := by omega
        have HX := Lib.hid ho
        clear ho
        go_wp2
        go_ret
        exact HZ.out _ qs HE.out HX.out hbx.out
end Go.Proofs.Ythmmafpmpnhleaa.Sft
