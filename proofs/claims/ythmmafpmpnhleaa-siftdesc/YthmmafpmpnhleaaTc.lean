/- The contract of sift.copiedPacket. -/
import Derived.Test.YthmmafpmpnhleaaTb
import Derived.Test.YthmmafpmpnhleaaKn
set_option maxRecDepth 100000
namespace Go.Proofs.Ythmmafpmpnhleaa.Sft
open Go.RowKit
open Rtp (PV pkt pobj PBlk pvOf PRd zpv)
open Fbk (w32L)
set_option linter.unusedVariables false

/-- A packet of the call's own. -/
def RetK (w : World) (p : Pkt) (e : Ending) (w' : World) : Prop := ∃ lc, e = .returned (pkt (pvOf p lc)) ∧ PRd w' w'.heap.size p lc ∧ Rtp.PNw w.heap.size p lc ∧ Below w.heap.size w w'
section
variable {w : World} {b : Nat} {v : PV}
theorem _root_.Go.Proofs.Ythmmafpmpnhleaa.Rtp.PBlk.set5 (h : PBlk w b v) (A : Option Addr) (c : Nat) : PBlk (w.setCell ⟨b, 5, none⟩ (.slice A v.cn c)) b { v with ca := A, cc := c } := by
  have := heap_setCell_same w b 5 _ 33 (.slice A v.cn c) h
  simp only [List.setIfInBounds_toArray, List.set_cons_zero, List.set_cons_succ] at this
  exact this
theorem _root_.Go.Proofs.Ythmmafpmpnhleaa.Rtp.PBlk.set8 (h : PBlk w b v) (A : Option Addr) (c : Nat) : PBlk (w.setCell ⟨b, 8, none⟩ (.slice A v.en c)) b { v with ea := A, ec := c } := by
  have := heap_setCell_same w b 8 _ 33 (.slice A v.en c) h
  simp only [List.setIfInBounds_toArray, List.set_cons_zero, List.set_cons_succ] at this
  exact this
theorem _root_.Go.Proofs.Ythmmafpmpnhleaa.Rtp.PBlk.set9 (h : PBlk w b v) (A : Option Addr) (c : Nat) : PBlk (w.setCell ⟨b, 9, none⟩ (.slice A v.pn c)) b { v with pa := A, pc := c } := by
  have := heap_setCell_same w b 9 _ 33 (.slice A v.pn c) h
  simp only [List.setIfInBounds_toArray, List.set_cons_zero, List.set_cons_succ] at this
  exact this
theorem _root_.Go.Proofs.Ythmmafpmpnhleaa.Rtp.PBlk.setB {g i : Nat} (h : PBlk w b v) (hg : b ≠ g) (u : Value) : PBlk (w.setCell ⟨g, i, none⟩ u) b v := (Below.heap_setCell w ⟨g, i, none⟩ u b hg).trans h
end
theorem _root_.Go.Proofs.Ythmmafpmpnhleaa.Own.offB {w w' : World} {base n c b : Nat} {A : Option Addr} {xs : List Int} (h : Own w base A n c xs) (hb : b < base) (ho : Rtp.Off b w w') : Own w' base A n c xs := by
  obtain ⟨h1, h2, h3, h4, h5⟩ := h
  refine ⟨h1, h2, h3, h4, ?_⟩
  rcases h5 with h5 | ⟨g, T, rfl, hg, hk, hl⟩
  · exact .inl h5
  · exact .inr ⟨g, T, rfl, hg, (ho g (by omega)).trans hk, hl⟩
theorem _root_.Go.Proofs.Ythmmafpmpnhleaa.RowOwn.offB {α : Type} {L : Lay α} {w w' : World} {base n c b : Nat} {A : Option Addr} {xs : List α} (h : RowOwn L w base A n c xs) (hb : b < base) (ho : Rtp.Off b w w') : RowOwn L w' base A n c xs :=
  h.keepB fun g hg _ => ho g (by omega)
theorem _root_.Go.Proofs.Ythmmafpmpnhleaa.RowRd.len' {α : Type} {L : Lay α} {w : World} {B n m : Nat} {A : Option Addr} {xs : List α} (h : RowRd L w B A n xs) (hm : m = n) : RowRd L w B A m xs := hm ▸ h
theorem _root_.Go.Proofs.Ythmmafpmpnhleaa.Rd.len' {w : World} {B n m : Nat} {A : Option Addr} {xs : List Int} (h : Rd w B A n xs) (hm : m = n) : Rd w B A m xs := hm ▸ h
theorem _root_.Go.Proofs.Ythmmafpmpnhleaa.RowOwn.at_ {α : Type} {L : Lay α} {w : World} {base n c : Nat} {A : Option Addr} {xs : List α} (h : RowOwn L w base A n c xs) (hn : 0 < n) : ∃ a, A = some a ∧ base ≤ a.block := by
  rcases h.2.2.2 with ⟨-, e, -⟩ | ⟨g, T, rfl, hg, -⟩
  · omega
  · exact ⟨_, rfl, hg⟩
theorem _root_.Go.Proofs.Ythmmafpmpnhleaa.Own.at_ {w : World} {base n c : Nat} {A : Option Addr} {xs : List Int} (h : Own w base A n c xs) (hn : 0 < n) : ∃ a, A = some a ∧ base ≤ a.block := by
  rcases h.2.2.2.2 with ⟨-, e, -⟩ | ⟨g, T, rfl, hg, -⟩
  · omega
  · exact ⟨_, rfl, hg⟩
theorem retK_at {W : World} {b : Nat} {v : PV} {tmps : Array Value} {R : Ending → World → Prop} (D : PBlk W b v) (hR : R (.returned (pkt v)) W) (h2 : tmps[2]?.getD undef = .pointer (some ⟨b, 0, none⟩) := by rfl) :
    bodyPost Try.prog Try.f29 R .ret ⟨tmps, []⟩ W := by
  obtain ⟨c0, c1, c2, c3, c4, c5, c6, c7, c8, c9, c10⟩ := D.cells
  exact bodyPost_ret (v := pkt v) (by simp [results, Try.results29, go_sem, h2, c0, c1, c2, c3, c4, c5, c6, c7, c8, c9, c10]) rfl hR

set_option maxHeartbeats 4000000 in
theorem copiedPacket_any (w : World) (B : Nat) (p : Pkt) (lc : Rtp.Loc) (h : PRd w B p lc) (hB : B ≤ w.heap.size) (hc : p.csrc.length * 4 ≤ 140737488355328) :
    Calls Try.prog 29 #[pkt (pvOf p lc)] w (RetK w p) := by
  obtain ⟨v, hv⟩ : ∃ v, pvOf p lc = v := ⟨_, rfl⟩
  rw [hv]
  have CW : Hid (∀ W, Below w.heap.size w W → Calls Try.prog 56 #[.slice v.ca v.cn v.cc] W (RetRow w32L W p.csrc)) := fun W hW => by
    subst hv; exact copyW_any _ _ _ B _ W hc (wd_rowRd (h.csrc.below (hW.mono hB)))
  have CE : Hid (∀ W, Below w.heap.size w W → Calls Try.prog 57 #[.slice v.ea v.en v.ec] W (NewRow W p.ext)) := fun W hW => by
    subst hv; exact copy8_any _ _ _ B _ W h.en (h.ext.below (hW.mono hB))
  have CP : Hid (∀ W, Below w.heap.size w W → Calls Try.prog 57 #[.slice v.pa v.pn v.pc] W (NewRow W p.pay)) := fun W hW => by
    subst hv; exact copy8_any _ _ _ B _ W h.pn (h.pay.below (hW.mono hB))
  have hn1 : p.csrc.length = v.cn := by subst hv; rfl
  have hn2 : p.ext.length = v.en := by subst hv; rfl
  have hn3 : p.pay.length = v.pn := by subst hv; rfl
  have HV := Lib.hid hv
  have HW : Hid (Words p.csrc) := h.csrc.2.1
  have HN : Hid (p.csrc.length ≤ 140737488351232 ∧ p.ext.length ≤ 140737488351232 ∧ p.pay.length ≤ 140737488351232) := ⟨h.cn, h.en, h.pn⟩
  clear h hc hv
  go_enter Try.func29, Try.ntmps29
  go_wp2_with fail
  have HB0 : Hid (Below w.heap.size w ((w.alloc (pobj v)).alloc (pobj zpv))) := ((Below.refl w.heap.size w).alloc (Nat.le_refl _) (pobj v)).alloc (by simp) (pobj zpv)
  have D0 : PBlk ((w.alloc (pobj v)).alloc (pobj zpv)) w.heap.size v := (PBlk.new w v).below ((Below.refl (w.alloc (pobj v)).heap.size _).alloc (Nat.le_refl _) (pobj zpv)) (by simp)
  have Z0 : PBlk ((w.alloc (pobj v)).alloc (pobj zpv)) (w.heap.size + 1) zpv := by
    have := PBlk.new (w.alloc (pobj v)) zpv
    rw [show (w.alloc (pobj v)).heap.size = w.heap.size + 1 from by simp] at this
    exact this
  have HQ0 : Hid (((w.alloc (pobj v)).alloc (pobj zpv)).heap.size = w.heap.size + 2) := by show _ = _; simp
  have d5 := D0.c5
  generalize (w.alloc (pobj v)).alloc (pobj zpv) = w0 at *
  refine (CW.out w0 HB0.out).mono ?_
  rintro e w1 ⟨A1, k1, rfl, ho1, hb1⟩
  rw [hn1] at ho1 ⊢
  have hs0 := HQ0.out
  have HO1 := Lib.hid ho1
  have HB1 := Lib.hid (HB0.out.trans (hb1.mono HB0.out.size))
  have D1 := D0.below hb1 D0.lt
  have Z1 := Z0.below hb1 Z0.lt
  have HS1 : Hid (w.heap.size + 2 ≤ w1.heap.size) := by show _ ≤ _; have := hb1.size; omega
  clear hb1 ho1 d5 D0 Z0 HB0 CW hs0
  have g5 := D1.frozen 5
  have d5 := D1.c5
  have HZ2 := Lib.hid (Z1.setB (g := w.heap.size) (i := 5) (by omega) (.slice A1 v.cn k1))
  have HB2 := Lib.hid (HB1.out.setCell (p := ⟨w.heap.size, 5, none⟩) (Nat.le_refl _) (.slice A1 v.cn k1))
  have HO2 := Lib.hid (HO1.out.setOff (b := w.heap.size) (i := 5) (by have := HQ0.out; omega) (.slice A1 v.cn k1))
  have D2 := D1.set5 A1 k1
  have HS2 : Hid (w.heap.size + 2 ≤ (w1.setCell ⟨w.heap.size, 5, none⟩ (.slice A1 v.cn k1)).heap.size) := by show _ ≤ _; have := HS1.out; simpa using this
  have d8 := D2.c8
  clear Z1 HB1 HO1 D1 HS1
  go_wp2_with fail
  clear d5 g5
  generalize w1.setCell ⟨w.heap.size, 5, none⟩ (.slice A1 v.cn k1) = w2 at *
  refine (CE.out w2 HB2.out).mono ?_
  rintro e w3 ⟨A2, k2, rfl, ho3, hb3⟩
  rw [hn2] at ho3 ⊢
  have HO3 := Lib.hid ho3
  have HB3 := Lib.hid (HB2.out.trans (hb3.mono HB2.out.size))
  have HP3 := Lib.hid (HO2.out.lower (base' := w.heap.size + 2) (by have := HQ0.out; omega) |>.bel hb3)
  have D3 := D2.below hb3 D2.lt
  have HZ3 := Lib.hid (HZ2.out.below hb3 HZ2.out.lt)
  have HS3 : Hid (w.heap.size + 2 ≤ w3.heap.size) := by show _ ≤ _; have := hb3.size; have := HS2.out; omega
  have HS2' := HS2
  clear hb3 ho3 d8 D2 HB2 HZ2 HO2 CE HS2
  have g8 := D3.frozen 8
  have d8 := D3.c8
  have HZ4 := Lib.hid (HZ3.out.setB (g := w.heap.size) (i := 8) (by omega) (.slice A2 v.en k2))
  have HB4 := Lib.hid (HB3.out.setCell (p := ⟨w.heap.size, 8, none⟩) (Nat.le_refl _) (.slice A2 v.en k2))
  have HO4 := Lib.hid (HO3.out.setOff (b := w.heap.size) (i := 8) (by have := HS2'.out; omega) (.slice A2 v.en k2))
  have HP4 := Lib.hid (HP3.out.setOff (b := w.heap.size) (i := 8) (by omega) (.slice A2 v.en k2))
  have D4 := D3.set8 A2 k2
  have HS4 : Hid (w.heap.size + 2 ≤ (w3.setCell ⟨w.heap.size, 8, none⟩ (.slice A2 v.en k2)).heap.size) := by show _ ≤ _; have := HS3.out; simpa using this
  have d9 := D4.c9
  clear HZ3 HB3 HO3 HP3 D3 HS3
  go_wp2_with fail
  clear d8 g8
  generalize w3.setCell ⟨w.heap.size, 8, none⟩ (.slice A2 v.en k2) = w4 at *
  refine (CP.out w4 HB4.out).mono ?_
  rintro e w5 ⟨A3, k3, rfl, ho5, hb5⟩
  rw [hn3] at ho5 ⊢
  have HO5 := Lib.hid (HO4.out.lower (base' := w.heap.size + 2) (by have := HS2'.out; omega) |>.below hb5 (Nat.le_refl _))
  have HP5 := Lib.hid (HP4.out.bel hb5)
  have HR5 := Lib.hid (ho5.lower (base' := w.heap.size + 2) HS4.out)
  have HB5 := Lib.hid (HB4.out.trans (hb5.mono HB4.out.size))
  have D5 := D4.below hb5 D4.lt
  have Z5 := HZ4.out.below hb5 HZ4.out.lt
  clear hb5 ho5 d9 D4 HB4 HZ4 HO4 HP4 CP HS4 HS2'
  have Z6 := Z5.setB (g := w.heap.size) (i := 9) (by omega) (.slice A3 v.pn k3)
  have HB6 := Lib.hid (HB5.out.setCell (p := ⟨w.heap.size, 9, none⟩) (Nat.le_refl _) (.slice A3 v.pn k3))
  have HO6 := Lib.hid (HO5.out.setOff (b := w.heap.size) (i := 9) (by omega) (.slice A3 v.pn k3))
  have HP6 := Lib.hid (HP5.out.setOff (b := w.heap.size) (i := 9) (by omega) (.slice A3 v.pn k3))
  have HR6 := Lib.hid (HR5.out.setOff (b := w.heap.size) (i := 9) (by omega) (.slice A3 v.pn k3))
  have D6 := D5.set9 A3 k3
  have HZ6 := Lib.hid Z6
  have HO5w := Lib.hid (HP6.out.lower (base' := w.heap.size) (by omega))
  have HP5w := Lib.hid (HO6.out.lower (base' := w.heap.size) (by omega))
  have HR5w := Lib.hid (HR6.out.lower (base' := w.heap.size) (by omega))
  have g9 := D5.frozen 9
  have d9 := D5.c9
  obtain ⟨f0, f1, f2, f3, f4, f5, f6, f7, f8, f9, f10⟩ := D6.cells
  obtain ⟨y0, y1, y2, y3, y4, y5, y6, y7, y8, y9, y10, z0, z1, z2, z3, z4, z5, z6, z7, z8, z9, z10⟩ := Z6.cf
  clear D5 Z5 HB5 HO5 HP5 HR5 D6 Z6
  go_wp2
  refine retK_at (HZ6.out.store { v with ca := A1, cc := k1, ea := A2, ec := k2, pa := A3, pc := k3 }) ⟨⟨A1, k1, A2, k2, A3, k3⟩, ?_, ?_, ⟨fun hp => HO5w.out.at_ (hn1 ▸ hp), fun hp => HP5w.out.at_ (hn2 ▸ hp), fun hp => HR5w.out.at_ (hn3 ▸ hp)⟩, Rtp.below_pstore HB6.out (Nat.le_succ _) _ _ _ _ _ _ _ _ _ _ _⟩
  · rw [← HV.out]; rfl
  · exact ⟨Fbk.rowRd_wd ((HP6.out.offB (Nat.lt_succ_self _) (Rtp.off_pstore _ _ _ _ _ _ _ _ _ _ _ _ _)).rd.len' hn1) HW.out, ((HO6.out.offB (Nat.lt_succ_self _) (Rtp.off_pstore _ _ _ _ _ _ _ _ _ _ _ _ _)).rd.len' hn2), ((HR6.out.offB (Nat.lt_succ_self _) (Rtp.off_pstore _ _ _ _ _ _ _ _ _ _ _ _ _)).rd.len' hn3), HN.out.1, HN.out.2.1, HN.out.2.2, hn1 ▸ HP6.out.2.1, hn2 ▸ HO6.out.2.2.1, hn3 ▸ HR6.out.2.2.1⟩
end Go.Proofs.Ythmmafpmpnhleaa.Sft
