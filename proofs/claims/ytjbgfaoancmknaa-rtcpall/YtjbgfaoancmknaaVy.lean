/- The walk of RtcpAll. -/
import Derived.Test.YtjbgfaoancmknaaVs
import Derived.Test.YtjbgfaoancmknaaVp
namespace Go.Proofs.Ytjbgfaoancmknaa.Fbk
open Go.RowKit
set_option linter.unusedVariables false

def Bla (w : World) (q : Nat) (v : IV) (W : World) : Prop := Below w.heap.size w W ∧ IBlk W q v
set_option maxRecDepth 100000 in
set_option maxHeartbeats 8000000 in
theorem rtcpAll_walk (a : Option Addr) (n c : Nat) (ps : List (Itm × ILoc)) (w : World) (hl : n ≤ 140737488351232) (hr : ItsRd w w.heap.size a n ps) (hok : OkL (its ps)) :
    Calls Try.prog 3 #[.slice a n c] w (RetB w true) := by
  have CS : Hid (∀ W, Calls Try.prog 9 #[] W (RetB W true)) := fun W => shown_any W
  have CP : Hid (∀ W, Below w.heap.size w W → Calls Try.prog 10 #[.slice a n c] W (RetR W (putLB (its ps)) (putLE (its ps)))) := fun W hW => rc_put a n c w.heap.size ps W hl (hr.below hW) hW.size hok
  have CF : Hid (∀ W, Below w.heap.size w W → Calls Try.prog 11 #[.slice a n c] W (RetR W (putLB (its ps)) (putLE (its ps)))) := fun W hW => rf_put a n c w.heap.size ps W (hr.below hW) hW.size hok
  have CZ : Hid (∀ W, Below w.heap.size w W → Calls Try.prog 14 #[.slice a n c] W (RetI W (sizeL (its ps)))) := fun W hW => rc_sizes a n c w.heap.size ps W hl (hr.below hW) hW.size hok
  have CY : Hid (∀ W, Below w.heap.size w W → Calls Try.prog 15 #[.slice a n c] W (RetI W (sizeL (its ps)))) := fun W hW => rf_sizes a n c w.heap.size ps W hl (hr.below hW) hW.size hok
  have HR := Lib.hid hr
  obtain ⟨P, hP⟩ : ∃ P, putLB (its ps) = P := ⟨_, rfl⟩
  obtain ⟨L, hL⟩ : ∃ L, P.length = L := ⟨_, rfl⟩
  rw [hP] at CP CF
  have HL := Lib.hid hL
  clear hr hok hP hL
  generalize putLE (its ps) = E at *
  generalize sizeL (its ps) = Z at *
  go_enter Try.func3, Try.ntmps3
  go_wp2_with fail
  refine (CS.out _).mono ?_
  rintro e w1 ⟨rfl, hb1⟩
  have HB1 := Lib.hid hb1
  clear hb1 CS
  go_wp2_with fail
  refine (CP.out _ HB1.out).mono ?_
  rintro e w2 ⟨A1, c1, rfl, ho, hb2⟩
  rw [HL.out] at ho ⊢
  have HB2 := Lib.hid (HB1.out.trans (hb2.mono HB1.out.size))
  have HO1 := Lib.hid ho.rd
  clear hb2 ho HB1 CP
  go_wp2_with fail
  refine (CF.out _ HB2.out).mono ?_
  rintro e w3 ⟨A2, c2, rfl, ho, hb3⟩
  rw [HL.out] at ho ⊢
  have HB3 := Lib.hid (HB2.out.trans (hb3.mono HB2.out.size))
  have HP3 := Lib.hid ((HO1.out.below hb3).more hb3.size)
  have HO2 := Lib.hid ho.rd
  have HS3 := Lib.hid hb3.size
  clear hb3 ho HB2 CF HO1
  go_wp2
  go_loopw [23] (fun sk wx => ∃ k : Nat, k ≤ n ∧ sk = .int .i64 k ∧ Hid (Below w3.heap.size w3 wx)) (fun sk _ => n - (intOf sk).toNat)
  case atStart => exact ⟨0, by omega, rfl, Below.refl _ _⟩
  case round =>
    obtain ⟨k, hk, rfl, hb⟩ := hrel
    rename World => wx
    by_cases hlt : k < n
    · obtain ⟨b, off, p, v, ea, hbB, hx, hm, hv, hi, d0, d1, d2, d3, d4, d5, d6, d7, d8, d9⟩ := its_at (HR.out.below (HB3.out.trans (hb.out.mono HB3.out.size))) hlt
      subst ea
      have hwx : w.heap.size ≤ wx.heap.size := Nat.le_trans HB3.out.size hb.out.size
      have CM : Hid (∀ W, Below wx.heap.size wx W → Calls Try.prog 12 #[itm v] W (RetB W (mayI p.1))) := fun W hW => hv ▸ rc_may W p.1 p.2 w.heap.size (hi.below (hW.mono hwx)) (Nat.le_trans hwx hW.size)
      have CN : Hid (∀ W, Below wx.heap.size wx W → Calls Try.prog 13 #[itm v] W (RetB W (mayI p.1))) := fun W hW => hv ▸ rmay_all W p.1 p.2 w.heap.size (hi.below (hW.mono hwx)) (Nat.le_trans hwx hW.size)
      generalize mayI p.1 = x at *
      have HX : Hid (Below wx.heap.size wx (wx.alloc (iobj v))) := (Below.refl _ _).alloc (Nat.le_refl _) _
      have hS : Bla wx wx.heap.size v (wx.alloc (iobj v)).drew := ⟨HX.out.drew, IBlk.new wx v⟩
      have x0 : ∀ W, Bla wx wx.heap.size v W → W.cell? ⟨wx.heap.size, 0, none⟩ = some (.int .i64 v.kind) := fun W h => h.2.c0
      have x1 : ∀ W, Bla wx wx.heap.size v W → W.cell? ⟨wx.heap.size, 1, none⟩ = some (.int .u32 v.ssrc) := fun W h => h.2.c1
      have x2 : ∀ W, Bla wx wx.heap.size v W → W.cell? ⟨wx.heap.size, 2, none⟩ = some (.int .u64 v.ntp) := fun W h => h.2.c2
      have x3 : ∀ W, Bla wx wx.heap.size v W → W.cell? ⟨wx.heap.size, 3, none⟩ = some (.int .u32 v.time) := fun W h => h.2.c3
      have x4 : ∀ W, Bla wx wx.heap.size v W → W.cell? ⟨wx.heap.size, 4, none⟩ = some (.int .u32 v.pks) := fun W h => h.2.c4
      have x5 : ∀ W, Bla wx wx.heap.size v W → W.cell? ⟨wx.heap.size, 5, none⟩ = some (.int .u32 v.ocs) := fun W h => h.2.c5
      have x6 : ∀ W, Bla wx wx.heap.size v W → W.cell? ⟨wx.heap.size, 6, none⟩ = some (.slice v.ba v.bn v.bc) := fun W h => h.2.c6
      have x7 : ∀ W, Bla wx wx.heap.size v W → W.cell? ⟨wx.heap.size, 7, none⟩ = some (.slice v.ga v.gn v.gc) := fun W h => h.2.c7
      have x8 : ∀ W, Bla wx wx.heap.size v W → W.cell? ⟨wx.heap.size, 8, none⟩ = some (.int .u32 v.media) := fun W h => h.2.c8
      have x9 : ∀ W, Bla wx wx.heap.size v W → W.cell? ⟨wx.heap.size, 9, none⟩ = some (.slice v.pa v.pn v.pc) := fun W h => h.2.c9
      clear hv hi hx hm hwx
      go_wp2_with fail
      refine region_seq (Bla wx wx.heap.size v) [(0, false), (2, false), (1, true), (3, true), (4, false)] (by kernel_rfl) (by kernel_rfl) rfl (by kernel_rfl) ?_
      generalize (wx.alloc (iobj v)).drew = u0 at *
      iterate 2 (refine seq_read (v := _) rfl (fun _ _ _ h => h) hS (Or.inl ⟨by rfl, fun W hW => by go_simp <;> with_reducible rfl⟩) ?_; simp only [Act.put, List.setIfInBounds_toArray, List.set_cons_zero, List.set_cons_succ])
      have HS0 := Lib.hid hS
      clear hS
      refine seq_do rfl (fun K hK => ?_)
      go_simp
      refine (CM.out _ HS0.out.1).mono ?_
      rintro e u1 ⟨rfl, hb1⟩
      have HS1 : Hid (Bla wx wx.heap.size v u1) := ⟨HS0.out.1.trans (hb1.mono HS0.out.1.size), HS0.out.2.bel hb1⟩
      refine hK.out _ _ _ (fun W h => h) HS1.out ?_
      clear hK K hb1 HS0 CM
      refine seq_do rfl (fun K hK => ?_)
      go_simp
      refine (CN.out _ HS1.out.1).mono ?_
      rintro e u2 ⟨rfl, hb2⟩
      have HS2 : Hid (Bla wx wx.heap.size v u2) := ⟨HS1.out.1.trans (hb2.mono HS1.out.1.size), HS1.out.2.bel hb2⟩
      have hS : Bla wx wx.heap.size v u2 := HS2.out
      refine hK.out _ _ _ (fun W h => h) hS ?_
      clear hK K hb2 HS1 CN
      iterate 1 (refine seq_read (v := _) rfl (fun _ _ _ h => h) hS (Or.inl ⟨by rfl, fun W hW => by go_simp <;> with_reducible rfl⟩) ?_; simp only [Act.put, List.setIfInBounds_toArray, List.set_cons_zero, List.set_cons_succ])
      refine seq_end ?_
      clear hS x0 x1 x2 x3 x4 x5 x6 x7 x8 x9
      have HBx : Hid (Below w3.heap.size w3 u2) := hb.out.trans (HS2.out.1.mono hb.out.size)
      clear HS2
      go_wp2
      go_roundw
      case rel => exact ⟨k + 1, by omega, by go_num, HBx⟩
      case measure => simp [intOf]; omega
    · obtain rfl : k = n := by omega
      have hBx := HB3.out.trans (hb.out.mono HB3.out.size)
      have s1 : (convert 24 9 (.slice A1 L c1)).run Try.prog wx = .ok (.string (strOfNums P)) wx := str_run ((HP3.out).below hb.out)
      have s2 : (convert 24 9 (.slice A2 L c2)).run Try.prog wx = .ok (.string (strOfNums P)) wx := str_run (HO2.out.below hb.out)
      have HBx := Lib.hid hBx
      clear hBx
      go_wp2_with fail
      refine (CZ.out _ HBx.out).mono ?_
      rintro e u1 ⟨rfl, hb1⟩
      have HB4 := Lib.hid (HBx.out.trans (hb1.mono HBx.out.size))
      clear hb1 s1 s2 HBx CZ
      go_wp2_with fail
      refine (CY.out _ HB4.out).mono ?_
      rintro e u2 ⟨rfl, hb2⟩
      have HB5 := Lib.hid (HB4.out.trans (hb2.mono HB4.out.size))
      clear hb2 HB4 CY
      go_wp2
      go_ret
      exact ⟨rfl, HB5.out⟩
end Go.Proofs.Ytjbgfaoancmknaa.Fbk
