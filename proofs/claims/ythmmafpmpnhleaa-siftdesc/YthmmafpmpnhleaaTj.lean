/- SiftDesc, walked. -/
import Derived.Test.YthmmafpmpnhleaaTi
set_option maxRecDepth 100000
namespace Go.Proofs.Ythmmafpmpnhleaa.Sft
open Go.RowKit
open Rtp (PV pkt pobj PBlk pvOf PRd zpv Off GRet gP)
open Fbk (ILoc IRd ItsRd ItsOwn its RetIts getLE getLV gLE)
set_option linter.unusedVariables false

theorem gE_no {ys : List Int} (h : gE ys ≠ 0) : gL ys = 0 ∧ gK ys = false ∧ gS ys = false ∧ gF ys = 0 := by
  have ho : gOk ys = false := by
    unfold gE at h
    unfold gOk
    split at h
    · rename_i h4; simp; omega
    · split at h
      · exact absurd rfl h
      · rename_i hf; simp only [Bool.eq_false_iff.2 hf, Bool.and_false]
  simp [gL, gK, gS, gF, ho]
theorem of_put {p : Pkt} (ho : p.Ok) (h : putE p = 0) : ofE (putB p) = gE p.pay ∧ ofV (putB p) = (if gE p.pay = 0 then .media p (gL p.pay) (gK p.pay) (gS p.pay) (gF p.pay) else .none) ∧ (putB p).length ≤ 512 := by
  obtain ⟨h1, h2, -, h4, -⟩ := Rtp.put_get ho h
  have h5 : pQ (putB p) = p := by
    rw [Rtp.gP, if_pos h1] at h2
    exact h2
  obtain ⟨e1, e2, e3⟩ := pE_side h1
  have e5 : medE (putB p) = gE p.pay := by rw [medE, if_pos h1, h5]
  refine ⟨?_, ?_, h4⟩
  · rw [ofE, if_neg (by omega), if_neg (by omega), if_neg (by rw [e3]; decide), e5]
  · rw [ofV, if_neg (by omega), if_neg (by omega), if_neg (by rw [e3]; decide), medV, e5, h5]

set_option maxHeartbeats 4000000 in
theorem desc_walk (v : PV) (ys : List Int) (ev : Ev) (l f m n : Int) (k s : Bool) (w : World) (hl : ys.length ≤ 512)
    (CP : Hid (∀ W, Below w.heap.size w W → Calls Try.prog 21 #[pkt v] W (Rtp.RetR W ys n)))
    (CD : Hid (∀ W, Below w.heap.size w W → Calls Try.prog 22 #[.slice v.pa v.pn v.pc] W (RetG W l k s f m)))
    (CO : Hid (∀ W A n c, Rd W W.heap.size A n ys → n ≤ 512 → n ≤ c → Calls Try.prog 9 #[.slice A n c] W (RetE W ev m)))
    (CF : Hid (∀ W V, EvRd W W.heap.size ev V → Calls Try.prog 12 #[V] W fun e w' => ∃ v A n c, e = .returned (.tuple #[pkt v, dsc l k s f, .slice A n c]) ∧ Below W.heap.size W w'))
    (hn : n = 0) (hm : (m = 0 ∧ kindN ev = 1) ∨ (m != 0) = true) :
    Calls Try.prog 7 #[pkt v] w (Rtp.RetB w true) := by
  have HM := Lib.hid hm
  clear hm
  subst hn
  go_enter Try.func7, Try.ntmps7
  go_wp2_with fail
  refine (shown_any _).mono ?_
  rintro e1 w1 ⟨rfl, hb1⟩
  have D1 := (PBlk.new w v).below hb1 (PBlk.new w v).lt
  have hb := ((Below.refl w.heap.size w).alloc (Nat.le_refl _) (pobj v)).trans (hb1.mono (by simp))
  clear hb1
  obtain ⟨c0, c1, c2, c3, c4, c5, c6, c7, c8, c9, c10⟩ := D1.cells
  go_wp2_with fail
  refine (CP.out _ hb).mono ?_
  rintro e2 w2 ⟨A, c, rfl, ho, hb2⟩
  have D2 := D1.below hb2 D1.lt
  have HO2 := Lib.hid ho
  have hbb := hb.trans (hb2.mono hb.size)
  clear hb hb2 ho c0 c1 c2 c3 c4 c5 c6 c7 c8 c9 c10 D1 CP
  obtain ⟨z, hz⟩ : ∃ z, ys.length = z := ⟨_, rfl⟩
  rw [hz] at HO2 hl ⊢
  have c9 := D2.c9
  go_wp2_with fail
  refine (CD.out _ hbb).mono ?_
  rintro e3 w3 ⟨rfl, hb3⟩
  have hb3' := (Below.refl w3.heap.size w3).alloc (Nat.le_refl _) (.cells #[.int .i64 l, .bool k, .bool s, .int .u16 f] 35 (0, 0))
  have E4 := DBlk.new w3 l k s f
  have hb34 := hb3.trans (hb3'.mono hb3.size)
  have HB4 := Lib.hid (hbb.trans (hb34.mono hbb.size))
  have HR4 := Lib.hid ((HO2.out.rd.below hb34).more hb34.size)
  have HC := Lib.hid HO2.out.2.2.1
  clear hb3 hb3' hb34 hbb D2 c9 HO2 CD
  go_wp2_with fail
  generalize w3.alloc (.cells #[.int .i64 l, .bool k, .bool s, .int .u16 f] 35 (0, 0)) = w4 at *
  generalize w3.heap.size = q at *
  refine (CO.out w4 A z c HR4.out hl HC.out).mono ?_
  rintro e5 w5 ⟨V, rfl, hv, hb5⟩
  have E5 := E4.below hb5 E4.lt
  have HV := Lib.hid hv
  have HB5 := Lib.hid (HB4.out.trans (hb5.mono HB4.out.size))
  clear hb5 hv HB4 HR4 E4 CO
  go_wp2_with fail
  refine (CF.out w5 V HV.out).mono ?_
  rintro e6 w6 ⟨v6, A6, n6, c6, rfl, hb6⟩
  have hb7 : Below w6.heap.size w6 ((w6.alloc (pobj v6)).alloc (.cells #[.int .i64 l, .bool k, .bool s, .int .u16 f] 35 (0, 0))) := ((Below.refl _ _).alloc (Nat.le_refl _) (pobj v6)).alloc (by simp) _
  have hb67 := hb6.trans (hb7.mono hb6.size)
  have E7 := E5.below hb67 E5.lt
  have F7 : DBlk ((w6.alloc (pobj v6)).alloc (.cells #[.int .i64 l, .bool k, .bool s, .int .u16 f] 35 (0, 0))) (w6.heap.size + 1) l k s f := by
    have := DBlk.new (w6.alloc (pobj v6)) l k s f
    rw [show (w6.alloc (pobj v6)).heap.size = w6.heap.size + 1 from by simp] at this
    exact this
  have HV7 := Lib.hid (HV.out.bel hb67)
  have HB7 := Lib.hid (HB5.out.trans (hb67.mono HB5.out.size))
  clear hb6 hb7 hb67 E5 HV HB5 CF
  have a0 := E7.c0
  have a1 := E7.c1
  have a2 := E7.c2
  have a3 := E7.c3
  have b0 := F7.c0
  have b1 := F7.c1
  have b2 := F7.c2
  have b3 := F7.c3
  clear E7 F7
  rcases HM.out with ⟨rfl, hk⟩ | hm
  · go_wp2_with fail
    refine (kind_any _ _ ev V HV7.out).mono ?_
    rintro e8 w8 ⟨rfl, hb8⟩
    rw [hk]
    have HB8 := Lib.hid (HB7.out.trans (hb8.mono HB7.out.size))
    clear hb8 HV7 HB7 a0 a1 a2 a3 b0 b1 b2 b3
    go_wp2
    go_ret
    exact ⟨rfl, HB8.out⟩
  · go_wp2
    go_ret
    exact ⟨rfl, HB7.out⟩
set_option maxHeartbeats 4000000 in
theorem desc_no (v : PV) (ys : List Int) (n : Int) (w : World) (CP : Hid (∀ W, Below w.heap.size w W → Calls Try.prog 21 #[pkt v] W (Rtp.RetR W ys n))) (hn : (n != 0) = true) :
    Calls Try.prog 7 #[pkt v] w (Rtp.RetB w true) := by
  go_enter Try.func7, Try.ntmps7
  go_wp2_with fail
  refine (shown_any _).mono ?_
  rintro e1 w1 ⟨rfl, hb1⟩
  have D1 := (PBlk.new w v).below hb1 (PBlk.new w v).lt
  have hb := ((Below.refl w.heap.size w).alloc (Nat.le_refl _) (pobj v)).trans (hb1.mono (by simp))
  clear hb1
  obtain ⟨c0, c1, c2, c3, c4, c5, c6, c7, c8, c9, c10⟩ := D1.cells
  go_wp2_with fail
  refine (CP.out _ hb).mono ?_
  rintro e2 w2 ⟨A, c, rfl, ho, hb2⟩
  have HB2 := Lib.hid (hb.trans (hb2.mono hb.size))
  clear hb hb2 ho c0 c1 c2 c3 c4 c5 c6 c7 c8 c9 c10 D1 CP
  go_wp2
  go_ret
  exact ⟨rfl, HB2.out⟩
theorem desc_law (p : Pkt) (lc : Rtp.Loc) (w : World) (ho : p.Ok) (hr : PRd w w.heap.size p lc) : Calls Try.prog 7 #[pkt (pvOf p lc)] w (Rtp.RetB w true) := by
  have CP : ∀ W, Below w.heap.size w W → Calls Try.prog 21 #[pkt (pvOf p lc)] W (Rtp.RetR W (putB p) (putE p)) := fun W hW => Rtp.put_pkt W p lc ho ((hr.below hW).more hW.size) (Nat.le_refl _)
  have CD : ∀ W, Below w.heap.size w W → Calls Try.prog 22 #[.slice (pvOf p lc).pa (pvOf p lc).pn (pvOf p lc).pc] W (RetG W (gL p.pay) (gK p.pay) (gS p.pay) (gF p.pay) (gE p.pay)) := fun W hW =>
    get_any _ _ _ _ _ W (Nat.le_trans hr.pn (by decide)) (hr.pay.below hW) hW.size
  by_cases h : putE p = 0
  · obtain ⟨h1, h2, h3⟩ := of_put ho h
    obtain ⟨b1, b2, -⟩ := of_ok (xs := putB p) (Rtp.put_get ho h).2.2.1
    have CO : ∀ W A n c, Rd W W.heap.size A n (putB p) → n ≤ 512 → n ≤ c → Calls Try.prog 9 #[.slice A n c] W (RetE W (ofV (putB p)) (gE p.pay)) := fun W A n c hq hn hc => by
      have := of_any A n c _ (putB p) W (by unfold maxLen; omega) hc hq (Nat.le_refl _)
      rw [h1] at this
      exact this
    obtain ⟨q1, q2, q3, q4⟩ : flL (ofV (putB p)) = gL p.pay ∧ flK (ofV (putB p)) = gK p.pay ∧ flS (ofV (putB p)) = gS p.pay ∧ flF (ofV (putB p)) = gF p.pay := by
      rw [h2]
      by_cases hg : gE p.pay = 0
      · rw [if_pos hg]; exact ⟨rfl, rfl, rfl, rfl⟩
      · obtain ⟨z1, z2, z3, z4⟩ := gE_no hg
        rw [if_neg hg, z1, z2, z3, z4]; exact ⟨rfl, rfl, rfl, rfl⟩
    have CF : ∀ W V, EvRd W W.heap.size (ofV (putB p)) V → Calls Try.prog 12 #[V] W fun e w' => ∃ v A n c, e = .returned (.tuple #[pkt v, dsc (gL p.pay) (gK p.pay) (gS p.pay) (gF p.pay), .slice A n c]) ∧ Below W.heap.size W w' := fun W V hV => by
      refine (flat_any W _ V hV b2).mono ?_
      rintro e w' ⟨lc, A, c, ps, rfl, -, -, -, hb⟩
      rw [q1, q2, q3, q4]
      exact ⟨_, _, _, _, rfl, hb⟩
    refine desc_walk _ (putB p) (ofV (putB p)) _ _ (gE p.pay) (putE p) _ _ w h3 CP CD CO CF h ?_
    by_cases hg : gE p.pay = 0
    · exact .inl ⟨hg, by rw [h2, if_pos hg]; rfl⟩
    · exact .inr (by simpa using hg)
  · exact desc_no _ _ _ w CP (by simpa using h)
end Go.Proofs.Ythmmafpmpnhleaa.Sft
