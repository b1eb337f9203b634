/- The walk of RtcpTurn. -/
import Derived.Test.YtjbgfaoancmknaaVs
import Derived.Test.YtjbgfaoancmknaaVq
namespace Go.Proofs.Ytjbgfaoancmknaa.Fbk
open Go.RowKit
set_option linter.unusedVariables false

set_option maxRecDepth 100000 in
set_option maxHeartbeats 4000000 in
theorem rtcpTurn_walk (a : Option Addr) (n c : Nat) (ps : List (Itm × ILoc)) (w : World) (hl : n ≤ 140737488351232) (hr : ItsRd w w.heap.size a n ps) (hok : OkL (its ps)) :
    Calls Try.prog 5 #[.slice a n c] w (RetB w true) := by
  have CS : Hid (∀ W, Calls Try.prog 9 #[] W (RetB W true)) := fun W => shown_any W
  have CP : Hid (∀ W, Below w.heap.size w W → Calls Try.prog 10 #[.slice a n c] W (RetR W (putLB (its ps)) (putLE (its ps)))) := fun W hW => rc_put a n c w.heap.size ps W hl (hr.below hW) hW.size hok
  have CZ : Hid (∀ W, Below w.heap.size w W → Calls Try.prog 14 #[.slice a n c] W (RetI W (sizeL (its ps)))) := fun W hW => rc_sizes a n c w.heap.size ps W hl (hr.below hW) hW.size hok
  have HR := Lib.hid hr
  rcases putLE_or (its ps) with hE | hE | ⟨hE, hbig, hsz⟩
  · obtain ⟨g1, g2, g3, g4, g5, g6, g7⟩ := putL_get hok hE
    rw [its_len, hr.len] at g6 g7
    obtain ⟨P, hP⟩ : ∃ P, putLB (its ps) = P := ⟨_, rfl⟩
    obtain ⟨L, hL⟩ : ∃ L, P.length = L := ⟨_, rfl⟩
    have CG : Hid (∀ W A c2, Rd W W.heap.size A L P → L ≤ c2 → Calls Try.prog 16 #[.slice A L c2] W (RetIts W (its ps) 0)) := fun W A c2 h hc => by
      have := rc_get A L c2 W.heap.size P W hc h (Nat.le_refl _)
      rw [← hP, g1, g2] at this
      exact this
    have CQ : Hid (∀ W B cB qs, Below w.heap.size w W → ItsRd W W.heap.size B n qs → its qs = its ps → Calls Try.prog 18 #[.slice a n c, .slice B n cB] W (RetB W true)) := fun W B cB qs hW h2 he => same_its a B n c cB ps qs W hl ((HR.out.below hW).more hW.size) h2 he.symm
    have HLn := Lib.hid (show (its ps).length = n from by rw [its_len, hr.len])
    rw [hP] at g4 g5 CP
    rw [hL] at g4 g5
    rw [hE] at CP
    rw [g5] at CZ
    have HL := Lib.hid hL
    have g4' : (L : Int) ≤ 512 := by omega
    clear hr hok hE g1 g2 g3 g5 hP hL
    go_enter Try.func5, Try.ntmps5
    go_wp2_with fail
    refine (CS.out _).mono ?_
    rintro e w1 ⟨rfl, hb1⟩
    have HB1 := Lib.hid hb1
    clear hb1 CS
    go_wp2_with fail
    refine (CP.out _ HB1.out).mono ?_
    rintro e w2 ⟨A, c2, rfl, ho, hb2⟩
    rw [HL.out] at ho ⊢
    have HB2 := Lib.hid (HB1.out.trans (hb2.mono HB1.out.size))
    have HO := Lib.hid ho.rd
    have HC := Lib.hid (show L ≤ c2 from ho.2.2.1)
    clear hb2 ho HB1 CP
    go_wp2_with fail
    refine (CG.out _ _ _ HO.out HC.out).mono ?_
    rintro e w3 ⟨A3, c3, qs, rfl, hq, ho3, hb3⟩
    rw [HLn.out] at ho3 ⊢
    have HB3 := Lib.hid (HB2.out.trans (hb3.mono HB2.out.size))
    have HO3 := Lib.hid ho3.rd
    have HQ3 := Lib.hid hq
    clear hb3 ho3 hq HB2 CG HO
    go_wp2_with fail
    refine (CQ.out _ _ _ _ HB3.out HO3.out HQ3.out).mono ?_
    rintro e w4 ⟨rfl, hb4⟩
    have HB4 := Lib.hid (HB3.out.trans (hb4.mono HB3.out.size))
    clear hb4 HO3 HQ3 HB3 CQ
    go_wp2_with fail
    refine (CZ.out _ HB4.out).mono ?_
    rintro e w5 ⟨rfl, hb5⟩
    have HB5 := Lib.hid (HB4.out.trans (hb5.mono HB4.out.size))
    clear hb5 HB4 CZ
    go_wp2
    go_ret
    exact ⟨rfl, HB5.out⟩
  · rw [putLB_no (by rw [hE]; decide), hE] at CP
    clear hr hok hE CZ
    go_enter Try.func5, Try.ntmps5
    go_wp2_with fail
    refine (CS.out _).mono ?_
    rintro e w1 ⟨rfl, hb1⟩
    have HB1 := Lib.hid hb1
    clear hb1 CS
    go_wp2_with fail
    refine (CP.out _ HB1.out).mono ?_
    rintro e w2 ⟨A, c2, rfl, ho, hb2⟩
    have HB2 := Lib.hid (HB1.out.trans (hb2.mono HB1.out.size))
    clear hb2 ho HB1 CP
    go_wp2
    go_ret
    exact ⟨rfl, HB2.out⟩
  · rw [putLB_no (by rw [hE]; decide), hE] at CP
    rw [hsz] at CZ
    have hbig' : (512 : Int) < ((encL (its ps)).length : Nat) := by omega
    clear hr hok hE hsz
    generalize (encL (its ps)).length = L at *
    go_enter Try.func5, Try.ntmps5
    go_wp2_with fail
    refine (CS.out _).mono ?_
    rintro e w1 ⟨rfl, hb1⟩
    have HB1 := Lib.hid hb1
    clear hb1 CS
    go_wp2_with fail
    refine (CP.out _ HB1.out).mono ?_
    rintro e w2 ⟨A, c2, rfl, ho, hb2⟩
    have HB2 := Lib.hid (HB1.out.trans (hb2.mono HB1.out.size))
    clear hb2 ho HB1 CP
    go_wp2_with fail
    refine (CZ.out _ HB2.out).mono ?_
    rintro e w3 ⟨rfl, hb3⟩
    have HB3 := Lib.hid (HB2.out.trans (hb3.mono HB2.out.size))
    clear hb3 HB2 CZ
    go_wp2
    go_ret
    exact ⟨rfl, HB3.out⟩
end Go.Proofs.Ytjbgfaoancmknaa.Fbk
