/- The walk of RtcpGets. -/
import Derived.Test.YtjbgfaoancmknaaVs
import Derived.Test.YtjbgfaoancmknaaVr
import Derived.Test.YtjbgfaoancmknaaVq
namespace Go.Proofs.Ytjbgfaoancmknaa.Fbk
open Go.RowKit
set_option linter.unusedVariables false

set_option maxRecDepth 100000 in
set_option maxHeartbeats 4000000 in
theorem rtcpGets_walk (a : Option Addr) (n c : Nat) (xs : List Int) (w : World) (hr : Rd w w.heap.size a n xs) (hlc : n ≤ c) :
    Calls Try.prog 4 #[.slice a n c] w (RetB w true) := by
  have CS : Hid (∀ W, Calls Try.prog 9 #[] W (RetB W true)) := fun W => shown_any W
  have CG : Hid (∀ W, Below w.heap.size w W → Calls Try.prog 16 #[.slice a n c] W (RetIts W (getLV xs) (getLE xs))) := fun W hW => rc_get a n c w.heap.size xs W hlc (hr.below hW) hW.size
  have CR : Hid (∀ W, Below w.heap.size w W → Calls Try.prog 17 #[.slice a n c] W (RetIts W (getLV xs) (getLE xs))) := fun W hW => rf_get a n c w.heap.size xs W hlc (hr.below hW) hW.size
  have hl8 : (getLV xs).length ≤ 8 := by
    by_cases hE : getLE xs = 0
    · exact (getLE_ok hr.2.1 hE).2.2.2.2.2.1
    · rw [getLV_no hE]; simp
  have CQ : Hid (∀ W A B N cA cB ps qs, N ≤ 8 → ItsRd W W.heap.size A N ps → ItsRd W W.heap.size B N qs → its ps = its qs → Calls Try.prog 18 #[.slice A N cA, .slice B N cB] W (RetB W true)) := fun W A B N cA cB ps qs hN h1 h2 he => same_its A B N cA cB ps qs W (by omega) h1 h2 he
  obtain ⟨N, hN⟩ : ∃ N, (getLV xs).length = N := ⟨_, rfl⟩
  have HN := Lib.hid hN
  rw [hN] at hl8
  clear hr hN
  generalize getLV xs = is at *
  generalize getLE xs = E at *
  go_enter Try.func4, Try.ntmps4
  go_wp2_with fail
  refine (CS.out _).mono ?_
  rintro e w1 ⟨rfl, hb1⟩
  have HB1 := Lib.hid hb1
  clear hb1 CS
  go_wp2_with fail
  refine (CG.out _ HB1.out).mono ?_
  rintro e w2 ⟨A, c2, ps, rfl, hq, ho, hb2⟩
  rw [HN.out] at ho ⊢
  have HB2 := Lib.hid (HB1.out.trans (hb2.mono HB1.out.size))
  have HO := Lib.hid ho.rd
  have HQ := Lib.hid hq
  clear hb2 ho hq HB1 CG
  go_wp2_with fail
  refine (CR.out _ HB2.out).mono ?_
  rintro e w3 ⟨A3, c3, qs, rfl, hq3, ho3, hb3⟩
  rw [HN.out] at ho3 ⊢
  have HB3 := Lib.hid (HB2.out.trans (hb3.mono HB2.out.size))
  have HO2 := Lib.hid ((HO.out.below hb3).more hb3.size)
  have HO3 := Lib.hid ho3.rd
  have HQ3 := Lib.hid (HQ.out.trans hq3.symm)
  clear hb3 ho3 hq3 HB2 CR HO HQ
  go_wp2_with fail
  refine (CQ.out _ _ _ _ _ _ _ _ hl8 HO2.out HO3.out HQ3.out).mono ?_
  rintro e w4 ⟨rfl, hb4⟩
  have HB4 := Lib.hid (HB3.out.trans (hb4.mono HB3.out.size))
  clear hb4 HO2 HO3 HQ3 HB3 CQ
  go_wp2
  go_ret
  exact ⟨rfl, HB4.out⟩
end Go.Proofs.Ytjbgfaoancmknaa.Fbk
