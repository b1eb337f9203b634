/- The walk of RtcpBack. -/
import Derived.Test.YtjbgfaoancmknaaVs
namespace Go.Proofs.Ytjbgfaoancmknaa.Fbk
open Go.RowKit
set_option linter.unusedVariables false

set_option maxRecDepth 100000 in
set_option maxHeartbeats 4000000 in
theorem rtcpBack_walk (a : Option Addr) (n c : Nat) (xs : List Int) (w : World) (hr : Rd w w.heap.size a n xs) (hlc : n ≤ c) :
    Calls Try.prog 6 #[.slice a n c] w (RetB w true) := by
  have CS : Hid (∀ W, Calls Try.prog 9 #[] W (RetB W true)) := fun W => shown_any W
  have CG : Hid (∀ W, Below w.heap.size w W → Calls Try.prog 16 #[.slice a n c] W (RetIts W (getLV xs) (getLE xs))) := fun W hW => rc_get a n c w.heap.size xs W hlc (hr.below hW) hW.size
  have HR := Lib.hid hr
  have HX := Lib.hid hr.1
  by_cases hE : getLE xs = 0
  · obtain ⟨k1, k2, k3, k4, k5, k6, k7, k8⟩ := getLE_ok hr.2.1 hE
    have CP : Hid (∀ W A N c2 ps, N ≤ 8 → ItsRd W W.heap.size A N ps → its ps = getLV xs → Calls Try.prog 10 #[.slice A N c2] W (RetR W xs 0)) := fun W A N c2 ps hN h he => by
      have := rc_put A N c2 W.heap.size ps W (by omega) h (Nat.le_refl _) (he ▸ k4)
      rw [he, k7, k8] at this
      exact this
    obtain ⟨N, hN⟩ : ∃ N, (getLV xs).length = N := ⟨_, rfl⟩
    have HN := Lib.hid hN
    rw [hN] at k5 k6
    have k5' : (1 : Int) ≤ N := by omega
    have k6' : (N : Int) ≤ 8 := by omega
    rw [hE] at CG
    clear hr hE k1 k2 k3 k4 k7 k8 hN
    generalize getLV xs = is at *
    go_enter Try.func6, Try.ntmps6
    go_wp2_with fail
    refine (CS.out _).mono ?_
    rintro e w1 ⟨rfl, hb1⟩
    have HB1 := Lib.hid hb1
    clear hb1 CS
    go_wp2_with fail
    refine (CG.out _ HB1.out).mono ?_
    rintro e w2 ⟨A, c2, ps, rfl, hq, ho, hb2⟩
    rw [HN.out] at ho ⊢
    have HB2 := Lib.hid (HB1.out.trans (hb2.mono HB1.out.size))
    have HO := Lib.hid ho.rd
    have HQ := Lib.hid hq
    clear hb2 ho hq HB1 CG
    go_wp2_with fail
    refine (CP.out _ _ _ _ _ k6 HO.out HQ.out).mono ?_
    rintro e w3 ⟨A3, c3, rfl, ho3, hb3⟩
    rw [HX.out] at ho3 ⊢
    have hB3 := HB2.out.trans (hb3.mono HB2.out.size)
    have s1 : (convert 24 9 (.slice a n c)).run Try.prog w3 = .ok (.string (strOfNums xs)) w3 := str_run (HR.out.below hB3)
    have s2 : (convert 24 9 (.slice A3 n c3)).run Try.prog w3 = .ok (.string (strOfNums xs)) w3 := str_run ho3.rd
    have HB3 := Lib.hid hB3
    clear hb3 hB3 ho3 HB2 CP HO HQ
    go_wp2
    go_ret
    exact ⟨rfl, HB3.out⟩
  · have hV := getLV_no hE
    rw [hV] at CG
    have hE' : (getLE xs != 0) = true := by simpa using hE
    clear hr hE hV
    generalize getLE xs = E at *
    go_enter Try.func6, Try.ntmps6
    go_wp2_with fail
    refine (CS.out _).mono ?_
    rintro e w1 ⟨rfl, hb1⟩
    have HB1 := Lib.hid hb1
    clear hb1 CS
    go_wp2_with fail
    refine (CG.out _ HB1.out).mono ?_
    rintro e w2 ⟨A, c2, ps, rfl, hq, ho, hb2⟩
    have HB2 := Lib.hid (HB1.out.trans (hb2.mono HB1.out.size))
    clear hb2 ho hq HB1 CG
    go_wp2
    go_ret
    exact ⟨rfl, HB2.out⟩
end Go.Proofs.Ytjbgfaoancmknaa.Fbk
