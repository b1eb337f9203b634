/- NackTurn walked: the pairs that were packed ask for just those numbers, in their order. -/
import Derived.Test.YtmgpphgiigppgaaUh
import Derived.Test.YtmgpphgiigppgaaUe
namespace Go.Proofs.Ytmgpphgiigppgaa.Nck
open Go.RowKit Go.Proofs.Ytmgpphgiigppgaa.Fbk
set_option linter.unusedVariables false

set_option maxHeartbeats 4000000 in
theorem turn_any (a : Option Addr) (n cap B : Nat) (ms : List Int) (w : World) (hl : n ≤ 1048576) (hr : RowRd w16L w B a n ms) (hB : B ≤ w.heap.size) (hok : ∀ x ∈ ms, U16 x) :
    Calls Try.prog 4 #[.slice a n cap] w fun e w' => e = .returned (.bool true) ∧ Below w.heap.size w w' := by
  obtain rfl : ms.length = n := hr.1
  have HR := Lib.hid hr
  have HO := Lib.hid hok
  have HK := Lib.hid (pk_ok ms hok)
  have HL := Lib.hid (pk_len ms)
  obtain ⟨n, hn⟩ : ∃ n, ms.length = n := ⟨_, rfl⟩
  have HN := Lib.hid hn
  rw [hn] at HR hl HL ⊢
  clear hr hok hn
  go_enter Try.func4, Try.ntmps4
  go_wp2_with fail
  refine (shown_any w).mono ?_
  rintro e w1 ⟨rfl, hb1⟩
  have HB1 := Lib.hid hb1
  have CP : Hid (Calls Try.prog 11 #[.slice a n cap] w1 fun e w' => NewP w1 (pk ms) e w') := by
    have := pack_any a cap B ms w1 (by have := HN.out; omega) (by rw [HN.out]; exact HR.out.below (hb1.mono hB)) (Nat.le_trans hB hb1.size) HO.out
    rw [HN.out] at this
    exact this
  clear hb1
  go_wp2_with fail
  refine CP.out.mono ?_
  rintro e w2 ⟨A2, c2, rfl, ho2, hb2⟩
  have HB2 := Lib.hid (HB1.out.trans (hb2.mono HB1.out.size))
  have CE : Hid (Calls Try.prog 9 #[.slice A2 (pk ms).length c2] w2 fun e w' => New16 w2 ms e w') := by
    have := expand_any A2 c2 w2.heap.size (pk ms) w2 (by have := HL.out; omega) ho2.rd (Nat.le_refl _) HK.out.words
    rw [HK.out.exp] at this
    exact this
  clear CP ho2 hb2 HB1
  obtain ⟨N, hN⟩ : ∃ N, (pk ms).length = N := ⟨_, rfl⟩
  rw [hN] at CE ⊢
  clear hN
  go_wp2_with fail
  refine CE.out.mono ?_
  rintro e w3 ⟨A3, c3, rfl, ho3, hb3⟩
  have HB3 := Lib.hid (HB2.out.trans (hb3.mono HB2.out.size))
  have CS : Hid (Calls Try.prog 13 #[.slice A3 ms.length c3, .slice a n cap] w3 fun e w' => e = .returned (.bool true) ∧ Below w3.heap.size w3 w') := by
    have := same_any A3 a c3 cap w3.heap.size B ms ms w3 ho3.rd (by rw [HN.out]; exact HR.out.below (HB3.out.mono hB)) (Nat.le_refl _) (Nat.le_trans hB HB3.out.size) (by have := HN.out; omega) (by have := HN.out; omega)
    rw [decide_eq_true (rfl : ms = ms), HN.out] at this
    rw [HN.out]
    exact this
  clear CE ho3 hb3 HB2
  rw [HN.out] at CS ⊢
  go_wp2_with fail
  refine CS.out.mono ?_
  rintro e w4 ⟨rfl, hb4⟩
  have HB4 := Lib.hid (HB3.out.trans (hb4.mono HB3.out.size))
  clear hb4
  go_wp2_with fail
  go_ret
  exact ⟨rfl, HB4⟩
end Go.Proofs.Ytmgpphgiigppgaa.Nck
