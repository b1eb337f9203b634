/- SiftSides, walked. -/
import Derived.Test.YthmmafpmpnhleaaTh
set_option maxRecDepth 100000
namespace Go.Proofs.Ythmmafpmpnhleaa.Sft
open Go.RowKit
open Rtp (PV pkt pobj PBlk pvOf PRd zpv Off GRet gP)
open Fbk (ILoc IRd ItsRd ItsOwn its RetIts getLE getLV gLE)
set_option linter.unusedVariables false

theorem getLE_side {xs : List Int} (h : getLE xs = 0) : 4 ≤ xs.length ∧ xs.length ≤ 512 ∧ sideB xs = true := by
  unfold getLE at h
  split at h
  · omega
  · rename_i h5
    unfold gLE at h
    split at h
    · rename_i he
      clear h
      unfold iE at he
      split at he
      · omega
      · rename_i h4
        split at he
        · omega
        · split at he
          · rename_i hh
            exact absurd he hh
          · rename_i hh
            refine ⟨by omega, by omega, ?_⟩
            have hz : hE (xs.getD 1 0) (cI xs) (gI xs) = 0 := by simpa using hh
            unfold sideB
            generalize xs.getD 1 0 = k at *
            have : k = 200 ∨ k = 201 ∨ k = 203 ∨ k = 205 ∨ k = 206 := by
              unfold hE at hz
              split at hz
              · omega
              · split at hz
                · omega
                · split at hz
                  · omega
                  · split at hz
                    · omega
                    · split at hz <;> omega
            rcases this with rfl | rfl | rfl | rfl | rfl <;> decide
    · rename_i he
      exact absurd h he
theorem pE_side {xs : List Int} (h : pE xs = 0) : 12 ≤ xs.length ∧ xs.length ≤ 512 ∧ sideB xs = false := by
  unfold pE at h
  split at h
  · omega
  · split at h
    · omega
    · split at h
      · omega
      · split at h
        · omega
        · rename_i hs
          refine ⟨by omega, by omega, ?_⟩
          unfold sideB
          rw [Bool.eq_false_iff]
          intro e
          simp only [Bool.and_eq_true, decide_eq_true_eq] at e
          exact hs e
theorem sides (xs : List Int) : (ofE xs = 0 ∧ kindN (ofV xs) = 1 ∧ pE xs = 0 ∧ getLE xs ≠ 0) ∨ (ofE xs = 0 ∧ kindN (ofV xs) = 2 ∧ pE xs ≠ 0 ∧ getLE xs = 0) ∨ (ofE xs ≠ 0 ∧ getLE xs ≠ 0) := by
  by_cases hf : getLE xs = 0
  · obtain ⟨h1, h2, h3⟩ := getLE_side hf
    refine .inr (.inl ⟨?_, ?_, fun hp => ?_, hf⟩)
    · rw [ofE, if_neg (by omega), if_neg (by omega), if_pos h3, hf]
    · rw [ofV, if_neg (by omega), if_neg (by omega), if_pos h3, feeV, if_pos hf]; rfl
    · rw [(pE_side hp).2.2] at h3; cases h3
  · by_cases hg : ofE xs = 0
    · refine .inl ⟨hg, ?_⟩
      unfold ofE at hg
      unfold ofV
      split at hg
      · omega
      · rename_i h5
        rw [if_neg h5]
        split at hg
        · omega
        · rename_i h2
          rw [if_neg h2]
          split at hg
          · exact absurd hg hf
          · rename_i hs
            rw [if_neg hs, medV, if_pos hg]
            refine ⟨rfl, ?_, hf⟩
            unfold medE at hg
            split at hg
            · rename_i hp; exact hp
            · rename_i hp; exact absurd hg hp
    · exact .inr (.inr ⟨hg, hf⟩)

set_option maxHeartbeats 4000000 in
theorem sides_walk (a : Option Addr) (len cap : Nat) (p : Pkt) (is : List Itm) (ev : Ev) (e f g : Int) (w : World)
    (CP : Hid (∀ W, Below w.heap.size w W → Calls Try.prog 19 #[.slice a len cap] W (GRet W p e))) (CI : Hid (∀ W, Below w.heap.size w W → Calls Try.prog 20 #[.slice a len cap] W (RetIts W is f)))
    (CO : Hid (∀ W, Below w.heap.size w W → Calls Try.prog 9 #[.slice a len cap] W (RetE W ev g)))
    (hc : (g = 0 ∧ kindN ev = 1 ∧ e = 0 ∧ (f == 0) = false) ∨ (g = 0 ∧ kindN ev = 2 ∧ (e == 0) = false ∧ f = 0) ∨ ((g == 0) = false ∧ (e = 0 ∨ (e == 0) = false) ∧ (f == 0) = false)) :
    Calls Try.prog 6 #[.slice a len cap] w (Rtp.RetB w true) := by
  have HC := Lib.hid hc
  clear hc
  go_enter Try.func6, Try.ntmps6
  go_wp2_with fail
  refine (shown_any _).mono ?_
  rintro e1 w1 ⟨rfl, hb1⟩
  go_wp2_with fail
  refine (CP.out _ hb1).mono ?_
  rintro e2 w2 ⟨lc, rfl, -, hb2⟩
  obtain ⟨v, hv⟩ : ∃ v, pvOf p lc = v := ⟨_, rfl⟩
  rw [hv]
  clear hv
  have hb3 := hb1.trans ((hb2.trans (((Below.refl w2.heap.size w2).alloc (Nat.le_refl _) (pobj v)).mono hb2.size)).mono hb1.size)
  go_wp2_with fail
  generalize w2.alloc (pobj v) = w3 at *
  refine (CI.out _ hb3).mono ?_
  rintro e4 w4 ⟨A, c, ps, rfl, -, -, hb4⟩
  have hb5 := hb3.trans (hb4.mono hb3.size)
  clear hb1 hb2 hb3 hb4 CP CI
  go_wp2_with fail
  refine (CO.out _ hb5).mono ?_
  rintro e6 w6 ⟨V, rfl, hv, hb6⟩
  have HV := Lib.hid hv
  have HB := Lib.hid (hb5.trans (hb6.mono hb5.size))
  clear hb5 hb6 hv CO
  rcases HC.out with ⟨rfl, hk, rfl, hf⟩ | ⟨rfl, hk, he, rfl⟩ | ⟨hg, he, hf⟩
  · have hf2 : (f != 0) = true := by simpa using hf
    go_wp2_with fail
    refine (kind_any w6 _ ev V HV.out).mono ?_
    rintro e7 w7 ⟨rfl, hb7⟩
    rw [hk]
    have HV7 := Lib.hid (HV.out.bel hb7)
    have HB7 := Lib.hid (HB.out.trans (hb7.mono HB.out.size))
    clear hb7 HV HB
    go_wp2_with fail
    refine (kind_any w7 _ ev V HV7.out).mono ?_
    rintro e8 w8 ⟨rfl, hb8⟩
    rw [hk]
    have HB8 := Lib.hid (HB7.out.trans (hb8.mono HB7.out.size))
    clear hb8 HV7 HB7
    go_wp2
    go_ret
    exact ⟨rfl, HB8.out⟩
  · go_wp2_with fail
    refine (kind_any w6 _ ev V HV.out).mono ?_
    rintro e7 w7 ⟨rfl, hb7⟩
    rw [hk]
    have HV7 := Lib.hid (HV.out.bel hb7)
    have HB7 := Lib.hid (HB.out.trans (hb7.mono HB.out.size))
    clear hb7 HV HB
    go_wp2_with fail
    refine (kind_any w7 _ ev V HV7.out).mono ?_
    rintro e8 w8 ⟨rfl, hb8⟩
    rw [hk]
    have HB8 := Lib.hid (HB7.out.trans (hb8.mono HB7.out.size))
    clear hb8 HV7 HB7
    go_wp2
    go_ret
    exact ⟨rfl, HB8.out⟩
  · have hf2 : (f != 0) = true := by simpa using hf
    rcases he with rfl | he
    · go_wp2
      go_ret
      exact ⟨rfl, HB.out⟩
    · go_wp2
      go_ret
      exact ⟨rfl, HB.out⟩
theorem sides_law (a : Option Addr) (len cap : Nat) (xs : List Int) (w : World) (hl : len ≤ 140737488351232) (hlc : len ≤ cap) (hr : Rd w w.heap.size a len xs) :
    Calls Try.prog 6 #[.slice a len cap] w (Rtp.RetB w true) := by
  refine sides_walk a len cap _ _ (ofV xs) (pE xs) (getLE xs) (ofE xs) w (fun W hW => Rtp.get_any a len cap w.heap.size xs W (by unfold maxLen; omega) hlc (hr.below hW) hW.size) (fun W hW => Fbk.rc_get a len cap w.heap.size xs W hlc (hr.below hW) hW.size)
    (fun W hW => of_any a len cap w.heap.size xs W (by unfold maxLen; omega) hlc (hr.below hW) hW.size) ?_
  rcases sides xs with ⟨h1, h2, h3, h4⟩ | ⟨h1, h2, h3, h4⟩ | ⟨h1, h2⟩
  · exact .inl ⟨h1, h2, h3, by simpa using h4⟩
  · exact .inr (.inl ⟨h1, h2, by simpa using h3, h4⟩)
  · refine .inr (.inr ⟨by simpa using h1, ?_, by simpa using h2⟩)
    by_cases h : pE xs = 0
    · exact .inl h
    · exact .inr (by simpa using h)
end Go.Proofs.Ythmmafpmpnhleaa.Sft
