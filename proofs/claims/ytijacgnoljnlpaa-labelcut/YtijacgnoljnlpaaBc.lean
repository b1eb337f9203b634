/- LabelCut, walked. -/
import Derived.Test.YtijacgnoljnlpaaBo
namespace Go.Proofs.Ytijacgnoljnlpaa
open Go.RowKit
set_option linter.unusedVariables false

set_option maxHeartbeats 4000000 in
set_option maxRecDepth 1000000 in
theorem cutlaw_any (a : ByteArray) (m n : Int) (w : World) (ha : a.size ≤ 140737488355328) (hm0 : -9223372036854775808 ≤ m) (hm1 : m ≤ 9223372036854775807) (hn0 : -9223372036854775808 ≤ n) (hn1 : n ≤ 9223372036854775807) :
    Calls Try.prog 5 #[.string a, .int .i64 m, .int .i64 n] w fun e w' => e = .returned (.bool true) ∧ Below w.heap.size w w' := by
  have c1 := fun w => cut_any a m w (by omega) hm0 hm1
  have c3 := fun w => cut_any a (min m n) w (by omega) (by omega) (by omega)
  have cr := fun w => runes_any a w (by omega)
  have hrc := runes_cut a.data.toList m
  obtain ⟨S, hS⟩ : ∃ S : ByteArray, S = ⟨(cutL a.data.toList m).toArray⟩ := ⟨_, rfl⟩
  have hSd : S.data.toList = cutL a.data.toList m := by rw [hS]
  have hSz : S.size = cutN a.data.toList m.toNat := by
    rw [← len_eq, hSd, cutL, List.length_take, Nat.min_eq_left (cutN_le _ _)]
  have hSl : S.size ≤ a.size := by rw [hSz, ← len_eq a]; exact cutN_le _ _
  have hex : a.extract 0 S.size = S := by rw [hSz, extract_take, hS, cutL]
  have c2 := fun w => cut_any S n w (by omega) hn0 hn1
  have cs := fun w => runes_any S w (by omega)
  rw [hSd, cut_cut] at c2
  rw [← hSd] at hrc
  simp only [← hS] at c1
  obtain ⟨T, hT⟩ : ∃ T : ByteArray, T = ⟨(cutL a.data.toList (min m n)).toArray⟩ := ⟨_, rfl⟩
  simp only [← hT] at c2 c3
  have hk := runes_le a.data.toList
  rw [len_eq] at hk
  obtain ⟨k, hkk⟩ : ∃ k, runesZ a.data.toList = k := ⟨_, rfl⟩
  rw [hkk] at hk hrc
  simp only [hkk] at cr
  clear hS hSd hSz hT hkk
  by_cases h0 : k < 0
  · go_enter Try.func5, Try.ntmps5
    go_wp2_with (go_at_call 7; refine (shown_any _).mono ?_)
    rintro e w1 ⟨rfl, hb1⟩
    go_wp2_with (go_at_call 10; refine (c1 _).mono ?_)
    rintro e w2 ⟨rfl, hb2⟩
    go_wp2_with (go_at_call 10; refine (c2 _).mono ?_)
    rintro e w3 ⟨rfl, hb3⟩
    go_wp2_with (go_at_call 10; refine (c3 _).mono ?_)
    rintro e w4 ⟨rfl, hb4⟩
    go_wp2_with (go_at_call 9; refine (cr _).mono ?_)
    rintro e w5 ⟨rfl, hb5⟩
    go_wp2
    go_ret
    exact ⟨rfl, below_trans (below_trans (below_trans (below_trans hb1 hb2) hb3) hb4) hb5⟩
  · rw [hrc (by omega)] at cs
    have h0' : 0 ≤ k := by omega
    clear h0 hrc
    go_enter Try.func5, Try.ntmps5
    go_wp2_with (go_at_call 7; refine (shown_any _).mono ?_)
    rintro e w1 ⟨rfl, hb1⟩
    go_wp2_with (go_at_call 10; refine (c1 _).mono ?_)
    rintro e w2 ⟨rfl, hb2⟩
    go_wp2_with (go_at_call 10; refine (c2 _).mono ?_)
    rintro e w3 ⟨rfl, hb3⟩
    go_wp2_with (go_at_call 10; refine (c3 _).mono ?_)
    rintro e w4 ⟨rfl, hb4⟩
    go_wp2_with (go_at_call 9; refine (cr _).mono ?_)
    rintro e w5 ⟨rfl, hb5⟩
    go_wp2_with (go_at_call 9; refine (cs _).mono ?_)
    rintro e w6 ⟨rfl, hb6⟩
    go_wp2
    go_ret
    exact ⟨by simp, below_trans (below_trans (below_trans (below_trans (below_trans hb1 hb2) hb3) hb4) hb5) hb6⟩

end Go.Proofs.Ytijacgnoljnlpaa
