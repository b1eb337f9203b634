/- LabelAll, walked: the program answers as the reference does. -/
import Derived.Test.YtijacgnoljnlpaaDoorRc
import Derived.Test.YtijacgnoljnlpaaDoorBs
namespace Go.Proofs.YtijacgnoljnlpaaDoor
open Go.RowKit
set_option linter.unusedVariables false

set_option maxHeartbeats 4000000 in
set_option maxRecDepth 1000000 in
theorem all_any (s : ByteArray) (n : Int) (w : World) (hs : s.size ≤ 140737488355328) (h0 : -9223372036854775808 ≤ n) (h1 : n ≤ 9223372036854775807) (hT : Lib.Utf8Tabs 0 1 w) :
    Calls Tryd.prog 3 #[.string s, .int .i64 n] w fun e w' => e = .returned (.bool true) ∧ Below w.heap.size w w' := by
  have c1 := fun w => runes_any s w (by omega)
  have c2 := fun w hT => rrunes_any s w (by omega) hT
  have c3 := may_any s
  have c4 := fun w hT => rmay_any s w (by omega) hT
  have c5 := key_any s
  have c6 := fun w hT => rkey_any s w (by omega) hT
  have c7 := fun w => cut_any s n w (by omega) h0 h1
  have c8 := fun w hT => rcut_any s n w (by omega) h0 h1 hT
  obtain ⟨x, hx⟩ : ∃ x, runesZ s.data.toList = x := ⟨_, rfl⟩
  obtain ⟨m, hm⟩ : ∃ m, mayB s.data.toList = m := ⟨_, rfl⟩
  obtain ⟨k, hk⟩ : ∃ k : ByteArray, ⟨(keyL s.data.toList).toArray⟩ = k := ⟨_, rfl⟩
  obtain ⟨c, hc⟩ : ∃ c : ByteArray, ⟨(cutL s.data.toList n).toArray⟩ = c := ⟨_, rfl⟩
  simp only [hx] at c1 c2
  simp only [hm] at c3 c4
  simp only [hk] at c5 c6
  simp only [hc] at c7 c8
  clear hx hm hk hc
  go_enter Tryd.func3, Tryd.ntmps3
  go_wp2_with (go_at_call 4; refine (shown_any _).mono ?_)
  rintro e w1 ⟨rfl, hb1⟩
  go_wp2_with (go_at_call 5; refine (c1 _).mono ?_)
  rintro e w2 ⟨rfl, b2⟩
  have hb2 := below_trans hb1 b2
  go_wp2_with (go_at_call 6; refine (c2 _ (Utf8Tabs_below hT hb2)).mono ?_)
  rintro e w3 ⟨rfl, b3⟩
  have hb3 := below_trans hb2 b3
  go_wp2_with (go_at_call 7; refine (c3 _).mono ?_)
  rintro e w4 ⟨rfl, b4⟩
  have hb4 := below_trans hb3 b4
  go_wp2_with (go_at_call 8; refine (c4 _ (Utf8Tabs_below hT hb4)).mono ?_)
  rintro e w5 ⟨rfl, b5⟩
  have hb5 := below_trans hb4 b5
  go_wp2_with (go_at_call 9; refine (c5 _).mono ?_)
  rintro e w6 ⟨rfl, b6⟩
  have hb6 := below_trans hb5 b6
  go_wp2_with (go_at_call 10; refine (c6 _ (Utf8Tabs_below hT hb6)).mono ?_)
  rintro e w7 ⟨rfl, b7⟩
  have hb7 := below_trans hb6 b7
  go_wp2_with (go_at_call 11; refine (c7 _).mono ?_)
  rintro e w8 ⟨rfl, b8⟩
  have hb8 := below_trans hb7 b8
  go_wp2_with (go_at_call 12; refine (c8 _ (Utf8Tabs_below hT hb8)).mono ?_)
  rintro e w9 ⟨rfl, b9⟩
  have hb9 := below_trans hb8 b9
  go_wp2
  go_ret
  exact ⟨by simp, hb9⟩

end Go.Proofs.YtijacgnoljnlpaaDoor
