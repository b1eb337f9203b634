/- LabelKey, at every input. -/
import Derived.Test.YtijacgnoljnlpaaBk
namespace Go.Proofs.Ytijacgnoljnlpaa
open Go.RowKit
set_option linter.unusedVariables false

set_option maxHeartbeats 4000000 in
set_option maxRecDepth 1000000 in
theorem keylaw_not (s : ByteArray) (t : Option Addr) (n c : Nat) (w : World) (hm : mayB s.data.toList = false) :
    Calls Try.prog 6 #[.string s, .slice t n c] w fun e w' => e = .returned (.bool true) ∧ Below w.heap.size w w' := by
  have ck := key_any s
  have cm := may_any s
  rw [hm] at cm
  rw [key_of_not hm] at ck
  go_enter Try.func6, Try.ntmps6
  go_wp2_with (go_at_call 7; refine (shown_any _).mono ?_)
  rintro e w1 ⟨rfl, hb1⟩
  go_wp2_with (go_at_call 11; refine (ck _).mono ?_)
  rintro e w2 ⟨rfl, hb2⟩
  go_wp2_with (go_at_call 8; refine (cm _).mono ?_)
  rintro e w3 ⟨rfl, hb3⟩
  go_wp2
  go_ret
  exact ⟨by simp, below_trans (below_trans hb1 hb2) hb3⟩

theorem keylaw_any (s : ByteArray) (t : Option Addr) (n c : Nat) (B : Nat → Bool) (w : World) (ht : IsBools w t n B) (hs : s.size ≤ 140737488355328) (hn : n ≤ 9223372036854775807) :
    Calls Try.prog 6 #[.string s, .slice t n c] w fun e w' => e = .returned (.bool true) ∧ Below w.heap.size w w' := by
  cases hm : mayB s.data.toList with
  | false => exact keylaw_not s t n c w hm
  | true => exact keylaw_may s t n c B w ht hm hs hn

end Go.Proofs.Ytijacgnoljnlpaa
