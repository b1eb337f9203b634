/- The statements' own examples ('shown'): true. -/
import Derived.Test.YtijacgnoljnlpaaDoorBn
namespace Go.Proofs.YtijacgnoljnlpaaDoor
open Go.RowKit
set_option linter.unusedVariables false

theorem sh1 (w : World) : Calls Tryd.prog 7 #[.string ⟨#[65, 110, 110]⟩] w fun e w' => e = .returned (.bool true) ∧ Below w.heap.size w w' := by
  have h := may_any ⟨#[65, 110, 110]⟩ w
  rwa [show mayB (ByteArray.mk #[65, 110, 110]).data.toList = true by decide +kernel] at h
theorem sh2 (w : World) : Calls Tryd.prog 7 #[.string ⟨#[]⟩] w fun e w' => e = .returned (.bool false) ∧ Below w.heap.size w w' := by
  have h := may_any ⟨#[]⟩ w
  rwa [show mayB (ByteArray.mk #[]).data.toList = false by decide +kernel] at h
theorem sh3 (w : World) : Calls Tryd.prog 7 #[.string ⟨#[97, 32, 98]⟩] w fun e w' => e = .returned (.bool false) ∧ Below w.heap.size w w' := by
  have h := may_any ⟨#[97, 32, 98]⟩ w
  rwa [show mayB (ByteArray.mk #[97, 32, 98]).data.toList = false by decide +kernel] at h
theorem sh4 (w : World) : Calls Tryd.prog 5 #[.string ⟨#[195, 164, 98]⟩] w fun e w' => e = .returned (.int .i64 2) ∧ Below w.heap.size w w' := by
  have h := runes_any ⟨#[195, 164, 98]⟩ w (by decide)
  rwa [show runesZ (ByteArray.mk #[195, 164, 98]).data.toList = 2 by decide +kernel] at h
theorem sh5 (w : World) : Calls Tryd.prog 5 #[.string ⟨#[255]⟩] w fun e w' => e = .returned (.int .i64 (-1)) ∧ Below w.heap.size w w' := by
  have h := runes_any ⟨#[255]⟩ w (by decide)
  rwa [show runesZ (ByteArray.mk #[255]).data.toList = -1 by decide +kernel] at h
theorem sh6 (w : World) : Calls Tryd.prog 9 #[.string ⟨#[65, 110, 195, 132]⟩] w fun e w' => e = .returned (.string ⟨#[97, 110, 195, 132]⟩) ∧ Below w.heap.size w w' := by
  have h := key_any ⟨#[65, 110, 195, 132]⟩ w
  rwa [show keyL (ByteArray.mk #[65, 110, 195, 132]).data.toList = [97, 110, 195, 132] by decide +kernel] at h
theorem sh7 (w : World) : Calls Tryd.prog 11 #[.string ⟨#[195, 164, 98, 99]⟩, .int .i64 2] w fun e w' => e = .returned (.string ⟨#[195, 164, 98]⟩) ∧ Below w.heap.size w w' := by
  have h := cut_any ⟨#[195, 164, 98, 99]⟩ 2 w (by decide) (by decide) (by decide)
  rwa [show cutL (ByteArray.mk #[195, 164, 98, 99]).data.toList 2 = [195, 164, 98] by decide +kernel] at h

set_option maxHeartbeats 4000000 in
set_option maxRecDepth 1000000 in
theorem shown_any (w : World) : Calls Tryd.prog 4 #[] w fun e w' => e = .returned (.bool true) ∧ Below w.heap.size w w' := by
  go_enter Tryd.func4, Tryd.ntmps4
  go_wp2_with (go_at_call 7; refine (sh1 _).mono ?_)
  rintro e w1 ⟨rfl, h1⟩
  go_wp2_with (go_at_call 7; refine (sh2 _).mono ?_)
  rintro e w2 ⟨rfl, h2⟩
  go_wp2_with (go_at_call 7; refine (sh3 _).mono ?_)
  rintro e w3 ⟨rfl, h3⟩
  go_wp2_with (go_at_call 5; refine (sh4 _).mono ?_)
  rintro e w4 ⟨rfl, h4⟩
  go_wp2_with (go_at_call 5; refine (sh5 _).mono ?_)
  rintro e w5 ⟨rfl, h5⟩
  go_wp2_with (go_at_call 9; refine (sh6 _).mono ?_)
  rintro e w6 ⟨rfl, h6⟩
  go_wp2_with (go_at_call 11; refine (sh7 _).mono ?_)
  rintro e w7 ⟨rfl, h7⟩
  go_wp2
  go_ret
  exact ⟨rfl, below_trans (below_trans (below_trans (below_trans (below_trans (below_trans h1 h2) h3) h4) h5) h6) h7⟩

end Go.Proofs.YtijacgnoljnlpaaDoor
