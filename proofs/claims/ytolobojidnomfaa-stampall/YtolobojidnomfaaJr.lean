/- The reference's Step and Break of a course. -/
import Derived.Test.YtolobojidnomfaaJa
import Derived.Test.YtolobojidnomfaaSb
set_option maxRecDepth 100000
namespace Go.Proofs.Ytolobojidnomfaa.Crs
open Go.RowKit
set_option linter.unusedVariables false

set_option maxHeartbeats 4000000 in
theorem rstep_any (w : World) (c : Co) (i : Int) (hc : CoOk c) (h0 : 0 ≤ i) (h1 : i ≤ 65535) : Calls Try.prog 31 #[coV c, .int .u16 i] w fun e w' => e = .returned (stV (stp c i)) ∧ Below w.heap.size w w' := by
  obtain ⟨l, a, o, n⟩ := c
  obtain ⟨⟨ha, ha2⟩, -, hn, hn2⟩ := hc
  simp only at ha ha2 hn hn2
  have q1 : IntKind.u16.wrap ((n - i + 65536).tmod 65536) = (n - i) % 65536 := by rw [u16_wrap, Int.tmod_eq_emod_of_nonneg (by omega)]; omega
  have q2 : IntKind.u16.wrap ((n + 1).tmod 65536) = (n + 1) % 65536 := by rw [u16_wrap, Int.tmod_eq_emod_of_nonneg (by omega)]; omega
  cases l with
  | true =>
    cases hh : ah16 i a with
    | true =>
      rw [stp_yes (by simp [refd, hh])]
      have hd : ¬ (d16 i a ≤ 0) := by simp [ah16] at hh; omega
      have HD := Lib.hid (new2 w (true, a, o, n) (true, i, (n - i) % 65536, (n + 1) % 65536))
      go_enter Try.func31, Try.ntmps31
      go_wp2_with (go_at_call 44; refine (rdiff16_any _ _ _ (by omega) (by omega) (by omega) (by omega)).mono ?_; rintro e w' ⟨rfl, rfl⟩)
      exact retS_at Try.results31 HD.out.1 ⟨rfl, HD.out.2⟩
    | false =>
      rw [stp_no (by simp [refd, hh])]
      have hd : d16 i a ≤ 0 := by simp [ah16] at hh; omega
      have HD := Lib.hid (new2 w (true, a, o, n) (true, a, o, n))
      go_enter Try.func31, Try.ntmps31
      go_wp2_with (go_at_call 44; refine (rdiff16_any _ _ _ (by omega) (by omega) (by omega) (by omega)).mono ?_; rintro e w' ⟨rfl, rfl⟩)
      exact retS_at Try.results31 HD.out.1 ⟨rfl, HD.out.2⟩
  | false =>
    rw [stp_yes (by simp [refd])]
    have HD := Lib.hid (new2 w (false, a, o, n) (true, i, (n - i) % 65536, (n + 1) % 65536))
    go_enter Try.func31, Try.ntmps31
    go_wp2
    exact retS_at Try.results31 HD.out.1 ⟨rfl, HD.out.2⟩
set_option maxHeartbeats 4000000 in
theorem rbrk_any (w : World) (c : Co) : Calls Try.prog 29 #[coV c] w fun e w' => e = .returned (coV (brk c)) ∧ Below w.heap.size w w' := by
  have HD := Lib.hid (new2 w c (brk c))
  go_enter Try.func29, Try.ntmps29
  go_wp2
  exact ret1_at Try.results29 HD.out.1 ⟨rfl, HD.out.2⟩
end Go.Proofs.Ytolobojidnomfaa.Crs
