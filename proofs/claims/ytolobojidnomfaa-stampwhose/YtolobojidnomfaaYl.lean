/- StampWhose walked. -/
import Derived.Test.YtolobojidnomfaaYi
set_option maxRecDepth 100000
namespace Go.Proofs.Ytolobojidnomfaa.Stp
open Go.RowKit Go.Proofs.Ytolobojidnomfaa.Gat Go.Proofs.Ytolobojidnomfaa.Crs Go.Proofs.Ytolobojidnomfaa.Clk Go.Proofs.Ytolobojidnomfaa.Rtp
set_option linter.unusedVariables false

set_option maxHeartbeats 8000000 in
theorem whoses_any (w : World) (r p s : Int) (h0 : 0 ≤ r) (h1 : r ≤ 4294967295) : Calls Try.prog 5 #[.int .u32 r, .int .i64 p, .int .i64 s] w fun e w' => e = .returned (.bool true) ∧ Below w.heap.size w w' := by
  have CS := Lib.hid (fun W => shown_any W)
  have C1 := Lib.hid (fun W => whose_any W r h0 h1)
  have C2 := Lib.hid (fun W => rwhose_any W r)
  have C3 := Lib.hid (fun W => out_any W p s)
  have C5 := Lib.hid (fun W => rout_any W p s)
  obtain ⟨a, b, k, hx⟩ : ∃ a b k, whoV r = (a, b, k) := ⟨_, _, _, rfl⟩
  rw [hx] at C1 C2
  clear hx h0 h1
  by_cases h : kn p s
  · obtain ⟨n, hn⟩ : ∃ n, outN p s = n := ⟨_, rfl⟩
    have hw := who_yes h hn
    have hn2 : 3221225472 ≤ n ∧ n ≤ 4294967295 := by
      rw [← hn]
      unfold outN
      rw [if_pos h]
      obtain ⟨h1, h2, h3, h4⟩ := h
      omega
    have C4 := Lib.hid (fun W => whose_any W n (by omega) hn2.2)
    rw [hn] at C3 C5
    rw [hw] at C4
    have q1 : (n != 0) = true := by simp; omega
    have q2 : (n == 0) = false := by simp; omega
    have q3 : decide (3221225472 ≤ n) = true := by simp; omega
    clear h hn hw hn2
    go_enter Try.func5, Try.ntmps5
    go_wp2_with fail
    refine (CS.out _).mono ?_
    rintro e w1 ⟨rfl, hb⟩
    have HB := Lib.hid hb
    clear hb CS
    go_wp2_with fail
    refine (C1.out _).mono ?_
    rintro e w2 ⟨rfl, rfl⟩
    clear C1
    go_wp2_with fail
    refine (C2.out _).mono ?_
    rintro e w2 ⟨rfl, rfl⟩
    clear C2
    go_wp2_with fail
    refine (C3.out _).mono ?_
    rintro e w2 ⟨rfl, rfl⟩
    clear C3
    go_wp2_with fail
    refine (C4.out _).mono ?_
    rintro e w2 ⟨rfl, rfl⟩
    clear C4
    go_wp2_with fail
    refine (C5.out _).mono ?_
    rintro e w2 ⟨rfl, rfl⟩
    go_wp2
    go_ret
    exact ⟨by simp, HB.out⟩
  · have hn : outN p s = 0 := by unfold outN; rw [if_neg h]
    have C4 := Lib.hid (fun W => whose_any W 0 (by decide) (by decide))
    rw [hn] at C3 C5
    rw [show whoV 0 = (0, 0, false) from by decide] at C4
    clear h hn
    go_enter Try.func5, Try.ntmps5
    go_wp2_with fail
    refine (CS.out _).mono ?_
    rintro e w1 ⟨rfl, hb⟩
    have HB := Lib.hid hb
    clear hb CS
    go_wp2_with fail
    refine (C1.out _).mono ?_
    rintro e w2 ⟨rfl, rfl⟩
    clear C1
    go_wp2_with fail
    refine (C2.out _).mono ?_
    rintro e w2 ⟨rfl, rfl⟩
    clear C2
    go_wp2_with fail
    refine (C3.out _).mono ?_
    rintro e w2 ⟨rfl, rfl⟩
    clear C3
    go_wp2_with fail
    refine (C4.out _).mono ?_
    rintro e w2 ⟨rfl, rfl⟩
    clear C4
    go_wp2_with fail
    refine (C5.out _).mono ?_
    rintro e w2 ⟨rfl, rfl⟩
    go_wp2
    go_ret
    exact ⟨by simp, HB.out⟩
end Go.Proofs.Ytolobojidnomfaa.Stp
