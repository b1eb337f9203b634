/- The contracts of stamp's known, Out, Whose. -/
import Derived.Test.YtolobojidnomfaaRows
import Derived.WalkKit
import Derived.WalkSpells
import Derived.WalkLawsBesides
import Derived.Lib.Hide
import Derived.Handy
set_option maxRecDepth 100000
namespace Go.Proofs.Ytolobojidnomfaa.Stp
open Go.RowKit
set_option linter.unusedVariables false

/-- There may be such a peer and such a source. -/
def kn (p s : Int) : Prop := 1 ≤ p ∧ p ≤ 8 ∧ 1 ≤ s ∧ s ≤ 8
instance (p s : Int) : Decidable (kn p s) := by unfold kn; infer_instance
def outN (p s : Int) : Int := if kn p s then 3221225472 + 256 * p + s else 0
set_option maxHeartbeats 4000000 in
theorem known_any (w : World) (p s : Int) : Calls Try.prog 39 #[.int .i64 p, .int .i64 s] w fun e w' => e = .returned (.bool (decide (kn p s))) ∧ w = w' := by
  by_cases h1 : 1 ≤ p
  · by_cases h2 : p ≤ 8
    · by_cases h3 : 1 ≤ s
      · by_cases h4 : s ≤ 8
        · have h : decide (kn p s) = true := by simp [kn, *]
          go_enter Try.func39, Try.ntmps39
          go_wp2
          go_ret
          exact ⟨by first | rfl | (rw [h]; rfl), rfl⟩
        · have h : decide (kn p s) = false := by simp [kn, *]
          go_enter Try.func39, Try.ntmps39
          go_wp2
          go_ret
          exact ⟨by first | rfl | (rw [h]; rfl), rfl⟩
      · have h : decide (kn p s) = false := by simp [kn, *]
        go_enter Try.func39, Try.ntmps39
        go_wp2
        go_ret
        exact ⟨by first | rfl | (rw [h]; rfl), rfl⟩
    · have h : decide (kn p s) = false := by simp [kn, *]
      go_enter Try.func39, Try.ntmps39
      go_wp2
      go_ret
      exact ⟨by first | rfl | (rw [h]; rfl), rfl⟩
  · have h : decide (kn p s) = false := by simp [kn, *]
    go_enter Try.func39, Try.ntmps39
    go_wp2
    go_ret
    exact ⟨by first | rfl | (rw [h]; rfl), rfl⟩
set_option maxHeartbeats 4000000 in
theorem out_any (w : World) (p s : Int) : Calls Try.prog 17 #[.int .i64 p, .int .i64 s] w fun e w' => e = .returned (.int .u32 (outN p s)) ∧ w = w' := by
  have C1 := Lib.hid (fun W => known_any W p s)
  by_cases h : kn p s
  · rw [show decide (kn p s) = true from by simpa using h] at C1
    obtain ⟨n, hn⟩ : ∃ n, 3221225472 + 256 * p + s = n := ⟨_, rfl⟩
    have hp := h
    obtain ⟨h1, h2, h3, h4⟩ := hp
    have q1 : IntKind.i64.wrap (256 * p) = 256 * p := IntWalk.i64_in _ (by omega)
    have q2 : IntKind.i64.wrap (3221225472 + 256 * p) = 3221225472 + 256 * p := IntWalk.i64_in _ (by omega)
    have q3 : IntKind.i64.wrap (3221225472 + 256 * p + s) = 3221225472 + 256 * p + s := IntWalk.i64_in _ (by omega)
    have q4 : (3221225472 + 256 * p + s) % 4294967296 = 3221225472 + 256 * p + s := by omega
    rw [show outN p s = 3221225472 + 256 * p + s from by unfold outN; rw [if_pos h]]
    clear h hn
    go_enter Try.func17, Try.ntmps17
    go_wp2_with (go_at_call 39; refine (C1.out _).mono ?_; rintro e w' ⟨rfl, rfl⟩)
    go_ret
    exact ⟨by first | rfl | (rw [q4]), rfl⟩
  · rw [show decide (kn p s) = false from by simpa using h] at C1
    rw [show outN p s = 0 from by unfold outN; rw [if_neg h]]
    clear h
    go_enter Try.func17, Try.ntmps17
    go_wp2_with (go_at_call 39; refine (C1.out _).mono ?_; rintro e w' ⟨rfl, rfl⟩)
    go_ret
    exact ⟨rfl, rfl⟩
/-- Whose it is. -/
def whP (r : Int) : Int := (r - 3221225472).tdiv 256
def whS (r : Int) : Int := (r - 3221225472).tmod 256
def whoV (r : Int) : Int × Int × Bool := if kn (whP r) (whS r) then (whP r, whS r, true) else (0, 0, false)
abbrev whV (x : Int × Int × Bool) : Value := .tuple #[.int .i64 x.1, .int .i64 x.2.1, .bool x.2.2]
theorem retW_at {f : Func} {R : Ending → World → Prop} {W : World} {x : Int × Int × Bool} {tmps : Array Value} (hf : f.results = #[.tmp 2, .tmp 3, .tmp 4]) (hR : R (.returned (whV x)) W)
    (h1 : tmps[2]?.getD undef = .int .i64 x.1 := by rfl) (h2 : tmps[3]?.getD undef = .int .i64 x.2.1 := by rfl) (h3 : tmps[4]?.getD undef = .bool x.2.2 := by rfl) : bodyPost Try.prog f R .ret ⟨tmps, []⟩ W :=
  bodyPost_ret (v := whV x) (by simp [results, hf, go_sem, h1, h2, h3]) rfl hR
set_option maxHeartbeats 4000000 in
theorem whose_any (w : World) (r : Int) (h0 : 0 ≤ r) (h1 : r ≤ 4294967295) : Calls Try.prog 15 #[.int .u32 r] w fun e w' => e = .returned (whV (whoV r)) ∧ w = w' := by
  have C1 := Lib.hid (fun W => known_any W (whP r) (whS r))
  unfold whoV
  have q1 : IntKind.i64.wrap r = r := IntWalk.i64_in _ (by omega)
  have q2 : IntKind.i64.wrap (r - 3221225472) = r - 3221225472 := IntWalk.i64_in _ (by omega)
  have q3 : IntKind.i64.wrap ((r - 3221225472).tdiv 256) = (r - 3221225472).tdiv 256 := IntWalk.i64_in _ (by
    have := Int.mul_tdiv_add_tmod (r - 3221225472) 256
    have h1 := Int.tmod_lt_of_pos (r - 3221225472) (show (0 : Int) < 256 by decide)
    have h2 := Int.lt_tmod_of_pos (r - 3221225472) (show (0 : Int) < 256 by decide)
    omega)
  by_cases h : kn (whP r) (whS r)
  · rw [show decide (kn (whP r) (whS r)) = true from by simpa using h] at C1
    rw [if_pos h]
    clear h
    unfold whP whS at *
    go_enter Try.func15, Try.ntmps15
    go_wp2_with (go_at_call 39; refine (C1.out _).mono ?_; rintro e w' ⟨rfl, rfl⟩)
    exact retW_at (x := (whP r, whS r, true)) Try.results15 ⟨rfl, rfl⟩
  · rw [show decide (kn (whP r) (whS r)) = false from by simpa using h] at C1
    rw [if_neg h]
    clear h
    unfold whP whS at *
    go_enter Try.func15, Try.ntmps15
    go_wp2_with (go_at_call 39; refine (C1.out _).mono ?_; rintro e w' ⟨rfl, rfl⟩)
    exact retW_at (x := (0, 0, false)) Try.results15 ⟨rfl, rfl⟩
end Go.Proofs.Ytolobojidnomfaa.Stp
