/- LabelOne and LabelJoin, walked. -/
import Derived.Test.YtijacgnoljnlpaaBs
import Derived.Test.YtijacgnoljnlpaaBr
namespace Go.Proofs.Ytijacgnoljnlpaa
open Go.RowKit
set_option linter.unusedVariables false

theorem runes_le (l : List UInt8) : -1 ≤ runesZ l ∧ runesZ l ≤ l.length := by
  have h : (pieces l).length ≤ l.length := (Pre.len (l := l) (pos := l.length) (pre := pieces l) ⟨by simp, widths_pieces l⟩)
  unfold runesZ
  split <;> omega

theorem wantB_eq (r : Int) : wantB r = (((decide (0 ≤ r) && decide (r ≤ 1114111) && (decide (r < 55296) || decide (57343 < r))) && decide (33 ≤ r) && (decide (r < 127) || decide (159 < r))) && r != 65533) := by
  rw [Bool.eq_iff_iff]
  simp [wantB, validZ, holdB]
  omega

theorem may_rune (r : Int) (w : World) :
    Calls Try.prog 8 #[.string (Utf8.encode r)] w fun e w' => e = .returned (.bool (wantB r)) ∧ Below w.heap.size w w' := by
  have h := may_any (Utf8.encode r) w
  rwa [encode_eq, may_enc] at h

set_option maxHeartbeats 4000000 in
set_option maxRecDepth 1000000 in
theorem one_any (r : Int) (w : World) (h0 : -2147483648 ≤ r) (h1 : r ≤ 2147483647) :
    Calls Try.prog 3 #[.int .i32 r] w fun e w' => e = .returned (.bool true) ∧ Below w.heap.size w w' := by
  go_enter Try.func3, Try.ntmps3
  go_wp2_with (go_at_call 7; refine (shown_any _).mono ?_)
  rintro e w1 ⟨rfl, hb1⟩
  go_wp2_with (go_at_call 8; refine (may_rune r _).mono ?_; rintro e w2 ⟨rfl, hb2⟩)
  all_goals
    go_ret
    refine ⟨congrArg (fun b => Ending.returned (.bool b)) (a₂ := true) ?_, below_trans hb1 hb2⟩
    simp [wantB_eq]
    first
      | omega
      | (rw [Bool.eq_iff_iff]; simp; omega)
      | (rw [Bool.eq_iff_iff]; simp)

set_option maxHeartbeats 4000000 in
set_option maxRecDepth 1000000 in
theorem join_any (a b : ByteArray) (w : World) (ha : a.size ≤ 140737488355328) (hb : b.size ≤ 140737488355328) :
    Calls Try.prog 4 #[.string a, .string b] w fun e w' => e = .returned (.bool true) ∧ Below w.heap.size w w' := by
  have ca := runes_any a
  have cb := runes_any b
  have hj := runes_join a.data.toList b.data.toList
  have hra := runes_le a.data.toList
  have hrb := runes_le b.data.toList
  rw [len_eq] at hra hrb
  obtain ⟨x, hx⟩ : ∃ x, runesZ a.data.toList = x := ⟨_, rfl⟩
  obtain ⟨y, hy⟩ : ∃ y, runesZ b.data.toList = y := ⟨_, rfl⟩
  rw [hx] at ca hj hra
  rw [hy] at cb hj hrb
  by_cases h0 : 0 ≤ x ∧ 0 ≤ y
  · obtain ⟨hx0, hy0⟩ := h0
    obtain ⟨hj1, hj2⟩ := hj hx0 hy0
    have hsz : (a ++ b).size = a.size + b.size := ByteArray.size_append
    have hdat : (a ++ b).data.toList = a.data.toList ++ b.data.toList := by simp
    have cj := runes_any (a ++ b)
    have cc := cut_any (a ++ b) x
    rw [hdat, hj1, hsz] at cj
    rw [hdat, hj2, hsz] at cc
    have hax : (ByteArray.mk a.data.toList.toArray) = a := rfl
    rw [hax] at cc
    clear hax hj hdat hj1 hj2 hx hy
    go_enter Try.func4, Try.ntmps4
    go_wp2_with (go_at_call 7; refine (shown_any _).mono ?_)
    rintro e w1 ⟨rfl, hb1⟩
    go_wp2_with (go_at_call 9; refine (ca _ (by omega)).mono ?_)
    rintro e w2 ⟨rfl, hb2⟩
    go_wp2_with (go_at_call 9; refine (cb _ (by omega)).mono ?_)
    rintro e w3 ⟨rfl, hb3⟩
    go_wp2_with (go_at_call 9; refine (cj _ (by omega)).mono ?_)
    rintro e w4 ⟨rfl, hb4⟩
    go_wp2_with (go_at_call 10; refine (cc _ (by omega) (by omega) (by omega)).mono ?_)
    rintro e w5 ⟨rfl, hb5⟩
    go_wp2
    go_ret
    exact ⟨by simp, below_trans (below_trans (below_trans (below_trans hb1 hb2) hb3) hb4) hb5⟩
  · clear hj
    by_cases hx0 : x < 0
    · go_enter Try.func4, Try.ntmps4
      go_wp2_with (go_at_call 7; refine (shown_any _).mono ?_)
      rintro e w1 ⟨rfl, hb1⟩
      go_wp2_with (go_at_call 9; refine (ca _ (by omega)).mono ?_)
      rintro e w2 ⟨rfl, hb2⟩
      go_wp2_with (go_at_call 9; refine (cb _ (by omega)).mono ?_)
      rintro e w3 ⟨rfl, hb3⟩
      go_wp2
      go_ret
      exact ⟨rfl, below_trans (below_trans hb1 hb2) hb3⟩
    · have hy0 : y < 0 := by omega
      have hx1 : 0 ≤ x := by omega
      clear h0 hx0 hx hy
      go_enter Try.func4, Try.ntmps4
      go_wp2_with (go_at_call 7; refine (shown_any _).mono ?_)
      rintro e w1 ⟨rfl, hb1⟩
      go_wp2_with (go_at_call 9; refine (ca _ (by omega)).mono ?_)
      rintro e w2 ⟨rfl, hb2⟩
      go_wp2_with (go_at_call 9; refine (cb _ (by omega)).mono ?_)
      rintro e w3 ⟨rfl, hb3⟩
      go_wp2
      go_ret
      exact ⟨rfl, below_trans (below_trans hb1 hb2) hb3⟩

end Go.Proofs.Ytijacgnoljnlpaa
