/- Package label: May, Runes, Key and Cut, each by its contract, at every text. -/
import Derived.Test.YtijacgnoljnlpaaDoorBq
import Derived.Test.YtijacgnoljnlpaaDoorBw
import Derived.Lib.RuneCount
import Derived.Laws.RangeString
import Derived.Laws.RangeAny
import Derived.LoopTactic
import Derived.WalkKit
namespace Go.Proofs.YtijacgnoljnlpaaDoor
open Go.RowKit
set_option linter.unusedVariables false

theorem len_eq (s : ByteArray) : s.data.toList.length = s.size := by rw [Lib.size_eq]
theorem Pre.step {s : ByteArray} {pos : Nat} {pre : List (Nat × Nat)} (h : Pre s.data.toList pos pre) (hp : pos < s.size) :
    Pre s.data.toList (pos + (Utf8.decode s pos).2) (pre ++ [Utf8.decode s pos]) := by
  have := h.next (by rw [len_eq]; exact hp)
  rwa [Lib.decodeL_drop] at this
theorem Pre.here {s : ByteArray} {pos : Nat} {pre : List (Nat × Nat)} (h : Pre s.data.toList pos pre) (hp : pos < s.size) :
    Utf8.decode s pos ∈ pieces s.data.toList ∧ pre.length < (pieces s.data.toList).length := by
  have h2 := (h.step hp).split
  rw [h2]
  constructor
  · simp
  · rw [List.length_append, List.length_append]; simp; omega
theorem Pre.done {s : ByteArray} {pos : Nat} {pre : List (Nat × Nat)} (h : Pre s.data.toList pos pre) (hp : ¬ pos < s.size) : pieces s.data.toList = pre :=
  h.all (by rw [len_eq]; exact hp)

theorem may_long {l : List UInt8} (h : 8 < (pieces l).length) : mayB l = false := by
  unfold mayB
  rw [show decide ((pieces l).length ≤ 8) = false by simp; omega]
  simp
theorem may_none {l : List UInt8} {p : Nat × Nat} (hp : p ∈ pieces l) (h : holdB p.1 = false) : mayB l = false := by
  unfold mayB
  rw [show (pieces l).all (fun p => holdB p.1) = false by
    rw [List.all_eq_false]
    exact ⟨p, hp, by simp [h]⟩]
  simp
theorem may_some {l : List UInt8} (h8 : (pieces l).length ≤ 8) (h : (pieces l).all (fun p => holdB p.1) = true) : mayB l = decide (0 < (pieces l).length) := by
  unfold mayB
  rw [h, show decide ((pieces l).length ≤ 8) = true by simp; omega]
  simp

theorem holdB_eq (r : Int) : holdB r = (decide (33 ≤ r) && !(decide (127 ≤ r) && decide (r ≤ 159)) && !(r == 65533)) := rfl

theorem mayHold_any (r : Int) (w : World) (h0 : 0 ≤ r) (h1 : r ≤ 2147483647) :
    Calls Tryd.prog 15 #[.int .i32 r] w fun e w' => e = .returned (.bool (holdB r)) ∧ w' = w := by
  by_cases c1 : 127 ≤ r <;> by_cases c2 : r ≤ 159 <;> by_cases c3 : 33 ≤ r <;> by_cases c4 : r = 65533
  all_goals (try (exfalso; omega))
  all_goals
    go_enter Tryd.func15, Tryd.ntmps15
    go_wp2
    go_ret
    refine ⟨congrArg (fun b => Ending.returned (.bool b)) ?_, rfl⟩
    rw [Bool.eq_iff_iff]
    simp [holdB]
    try omega

theorem lower_any (r : Int) (w : World) (h0 : 0 ≤ r) (h1 : r ≤ 2147483647) :
    Calls Tryd.prog 18 #[.int .i32 r] w fun e w' => e = .returned (.int .i32 (lowerZ r)) ∧ w' = w := by
  by_cases c1 : 65 ≤ r
  · by_cases c2 : r ≤ 90
    · have hl : lowerZ r = r + 32 := by rw [lowerZ, if_pos ⟨c1, c2⟩]
      rw [hl]
      go_enter Tryd.func18, Tryd.ntmps18
      go_wp2
      go_ret
      exact ⟨congrArg (fun z => Ending.returned (.int .i32 z)) (show r - 65 + 97 = r + 32 by omega), rfl⟩
    · have hl : lowerZ r = r := by rw [lowerZ, if_neg (by omega)]
      rw [hl]
      go_enter Tryd.func18, Tryd.ntmps18
      go_wp2
      go_ret
      exact ⟨rfl, rfl⟩
  · have hl : lowerZ r = r := by rw [lowerZ, if_neg (by omega)]
    rw [hl]
    go_enter Tryd.func18, Tryd.ntmps18
    go_wp2
    go_ret
    exact ⟨rfl, rfl⟩

theorem writtenOut_any (s : ByteArray) (w : World) :
    Calls Tryd.prog 13 #[.string s] w fun e w' => e = .returned (.bool (Lib.hasPrefix s.data.toList [239, 191, 189])) ∧ w' = w := by
  go_enter Tryd.func13, Tryd.ntmps13
  go_wp2_with (go_at_call 22; refine (Tryd.strings_HasPrefix _ _ _).mono ?_; rintro e w' ⟨rfl, rfl⟩)
  go_ret
  exact ⟨rfl, rfl⟩

set_option maxHeartbeats 4000000 in
set_option maxRecDepth 1000000 in
theorem may_any (s : ByteArray) (w : World) :
    Calls Tryd.prog 7 #[.string s] w fun e w' => e = .returned (.bool (mayB s.data.toList)) ∧ Below w.heap.size w w' := by
  have hbelow : ∀ pos, Below w.heap.size w (w.iter s pos) := fun pos => (Below.refl _ w).alloc (Nat.le_refl _) _
  go_enter Tryd.func7, Tryd.ntmps7
  go_wp2
  go_loopw [3] (fun n w' => ∃ (pos : Nat) (pre : List (Nat × Nat)), w' = w.iter s pos ∧ n = .int .i64 pre.length ∧ Pre s.data.toList pos pre ∧ pre.length ≤ 8 ∧ pre.all (fun p => holdB p.1) = true) (fun _ w' => s.size - w'.iterPos w.heap.size)
  case atStart => exact ⟨0, [], rfl, rfl, Pre.start _, by simp, rfl⟩
  case round =>
    obtain ⟨pos, pre, rfl, rfl, hpre, h8, hall⟩ := hrel
    by_cases hp : pos < s.size
    · have hnx : ∀ ty, (Instr.next (.pointer (some ⟨w.heap.size, 0, none⟩)) true ty).run Tryd.prog (w.iter s pos) = _ := fun ty => run_next_any w s pos ty hp
      have hwd := Lib.decode_width_pos s pos hp
      have hd1 := decode_le s pos
      have hst := hpre.step hp
      obtain ⟨hin, hlen⟩ := hpre.here hp
      by_cases hl : pre.length = 8
      · have hf : mayB s.data.toList = false := may_long (by omega)
        have hg : (8 : Int) < (pre.length : Int) + 1 := by omega
        go_wp2
        go_ret
        exact ⟨by rw [hf]; rfl, hbelow _⟩
      · have hg : ¬ (8 : Int) < (pre.length : Int) + 1 := by omega
        cases hh : holdB ((Utf8.decode s pos).1 : Int) with
        | false =>
          have hf : mayB s.data.toList = false := may_none hin hh
          go_wp2_with (go_at_call 15; refine (mayHold_any _ _ (by omega) (by omega)).mono ?_; rintro e w' ⟨rfl, rfl⟩; rw [hh])
          go_ret
          exact ⟨by rw [hf]; rfl, hbelow _⟩
        | true =>
          go_wp2_with (go_at_call 15; refine (mayHold_any _ _ (by omega) (by omega)).mono ?_; rintro e w' ⟨rfl, rfl⟩; rw [hh])
          go_roundw
          case rel =>
            refine ⟨_, _, rfl, ?_, hst, by simp; omega, by simp [hall, hh]⟩
            simp
          case measure =>
            simp
            omega
    · have hnx : ∀ ty, (Instr.next (.pointer (some ⟨w.heap.size, 0, none⟩)) true ty).run Tryd.prog (w.iter s pos) = _ := fun ty => run_next_end w s pos ty hp
      have hps := hpre.done hp
      have hm : mayB s.data.toList = decide (0 < pre.length) := by rw [may_some (by rw [hps]; exact h8) (by rw [hps]; exact hall), hps]
      go_wp2
      go_ret
      exact ⟨by rw [hm]; simp, hbelow _⟩

end Go.Proofs.YtijacgnoljnlpaaDoor
