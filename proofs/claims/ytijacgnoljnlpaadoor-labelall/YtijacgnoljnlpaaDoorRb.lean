/- The reference's Rune, Runes and MayName by their contracts. -/
import Derived.Test.YtijacgnoljnlpaaDoorBy
namespace Go.Proofs.YtijacgnoljnlpaaDoor
open Go.RowKit
set_option linter.unusedVariables false

theorem decode_here (s : ByteArray) (pos : Nat) (w : World) (hp : pos < s.size) (hT : Lib.Utf8Tabs 0 1 w) :
    Calls Tryd.prog 14 #[.string (s.extract pos s.size)] w fun e w' => e = .returned (.tuple #[.int .i32 (Utf8.decode s pos).1, .int .i64 (Utf8.decode s pos).2]) ∧ Below w.heap.size w w' := by
  have h := Tryd.utf8_DecodeRuneInString (s.extract pos s.size) w hT
  have hd : Lib.decodeGo (s.extract pos s.size) = Utf8.decode s pos := by
    unfold Lib.decodeGo
    rw [if_neg (by rw [ByteArray.size_extract]; omega), ← Lib.decodeL_drop s pos, ← extract_drop]
    have := Lib.decodeL_drop (s.extract pos s.size) 0
    rw [List.drop_zero] at this
    exact this.symm
  rwa [hd] at h

theorem rrune_any (r : Int) (w : World) (h0 : 0 ≤ r) (h1 : r ≤ 2147483647) :
    Calls Tryd.prog 16 #[.int .i32 r] w fun e w' => e = .returned (.bool (holdB r)) ∧ w' = w := by
  by_cases c1 : r < 127 <;> by_cases c2 : 159 < r <;> by_cases c3 : 33 ≤ r <;> by_cases c4 : r = 65533
  all_goals (try (exfalso; omega))
  all_goals
    go_enter Tryd.func16, Tryd.ntmps16
    go_wp2
    go_ret
    refine ⟨congrArg (fun b => Ending.returned (.bool b)) ?_, rfl⟩
    rw [Bool.eq_iff_iff]
    simp [holdB]
    try omega

set_option maxHeartbeats 4000000 in
set_option maxRecDepth 1000000 in
theorem rrunes_any (s : ByteArray) (w : World) (hs : s.size ≤ 9223372036854775807) (hT : Lib.Utf8Tabs 0 1 w) :
    Calls Tryd.prog 6 #[.string s] w fun e w' => e = .returned (.int .i64 (runesZ s.data.toList)) ∧ Below w.heap.size w w' := by
  go_enter Tryd.func6, Tryd.ntmps6
  go_wp2
  go_loopw [3, 4] (fun n at0 wr => ∃ (pos : Nat) (pre : List (Nat × Nat)), n = .int .i64 pre.length ∧ at0 = .int .i64 pos ∧ Pre s.data.toList pos pre ∧ pre.any bad = false ∧ Below w.heap.size w wr) (fun _ at0 _ => s.size - (Lib.intOf at0).toNat)
  case atStart => exact ⟨0, [], rfl, rfl, Pre.start _, rfl, Below.refl _ _⟩
  case round =>
    obtain ⟨pos, pre, rfl, rfl, hpre, hall, hbw⟩ := hrel
    have hle := hpre.le
    rw [len_eq] at hle
    by_cases hp : pos < s.size
    · have hp' : (pos : Int) < (s.size : Int) := by omega
      have hwd := Lib.decode_width_pos s pos hp
      have hd1 := decode_le s pos
      have hst := hpre.step hp
      have hle2 := hst.le
      rw [len_eq] at hle2
      have hlp := hpre.len
      have cd := decode_here s pos wr hp (Utf8Tabs_below hT hbw)
      obtain ⟨hin, hlen⟩ := hpre.here hp
      by_cases hr : (Utf8.decode s pos).1 = 65533
      · by_cases hw1 : (Utf8.decode s pos).2 = 1
        · have hb : bad (Utf8.decode s pos) = true := by simp [bad, hr, hw1]
          have hf := runes_bad hin hb
          have hr' : ((Utf8.decode s pos).1 : Int) = 65533 := by omega
          have hw' : ((Utf8.decode s pos).2 : Int) = 1 := by omega
          go_wp2_with (go_at_call 14; refine cd.mono ?_; rintro e w2 ⟨rfl, hb2⟩)
          go_ret
          exact ⟨by rw [hf]; rfl, below_trans hbw hb2⟩
        · have hb : bad (Utf8.decode s pos) = false := by simp [bad, hw1]
          have hr' : ((Utf8.decode s pos).1 : Int) = 65533 := by omega
          have hw' : ¬ ((Utf8.decode s pos).2 : Int) = 1 := by omega
          go_wp2_with (go_at_call 14; refine cd.mono ?_; rintro e w2 ⟨rfl, hb2⟩)
          exact ⟨⟨_, _, by simp, by simp, hst, by simp [hall, hb], below_trans hbw hb2⟩, by simp [Lib.intOf]; omega⟩
      · have hb : bad (Utf8.decode s pos) = false := by simp [bad, hr]
        have hr' : ¬ ((Utf8.decode s pos).1 : Int) = 65533 := by omega
        go_wp2_with (go_at_call 14; refine cd.mono ?_; rintro e w2 ⟨rfl, hb2⟩)
        exact ⟨⟨_, _, by simp, by simp, hst, by simp [hall, hb], below_trans hbw hb2⟩, by simp [Lib.intOf]; omega⟩
    · have hps := hpre.done hp
      have hm : runesZ s.data.toList = pre.length := by rw [runes_fine (by rw [hps]; exact hall), hps]
      have hp' : ¬ (pos : Int) < (s.size : Int) := by omega
      go_wp2
      go_ret
      exact ⟨by first | rfl | (rw [hm]; rfl), hbw⟩

theorem runes_may {l : List UInt8} : (runesZ l < 1 ∨ 8 < runesZ l → mayB l = false) := by
  intro h
  unfold runesZ at h
  cases hb : (pieces l).any bad with
  | true =>
    obtain ⟨p, hp, hpb⟩ := List.any_eq_true.1 hb
    refine may_none hp ?_
    simp only [bad, Bool.and_eq_true, beq_iff_eq] at hpb
    rw [hpb.1]
    decide
  | false =>
    rw [hb] at h
    simp only [Bool.false_eq_true, if_false] at h
    rcases h with h | h
    · unfold mayB
      rw [decide_eq_false (show ¬ 0 < (pieces l).length by omega)]
      simp
    · exact may_long (by omega)

set_option maxHeartbeats 4000000 in
set_option maxRecDepth 1000000 in
theorem rmay_any (s : ByteArray) (w : World) (hs : s.size ≤ 9223372036854775807) (hT : Lib.Utf8Tabs 0 1 w) :
    Calls Tryd.prog 8 #[.string s] w fun e w' => e = .returned (.bool (mayB s.data.toList)) ∧ Below w.heap.size w w' := by
  have cr := rrunes_any s w hs hT
  by_cases hsmall : runesZ s.data.toList < 1
  · have hf := runes_may (.inl hsmall)
    rw [hf]
    go_enter Tryd.func8, Tryd.ntmps8
    go_wp2_with (go_at_call 6; refine cr.mono ?_; rintro e w1 ⟨rfl, hb1⟩)
    go_ret
    exact ⟨rfl, hb1⟩
  · by_cases hbig : 8 < runesZ s.data.toList
    · have hf := runes_may (.inr hbig)
      rw [hf]
      go_enter Tryd.func8, Tryd.ntmps8
      go_wp2_with (go_at_call 6; refine cr.mono ?_; rintro e w1 ⟨rfl, hb1⟩)
      go_ret
      exact ⟨rfl, hb1⟩
    · obtain ⟨hgood, hlen⟩ := runes_good (l := s.data.toList) (by omega)
      have h8 : (pieces s.data.toList).length ≤ 8 := by omega
      have h1 : 0 < (pieces s.data.toList).length := by omega
      obtain ⟨x, hx⟩ : ∃ x, runesZ s.data.toList = x := ⟨_, rfl⟩
      rw [hx] at cr hsmall hbig
      have hx1 : 1 ≤ x := by omega
      have hx8 : x ≤ 8 := by omega
      clear hgood hlen hsmall hbig hx
      go_enter Tryd.func8, Tryd.ntmps8
      go_wp2_with (go_at_call 6; refine cr.mono ?_)
      rintro e w1 ⟨rfl, hb1⟩
      go_wp2
      go_loopw [4] (fun at0 wr => ∃ (pos : Nat) (pre : List (Nat × Nat)), at0 = .int .i64 pos ∧ Pre s.data.toList pos pre ∧ pre.all (fun p => holdB p.1) = true ∧ Below w.heap.size w wr) (fun at0 _ => s.size - (Lib.intOf at0).toNat)
      case atStart => exact ⟨0, [], rfl, Pre.start _, rfl, hb1⟩
      case round =>
        obtain ⟨pos, pre, rfl, hpre, hall, hbw⟩ := hrel
        have hle := hpre.le
        rw [len_eq] at hle
        by_cases hp : pos < s.size
        · have hp' : (pos : Int) < (s.size : Int) := by omega
          have hwd := Lib.decode_width_pos s pos hp
          have hd1 := decode_le s pos
          have hst := hpre.step hp
          have hle2 := hst.le
          rw [len_eq] at hle2
          have cd := decode_here s pos wr hp (Utf8Tabs_below hT hbw)
          obtain ⟨hin, hlen⟩ := hpre.here hp
          cases hh : holdB ((Utf8.decode s pos).1 : Int) with
          | false =>
            have hf : mayB s.data.toList = false := may_none hin hh
            go_wp2_with (first
              | (go_at_call 14; refine cd.mono ?_; rintro e w2 ⟨rfl, hb2⟩)
              | (go_at_call 16; refine (rrune_any _ _ (by omega) (by omega)).mono ?_; rintro e w3 ⟨rfl, rfl⟩; rw [hh]))
            go_ret
            exact ⟨by rw [hf]; rfl, below_trans hbw hb2⟩
          | true =>
            go_wp2_with (first
              | (go_at_call 14; refine cd.mono ?_; rintro e w2 ⟨rfl, hb2⟩)
              | (go_at_call 16; refine (rrune_any _ _ (by omega) (by omega)).mono ?_; rintro e w3 ⟨rfl, rfl⟩; rw [hh]))
            exact ⟨⟨_, _, by simp, hst, by simp [hall, hh], below_trans hbw hb2⟩, by simp [Lib.intOf]; omega⟩
        · have hps := hpre.done hp
          have hm : mayB s.data.toList = true := by rw [may_some h8 (by rw [hps]; exact hall)]; simpa using h1
          have hp' : ¬ (pos : Int) < (s.size : Int) := by omega
          go_wp2
          go_ret
          exact ⟨by first | rfl | (rw [hm]; rfl), hbw⟩

end Go.Proofs.YtijacgnoljnlpaaDoor
