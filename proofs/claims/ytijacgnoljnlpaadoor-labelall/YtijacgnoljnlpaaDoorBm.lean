/- Package label: Runes, Cut and Key by their contracts. -/
import Derived.Test.YtijacgnoljnlpaaDoorBl
import Derived.Lib.Strings
import Derived.Lib.OthersKept
import Derived.BigCall
namespace Go.Proofs.YtijacgnoljnlpaaDoor
open Go.RowKit
set_option linter.unusedVariables false

theorem extract_drop (s : ByteArray) (i : Nat) : (s.extract i s.size).data.toList = s.data.toList.drop i := by
  rw [Lib.extract_data]
  rw [List.take_of_length_le (by rw [List.length_drop, len_eq]; omega)]

theorem runes_bad {l : List UInt8} {p : Nat × Nat} (hp : p ∈ pieces l) (h : bad p = true) : runesZ l = -1 := by
  unfold runesZ
  rw [if_pos (List.any_eq_true.2 ⟨p, hp, h⟩)]
theorem runes_fine {l : List UInt8} (h : (pieces l).any bad = false) : runesZ l = (pieces l).length := by
  unfold runesZ
  rw [h]; simp

set_option maxHeartbeats 4000000 in
set_option maxRecDepth 1000000 in
theorem runes_any (s : ByteArray) (w : World) (hs : s.size ≤ 9223372036854775807) :
    Calls Tryd.prog 5 #[.string s] w fun e w' => e = .returned (.int .i64 (runesZ s.data.toList)) ∧ Below w.heap.size w w' := by
  have hbelow : ∀ pos, Below w.heap.size w (w.iter s pos) := fun pos => (Below.refl _ w).alloc (Nat.le_refl _) _
  go_enter Tryd.func5, Tryd.ntmps5
  go_wp2
  go_loopw [3] (fun n w' => ∃ (pos : Nat) (pre : List (Nat × Nat)), w' = w.iter s pos ∧ n = .int .i64 pre.length ∧ Pre s.data.toList pos pre ∧ pre.any bad = false) (fun _ w' => s.size - w'.iterPos w.heap.size)
  case atStart => exact ⟨0, [], rfl, rfl, Pre.start _, rfl⟩
  case round =>
    obtain ⟨pos, pre, rfl, rfl, hpre, hall⟩ := hrel
    by_cases hp : pos < s.size
    · have hnx : ∀ ty, (Instr.next (.pointer (some ⟨w.heap.size, 0, none⟩)) true ty).run Tryd.prog (w.iter s pos) = _ := fun ty => run_next_any w s pos ty hp
      have hwd := Lib.decode_width_pos s pos hp
      have hd1 := decode_le s pos
      have hst := hpre.step hp
      have hlp := hpre.len
      obtain ⟨hin, hlen⟩ := hpre.here hp
      by_cases hr : (Utf8.decode s pos).1 = 65533
      · have hw : Lib.hasPrefix (s.extract pos s.size).data.toList [239, 191, 189] = !bad (Utf8.decode s pos) := by
          rw [extract_drop, ← Lib.decodeL_drop]
          exact written_iff _ (by rw [Lib.decodeL_drop]; exact hr)
        cases hb : bad (Utf8.decode s pos) with
        | true =>
          rw [hb] at hw
          have hf := runes_bad hin hb
          go_wp2_with (go_at_call 13; refine (writtenOut_any _ _).mono ?_; rintro e w' ⟨rfl, rfl⟩; rw [hw])
          go_ret
          exact ⟨by rw [hf]; rfl, hbelow _⟩
        | false =>
          rw [hb] at hw
          go_wp2_with (go_at_call 13; refine (writtenOut_any _ _).mono ?_; rintro e w' ⟨rfl, rfl⟩; rw [hw])
          go_roundw
          case rel =>
            refine ⟨_, _, rfl, ?_, hst, by simp [hall, hb]⟩
            simp
          case measure =>
            simp
            omega
      · have hb : bad (Utf8.decode s pos) = false := by simp [bad, hr]
        have hr' : ¬ ((Utf8.decode s pos).1 : Int) = 65533 := by omega
        go_wp2
        go_roundw
        case rel =>
          refine ⟨_, _, rfl, ?_, hst, by simp [hall, hb]⟩
          simp
        case measure =>
          simp
          omega
    · have hnx : ∀ ty, (Instr.next (.pointer (some ⟨w.heap.size, 0, none⟩)) true ty).run Tryd.prog (w.iter s pos) = _ := fun ty => run_next_end w s pos ty hp
      have hps := hpre.done hp
      have hm : runesZ s.data.toList = pre.length := by rw [runes_fine (by rw [hps]; exact hall), hps]
      go_wp2
      go_ret
      exact ⟨by rw [hm]; rfl, hbelow _⟩

set_option maxHeartbeats 4000000 in
set_option maxRecDepth 1000000 in
theorem firstBytes_any (s : ByteArray) (n : Int) (w : World) (hs : s.size ≤ 9223372036854775807) (h0 : 0 ≤ n) (h1 : n ≤ 9223372036854775807) :
    Calls Tryd.prog 21 #[.string s, .int .i64 n] w fun e w' => e = .returned (.int .i64 (cutN s.data.toList n.toNat)) ∧ Below w.heap.size w w' := by
  have hbelow : ∀ pos, Below w.heap.size w (w.iter s pos) := fun pos => (Below.refl _ w).alloc (Nat.le_refl _) _
  go_enter Tryd.func21, Tryd.ntmps21
  go_wp2
  go_loopw [1] (fun m w' => ∃ (pos : Nat) (pre : List (Nat × Nat)), w' = w.iter s pos ∧ m = .int .i64 (n - pre.length) ∧ Pre s.data.toList pos pre ∧ (pre.length : Int) ≤ n) (fun _ w' => s.size - w'.iterPos w.heap.size)
  case atStart => exact ⟨0, [], rfl, by simp, Pre.start _, by simpa using h0⟩
  case round =>
    obtain ⟨pos, pre, rfl, rfl, hpre, hle⟩ := hrel
    by_cases hp : pos < s.size
    · have hnx : ∀ ty, (Instr.next (.pointer (some ⟨w.heap.size, 0, none⟩)) true ty).run Tryd.prog (w.iter s pos) = _ := fun ty => run_next_any w s pos ty hp
      have hwd := Lib.decode_width_pos s pos hp
      have hst := hpre.step hp
      by_cases hl : n - (pre.length : Int) = 0
      · have hc : cutN s.data.toList n.toNat = pos := by
          have hn : n.toNat = pre.length := by omega
          rw [cutN, hn, hpre.split, List.take_left, hpre.wide]
        go_wp2
        go_ret
        exact ⟨by rw [hc]; rfl, hbelow _⟩
      · go_wp2
        go_roundw
        case rel =>
          refine ⟨_, _, rfl, ?_, hst, by simp; omega⟩
          simp
          omega
        case measure =>
          simp
          omega
    · have hnx : ∀ ty, (Instr.next (.pointer (some ⟨w.heap.size, 0, none⟩)) true ty).run Tryd.prog (w.iter s pos) = _ := fun ty => run_next_end w s pos ty hp
      have hps := hpre.done hp
      have hc : cutN s.data.toList n.toNat = s.size := by
        rw [cutN, List.take_of_length_le (by rw [hps]; omega), widths_pieces, len_eq]
      go_wp2
      go_ret
      exact ⟨by rw [hc]; rfl, hbelow _⟩

end Go.Proofs.YtijacgnoljnlpaaDoor
