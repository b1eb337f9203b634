/- Package label: Cut and Key by their contracts. -/
import Derived.Test.YtijacgnoljnlpaaDoorBm
namespace Go.Proofs.YtijacgnoljnlpaaDoor
open Go.RowKit
set_option linter.unusedVariables false

theorem bytes_of (s : ByteArray) (l : List UInt8) (h : s.data.toList = l) : s = ⟨l.toArray⟩ := by
  subst h
  rfl
theorem extract_take (s : ByteArray) (k : Nat) : s.extract 0 k = ⟨(s.data.toList.take k).toArray⟩ :=
  bytes_of _ _ (by rw [Lib.extract_data]; simp)
theorem below_trans {w a b : World} (h : Below w.heap.size w a) (k : Below a.heap.size a b) : Below w.heap.size w b := h.trans (k.mono h.size)

set_option maxHeartbeats 4000000 in
set_option maxRecDepth 1000000 in
theorem cut_any (s : ByteArray) (n : Int) (w : World) (hs : s.size ≤ 281474976710656) (h0 : -9223372036854775808 ≤ n) (h1 : n ≤ 9223372036854775807) :
    Calls Tryd.prog 11 #[.string s, .int .i64 n] w fun e w' => e = .returned (.string ⟨(cutL s.data.toList n).toArray⟩) ∧ Below w.heap.size w w' := by
  have hcl := cutN_le s.data.toList n.toNat
  rw [len_eq] at hcl
  have hxs : (s.extract 0 (cutN s.data.toList n.toNat)).size ≤ 281474976710656 := by rw [ByteArray.size_extract]; omega
  obtain ⟨k, hk⟩ : ∃ k, cutN s.data.toList n.toNat = k := ⟨_, rfl⟩
  rw [hk] at hcl hxs
  have hz : (max n 0).toNat = n.toNat := by omega
  go_enter Tryd.func11, Tryd.ntmps11
  go_wp2_with (go_at_call 21; refine (firstBytes_any s (max n 0) _ (by omega) (by omega) (by omega)).mono ?_)
  rintro e w1 ⟨rfl, hb1⟩
  rw [hz, hk]
  go_wp2_with (go_at_call 20; refine (clone_any _ _ hxs).mono ?_)
  rintro e w2 ⟨rfl, hb2⟩
  go_wp2
  go_ret
  exact ⟨by rw [cutL, hk, ← extract_take]; rfl, below_trans hb1 hb2⟩

theorem may_len {l : List UInt8} (h : mayB l = true) : (pieces l).length ≤ 8 := by
  unfold mayB at h
  simp only [Bool.and_eq_true, decide_eq_true_eq] at h
  omega
theorem key_of_may {l : List UInt8} (h : mayB l = true) : keyL l = l.map lowB := by rw [keyL, if_pos h]
theorem key_of_not {l : List UInt8} (h : mayB l = false) : keyL l = [] := by rw [keyL, h]; rfl

theorem lower_bd (r : Nat) (h : r ≤ 2147483647) : -2147483648 ≤ lowerZ r ∧ lowerZ r ≤ 2147483647 := by
  unfold lowerZ
  split <;> omega

set_option maxHeartbeats 4000000 in
set_option maxRecDepth 1000000 in
theorem key_any (s : ByteArray) (w : World) :
    Calls Tryd.prog 9 #[.string s] w fun e w' => e = .returned (.string ⟨(keyL s.data.toList).toArray⟩) ∧ Below w.heap.size w w' := by
  cases hm : mayB s.data.toList with
  | false =>
    rw [key_of_not hm]
    go_enter Tryd.func9, Tryd.ntmps9
    go_wp2_with (go_at_call 7; refine (may_any s _).mono ?_)
    rintro e w1 ⟨rfl, hb1⟩
    rw [hm]
    go_wp2
    go_ret
    exact ⟨rfl, hb1⟩
  | true =>
    rw [key_of_may hm]
    go_enter Tryd.func9, Tryd.ntmps9
    go_wp2_with (go_at_call 7; refine (may_any s _).mono ?_)
    rintro e w1 ⟨rfl, hb1⟩
    rw [hm]
    have h8 := may_len hm
    go_wp2
    go_loopw [] (fun wr => ∃ (pos : Nat) (pre : List (Nat × Nat)), Lib.IsBuilderF 34 5 w1.heap.size w1.heap.size (Lib.byteCells (enc pre)) wr ∧ wr.heap[w1.heap.size + 1]? = some (.stringIter s pos) ∧ Below w1.heap.size w1 wr ∧ Pre s.data.toList pos pre) (fun wr => s.size - wr.iterPos (w1.heap.size + 1))
    case atStart =>
      refine ⟨0, [], (Lib.IsBuilderF.of (Lib.fresh_isBuilder 34 5 w1)).alloc _, ?_, ((Below.refl _ w1).alloc (Nat.le_refl _) _).alloc (by simp) _, Pre.start _⟩
      have := World.iter_heap (w1.alloc (.cells #[.pointer none, .slice none 0 0] 34)) s 0
      simpa using this
    case round =>
      obtain ⟨pos, pre, hI, hit, hbw, hpre⟩ := hrel
      have hsz : w1.heap.size + 1 < wr.heap.size := (Array.getElem?_eq_some_iff.1 hit).1
      by_cases hp : pos < s.size
      · have hnx : ∀ ty, (Instr.next (.pointer (some ⟨w1.heap.size + 1, 0, none⟩)) true ty).run Tryd.prog wr = _ := fun ty => Lib.run_next_any_at wr (w1.heap.size + 1) s pos ty hit hp
        have hwd := Lib.decode_width_pos s pos hp
        have hd1 := decode_le s pos
        have hbd := lower_bd _ hd1
        have hst := hpre.step hp
        obtain ⟨_, hlen⟩ := hpre.here hp
        have hel := enc_len pre
        have hI2 := hI.iterAt hit (pos + (Utf8.decode s pos).2)
        have hit2 := Lib.iterAt_heap wr (w1.heap.size + 1) s pos (pos + (Utf8.decode s pos).2) hit
        have hbw2 := Lib.below_iterAt hbw (k := w1.heap.size + 1) (by omega) s (pos + (Utf8.decode s pos).2)
        have hsz2 : w1.heap.size ≤ (wr.iterAt (w1.heap.size + 1) s (pos + (Utf8.decode s pos).2)).heap.size := by rw [Lib.iterAt_size]; omega
        go_wp2_with (first
          | (go_at_call 18; refine (lower_any _ _ (by omega) (by omega)).mono ?_; rintro e w' ⟨rfl, rfl⟩)
          | (go_at_call 17; refine (writeRune_any w1.heap.size w1.heap.size _ _ hbd.1 hbd.2 _ hI2 (by rw [Lib.byteCells_length]; omega) hsz2).mono ?_))
        rintro e W1 ⟨rfl, h1, b1, k1⟩
        go_wp2
        go_roundw
        case rel =>
          refine ⟨pos + (Utf8.decode s pos).2, pre ++ [Utf8.decode s pos], ?_, k1.iter hit2 (by omega), hbw2.trans b1, hst⟩
          rw [enc_append, Lib.byteCells_append, show enc [Utf8.decode s pos] = Lib.encodeRune (lowerZ (Utf8.decode s pos).1) by simp [enc], Lib.byteCells_encodeRune]
          exact Or.inr h1
        case measure =>
          simp only [World.iterPos, k1.iter hit2 (by omega), hit]
          omega
      · have hnx : ∀ ty, (Instr.next (.pointer (some ⟨w1.heap.size + 1, 0, none⟩)) true ty).run Tryd.prog wr = _ := fun ty => Lib.run_next_end_at wr (w1.heap.size + 1) s pos ty hit hp
        have hps := hpre.done hp
        go_wp2_with (go_at_call 19; refine (Tryd.Builder_String_any_k w1.heap.size w1.heap.size (enc pre) _ hI (by omega)).mono ?_)
        rintro e W1 ⟨rfl, _, b1, _⟩
        go_wp2
        go_ret
        refine ⟨?_, below_trans hb1 (hbw.trans b1)⟩
        rw [← key_enc _ hm, hps]
        rfl

end Go.Proofs.YtijacgnoljnlpaaDoor
