/- The reference's Key and CutName by their contracts. -/
import Derived.Test.YtijacgnoljnlpaaDoorRb
namespace Go.Proofs.YtijacgnoljnlpaaDoor
open Go.RowKit
set_option linter.unusedVariables false

/-- The first k bytes in small letters, the rest as it was. -/
def lowTo (l : List UInt8) (k : Nat) : List UInt8 := (l.take k).map lowB ++ l.drop k
theorem lowTo_length (l : List UInt8) (k : Nat) : (lowTo l k).length = l.length := by
  simp [lowTo]
  omega
theorem lowTo_zero (l : List UInt8) : lowTo l 0 = l := by simp [lowTo]
theorem lowTo_all (l : List UInt8) : lowTo l l.length = l.map lowB := by simp [lowTo]
theorem lowTo_at (l : List UInt8) (k : Nat) (hk : k < l.length) : (lowTo l k).getD k 0 = l.getD k 0 := by
  simp only [lowTo, List.getD_eq_getElem?_getD]
  rw [List.getElem?_append_right (by simp; omega)]
  simp [Nat.min_eq_left (Nat.le_of_lt hk)]
theorem lowTo_step (l : List UInt8) (k : Nat) (hk : k < l.length) : (lowTo l k).set k (lowB (l.getD k 0)) = lowTo l (k + 1) := by
  apply List.ext_getElem?
  intro i
  have e : l.getD k 0 = l[k] := by simp [List.getElem?_eq_getElem hk]
  rw [e, List.getElem?_set, lowTo_length]
  unfold lowTo
  by_cases h1 : k = i
  · subst h1
    rw [if_pos rfl, if_pos hk, List.getElem?_append_left (by simp; omega)]
    simp [hk]
  · rw [if_neg h1]
    by_cases h2 : i < k
    · rw [List.getElem?_append_left (by simp; omega), List.getElem?_append_left (by simp; omega)]
      simp [h2, show i < k + 1 by omega]
    · rw [List.getElem?_append_right (by simp; omega), List.getElem?_append_right (by simp; omega)]
      simp only [List.length_map, List.length_take, Nat.min_eq_left (Nat.le_of_lt hk), Nat.min_eq_left (show k + 1 ≤ l.length by omega), List.getElem?_drop]
      congr 1
      omega
theorem lowTo_same (l : List UInt8) (k : Nat) (hk : k < l.length) (h : lowB (l.getD k 0) = l.getD k 0) : lowTo l k = lowTo l (k + 1) := by
  rw [← lowTo_step l k hk, h]
  apply List.ext_getElem?
  intro i
  rw [List.getElem?_set]
  split
  · rename_i e
    subst e
    have := lowTo_at l k hk
    rw [lowTo_length, if_pos hk]
    rw [List.getD_eq_getElem?_getD, List.getElem?_eq_getElem (by rw [lowTo_length]; exact hk), Option.getD_some] at this
    rw [List.getElem?_eq_getElem (by rw [lowTo_length]; exact hk), this]
  · rfl

set_option maxHeartbeats 4000000 in
set_option maxRecDepth 1000000 in
theorem rkey_any (s : ByteArray) (w : World) (hs : s.size ≤ 9223372036854775807) (hT : Lib.Utf8Tabs 0 1 w) :
    Calls Tryd.prog 10 #[.string s] w fun e w' => e = .returned (.string ⟨(keyL s.data.toList).toArray⟩) ∧ Below w.heap.size w w' := by
  have cm := rmay_any s w hs hT
  cases hm : mayB s.data.toList with
  | false =>
    rw [key_of_not hm]
    rw [hm] at cm
    go_enter Tryd.func10, Tryd.ntmps10
    go_wp2_with (go_at_call 8; refine cm.mono ?_; rintro e w1 ⟨rfl, hb1⟩)
    go_ret
    exact ⟨rfl, hb1⟩
  | true =>
    rw [key_of_may hm]
    rw [hm] at cm
    go_enter Tryd.func10, Tryd.ntmps10
    go_wp2_with (go_at_call 8; refine cm.mono ?_)
    rintro e w1 ⟨rfl, hb1⟩
    obtain ⟨C, T, M, W, hrun, hC, hrow, hbW⟩ := bytes_run w1 s
    have hll := len_eq s
    go_wp2
    go_loopw [13] (fun i wr => ∃ (k : Nat), i = .int .i64 k ∧ k ≤ s.size ∧ Brow wr w1.heap.size (lowTo s.data.toList k) T M ∧ Below w1.heap.size w1 wr) (fun i _ => s.size - (Lib.intOf i).toNat)
    case atStart => exact ⟨0, rfl, Nat.zero_le _, by rw [lowTo_zero]; exact hrow, hbW⟩
    case round =>
      obtain ⟨k, rfl, hk, hr, hbr⟩ := hrel
      by_cases hlt : k < s.size
      · have c0 := hr.cell k (by rw [lowTo_length]; omega)
        have f0 := hr.frozen k (by rw [lowTo_length]; omega)
        have hput := fun y => hr.put k (by rw [lowTo_length]; omega) y
        have hstep := lowTo_step s.data.toList k (by omega)
        have hsame := lowTo_same s.data.toList k (by omega)
        rw [lowTo_at _ _ (by omega)] at c0
        obtain ⟨x, hx⟩ : ∃ x, s.data.toList.getD k 0 = x := ⟨_, rfl⟩
        rw [hx] at c0 hstep hsame
        have hxl := x.toNat_lt
        have hlx := lowB_toNat x
        have hlt' : (k : Int) < (s.size : Int) := by omega
        have hput2 := hput (lowB x)
        rw [hstep] at hput2
        clear hput hstep hx
        have hparts : (x.toNat : Int) < 65 ∨ (65 ≤ (x.toNat : Int) ∧ (x.toNat : Int) ≤ 90) ∨ 90 < (x.toNat : Int) := by omega
        rcases hparts with h | ⟨ha, hz⟩ | h
        · rw [hsame (by rw [lowB, if_neg (by omega)])] at hr
          have h3 : ¬ 65 ≤ (x.toNat : Int) := by omega
          clear hlx hsame
          go_wp2
          exact ⟨⟨k + 1, by simp, by omega, hr, hbr⟩, by simp [Lib.intOf]; omega⟩
        · rw [if_pos (by omega)] at hlx
          clear hsame
          go_wp2
          refine ⟨⟨k + 1, by simp, by omega, hput2 _ (by rw [hlx]; omega), hbr.setCell (p := ⟨w1.heap.size, k, none⟩) (Nat.le_refl _) _⟩, by simp [Lib.intOf]; omega⟩
        · rw [hsame (by rw [lowB, if_neg (by omega)])] at hr
          have h3 : 65 ≤ (x.toNat : Int) := by omega
          have h4 : ¬ (x.toNat : Int) ≤ 90 := by omega
          clear hlx hsame
          go_wp2
          exact ⟨⟨k + 1, by simp, by omega, hr, hbr⟩, by simp [Lib.intOf]; omega⟩
      · have hke : k = s.size := by omega
        subst hke
        clear hlt hk
        have hback := back_run wr w1.heap.size _ T M C hr
        rw [lowTo_length, hll, ← hll, lowTo_all, hll] at hback
        clear hll
        go_wp2
        go_ret
        exact ⟨rfl, below_trans hb1 hbr⟩

set_option maxHeartbeats 4000000 in
set_option maxRecDepth 1000000 in
theorem rcut_any (s : ByteArray) (n : Int) (w : World) (hs : s.size ≤ 9223372036854775807) (h0 : -9223372036854775808 ≤ n) (h1 : n ≤ 9223372036854775807) (hT : Lib.Utf8Tabs 0 1 w) :
    Calls Tryd.prog 12 #[.string s, .int .i64 n] w fun e w' => e = .returned (.string ⟨(cutL s.data.toList n).toArray⟩) ∧ Below w.heap.size w w' := by
  go_enter Tryd.func12, Tryd.ntmps12
  go_wp2
  go_loopw [5, 6] (fun at0 k wr => ∃ (pos : Nat) (pre : List (Nat × Nat)), at0 = .int .i64 pos ∧ k = .int .i64 pre.length ∧ Pre s.data.toList pos pre ∧ (pre.length : Int) ≤ max n 0 ∧ Below w.heap.size w wr) (fun at0 _ _ => s.size - (Lib.intOf at0).toNat)
  case atStart => exact ⟨0, [], rfl, rfl, Pre.start _, by simp; omega, Below.refl _ _⟩
  case round =>
    obtain ⟨pos, pre, rfl, rfl, hpre, hle, hbw⟩ := hrel
    have hpl := hpre.le
    rw [len_eq] at hpl
    by_cases hn : (pre.length : Int) < n
    · by_cases hp : pos < s.size
      · have hp' : (pos : Int) < (s.size : Int) := by omega
        have hwd := Lib.decode_width_pos s pos hp
        have hd1 := decode_le s pos
        have hst := hpre.step hp
        have hle2 := hst.le
        rw [len_eq] at hle2
        have hlp := hpre.len
        have cd := decode_here s pos wr hp (Utf8Tabs_below hT hbw)
        go_wp2_with (go_at_call 14; refine cd.mono ?_; rintro e w2 ⟨rfl, hb2⟩)
        exact ⟨⟨_, _, by simp, by simp, hst, by simp; omega, below_trans hbw hb2⟩, by simp [Lib.intOf]; omega⟩
      · have hps := hpre.done hp
        have hc : cutN s.data.toList n.toNat = pos := by rw [cutN, hps, List.take_of_length_le (by omega), hpre.wide]
        have hx : (⟨(cutL s.data.toList n).toArray⟩ : ByteArray) = s.extract 0 pos := by rw [cutL, hc, extract_take]
        have hp' : ¬ (pos : Int) < (s.size : Int) := by omega
        clear hc hps
        go_wp2
        go_ret
        exact ⟨by first | rfl | (rw [hx]; rfl), hbw⟩
    · have hc : cutN s.data.toList n.toNat = pos := by
        have hnn : n.toNat = pre.length := by omega
        rw [cutN, hnn, hpre.split, List.take_left, hpre.wide]
      have hx : (⟨(cutL s.data.toList n).toArray⟩ : ByteArray) = s.extract 0 pos := by rw [cutL, hc, extract_take]
      clear hc
      go_wp2
      go_ret
      exact ⟨by first | rfl | (rw [hx]; rfl), hbw⟩

end Go.Proofs.YtijacgnoljnlpaaDoor
