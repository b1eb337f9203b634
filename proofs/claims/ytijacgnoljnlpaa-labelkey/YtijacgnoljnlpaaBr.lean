/- A rune's own bytes decode to it. Plain. -/
import Derived.Test.YtijacgnoljnlpaaBq
namespace Go.Proofs.Ytijacgnoljnlpaa
open Go.Lib

def validZ (r : Int) : Bool := decide (0 ≤ r) && decide (r ≤ 1114111) && (decide (r < 55296) || decide (57343 < r))
def wantB (r : Int) : Bool := validZ r && holdB r

theorem byteNat (x : Int) (h0 : 0 ≤ x) (h1 : x < 256) : (x.toNat.toUInt8).toNat = x.toNat := by
  rw [Nat.toUInt8, UInt8.toNat_ofNat']
  omega

theorem decode_all {l : List UInt8} (hne : l ≠ []) {r : Nat} (h : decodeL l = (r, l.length)) : pieces l = [(r, l.length)] := by
  rw [pieces_step l hne, h]
  simp

theorem pieces_enc (r : Int) (hv : validZ r = true) : ∃ k, pieces (encodeRune r) = [(r.toNat, k)] := by
  simp only [validZ, Bool.and_eq_true, Bool.or_eq_true, decide_eq_true_eq] at hv
  obtain ⟨⟨h0, h1⟩, hs⟩ := hv
  refine ⟨(encodeRune r).length, decode_all ?_ ?_⟩
  · have h := (encodeRuneZ_length r).1
    intro e
    have e' := congrArg List.length e
    rw [encodeRune, List.length_map, List.length_nil] at e'
    omega
  · rw [decodeL_N]
    by_cases c1 : r ≤ 127
    · simp only [encodeRune, encodeRuneZ_one h0 c1, List.map_cons, List.map_nil, List.getD_cons_zero, List.length_singleton]
      rw [byteNat _ (by omega) (by omega), decodeN, if_pos (by omega)]
    · by_cases c2 : r ≤ 2047
      · simp only [encodeRune, encodeRuneZ_two (by omega) c2, List.map_cons, List.map_nil, List.getD_cons_zero, List.getD_cons_succ, List.length_cons, List.length_nil]
        rw [byteNat _ (by omega) (by omega), byteNat _ (by omega) (by omega), decodeN, if_neg (by omega), if_pos ⟨by omega, by omega, by omega⟩, if_pos (by omega)]
        exact Prod.ext (by dsimp only; omega) rfl
      · by_cases c3 : r ≤ 65535
        · simp only [encodeRune, encodeRuneZ_three (show (2048 ≤ r ∧ r < 55296) ∨ (57343 < r ∧ r ≤ 65535) by omega), List.map_cons, List.map_nil, List.getD_cons_zero, List.getD_cons_succ, List.length_cons, List.length_nil]
          rw [byteNat _ (by omega) (by omega), byteNat _ (by omega) (by omega), byteNat _ (by omega) (by omega), decodeN, if_neg (by omega), if_neg (by omega), if_pos ⟨by omega, ⟨by omega, by omega⟩, by omega, by omega⟩, if_pos (by omega)]
          exact Prod.ext (by dsimp only; omega) rfl
        · simp only [encodeRune, encodeRuneZ_four (show 65536 ≤ r by omega) h1, List.map_cons, List.map_nil, List.getD_cons_zero, List.getD_cons_succ, List.length_cons, List.length_nil]
          rw [byteNat _ (by omega) (by omega), byteNat _ (by omega) (by omega), byteNat _ (by omega) (by omega), byteNat _ (by omega) (by omega), decodeN, if_neg (by omega), if_neg (by omega), if_neg (by omega), if_pos ⟨by omega, ⟨by omega, by omega⟩, ⟨by omega, by omega⟩, by omega, by omega⟩, if_pos (by omega)]
          exact Prod.ext (by dsimp only; omega) rfl

theorem may_enc (r : Int) : mayB (encodeRune r) = wantB r := by
  cases hv : validZ r with
  | true =>
    obtain ⟨k, hk⟩ := pieces_enc r hv
    simp only [validZ, Bool.and_eq_true, decide_eq_true_eq] at hv
    unfold mayB wantB
    rw [hk]
    have : ((r.toNat : Nat) : Int) = r := by omega
    simp [this, validZ, hv]
  | false =>
    have hb : encodeRuneZ r = [239, 191, 189] := by
      apply encodeRuneZ_bad
      simp only [validZ, Bool.and_eq_false_iff, Bool.or_eq_false_iff, decide_eq_false_iff_not] at hv
      omega
    rw [wantB, hv, encodeRune, hb, Bool.false_and]
    decide +kernel

theorem encode_eq (r : Int) : (Utf8.encode r).data.toList = encodeRune r := by
  have hn : ∀ (n : Nat) (z : Int), z = (n : Int) → UInt8.ofNat n = z.toNat.toUInt8 := by
    rintro n z rfl
    rfl
  cases hv : validZ r with
  | true =>
    simp only [validZ, Bool.and_eq_true, Bool.or_eq_true, decide_eq_true_eq] at hv
    have hu : Utf8.valid r = true := by
      simp only [Utf8.valid, Bool.and_eq_true, Bool.or_eq_true, decide_eq_true_eq]
      omega
    unfold Utf8.encode
    simp only [hu, if_true]
    by_cases c1 : r ≤ 127
    · rw [if_pos (by omega), encodeRune, encodeRuneZ_one (by omega) c1]
      simp only [List.map_cons, List.map_nil]
    · by_cases c2 : r ≤ 2047
      · rw [if_neg (by omega), if_pos (by omega), encodeRune, encodeRuneZ_two (by omega) c2]
        simp only [List.map_cons, List.map_nil]
        rw [hn _ (192 + r / 64) (by omega), hn _ (128 + r % 64) (by omega)]
      · by_cases c3 : r ≤ 65535
        · rw [if_neg (by omega), if_neg (by omega), if_pos (by omega), encodeRune, encodeRuneZ_three (by omega)]
          simp only [List.map_cons, List.map_nil]
          rw [hn _ (224 + r / 4096) (by omega), hn _ (128 + r / 64 % 64) (by omega), hn _ (128 + r % 64) (by omega)]
        · rw [if_neg (by omega), if_neg (by omega), if_neg (by omega), encodeRune, encodeRuneZ_four (by omega) (by omega)]
          simp only [List.map_cons, List.map_nil]
          rw [hn _ (240 + r / 262144) (by omega), hn _ (128 + r / 4096 % 64) (by omega), hn _ (128 + r / 64 % 64) (by omega), hn _ (128 + r % 64) (by omega)]
  | false =>
    simp only [validZ, Bool.and_eq_false_iff, Bool.or_eq_false_iff, decide_eq_false_iff_not] at hv
    have hu : Utf8.valid r = false := by
      rw [← Bool.not_eq_true]
      simp only [Utf8.valid, Bool.and_eq_true, Bool.or_eq_true, decide_eq_true_eq]
      omega
    unfold Utf8.encode
    simp only [hu, Bool.false_eq_true, if_false]
    rw [encodeRune, encodeRuneZ_bad (by omega)]
    rfl

end Go.Proofs.Ytijacgnoljnlpaa
