/-
  Package label, plain: what the statements ask of pieces. No program in this text.
-/
import Derived.Test.YtijacgnoljnlpaaDoorBp
namespace Go.Proofs.YtijacgnoljnlpaaDoor
open Go.Lib

theorem pieces_take : ∀ (k : Nat) (l : List UInt8), pieces (l.take (cutN l k)) = (pieces l).take k
  | 0, l => by simp [cutN]
  | k + 1, l => by
    by_cases hne : l = []
    · subst hne; rfl
    · have hw := decodeL_width l
      have hl : 0 < l.length := List.length_pos_iff.2 hne
      have hc : cutN l (k + 1) = (decodeL l).2 + cutN (l.drop (decodeL l).2) k := by
        simp [cutN, pieces_step l hne]
      have hd := decode_take l (cutN l (k + 1)) hne (by omega)
      have hn : l.take (cutN l (k + 1)) ≠ [] := by
        intro h
        have := congrArg List.length h
        rw [List.length_take, List.length_nil] at this
        omega
      rw [pieces_step _ hn, hd, pieces_step l hne, List.take_succ_cons, hc, List.drop_take, Nat.add_sub_cancel_left, pieces_take k]

theorem pieces_append (a b : List UInt8) (hv : (pieces a).any bad = false) : pieces (a ++ b) = pieces a ++ pieces b := by
  induction a using pieces_ind with
  | h0 => simp
  | h1 a hne ih =>
    rw [pieces_step a hne, List.any_cons, Bool.or_eq_false_iff] at hv
    have hd := decode_append a b hne hv.1
    have hle := decodeL_le a hne
    rw [pieces_step (a ++ b) (by simp [hne]), hd, pieces_step a hne, List.cons_append, List.drop_append_of_le_length hle, ih hv.2]

theorem pieces_low (l : List UInt8) : pieces (l.map lowB) = (pieces l).map fun p => ((lowerZ p.1).toNat, p.2) := by
  induction l using pieces_ind with
  | h0 => rfl
  | h1 l hne ih =>
    obtain ⟨h1, h2⟩ := decode_low l
    have hne' : l.map lowB ≠ [] := by simp [hne]
    rw [pieces_step _ hne', pieces_step l hne, List.map_cons, h2, ← List.map_drop, ih]
    refine congrArg (· :: _) (Prod.ext ?_ h2)
    show (decodeL (l.map lowB)).1 = (lowerZ (decodeL l).1).toNat
    rw [← h1]; simp

theorem holdB_lower (r : Nat) : holdB ((lowerZ r).toNat : Int) = holdB r := by
  unfold lowerZ
  split
  · have h1 : holdB (((r : Int) + 32).toNat : Int) = true := by simp [holdB]; omega
    have h2 : holdB (r : Int) = true := by simp [holdB]; omega
    rw [h1, h2]
  · simp

theorem mayB_low (l : List UInt8) : mayB (l.map lowB) = mayB l := by
  unfold mayB
  rw [pieces_low, List.length_map, List.all_map]
  congr 1
  congr 1
  funext p
  exact holdB_lower p.1

theorem mayB_alike (l m : List UInt8) (h : l.map lowB = m.map lowB) : mayB l = mayB m := by
  rw [← mayB_low l, h, mayB_low]

theorem may_good {ps : List (Nat × Nat)} (h : ps.all (fun p => holdB p.1) = true) : ps.any bad = false := by
  rw [List.any_eq_false]
  intro p hp
  have := List.all_eq_true.1 h p hp
  intro hb
  simp only [bad, Bool.and_eq_true, beq_iff_eq] at hb
  rw [hb.1] at this
  exact absurd this (by decide)

/-- What the builder takes of a rune that is valid: its bytes, in small letters. -/
theorem enc_one (l : List UInt8) (hne : l ≠ []) (hv : bad (decodeL l) = false) : encodeRune (lowerZ (decodeL l).1) = (l.take (decodeL l).2).map lowB := by
  have hl : 0 < l.length := List.length_pos_iff.2 hne
  have hv' : ¬ ((decodeL l).1 = 65533 ∧ (decodeL l).2 = 1) := by
    rintro ⟨h1, h2⟩
    simp [bad, h1, h2] at hv
  have he := encode_decode l hne hv'
  by_cases hu : 65 ≤ ((decodeL l).1 : Int) ∧ ((decodeL l).1 : Int) ≤ 90
  · have hs := decodeN_shape l.length (l.getD 0 0).toNat (l.getD 1 0).toNat (l.getD 2 0).toNat (l.getD 3 0).toNat
    rw [← decodeL_N] at hs
    rcases hs with ⟨c, e⟩ | ⟨c1, c2, c3, cv, e⟩ | ⟨c1, c2, c3, c4, cv, cs, e⟩ | ⟨c1, c2, c3, c4, c5, cv, cw, e⟩ | e
    · rw [e] at hu ⊢
      dsimp only at hu ⊢
      rw [lowerZ, if_pos hu, takeA l hl, List.map_cons, List.map_nil]
      unfold encodeRune
      rw [encodeRuneZ_one (by omega) (by omega), List.map_cons, List.map_nil]
      rw [toByte _ (lowB (l.getD 0 0)) (by rw [lowB_toNat, if_pos (by omega)]; omega)]
    all_goals (exfalso; rw [e] at hu; dsimp only at hu; omega)
  · rw [lowerZ, if_neg hu, he]
    refine (List.map_congr_left ?_).symm.trans (List.map_id' _) |>.symm
    intro x hx
    -- each byte of the rune: not a capital letter
    have hs := decodeN_shape l.length (l.getD 0 0).toNat (l.getD 1 0).toNat (l.getD 2 0).toNat (l.getD 3 0).toNat
    rw [← decodeL_N] at hs
    have fin : ¬ (65 ≤ x.toNat ∧ x.toNat ≤ 90) := by
      rcases hs with ⟨c, e⟩ | ⟨c1, c2, c3, cv, e⟩ | ⟨c1, c2, c3, c4, cv, cs, e⟩ | ⟨c1, c2, c3, c4, c5, cv, cw, e⟩ | e
      · rw [e] at hu hx
        dsimp only at hu hx
        rw [takeA l hl, List.mem_singleton] at hx
        subst hx
        omega
      · rw [e] at hx
        dsimp only at hx
        rw [takeB l c2] at hx
        simp only [List.mem_cons, List.mem_nil_iff, or_false] at hx
        rcases hx with rfl | rfl <;> omega
      · rw [e] at hx
        dsimp only at hx
        rw [takeC l c2] at hx
        simp only [List.mem_cons, List.mem_nil_iff, or_false] at hx
        rcases hx with rfl | rfl | rfl <;> omega
      · rw [e] at hx
        dsimp only at hx
        rw [takeD l c2] at hx
        simp only [List.mem_cons, List.mem_nil_iff, or_false] at hx
        rcases hx with rfl | rfl | rfl | rfl <;> omega
      · exact absurd ⟨congrArg Prod.fst e, congrArg Prod.snd e⟩ hv'
    show x = lowB x
    rw [lowB, if_neg fin]

theorem enc_pieces (l : List UInt8) (hv : (pieces l).any bad = false) : enc (pieces l) = l.map lowB := by
  induction l using pieces_ind with
  | h0 => rfl
  | h1 l hne ih =>
    rw [pieces_step l hne, List.any_cons, Bool.or_eq_false_iff] at hv
    rw [pieces_step l hne]
    show encodeRune (lowerZ (decodeL l).1) ++ enc (pieces (l.drop (decodeL l).2)) = _
    rw [ih hv.2, enc_one l hne hv.1, ← List.map_append, List.take_append_drop]

theorem key_enc (l : List UInt8) (h : mayB l = true) : enc (pieces l) = l.map lowB := by
  unfold mayB at h
  rw [Bool.and_eq_true] at h
  exact enc_pieces l (may_good h.2)

theorem enc_append (ps qs : List (Nat × Nat)) : enc (ps ++ qs) = enc ps ++ enc qs := by simp [enc]
theorem enc_len (ps : List (Nat × Nat)) : (enc ps).length ≤ 4 * ps.length := by
  induction ps with
  | nil => simp [enc]
  | cons p r ih =>
    have h4 := runeCells_le (lowerZ p.1)
    rw [runeCells_length] at h4
    have : enc (p :: r) = encodeRune (lowerZ p.1) ++ enc r := rfl
    rw [this, List.length_append, List.length_cons]
    omega

/-! ### where a range stands -/
structure Pre (l : List UInt8) (pos : Nat) (pre : List (Nat × Nat)) : Prop where
  split : pieces l = pre ++ pieces (l.drop pos)
  wide : widths pre = pos

theorem Pre.start (l : List UInt8) : Pre l 0 [] := ⟨by simp, rfl⟩
theorem Pre.le {l : List UInt8} {pos : Nat} {pre : List (Nat × Nat)} (h : Pre l pos pre) : pos ≤ l.length := by
  have := congrArg widths h.split
  rw [widths_append, widths_pieces, widths_pieces, List.length_drop, h.wide] at this
  omega
theorem Pre.next {l : List UInt8} {pos : Nat} {pre : List (Nat × Nat)} (h : Pre l pos pre) (hp : pos < l.length) :
    Pre l (pos + (decodeL (l.drop pos)).2) (pre ++ [decodeL (l.drop pos)]) := by
  have hne : l.drop pos ≠ [] := by
    intro e
    have := congrArg List.length e
    rw [List.length_drop, List.length_nil] at this
    omega
  refine ⟨?_, ?_⟩
  · rw [h.split, pieces_step _ hne, List.drop_drop, List.append_assoc, List.singleton_append]
  · rw [widths_append, widths_cons, widths_nil, h.wide]
    omega
theorem Pre.all {l : List UInt8} {pos : Nat} {pre : List (Nat × Nat)} (h : Pre l pos pre) (hp : ¬ pos < l.length) : pieces l = pre := by
  rw [h.split, List.drop_of_length_le (by omega), pieces_nil, List.append_nil]
theorem Pre.len {l : List UInt8} {pos : Nat} {pre : List (Nat × Nat)} (h : Pre l pos pre) : pre.length ≤ pos := by
  have : ∀ (pre : List (Nat × Nat)) (r : List (Nat × Nat)) (l : List UInt8), pieces l = pre ++ r → pre.length ≤ widths pre := by
    intro pre
    induction pre with
    | nil => intro _ _ _; simp
    | cons p q ih =>
      intro r l hs
      have hne : l ≠ [] := by
        rintro rfl
        exact absurd hs (by simp)
      rw [pieces_step l hne, List.cons_append] at hs
      injection hs with h1 h2
      have := ih r _ h2
      have hw := decodeL_width l
      rw [List.length_cons, widths_cons, ← h1]
      omega
  have := this pre _ l h.split
  rw [h.wide] at this
  exact this

/-! ### Cut -/
theorem cut_cut (l : List UInt8) (m n : Int) : cutL (cutL l m) n = cutL l (min m n) := by
  unfold cutL
  have h1 : cutN (l.take (cutN l m.toNat)) n.toNat = cutN l (min m n).toNat := by
    unfold cutN
    have := pieces_take m.toNat l
    unfold cutN at this
    rw [this, List.take_take]
    congr 2
    omega
  rw [h1, List.take_take]
  congr 1
  have : cutN l (min m n).toNat ≤ cutN l m.toNat := by
    have h2 : (min m n).toNat ≤ m.toNat := by omega
    unfold cutN
    rw [show (pieces l).take (min m n).toNat = ((pieces l).take m.toNat).take (min m n).toNat by rw [List.take_take, Nat.min_eq_left h2]]
    have h : widths ((pieces l).take m.toNat) = widths (((pieces l).take m.toNat).take (min m n).toNat) + widths (((pieces l).take m.toNat).drop (min m n).toNat) := by rw [← widths_append, List.take_append_drop]
    omega
  omega

theorem runes_cut (l : List UInt8) (m : Int) (h : 0 ≤ runesZ l) : runesZ (cutL l m) = min (max m 0) (runesZ l) := by
  have hv : (pieces l).any bad = false := by
    unfold runesZ at h
    split at h
    · omega
    · simpa using ‹¬ (pieces l).any bad = true›
  have hp : pieces (cutL l m) = (pieces l).take m.toNat := pieces_take _ l
  have hv' : (pieces (cutL l m)).any bad = false := by
    rw [hp, List.any_eq_false]
    exact fun p hp => List.any_eq_false.1 hv p (List.mem_of_mem_take hp)
  rw [runesZ, runesZ, hv, hv', hp, List.length_take]
  simp only [Bool.false_eq_true, if_false]
  omega

theorem runes_good {l : List UInt8} (h : 0 ≤ runesZ l) : (pieces l).any bad = false ∧ runesZ l = (pieces l).length := by
  unfold runesZ at h ⊢
  cases hb : (pieces l).any bad with
  | true => rw [hb] at h; simp at h
  | false => simp

theorem runes_join (a b : List UInt8) (ha : 0 ≤ runesZ a) (hb : 0 ≤ runesZ b) : runesZ (a ++ b) = runesZ a + runesZ b ∧ cutL (a ++ b) (runesZ a) = a := by
  obtain ⟨va, ea⟩ := runes_good ha
  obtain ⟨vb, eb⟩ := runes_good hb
  have hp := pieces_append a b va
  constructor
  · rw [ea, eb, runesZ, hp, List.any_append, va, vb, List.length_append]
    simp
  · rw [ea, cutL, cutN, hp, Int.toNat_natCast, List.take_left, widths_pieces, List.take_left]

end Go.Proofs.YtijacgnoljnlpaaDoor
