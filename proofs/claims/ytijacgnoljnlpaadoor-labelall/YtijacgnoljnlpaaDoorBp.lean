/-
  Package label, plain: a text as the list of its pieces (rune, width), by the model's own decoding; what Runes, May, Key and Cut say of it. No program in this text.
-/
import Derived.Lib.MapLaws
namespace Go.Proofs.YtijacgnoljnlpaaDoor
open Go.Lib

/-- The pieces of a text: each rune with its width; a byte that is no part of a valid rune is (65533, 1). -/
def piecesGo : Nat → List UInt8 → List (Nat × Nat)
  | 0, _ => []
  | n + 1, l => if l = [] then [] else decodeL l :: piecesGo n (l.drop (decodeL l).2)
def pieces (l : List UInt8) : List (Nat × Nat) := piecesGo l.length l

theorem piecesGo_nil : ∀ n, piecesGo n [] = []
  | 0 => rfl
  | _ + 1 => by simp [piecesGo]

theorem piecesGo_fuel : ∀ (n m : Nat) (l : List UInt8), l.length ≤ n → l.length ≤ m → piecesGo n l = piecesGo m l
  | 0, m, l, hn, _ => by
    have : l = [] := List.eq_nil_of_length_eq_zero (by omega)
    subst this
    rw [piecesGo_nil, piecesGo_nil]
  | n + 1, 0, l, _, hm => by
    have : l = [] := List.eq_nil_of_length_eq_zero (by omega)
    subst this
    rw [piecesGo_nil, piecesGo_nil]
  | n + 1, m + 1, l, hn, hm => by
    by_cases hne : l = []
    · subst hne
      rw [piecesGo_nil, piecesGo_nil]
    · have hw := decodeL_width l
      have hl : 0 < l.length := List.length_pos_iff.2 hne
      simp only [piecesGo, if_neg hne]
      rw [piecesGo_fuel n m _ (by rw [List.length_drop]; omega) (by rw [List.length_drop]; omega)]

@[simp] theorem pieces_nil : pieces [] = [] := rfl
theorem pieces_step (l : List UInt8) (hne : l ≠ []) : pieces l = decodeL l :: pieces (l.drop (decodeL l).2) := by
  have hw := decodeL_width l
  have hl : 0 < l.length := List.length_pos_iff.2 hne
  unfold pieces
  obtain ⟨n, hn⟩ : ∃ n, l.length = n + 1 := ⟨l.length - 1, by omega⟩
  rw [hn]
  simp only [piecesGo, if_neg hne]
  rw [piecesGo_fuel n _ _ (by rw [List.length_drop]; omega) (Nat.le_refl _)]

/-- Induction over the pieces. -/
theorem pieces_ind {Q : List UInt8 → Prop} (h0 : Q []) (h1 : ∀ l, l ≠ [] → Q (l.drop (decodeL l).2) → Q l) (l : List UInt8) : Q l := by
  have : ∀ n (l : List UInt8), l.length ≤ n → Q l := by
    intro n
    induction n with
    | zero => intro l hl; have : l = [] := List.eq_nil_of_length_eq_zero (by omega)
              subst this; exact h0
    | succ n ih =>
      intro l hl
      by_cases hne : l = []
      · subst hne; exact h0
      · have hw := decodeL_width l
        have hl0 : 0 < l.length := List.length_pos_iff.2 hne
        exact h1 l hne (ih _ (by rw [List.length_drop]; omega))
  exact this l.length l (Nat.le_refl _)

def widths (ps : List (Nat × Nat)) : Nat := (ps.map (·.2)).sum
@[simp] theorem widths_nil : widths [] = 0 := rfl
@[simp] theorem widths_cons (p : Nat × Nat) (ps : List (Nat × Nat)) : widths (p :: ps) = p.2 + widths ps := by simp [widths]
@[simp] theorem widths_append (ps qs : List (Nat × Nat)) : widths (ps ++ qs) = widths ps + widths qs := by simp [widths]

theorem widths_pieces (l : List UInt8) : widths (pieces l) = l.length := by
  induction l using pieces_ind with
  | h0 => rfl
  | h1 l hne ih =>
    have := decodeL_le l hne
    rw [pieces_step l hne, widths_cons, ih, List.length_drop]
    omega

/-! ### what the package says -/
def bad (p : Nat × Nat) : Bool := p.1 == 65533 && p.2 == 1
/-- Runes. -/
def runesZ (l : List UInt8) : Int := if (pieces l).any bad then -1 else (pieces l).length
/-- A rune that may be in a name. -/
def holdB (r : Int) : Bool := decide (33 ≤ r) && !(decide (127 ≤ r) && decide (r ≤ 159)) && !(r == 65533)
/-- May. -/
def mayB (l : List UInt8) : Bool := decide (0 < (pieces l).length) && decide ((pieces l).length ≤ 8) && (pieces l).all fun p => holdB p.1
def lowerZ (r : Int) : Int := if 65 ≤ r ∧ r ≤ 90 then r + 32 else r
def lowB (x : UInt8) : UInt8 := if 65 ≤ x.toNat ∧ x.toNat ≤ 90 then x + 32 else x
/-- What the builder gathers. -/
def enc (ps : List (Nat × Nat)) : List UInt8 := ps.flatMap fun p => encodeRune (lowerZ p.1)
/-- Key. -/
def keyL (l : List UInt8) : List UInt8 := if mayB l then l.map lowB else []
/-- How many bytes the first n runes have. -/
def cutN (l : List UInt8) (n : Nat) : Nat := widths ((pieces l).take n)
/-- Cut. -/
def cutL (l : List UInt8) (n : Int) : List UInt8 := l.take (cutN l n.toNat)

theorem cutN_le (l : List UInt8) (n : Nat) : cutN l n ≤ l.length := by
  have h : widths (pieces l) = widths ((pieces l).take n) + widths ((pieces l).drop n) := by rw [← widths_append, List.take_append_drop]
  rw [widths_pieces] at h
  unfold cutN
  omega

theorem pieces_eq_nil {l : List UInt8} : pieces l = [] ↔ l = [] := by
  constructor
  · intro h
    cases hl : l with
    | nil => rfl
    | cons x r => rw [pieces_step l (by simp [hl])] at h; cases h
  · rintro rfl; rfl

/-- Between the first k bytes, which hold the rune, and the whole text decoding sees no difference. -/
theorem decode_take (l : List UInt8) (k : Nat) (hne : l ≠ []) (hk : (decodeL l).2 ≤ k) : decodeL (l.take k) = decodeL l := by
  have hw := decodeL_width l
  have hl : 0 < l.length := List.length_pos_iff.2 hne
  have g : ∀ i, i < k → (l.take k).getD i 0 = l.getD i 0 := fun i hi => by
    simp [List.getD_eq_getElem?_getD, hi]
  rw [decodeL_N] at hk hw
  rw [decodeL_N, decodeL_N, g 0 (by omega), List.length_take]
  rcases decodeN_shape l.length (l.getD 0 0).toNat (l.getD 1 0).toNat (l.getD 2 0).toNat (l.getD 3 0).toNat with ⟨c, e⟩ | ⟨c1, c2, c3, cv, e⟩ | ⟨c1, c2, c3, c4, cv, cs, e⟩ | ⟨c1, c2, c3, c4, c5, cv, cw, e⟩ | e
  · rw [e, decodeN, if_pos c]
  · rw [e] at hk ⊢
    dsimp only at hk
    rw [g 1 (by omega), decodeN, if_neg (by omega), if_pos ⟨c1, by omega, c3⟩, if_pos cv]
  · rw [e] at hk ⊢
    dsimp only at hk
    rw [g 1 (by omega), g 2 (by omega), decodeN, if_neg (by omega), if_neg (by omega), if_pos ⟨c1, ⟨by omega, c3⟩, by omega, c4⟩, if_pos (by omega)]
  · rw [e] at hk ⊢
    dsimp only at hk
    rw [g 1 (by omega), g 2 (by omega), g 3 (by omega), decodeN, if_neg (by omega), if_neg (by omega), if_neg (by omega), if_pos ⟨c1, ⟨by omega, c3⟩, ⟨by omega, c4⟩, by omega, c5⟩, if_pos (by omega)]
  · rw [e]
    have k0 := (l.getD 0 0).toNat_lt
    rcases decodeN_shape (min k l.length) (l.getD 0 0).toNat ((l.take k).getD 1 0).toNat ((l.take k).getD 2 0).toNat ((l.take k).getD 3 0).toNat with ⟨c, f⟩ | ⟨c1, c2, c3, cv, f⟩ | ⟨c1, c2, c3, c4, cv, cs, f⟩ | ⟨c1, c2, c3, c4, c5, cv, cw, f⟩ | f
    · exfalso
      rw [decodeN, if_pos c] at e
      have := congrArg Prod.fst e
      dsimp only at this
      omega
    · exfalso
      rw [g 1 (by omega)] at c3 cv
      rw [decodeN, if_neg (by omega), if_pos ⟨c1, by omega, c3⟩, if_pos cv] at e
      exact absurd (congrArg Prod.snd e) (by dsimp only; omega)
    · exfalso
      rw [g 1 (by omega)] at c3 cv cs
      rw [g 2 (by omega)] at c4 cv cs
      rw [decodeN, if_neg (by omega), if_neg (by omega), if_pos ⟨c1, ⟨by omega, c3⟩, by omega, c4⟩, if_pos (by omega)] at e
      exact absurd (congrArg Prod.snd e) (by dsimp only; omega)
    · exfalso
      rw [g 1 (by omega)] at c3 cv cw
      rw [g 2 (by omega)] at c4 cv cw
      rw [g 3 (by omega)] at c5 cv cw
      rw [decodeN, if_neg (by omega), if_neg (by omega), if_neg (by omega), if_pos ⟨c1, ⟨by omega, c3⟩, ⟨by omega, c4⟩, by omega, c5⟩, if_pos (by omega)] at e
      exact absurd (congrArg Prod.snd e) (by dsimp only; omega)
    · exact f

/-- A valid rune in front is decoded alike whatever follows. -/
theorem decode_append (a b : List UInt8) (hne : a ≠ []) (hv : bad (decodeL a) = false) : decodeL (a ++ b) = decodeL a := by
  have hl : 0 < a.length := List.length_pos_iff.2 hne
  have g : ∀ i, i < a.length → (a ++ b).getD i 0 = a.getD i 0 := fun i hi => by
    simp [List.getD_eq_getElem?_getD, List.getElem?_append, hi]
  rw [decodeL_N] at hv
  rw [decodeL_N, decodeL_N, g 0 hl, List.length_append]
  rcases decodeN_shape a.length (a.getD 0 0).toNat (a.getD 1 0).toNat (a.getD 2 0).toNat (a.getD 3 0).toNat with ⟨c, e⟩ | ⟨c1, c2, c3, cv, e⟩ | ⟨c1, c2, c3, c4, cv, cs, e⟩ | ⟨c1, c2, c3, c4, c5, cv, cw, e⟩ | e
  · rw [e, decodeN, if_pos c]
  · rw [e, g 1 (by omega), decodeN, if_neg (by omega), if_pos ⟨c1, by omega, c3⟩, if_pos cv]
  · rw [e, g 1 (by omega), g 2 (by omega), decodeN, if_neg (by omega), if_neg (by omega), if_pos ⟨c1, ⟨by omega, c3⟩, by omega, c4⟩, if_pos (by omega)]
  · rw [e, g 1 (by omega), g 2 (by omega), g 3 (by omega), decodeN, if_neg (by omega), if_neg (by omega), if_neg (by omega), if_pos ⟨c1, ⟨by omega, c3⟩, ⟨by omega, c4⟩, by omega, c5⟩, if_pos (by omega)]
  · rw [e] at hv
    exact absurd hv (by decide)

theorem lowB_toNat (x : UInt8) : (lowB x).toNat = if 65 ≤ x.toNat ∧ x.toNat ≤ 90 then x.toNat + 32 else x.toNat := by
  unfold lowB
  split
  · rw [UInt8.toNat_add]
    have : (32 : UInt8).toNat = 32 := rfl
    omega
  · rfl

theorem lowB_lowB (x : UInt8) : lowB (lowB x) = lowB x := by
  apply UInt8.toNat_inj.1
  rw [lowB_toNat (lowB x), lowB_toNat x]
  by_cases h : 65 ≤ x.toNat ∧ x.toNat ≤ 90
  · rw [if_pos h, if_neg (by omega)]
  · rw [if_neg h, if_neg h]

/-- The case of A to Z turned: the same widths, the runes in small letters. -/
theorem decode_low (l : List UInt8) : ((decodeL (l.map lowB)).1 : Int) = lowerZ (decodeL l).1 ∧ (decodeL (l.map lowB)).2 = (decodeL l).2 := by
  have g : ∀ i, ((l.map lowB).getD i 0).toNat = if 65 ≤ (l.getD i 0).toNat ∧ (l.getD i 0).toNat ≤ 90 then (l.getD i 0).toNat + 32 else (l.getD i 0).toNat := fun i => by
    rw [← lowB_toNat]
    simp only [List.getD_eq_getElem?_getD, List.getElem?_map]
    cases l[i]? with
    | none => rfl
    | some x => rfl
  have m : ∀ i, (l.getD i 0).toNat / 64 = 2 → ((l.map lowB).getD i 0).toNat = (l.getD i 0).toNat := fun i hi => by rw [g, if_neg (by omega)]
  have m' : ∀ i, ((l.map lowB).getD i 0).toNat / 64 = 2 → ((l.map lowB).getD i 0).toNat = (l.getD i 0).toNat := fun i hi => by
    rw [g] at hi ⊢
    split
    · rw [if_pos (by assumption)] at hi; omega
    · rfl
  rw [decodeL_N, decodeL_N, List.length_map]
  have g0 := g 0
  have k0 := (l.getD 0 0).toNat_lt
  rcases decodeN_shape l.length (l.getD 0 0).toNat (l.getD 1 0).toNat (l.getD 2 0).toNat (l.getD 3 0).toNat with ⟨c, e⟩ | ⟨c1, c2, c3, cv, e⟩ | ⟨c1, c2, c3, c4, cv, cs, e⟩ | ⟨c1, c2, c3, c4, c5, cv, cw, e⟩ | e
  · rw [e, decodeN, if_pos (by rw [g0]; split <;> omega), g0]
    unfold lowerZ
    refine ⟨?_, rfl⟩
    dsimp only
    split <;> split <;> omega
  · rw [e, m 1 c3, g0, if_neg (by omega), decodeN, if_neg (by omega), if_pos ⟨c1, by omega, c3⟩, if_pos cv]
    exact ⟨by unfold lowerZ; dsimp only; rw [if_neg (by omega)], rfl⟩
  · rw [e, m 1 c3, m 2 c4, g0, if_neg (by omega), decodeN, if_neg (by omega), if_neg (by omega), if_pos ⟨c1, ⟨by omega, c3⟩, by omega, c4⟩, if_pos (by omega)]
    exact ⟨by unfold lowerZ; dsimp only; rw [if_neg (by omega)], rfl⟩
  · rw [e, m 1 c3, m 2 c4, m 3 c5, g0, if_neg (by omega), decodeN, if_neg (by omega), if_neg (by omega), if_neg (by omega), if_pos ⟨c1, ⟨by omega, c3⟩, ⟨by omega, c4⟩, by omega, c5⟩, if_pos (by omega)]
    exact ⟨by unfold lowerZ; dsimp only; rw [if_neg (by omega)], rfl⟩
  · rw [e]
    have hb : 128 ≤ (l.getD 0 0).toNat := by
      apply Nat.le_of_not_lt
      intro c
      rw [decodeN, if_pos c] at e
      have := congrArg Prod.fst e
      dsimp only at this
      omega
    rw [if_neg (by omega)] at g0
    rw [g0]
    rcases decodeN_shape l.length (l.getD 0 0).toNat ((l.map lowB).getD 1 0).toNat ((l.map lowB).getD 2 0).toNat ((l.map lowB).getD 3 0).toNat with ⟨c, f⟩ | ⟨c1, c2, c3, cv, f⟩ | ⟨c1, c2, c3, c4, cv, cs, f⟩ | ⟨c1, c2, c3, c4, c5, cv, cw, f⟩ | f
    · omega
    · exfalso
      have e1 := m' 1 c3
      rw [e1] at c3 cv
      rw [decodeN, if_neg (by omega), if_pos ⟨c1, by omega, c3⟩, if_pos cv] at e
      exact absurd (congrArg Prod.snd e) (by dsimp only; omega)
    · exfalso
      have e1 := m' 1 c3
      rw [e1] at c3 cv cs
      have e2 := m' 2 c4
      rw [e2] at c4 cv cs
      rw [decodeN, if_neg (by omega), if_neg (by omega), if_pos ⟨c1, ⟨by omega, c3⟩, by omega, c4⟩, if_pos (by omega)] at e
      exact absurd (congrArg Prod.snd e) (by dsimp only; omega)
    · exfalso
      have e1 := m' 1 c3
      rw [e1] at c3 cv cw
      have e2 := m' 2 c4
      rw [e2] at c4 cv cw
      have e3 := m' 3 c5
      rw [e3] at c5 cv cw
      rw [decodeN, if_neg (by omega), if_neg (by omega), if_neg (by omega), if_pos ⟨c1, ⟨by omega, c3⟩, ⟨by omega, c4⟩, by omega, c5⟩, if_pos (by omega)] at e
      exact absurd (congrArg Prod.snd e) (by dsimp only; omega)
    · rw [f]
      exact ⟨rfl, rfl⟩

/-- A rune that stands in the text is not one that decoding puts for a wrong byte. -/
theorem written_iff (l : List UInt8) (hr : (decodeL l).1 = 65533) : hasPrefix l [239, 191, 189] = !bad (decodeL l) := by
  have k0 := (l.getD 0 0).toNat_lt
  have k1 := (l.getD 1 0).toNat_lt
  have k2 := (l.getD 2 0).toNat_lt
  have k3 := (l.getD 3 0).toNat_lt
  have hs := decodeN_shape l.length (l.getD 0 0).toNat (l.getD 1 0).toNat (l.getD 2 0).toNat (l.getD 3 0).toNat
  rw [← decodeL_N] at hs
  have hp : hasPrefix l [239, 191, 189] = true ↔ (2 < l.length ∧ (l.getD 0 0).toNat = 239 ∧ (l.getD 1 0).toNat = 191 ∧ (l.getD 2 0).toNat = 189) := by
    match l with
    | [] => simp [hasPrefix]
    | [a] => simp [hasPrefix]
    | [a, b] => simp [hasPrefix]
    | a :: b :: c :: r =>
      simp only [hasPrefix, List.isPrefixOf, Bool.and_eq_true, beq_iff_eq, List.length_cons, List.getD_cons_zero, List.getD_cons_succ]
      constructor
      · rintro ⟨rfl, rfl, rfl, _⟩; exact ⟨by omega, rfl, rfl, rfl⟩
      · rintro ⟨_, h1, h2, h3⟩
        exact ⟨UInt8.toNat_inj.1 (by rw [h1]; rfl), UInt8.toNat_inj.1 (by rw [h2]; rfl), UInt8.toNat_inj.1 (by rw [h3]; rfl), trivial⟩
  have hb : bad (decodeL l) = true ↔ (decodeL l).2 = 1 := by simp [bad, hr]
  rw [Bool.eq_iff_iff, hp, Bool.not_eq_true', ← Bool.not_eq_true, hb]
  rcases hs with ⟨c, e⟩ | ⟨c1, c2, c3, cv, e⟩ | ⟨c1, c2, c3, c4, cv, cs, e⟩ | ⟨c1, c2, c3, c4, c5, cv, cw, e⟩ | e
  · rw [e] at hr; dsimp only at hr; omega
  · rw [e] at hr; dsimp only at hr; omega
  · rw [e] at hr ⊢; dsimp only at hr ⊢; constructor
    · intro _; omega
    · intro _; refine ⟨c2, ?_, ?_, ?_⟩ <;> omega
  · rw [e] at hr; dsimp only at hr; omega
  · rw [e]
    refine ⟨?_, fun h => absurd rfl h⟩
    rintro ⟨h1, h2, h3, h4⟩
    rw [decodeL_N, decodeN, h2, h3, h4, if_neg (by omega), if_neg (by omega), if_pos ⟨by omega, ⟨by omega, by omega⟩, by omega, by omega⟩, if_pos (by omega)] at e
    exact absurd (congrArg Prod.snd e) (by dsimp only; omega)

end Go.Proofs.YtijacgnoljnlpaaDoor
