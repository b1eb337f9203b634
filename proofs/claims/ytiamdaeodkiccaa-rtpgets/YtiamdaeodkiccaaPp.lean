/- Plain mathematics: media packets and their bytes, there and back. It imports nothing of the program. -/
import Derived.Test.YtiamdaeodkiccaaPure
namespace Go.Proofs.Ytiamdaeodkiccaa
set_option linter.unusedVariables false

/-- A media packet, its lists as lists. -/
structure Pkt where
  mrk : Bool
  ty : Int
  seq : Int
  time : Int
  ssrc : Int
  csrc : List Int
  he : Bool
  prof : Int
  ext : List Int
  pay : List Int
  pad : Int

def Words (l : List Int) : Prop := ∀ x ∈ l, 0 ≤ x ∧ x ≤ 4294967295
/-- Its fields are of their kinds. -/
structure Pkt.Ok (p : Pkt) : Prop where
  seq0 : 0 ≤ p.seq
  seq1 : p.seq ≤ 65535
  time0 : 0 ≤ p.time
  time1 : p.time ≤ 4294967295
  ssrc0 : 0 ≤ p.ssrc
  ssrc1 : p.ssrc ≤ 4294967295
  csrc : Words p.csrc
  prof0 : 0 ≤ p.prof
  prof1 : p.prof ≤ 65535
  ext : Bytes p.ext
  pay : Bytes p.pay
def zeroPkt : Pkt := ⟨false, 0, 0, 0, 0, [], false, 0, [], [], 0⟩

/-- The packet may be. -/
structure Pkt.May (p : Pkt) : Prop where
  ty0 : 0 ≤ p.ty
  ty1 : p.ty ≤ 127
  mrk : p.mrk = true → ¬ (64 ≤ p.ty ∧ p.ty ≤ 95)
  csrc : p.csrc.length ≤ 15
  ext : p.ext.length % 4 = 0
  he : p.he = false → p.ext = [] ∧ p.prof = 0
  pad0 : 0 ≤ p.pad
  pad1 : p.pad ≤ 255

/-- The numbers of four bytes, one behind the other. -/
def bes : List Int → List Int
  | [] => []
  | x :: l => be 4 x ++ bes l
def first (p : Pkt) : Int := 128 + (if 0 < p.pad then 32 else 0) + (if p.he then 16 else 0) + p.csrc.length
def second (p : Pkt) : Int := (if p.mrk then 128 else 0) + p.ty
def extB (p : Pkt) : List Int := if p.he then be 2 p.prof ++ (be 2 ((p.ext.length / 4 : Nat) : Int) ++ p.ext) else []
def padB (n : Int) : List Int := if 0 < n then List.replicate (n.toNat - 1) 0 ++ [n] else []
def headB (p : Pkt) : List Int := [first p, second p] ++ (be 2 p.seq ++ (be 4 p.time ++ (be 4 p.ssrc ++ (bes p.csrc ++ extB p))))
def enc (p : Pkt) : List Int := headB p ++ (p.pay ++ padB p.pad)

/-- The number that stands at i, in k bytes. -/
def nb (b : List Int) (i k : Nat) : Int := num ((b.drop i).take k)
def wordsAt (b : List Int) : Nat → Nat → List Int
  | _, 0 => []
  | i, n + 1 => nb b i 4 :: wordsAt b (i + 4) n

def ccN (b : List Int) : Nat := (b.getD 0 0 % 16).toNat
def at1 (b : List Int) : Nat := 12 + 4 * ccN b
def hasX (b : List Int) : Bool := decide (b.getD 0 0 / 16 % 2 = 1)
def hasP (b : List Int) : Bool := decide (b.getD 0 0 / 32 % 2 = 1)
def extN (b : List Int) : Nat := 4 * (nb b (at1 b + 2) 2).toNat
def at2 (b : List Int) : Nat := if hasX b then at1 b + 4 + extN b else at1 b
def lastB (b : List Int) : Int := b.getD (b.length - 1) 0
def padN (b : List Int) : Nat := if hasP b then (lastB b).toNat else 0
def padZ (b : List Int) : Bool := ((b.drop (b.length - (lastB b).toNat)).take ((lastB b).toNat - 1)).all (· == 0)
def badPad (b : List Int) : Bool := hasP b && (decide (at2 b = b.length) || decide (lastB b = 0) || decide (((b.length - at2 b : Nat) : Int) < lastB b) || !padZ b)

/-- What is wrong first (0: nothing). -/
def pE (b : List Int) : Int :=
  if 512 < b.length then 5 else if b.length < 12 then 2 else if b.getD 0 0 / 64 ≠ 2 then 1 else if 192 ≤ b.getD 1 0 ∧ b.getD 1 0 ≤ 223 then 4
  else if b.length < at1 b then 2 else if hasX b = true ∧ b.length < at1 b + 4 then 2 else if b.length < at2 b then 2 else if badPad b = true then 1 else 0
/-- The packet that bytes are. -/
def pQ (b : List Int) : Pkt :=
  ⟨decide (128 ≤ b.getD 1 0), b.getD 1 0 % 128, nb b 2 2, nb b 4 4, nb b 8 4, wordsAt b 12 (ccN b), hasX b, if hasX b then nb b (at1 b) 2 else 0,
    if hasX b then (b.drop (at1 b + 4)).take (extN b) else [], (b.drop (at2 b)).take (b.length - padN b - at2 b), padN b⟩

/-! What is put is read. -/

theorem bes_length : ∀ l, (bes l).length = 4 * l.length
  | [] => rfl
  | x :: l => by rw [bes, List.length_append, be_length, bes_length l, List.length_cons]; omega
theorem extB_length (p : Pkt) : (extB p).length = if p.he then 4 + p.ext.length else 0 := by
  unfold extB
  split
  · simp only [List.length_append, be_length]; omega
  · rfl
theorem padB_length (n : Int) (h : 0 ≤ n) : ((padB n).length : Int) = n := by
  unfold padB
  split
  · simp; omega
  · simp; omega
theorem headB_length (p : Pkt) : (headB p).length = 12 + 4 * p.csrc.length + (extB p).length := by
  unfold headB
  simp only [List.length_append, be_length, bes_length, List.length_cons, List.length_nil]; omega

theorem nb_mid (l r : List Int) (k : Nat) (v : Int) (h0 : 0 ≤ v) (h1 : v < 256 ^ k) : nb (l ++ (be k v ++ r)) l.length k = v := by
  unfold nb
  rw [List.drop_append_of_le_length (Nat.le_refl _), List.drop_length, List.nil_append, List.take_append_of_le_length (by rw [be_length]; exact Nat.le_refl _), List.take_of_length_le (by rw [be_length]; exact Nat.le_refl _), num_be k v h0 h1]
theorem nb_at (b l r : List Int) (i k : Nat) (v : Int) (hb : b = l ++ (be k v ++ r)) (hi : l.length = i) (h0 : 0 ≤ v) (h1 : v < 256 ^ k) : nb b i k = v := by
  subst hb; subst hi; exact nb_mid l r k v h0 h1
theorem wordsAt_mid : ∀ (cs l r : List Int), Words cs → wordsAt (l ++ (bes cs ++ r)) l.length cs.length = cs
  | [], _, _, _ => rfl
  | x :: cs, l, r, h => by
    have hx := h x (by simp)
    rw [List.length_cons, wordsAt, bes, List.append_assoc, nb_mid l _ 4 x hx.1 (by omega)]
    have := wordsAt_mid cs (l ++ be 4 x) r (fun y hy => h y (by simp [hy]))
    rw [List.append_assoc, List.length_append, be_length] at this
    rw [this]

theorem first_bd {p : Pkt} (h : p.May) : 128 ≤ first p ∧ first p ≤ 191 := by
  have := h.csrc
  unfold first; split <;> split <;> omega
theorem second_bd {p : Pkt} (h : p.May) : 0 ≤ second p ∧ second p ≤ 255 ∧ ¬ (192 ≤ second p ∧ second p ≤ 223) := by
  have h0 := h.ty0
  have h1 := h.ty1
  have h2 := h.mrk
  unfold second
  cases hm : p.mrk
  · simp only [Bool.false_eq_true, if_false]; omega
  · have := h2 hm
    simp only [if_true]; omega

section
variable {p : Pkt} {t : List Int}
theorem hd0 (p : Pkt) (t : List Int) : (headB p ++ t).getD 0 0 = first p := rfl
theorem hd1 (p : Pkt) (t : List Int) : (headB p ++ t).getD 1 0 = second p := rfl
theorem hd_cc (h : p.May) (t : List Int) : ccN (headB p ++ t) = p.csrc.length := by
  have := h.csrc
  rw [ccN, hd0]; unfold first; split <;> split <;> omega
theorem hd_X (h : p.May) (t : List Int) : hasX (headB p ++ t) = p.he := by
  have := h.csrc
  rw [hasX, hd0]; unfold first
  cases p.he <;> split <;> simp <;> omega
theorem hd_P (h : p.May) (t : List Int) : hasP (headB p ++ t) = decide (0 < p.pad) := by
  have := h.csrc
  rw [hasP, hd0]; unfold first
  cases p.he <;> split <;> simp_all <;> omega
theorem hd_at1 (h : p.May) (t : List Int) : at1 (headB p ++ t) = 12 + 4 * p.csrc.length := by rw [at1, hd_cc h]
end
end Go.Proofs.Ytiamdaeodkiccaa
