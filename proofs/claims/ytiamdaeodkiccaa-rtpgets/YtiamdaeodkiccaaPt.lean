/- Plain mathematics: a packet's bytes, laid part by part into a row of zeros. -/
import Derived.Test.YtiamdaeodkiccaaPs
import Derived.Test.YtiamdaeodkiccaaXp
namespace Go.Proofs.Ytiamdaeodkiccaa
open Go.RowKit
set_option linter.unusedVariables false

/-- A number put behind what is there already. -/
theorem fill_num (A : List Int) (k i s : Nat) (x : Int) (hi : A.length = i) (hs : s ≤ k) : written (A ++ List.replicate k 0) i s 0 x = (A ++ be s x) ++ List.replicate (k - s) 0 := by
  subst hi
  unfold written
  rw [Nat.add_zero, Nat.sub_zero, List.take_append_of_le_length (Nat.le_refl _), List.take_of_length_le (Nat.le_refl _), List.drop_append, List.drop_of_length_le (by omega), List.nil_append, Nat.add_sub_cancel_left, List.drop_replicate]
/-- Bytes copied behind what is there already. -/
theorem fill_row (A xs : List Int) (k i : Nat) (hi : A.length = i) (hs : xs.length ≤ k) : splice (A ++ List.replicate k 0) i xs = (A ++ xs) ++ List.replicate (k - xs.length) 0 := by
  subst hi
  unfold splice
  rw [List.take_append_of_le_length (Nat.le_refl _), List.take_of_length_le (Nat.le_refl _), List.drop_append, List.drop_of_length_le (by omega), List.nil_append, Nat.add_sub_cancel_left, List.drop_replicate, List.append_assoc]
theorem fill_mid (A B : List Int) (k i n : Nat) (hi : A.length = i) (hn : B.length = n) (hs : n ≤ k) : (A ++ List.replicate k 0).take i ++ B ++ (A ++ List.replicate k 0).drop (i + n) = (A ++ B) ++ List.replicate (k - n) 0 := by
  subst hi
  rw [List.take_append_of_le_length (Nat.le_refl _), List.take_of_length_le (Nat.le_refl _), List.drop_append, List.drop_of_length_le (by omega), List.nil_append, Nat.add_sub_cancel_left, List.drop_replicate]
theorem set_last (A : List Int) (k : Nat) (x : Int) (hk : 0 < k) (N : Nat) (hN : A.length + k = N) : (A ++ List.replicate k 0).set (N - 1) x = A ++ (List.replicate (k - 1) 0 ++ [x]) := by
  obtain ⟨m, rfl⟩ : ∃ m, k = m + 1 := ⟨k - 1, by omega⟩
  rw [List.replicate_succ', ← List.append_assoc, List.set_append_right _ _ (by simp; omega)]
  simp
  rw [show N - 1 - (A.length + m) = 0 from by omega]; rfl

/-- Head, Csrc, extension, payload and padding, one behind the other: the rows that Put's steps leave. -/
def row1 (p : Pkt) (N : Nat) : List Int := [first p, second p] ++ (be 2 p.seq ++ (be 4 p.time ++ (be 4 p.ssrc ++ (List.replicate N 0).drop 12)))
def row2 (p : Pkt) (N : Nat) : List Int := (row1 p N).take 12 ++ bes p.csrc ++ (row1 p N).drop (12 + 4 * p.csrc.length)
def row3 (p : Pkt) (N : Nat) : List Int :=
  if p.he then splice (written (written (row2 p N) (12 + 4 * p.csrc.length) 2 0 p.prof) (12 + 4 * p.csrc.length + 2) 2 0 ((p.ext.length / 4 : Nat) : Int)) (12 + 4 * p.csrc.length + 4) p.ext else row2 p N
def atP (p : Pkt) : Nat := if p.he then 12 + 4 * p.csrc.length + 4 + p.ext.length else 12 + 4 * p.csrc.length
def row5 (p : Pkt) (N : Nat) : List Int := if 0 < p.pad then (splice (row3 p N) (atP p) p.pay).set (N - 1) p.pad else splice (row3 p N) (atP p) p.pay

def head12 (p : Pkt) : List Int := [first p, second p] ++ (be 2 p.seq ++ (be 4 p.time ++ be 4 p.ssrc))
theorem head12_len (p : Pkt) : (head12 p).length = 12 := by simp [head12, be_length]
theorem row1_eq (p : Pkt) (N : Nat) : row1 p N = head12 p ++ List.replicate (N - 12) 0 := by simp [row1, head12]
theorem row2_eq (p : Pkt) (N : Nat) (h : 12 + 4 * p.csrc.length ≤ N) : row2 p N = (head12 p ++ bes p.csrc) ++ List.replicate (N - 12 - 4 * p.csrc.length) 0 := by
  rw [row2, row1_eq, fill_mid _ _ _ 12 (4 * p.csrc.length) (head12_len p) (bes_length _) (by omega)]
theorem headB_eq (p : Pkt) : headB p = (head12 p ++ bes p.csrc) ++ extB p := by simp [headB, head12]
theorem row3_eq (p : Pkt) (N : Nat) (h : (headB p).length ≤ N) : row3 p N = headB p ++ List.replicate (N - (headB p).length) 0 := by
  have hl := headB_length p
  have hx := extB_length p
  rw [headB_eq, row3]
  have hA : (head12 p ++ bes p.csrc).length = 12 + 4 * p.csrc.length := by rw [List.length_append, head12_len, bes_length]
  cases he : p.he
  · rw [he, if_neg (by decide)] at hx
    rw [if_neg (by decide), row2_eq p N (by omega), extB, he, if_neg (by decide), List.append_nil, hA]
    congr 2; omega
  · rw [he, if_pos rfl] at hx
    rw [if_pos rfl, row2_eq p N (by omega), fill_num _ _ _ 2 p.prof hA (by omega), fill_num _ _ _ 2 _ (by rw [List.length_append, hA, be_length]) (by omega), fill_row _ _ _ _ (by rw [List.length_append, List.length_append, hA, be_length, be_length]) (by omega)]
    rw [extB, he, if_pos rfl]
    simp only [List.append_assoc]
    simp only [List.length_append, head12_len, bes_length, be_length]
    congr 6; omega
theorem atP_eq (p : Pkt) : atP p = (headB p).length := by
  have hl := headB_length p
  have hx := extB_length p
  unfold atP
  cases he : p.he
  · rw [he, if_neg (by decide)] at hx
    rw [if_neg (by decide)]; omega
  · rw [he, if_pos rfl] at hx
    rw [if_pos rfl]; omega
theorem row5_eq (p : Pkt) (N : Nat) (hm : p.May) (h : (N : Int) = lenP p) : row5 p N = enc p := by
  have hN : N = (enc p).length := by have := lenP_eq p hm; omega
  have hel := enc_length p hm
  have h0 := hm.pad0
  rw [row5, row3_eq p N (by omega), atP_eq, fill_row _ _ _ _ rfl (by omega), enc, padB]
  by_cases hp : 0 < p.pad
  · rw [if_pos hp, if_pos hp, set_last _ _ _ (by omega) N (by rw [List.length_append]; omega)]
    rw [List.append_assoc]
    congr 4; omega
  · rw [if_neg hp, if_neg hp, show N - (headB p).length - p.pay.length = 0 from by omega]; simp
theorem row_lens (p : Pkt) (N : Nat) (hm : p.May) (h : (N : Int) = lenP p) : (row1 p N).length = N ∧ (row2 p N).length = N ∧ (row3 p N).length = N ∧ atP p + p.pay.length ≤ N ∧ 12 + 4 * p.csrc.length ≤ N ∧ (p.he = true → 12 + 4 * p.csrc.length + 4 + p.ext.length ≤ N) := by
  have hN : N = (enc p).length := by have := lenP_eq p hm; omega
  have hel := enc_length p hm
  have h0 := hm.pad0
  have hl := headB_length p
  have hx := extB_length p
  refine ⟨?_, ?_, ?_, by rw [atP_eq]; omega, by omega, fun he => by rw [he, if_pos rfl] at hx; omega⟩
  · rw [row1_eq]; simp [head12_len]; omega
  · rw [row2_eq _ _ (by omega)]; simp [head12_len, bes_length]; omega
  · rw [row3_eq _ _ (by omega)]; simp; omega
theorem enc_bytes (p : Pkt) (ho : p.Ok) (hm : p.May) : Bytes (enc p) := by
  have hf := first_bd hm
  have hs := second_bd hm
  have h1 : Bytes [first p, second p] := by
    intro x hx
    simp only [List.mem_cons, List.not_mem_nil, or_false] at hx
    omega
  have hb : ∀ l, Bytes (bes l) := by
    intro l
    induction l with
    | nil => exact Bytes.nil
    | cons x l ih => exact (be_bytes _ _).append ih
  have hx : Bytes (extB p) := by
    unfold extB
    split
    · exact (be_bytes _ _).append ((be_bytes _ _).append ho.ext)
    · exact Bytes.nil
  have hp : Bytes (padB p.pad) := by
    unfold padB
    split
    · refine Bytes.append ?_ ?_
      · intro x hx
        have := (List.mem_replicate.1 hx).2
        omega
      · intro x hx
        simp only [List.mem_singleton] at hx
        have := hm.pad0
        have := hm.pad1
        omega
    · exact Bytes.nil
  exact (h1.append ((be_bytes _ _).append ((be_bytes _ _).append ((be_bytes _ _).append ((hb _).append hx))))).append (ho.pay.append hp)
end Go.Proofs.Ytiamdaeodkiccaa
