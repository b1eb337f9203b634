/- Plain mathematics: a packet's bytes, laid part by part into a row of zeros. · Plain mathematics: fields of a packet's bytes, written where they stand. -/
import Derived.Test.YtdnnfoacpjgloaaPure
import Derived.Test.YtdnnfoacpjgloaaXr
set_option maxRecDepth 100000
namespace Go.Proofs.Ytdnnfoacpjgloaa
open Go.RowKit
set_option linter.unusedVariables false

/-- A number put behind what is there already. -/
theorem fill_num (A : List Int) (k i s : Nat) (x : Int) (hi : A.length = i) (hs : s ≤ k) : written (A ++ List.replicate k 0) i s 0 x = (A ++ be s x) ++ List.replicate (k - s) 0 := by
  subst hi
  unfold written
  rw [Nat.add_zero, Nat.sub_zero, List.take_append_of_le_length (Nat.le_refl _), List.take_of_length_le (Nat.le_refl _), List.drop_append, List.drop_of_length_le (by omega), List.nil_append, Nat.add_sub_cancel_left, List.drop_replicate]
/-- Bytes copied behind what is there already. -/
theorem fill_row (A xs : List Int) (k i : Nat) (hi : A.length = i) (hs : xs.length ≤ k) : splice (A ++ List.replicate k 0) i xs = (A ++ xs) ++ List.replicate (k - xs.length) 0 := by
  subst hi
  unfold splice
  rw [List.take_append_of_le_length (Nat.le_refl _), List.take_of_length_le (Nat.le_refl _), List.drop_append, List.drop_of_length_le (by omega), List.nil_append, Nat.add_sub_cancel_left, List.drop_replicate, List.append_assoc]
theorem fill_mid (A B : List Int) (k i n : Nat) (hi : A.length = i) (hn : B.length = n) (hs : n ≤ k) : (A ++ List.replicate k 0).take i ++ B ++ (A ++ List.replicate k 0).drop (i + n) = (A ++ B) ++ List.replicate (k - n) 0 := by
  subst hi
  rw [List.take_append_of_le_length (Nat.le_refl _), List.take_of_length_le (Nat.le_refl _), List.drop_append, List.drop_of_length_le (by omega), List.nil_append, Nat.add_sub_cancel_left, List.drop_replicate]
theorem set_last (A : List Int) (k : Nat) (x : Int) (hk : 0 < k) (N : Nat) (hN : A.length + k = N) : (A ++ List.replicate k 0).set (N - 1) x = A ++ (List.replicate (k - 1) 0 ++ [x]) := by
  obtain ⟨m, rfl⟩ : ∃ m, k = m + 1 := ⟨k - 1, by omega⟩
  rw [List.replicate_succ', ← List.append_assoc, List.set_append_right _ _ (by simp; omega)]
  simp
  rw [show N - 1 - (A.length + m) = 0 from by omega]; rfl

/-- Head, Csrc, extension, payload and padding, one behind the other: the rows that Put's steps leave. -/
def row1 (p : Pkt) (N : Nat) : List Int := [first p, second p] ++ (be 2 p.seq ++ (be 4 p.time ++ (be 4 p.ssrc ++ (List.replicate N 0).drop 12)))
def row2 (p : Pkt) (N : Nat) : List Int := (row1 p N).take 12 ++ bes p.csrc ++ (row1 p N).drop (12 + 4 * p.csrc.length)
def row3 (p : Pkt) (N : Nat) : List Int :=
  if p.he then splice (written (written (row2 p N) (12 + 4 * p.csrc.length) 2 0 p.prof) (12 + 4 * p.csrc.length + 2) 2 0 ((p.ext.length / 4 : Nat) : Int)) (12 + 4 * p.csrc.length + 4) p.ext else row2 p N
def atP (p : Pkt) : Nat := if p.he then 12 + 4 * p.csrc.length + 4 + p.ext.length else 12 + 4 * p.csrc.length
def row5 (p : Pkt) (N : Nat) : List Int := if 0 < p.pad then (splice (row3 p N) (atP p) p.pay).set (N - 1) p.pad else splice (row3 p N) (atP p) p.pay

def head12 (p : Pkt) : List Int := [first p, second p] ++ (be 2 p.seq ++ (be 4 p.time ++ be 4 p.ssrc))
theorem head12_len (p : Pkt) : (head12 p).length = 12 := by simp [head12, be_length]
theorem row1_eq (p : Pkt) (N : Nat) : row1 p N = head12 p ++ List.replicate (N - 12) 0 := by simp [row1, head12]
theorem row2_eq (p : Pkt) (N : Nat) (h : 12 + 4 * p.csrc.length ≤ N) : row2 p N = (head12 p ++ bes p.csrc) ++ List.replicate (N - 12 - 4 * p.csrc.length) 0 := by
  rw [row2, row1_eq, fill_mid _ _ _ 12 (4 * p.csrc.length) (head12_len p) (bes_length _) (by omega)]
theorem headB_eq (p : Pkt) : headB p = (head12 p ++ bes p.csrc) ++ extB p := by simp [headB, head12]
theorem row3_eq (p : Pkt) (N : Nat) (h : (headB p).length ≤ N) : row3 p N = headB p ++ List.replicate (N - (headB p).length) 0 := by
  have hl := headB_length p
  have hx := extB_length p
  rw [headB_eq, row3]
  have hA : (head12 p ++ bes p.csrc).length = 12 + 4 * p.csrc.length := by rw [List.length_append, head12_len, bes_length]
  cases he : p.he
  · rw [he, if_neg (by decide)] at hx
    rw [if_neg (by decide), row2_eq p N (by omega), extB, he, if_neg (by decide), List.append_nil, hA]
    congr 2; omega
  · rw [he, if_pos rfl] at hx
    rw [if_pos rfl, row2_eq p N (by omega), fill_num _ _ _ 2 p.prof hA (by omega), fill_num _ _ _ 2 _ (by rw [List.length_append, hA, be_length]) (by omega), fill_row _ _ _ _ (by rw [List.length_append, List.length_append, hA, be_length, be_length]) (by omega)]
    rw [extB, he, if_pos rfl]
    simp only [List.append_assoc]
    simp only [List.length_append, head12_len, bes_length, be_length]
    congr 6; omega
theorem atP_eq (p : Pkt) : atP p = (headB p).length := by
  have hl := headB_length p
  have hx := extB_length p
  unfold atP
  cases he : p.he
  · rw [he, if_neg (by decide)] at hx
    rw [if_neg (by decide)]; omega
  · rw [he, if_pos rfl] at hx
    rw [if_pos rfl]; omega
theorem row5_eq (p : Pkt) (N : Nat) (hm : p.May) (h : (N : Int) = lenP p) : row5 p N = enc p := by
  have hN : N = (enc p).length := by have := lenP_eq p hm; omega
  have hel := enc_length p hm
  have h0 := hm.pad0
  rw [row5, row3_eq p N (by omega), atP_eq, fill_row _ _ _ _ rfl (by omega), enc, padB]
  by_cases hp : 0 < p.pad
  · rw [if_pos hp, if_pos hp, set_last _ _ _ (by omega) N (by rw [List.length_append]; omega)]
    rw [List.append_assoc]
    congr 4; omega
  · rw [if_neg hp, if_neg hp, show N - (headB p).length - p.pay.length = 0 from by omega]; simp
theorem row_lens (p : Pkt) (N : Nat) (hm : p.May) (h : (N : Int) = lenP p) : (row1 p N).length = N ∧ (row2 p N).length = N ∧ (row3 p N).length = N ∧ atP p + p.pay.length ≤ N ∧ 12 + 4 * p.csrc.length ≤ N ∧ (p.he = true → 12 + 4 * p.csrc.length + 4 + p.ext.length ≤ N) := by
  have hN : N = (enc p).length := by have := lenP_eq p hm; omega
  have hel := enc_length p hm
  have h0 := hm.pad0
  have hl := headB_length p
  have hx := extB_length p
  refine ⟨?_, ?_, ?_, by rw [atP_eq]; omega, by omega, fun he => by rw [he, if_pos rfl] at hx; omega⟩
  · rw [row1_eq]; simp [head12_len]; omega
  · rw [row2_eq _ _ (by omega)]; simp [head12_len, bes_length]; omega
  · rw [row3_eq _ _ (by omega)]; simp; omega
theorem enc_bytes (p : Pkt) (ho : p.Ok) (hm : p.May) : Bytes (enc p) := by
  have hf := first_bd hm
  have hs := second_bd hm
  have h1 : Bytes [first p, second p] := by
    intro x hx
    simp only [List.mem_cons, List.not_mem_nil, or_false] at hx
    omega
  have hb : ∀ l, Bytes (bes l) := by
    intro l
    induction l with
    | nil => exact Bytes.nil
    | cons x l ih => exact (be_bytes _ _).append ih
  have hx : Bytes (extB p) := by
    unfold extB
    split
    · exact (be_bytes _ _).append ((be_bytes _ _).append ho.ext)
    · exact Bytes.nil
  have hp : Bytes (padB p.pad) := by
    unfold padB
    split
    · refine Bytes.append ?_ ?_
      · intro x hx
        have := (List.mem_replicate.1 hx).2
        omega
      · intro x hx
        simp only [List.mem_singleton] at hx
        have := hm.pad0
        have := hm.pad1
        omega
    · exact Bytes.nil
  exact (h1.append ((be_bytes _ _).append ((be_bytes _ _).append ((be_bytes _ _).append ((hb _).append hx))))).append (ho.pay.append hp)
end Go.Proofs.Ytdnnfoacpjgloaa

namespace Go.Proofs.Ytdnnfoacpjgloaa
open Go.RowKit
set_option linter.unusedVariables false

/-- A number written over the one that stands there. -/
theorem written_mid (l r : List Int) (k : Nat) (x y : Int) : written (l ++ (be k x ++ r)) l.length k 0 y = l ++ (be k y ++ r) := by
  unfold written
  rw [Nat.add_zero, Nat.sub_zero, List.take_append_of_le_length (Nat.le_refl _), List.take_of_length_le (Nat.le_refl _), List.drop_append, List.drop_of_length_le (by omega), List.nil_append, Nat.add_sub_cancel_left, List.drop_append, List.drop_of_length_le (by rw [be_length]; omega), List.nil_append, be_length, Nat.sub_self, List.drop_zero, List.append_assoc]
theorem written_at (b l r : List Int) (i k : Nat) (x y : Int) (hb : b = l ++ (be k x ++ r)) (hi : l.length = i) : written b i k 0 y = l ++ (be k y ++ r) := by
  subst hb; subst hi; exact written_mid l r k x y
theorem enc_seq (p : Pkt) (y : Int) : written (enc p) 2 2 0 y = enc { p with seq := y } := by
  rw [written_at (enc p) [first p, second p] (be 4 p.time ++ (be 4 p.ssrc ++ (bes p.csrc ++ (extB p ++ (p.pay ++ padB p.pad))))) 2 2 p.seq y (by simp [enc, headB]) rfl]
  simp [enc, headB, first, second, extB]
theorem enc_time (p : Pkt) (y : Int) : written (enc p) 4 4 0 y = enc { p with time := y } := by
  rw [written_at (enc p) ([first p, second p] ++ be 2 p.seq) (be 4 p.ssrc ++ (bes p.csrc ++ (extB p ++ (p.pay ++ padB p.pad)))) 4 4 p.time y (by simp [enc, headB]) (by simp [be_length])]
  simp [enc, headB, first, second, extB]
theorem enc_ssrc (p : Pkt) (y : Int) : written (enc p) 8 4 0 y = enc { p with ssrc := y } := by
  rw [written_at (enc p) ([first p, second p] ++ (be 2 p.seq ++ be 4 p.time)) (bes p.csrc ++ (extB p ++ (p.pay ++ padB p.pad))) 8 4 p.ssrc y (by simp [enc, headB]) (by simp [be_length])]
  simp [enc, headB, first, second, extB]
/-- A byte of the payload. -/
theorem enc_set (p : Pkt) (i : Nat) (x : Int) (h : i < p.pay.length) : (enc p).set ((headB p).length + i) x = enc { p with pay := p.pay.set i x } := by
  have e : headB { p with pay := p.pay.set i x } = headB p := rfl
  unfold enc
  rw [e, List.set_append_right _ _ (by omega), Nat.add_sub_cancel_left, List.set_append_left _ _ h]
/-- A number within the payload. -/
theorem enc_written (p : Pkt) (i k : Nat) (y : Int) (h : i + k ≤ p.pay.length) : written (enc p) ((headB p).length + i) k 0 y = enc { p with pay := written p.pay i k 0 y } := by
  have e : headB { p with pay := written p.pay i k 0 y } = headB p := rfl
  unfold enc
  rw [e]
  generalize headB p = H
  unfold written
  rw [Nat.add_zero, Nat.add_zero, Nat.sub_zero, List.take_append, List.take_of_length_le (by omega), Nat.add_sub_cancel_left, List.take_append_of_le_length (by omega), Nat.add_assoc, List.drop_append, List.drop_of_length_le (by omega), List.nil_append, Nat.add_sub_cancel_left, List.drop_append_of_le_length h]
  simp only [List.append_assoc]
theorem Ok_seq {p : Pkt} (h : p.Ok) {y : Int} (h0 : 0 ≤ y) (h1 : y ≤ 65535) : Pkt.Ok { p with seq := y } := ⟨h0, h1, h.time0, h.time1, h.ssrc0, h.ssrc1, h.csrc, h.prof0, h.prof1, h.ext, h.pay⟩
theorem Ok_time {p : Pkt} (h : p.Ok) {y : Int} (h0 : 0 ≤ y) (h1 : y ≤ 4294967295) : Pkt.Ok { p with time := y } := ⟨h.seq0, h.seq1, h0, h1, h.ssrc0, h.ssrc1, h.csrc, h.prof0, h.prof1, h.ext, h.pay⟩
theorem Ok_ssrc {p : Pkt} (h : p.Ok) {y : Int} (h0 : 0 ≤ y) (h1 : y ≤ 4294967295) : Pkt.Ok { p with ssrc := y } := ⟨h.seq0, h.seq1, h.time0, h.time1, h0, h1, h.csrc, h.prof0, h.prof1, h.ext, h.pay⟩
theorem Ok_payl {p : Pkt} (h : p.Ok) {l : List Int} (hl : Bytes l) : Pkt.Ok { p with pay := l } := ⟨h.seq0, h.seq1, h.time0, h.time1, h.ssrc0, h.ssrc1, h.csrc, h.prof0, h.prof1, h.ext, hl⟩
theorem May_seq {p : Pkt} (h : p.May) (y : Int) : Pkt.May { p with seq := y } := ⟨h.ty0, h.ty1, h.mrk, h.csrc, h.ext, h.he, h.pad0, h.pad1⟩
theorem May_time {p : Pkt} (h : p.May) (y : Int) : Pkt.May { p with time := y } := ⟨h.ty0, h.ty1, h.mrk, h.csrc, h.ext, h.he, h.pad0, h.pad1⟩
theorem May_ssrc {p : Pkt} (h : p.May) (y : Int) : Pkt.May { p with ssrc := y } := ⟨h.ty0, h.ty1, h.mrk, h.csrc, h.ext, h.he, h.pad0, h.pad1⟩
theorem May_payl {p : Pkt} (h : p.May) (l : List Int) : Pkt.May { p with pay := l } := ⟨h.ty0, h.ty1, h.mrk, h.csrc, h.ext, h.he, h.pad0, h.pad1⟩
end Go.Proofs.Ytdnnfoacpjgloaa
