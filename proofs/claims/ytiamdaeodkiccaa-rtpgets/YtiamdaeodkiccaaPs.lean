/- Plain mathematics: beginnings of a packet's bytes; padding that is not as it should be; whether a packet may be, as a Bool. -/
import Derived.Test.YtiamdaeodkiccaaPr
namespace Go.Proofs.Ytiamdaeodkiccaa
set_option linter.unusedVariables false

def mayPB (p : Pkt) : Bool :=
  decide (0 ≤ p.ty) && decide (p.ty ≤ 127) && !(p.mrk && decide (64 ≤ p.ty) && decide (p.ty ≤ 95)) && decide (p.csrc.length ≤ 15) && decide (p.ext.length % 4 = 0)
    && (p.he || decide (p.ext.length = 0) && decide (p.prof = 0)) && decide (0 ≤ p.pad) && decide (p.pad ≤ 255)
theorem mayPB_iff (p : Pkt) : mayPB p = true ↔ p.May := by
  unfold mayPB
  constructor
  · intro h
    simp only [Bool.and_eq_true, Bool.or_eq_true, Bool.not_eq_true', decide_eq_true_eq, Bool.and_eq_false_iff, decide_eq_false_iff_not] at h
    obtain ⟨⟨⟨⟨⟨⟨⟨h1, h2⟩, h3⟩, h4⟩, h5⟩, h6⟩, h7⟩, h8⟩ := h
    refine ⟨h1, h2, ?_, h4, h5, ?_, h7, h8⟩
    · rintro hm ⟨a, b⟩
      rcases h3 with (h3 | h3) | h3
      · rw [hm] at h3; cases h3
      · exact h3 a
      · exact h3 b
    · intro hf
      rcases h6 with h6 | h6
      · rw [hf] at h6; cases h6
      · exact ⟨List.eq_nil_of_length_eq_zero h6.1, h6.2⟩
  · rintro ⟨h1, h2, h3, h4, h5, h6, h7, h8⟩
    simp only [Bool.and_eq_true, Bool.or_eq_true, Bool.not_eq_true', decide_eq_true_eq, Bool.and_eq_false_iff, decide_eq_false_iff_not]
    refine ⟨⟨⟨⟨⟨⟨⟨h1, h2⟩, ?_⟩, h4⟩, h5⟩, ?_⟩, h7⟩, h8⟩
    · cases hm : p.mrk
      · exact .inl (.inl rfl)
      · have := h3 hm
        by_cases q : 64 ≤ p.ty
        · exact .inr (by omega)
        · exact .inl (.inr q)
    · cases hf : p.he
      · obtain ⟨a, b⟩ := h6 hf
        exact .inr ⟨by rw [a]; rfl, b⟩
      · exact .inl rfl

/-- How many bytes a packet has. -/
def lenP (p : Pkt) : Int := 12 + 4 * p.csrc.length + (if p.he then 4 + p.ext.length else 0) + p.pay.length + p.pad
def sizeP (p : Pkt) : Int := if mayPB p then lenP p else 0
/-- What Put finds wrong. -/
def putE (p : Pkt) : Int := if mayPB p then (if 512 < lenP p then 5 else 0) else 1
def putB (p : Pkt) : List Int := if mayPB p then (if 512 < lenP p then [] else enc p) else []
theorem lenP_eq (p : Pkt) (hm : p.May) : ((enc p).length : Int) = lenP p := by
  have h1 := enc_length p hm
  have h2 := headB_length p
  have h3 := extB_length p
  unfold lenP
  cases hx : p.he <;> rw [hx] at h3 <;> simp only [Bool.false_eq_true, if_false, if_true] at h3 ⊢ <;> omega
theorem putE_ok {p : Pkt} (h : putE p = 0) : p.May ∧ (enc p).length ≤ 512 ∧ putB p = enc p ∧ ((enc p).length : Int) = sizeP p := by
  unfold putE at h
  split at h
  · rename_i hm
    split at h
    · cases h
    · rename_i hl
      have hmay := (mayPB_iff p).1 hm
      have := lenP_eq p hmay
      exact ⟨hmay, by omega, by rw [putB, if_pos hm, if_neg hl], by rw [sizeP, if_pos hm, this]⟩
  · cases h

theorem nb_take (b : List Int) (n i k : Nat) (h : i + k ≤ n) : nb (b.take n) i k = nb b i k := by
  unfold nb
  rw [List.drop_take, List.take_take, Nat.min_eq_left (by omega)]
theorem getD_take (b : List Int) (n i : Nat) (h : i < n) : (b.take n).getD i 0 = b.getD i 0 := by
  rw [List.getD_eq_getElem?_getD, List.getD_eq_getElem?_getD, List.getElem?_take, if_pos h]

/-- A beginning that has the head is the packet with less payload. -/
theorem cut_in (p : Pkt) (n : Nat) (hp : p.pad = 0) (h : (headB p).length ≤ n) : (enc p).take n = enc { p with pay := p.pay.take (n - (headB p).length) } := by
  unfold enc
  have e : headB { p with pay := p.pay.take (n - (headB p).length) } = headB p := rfl
  rw [e, List.take_append, List.take_of_length_le h]
  simp [hp, padB]
/-- A shorter one is too short. -/
theorem cut_short (p : Pkt) (n : Nat) (ho : p.Ok) (hm : p.May) (hl : (enc p).length ≤ 512) (h : n < (headB p).length) : pE ((enc p).take n) = 2 := by
  have hlen := enc_length p hm
  have hh := headB_length p
  have hx := extB_length p
  have hp0 := hm.pad0
  have hel : p.ext.length ≤ 262143 := by
    cases hb : p.he
    · rw [(hm.he hb).1]; simp
    · rw [hb, if_pos rfl] at hx; omega
  have hln : ((enc p).take n).length = n := by rw [List.length_take]; omega
  rw [pE, hln, if_neg (by omega)]
  by_cases h12 : n < 12
  · rw [if_pos h12]
  · rw [if_neg h12]
    have g0 : ((enc p).take n).getD 0 0 = first p := (getD_take _ _ _ (by omega)).trans rfl
    have g1 : ((enc p).take n).getD 1 0 = second p := (getD_take _ _ _ (by omega)).trans rfl
    obtain ⟨f1, f2⟩ := first_bd hm
    obtain ⟨s1, s2, s3⟩ := second_bd hm
    have a0 : ccN ((enc p).take n) = p.csrc.length := by rw [ccN, g0, ← hd0 p (p.pay ++ padB p.pad)]; exact hd_cc hm _
    have a1 : at1 ((enc p).take n) = 12 + 4 * p.csrc.length := by rw [at1, a0]
    have a2 : hasX ((enc p).take n) = p.he := by rw [hasX, g0, ← hd0 p (p.pay ++ padB p.pad)]; exact hd_X hm _
    rw [g0, if_neg (by omega), g1, if_neg s3, a1, a2]
    by_cases h1 : n < 12 + 4 * p.csrc.length
    · rw [if_pos h1]
    · rw [if_neg h1]
      cases hb : p.he
      · rw [hb, if_neg (by decide)] at hx; omega
      · rw [hb, if_pos rfl] at hx
        by_cases h2 : n < 12 + 4 * p.csrc.length + 4
        · rw [if_pos ⟨rfl, h2⟩]
        · rw [if_neg (fun q => h2 q.2), if_pos]
          rw [at2, a2, hb, if_pos rfl, extN, a1, nb_take _ _ _ _ (by omega)]
          have := hd_extn p (p.pay ++ padB p.pad) hb hel
          have hmod := hm.ext
          rw [show enc p = headB p ++ (p.pay ++ padB p.pad) from rfl, this]
          omega

/-- One byte of the padding that is not as it should be. -/
theorem pad_bad (p : Pkt) (j : Nat) (ho : p.Ok) (hm : p.May) (hl : (enc p).length ≤ 512) (hj : (j : Int) < p.pad - 1) : pE ((enc p).set ((enc p).length - p.pad.toNat + j) 1) = 1 := by
  have hlen := enc_length p hm
  have hh := headB_length p
  have hx := extB_length p
  have hpos : 0 < p.pad := by omega
  have hel : p.ext.length ≤ 262143 := by
    cases hb : p.he
    · rw [(hm.he hb).1]; simp
    · rw [hb, if_pos rfl] at hx; omega
  obtain ⟨t, ht⟩ : ∃ t, t = p.pay ++ ((List.replicate (p.pad.toNat - 1) 0).set j 1 ++ [p.pad]) := ⟨_, rfl⟩
  have e : (enc p).set ((enc p).length - p.pad.toNat + j) 1 = headB p ++ t := by
    rw [show (enc p).length - p.pad.toNat + j = (headB p).length + (p.pay.length + j) from by omega, ht]
    unfold enc padB
    rw [if_pos hpos, List.set_append_right _ _ (by omega), Nat.add_sub_cancel_left, List.set_append_right _ _ (by omega), Nat.add_sub_cancel_left, List.set_append_left _ _ (by simp; omega)]
  rw [e]
  have htl : ((headB p ++ t).length : Int) = (headB p).length + p.pay.length + p.pad := by rw [ht]; simp; omega
  have hlast : lastB (headB p ++ t) = p.pad := by
    rw [ht]; unfold lastB
    rw [← List.append_assoc, ← List.append_assoc]
    exact getD_last _ _
  have hz : padZ (headB p ++ t) = false := by
    unfold padZ
    rw [hlast, show (headB p ++ t).length - p.pad.toNat = (headB p ++ p.pay).length from by rw [List.length_append (as := headB p) (bs := p.pay)]; omega, ht, ← List.append_assoc,
      List.drop_append_of_le_length (Nat.le_refl _), List.drop_length, List.nil_append, List.take_append_of_le_length (by simp), List.take_of_length_le (by simp)]
    rw [List.all_eq_false]
    exact ⟨1, List.mem_of_getElem? (i := j) (by rw [List.getElem?_set]; simp; omega), by decide⟩
  obtain ⟨f1, f2⟩ := first_bd hm
  obtain ⟨s1, s2, s3⟩ := second_bd hm
  have hbad : badPad (headB p ++ t) = true := by rw [badPad, hd_P hm, decide_eq_true hpos, hz]; simp
  rw [pE, if_neg (by omega), if_neg (by omega), hd0, if_neg (by omega), hd1, if_neg s3, hd_at1 hm, if_neg (by omega), hd_X hm, if_neg, hd_at2 hm hel, if_neg (by omega), hbad, if_pos rfl]
  rintro ⟨h1, h2⟩
  rw [h1, if_pos rfl] at hx
  omega
end Go.Proofs.Ytiamdaeodkiccaa
