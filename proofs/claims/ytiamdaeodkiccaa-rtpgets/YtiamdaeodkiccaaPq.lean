/- Plain mathematics: a packet's bytes are read as it was. -/
import Derived.Test.YtiamdaeodkiccaaPp
namespace Go.Proofs.Ytiamdaeodkiccaa
set_option linter.unusedVariables false

theorem hd_extn (p : Pkt) (t : List Int) (hx : p.he = true) (hl : p.ext.length ≤ 262143) : nb (headB p ++ t) (12 + 4 * p.csrc.length + 2) 2 = ((p.ext.length / 4 : Nat) : Int) :=
  nb_at _ ([first p, second p] ++ (be 2 p.seq ++ (be 4 p.time ++ (be 4 p.ssrc ++ (bes p.csrc ++ be 2 p.prof))))) (p.ext ++ t) _ 2 _ (by simp [headB, extB, hx]) (by simp [be_length, bes_length]; omega) (by omega) (by omega)
theorem hd_ext (p : Pkt) (t : List Int) (hx : p.he = true) : ((headB p ++ t).drop (12 + 4 * p.csrc.length + 4)).take p.ext.length = p.ext := by
  have e : headB p ++ t = ([first p, second p] ++ (be 2 p.seq ++ (be 4 p.time ++ (be 4 p.ssrc ++ (bes p.csrc ++ (be 2 p.prof ++ be 2 ((p.ext.length / 4 : Nat) : Int))))))) ++ (p.ext ++ t) := by simp [headB, extB, hx]
  rw [e, List.drop_append_of_le_length (by simp [be_length, bes_length]; omega), List.drop_of_length_le (by simp [be_length, bes_length]; omega), List.nil_append, List.take_append_of_le_length (Nat.le_refl _), List.take_of_length_le (Nat.le_refl _)]
theorem getD_last (l : List Int) (x : Int) : (l ++ [x]).getD ((l ++ [x]).length - 1) 0 = x := by simp [List.getD_eq_getElem?_getD]

section
variable {p : Pkt} (ho : p.Ok) (hm : p.May) (t : List Int)
include ho
theorem hd_seq : nb (headB p ++ t) 2 2 = p.seq :=
  nb_at _ [first p, second p] (be 4 p.time ++ (be 4 p.ssrc ++ (bes p.csrc ++ (extB p ++ t)))) 2 2 p.seq (by simp [headB]) rfl ho.seq0 (by have := ho.seq1; omega)
theorem hd_time : nb (headB p ++ t) 4 4 = p.time :=
  nb_at _ ([first p, second p] ++ be 2 p.seq) (be 4 p.ssrc ++ (bes p.csrc ++ (extB p ++ t))) 4 4 p.time (by simp [headB]) (by simp [be_length]) ho.time0 (by have := ho.time1; omega)
theorem hd_ssrc : nb (headB p ++ t) 8 4 = p.ssrc :=
  nb_at _ ([first p, second p] ++ (be 2 p.seq ++ be 4 p.time)) (bes p.csrc ++ (extB p ++ t)) 8 4 p.ssrc (by simp [headB]) (by simp [be_length]) ho.ssrc0 (by have := ho.ssrc1; omega)
theorem hd_csrc : wordsAt (headB p ++ t) 12 p.csrc.length = p.csrc := by
  have h := wordsAt_mid p.csrc ([first p, second p] ++ (be 2 p.seq ++ (be 4 p.time ++ be 4 p.ssrc))) (extB p ++ t) ho.csrc
  rw [show ([first p, second p] ++ (be 2 p.seq ++ (be 4 p.time ++ be 4 p.ssrc))).length = 12 from by simp [be_length]] at h
  rw [show headB p ++ t = [first p, second p] ++ (be 2 p.seq ++ (be 4 p.time ++ be 4 p.ssrc)) ++ (bes p.csrc ++ (extB p ++ t)) from by simp [headB]]
  exact h
theorem hd_prof (hx : p.he = true) : nb (headB p ++ t) (12 + 4 * p.csrc.length) 2 = p.prof :=
  nb_at _ ([first p, second p] ++ (be 2 p.seq ++ (be 4 p.time ++ (be 4 p.ssrc ++ bes p.csrc)))) (be 2 ((p.ext.length / 4 : Nat) : Int) ++ (p.ext ++ t)) _ 2 p.prof (by simp [headB, extB, hx]) (by simp [be_length, bes_length]; omega) ho.prof0 (by have := ho.prof1; omega)
end

section
variable {p : Pkt} (hm : p.May)
include hm
theorem hd_extN (hx : p.he = true) (hl : p.ext.length ≤ 262143) (t : List Int) : extN (headB p ++ t) = p.ext.length := by
  have := hm.ext
  rw [extN, hd_at1 hm, hd_extn p t hx hl]; omega
theorem hd_at2 (hl : p.ext.length ≤ 262143) (t : List Int) : at2 (headB p ++ t) = (headB p).length := by
  rw [at2, hd_X hm, hd_at1 hm, headB_length, extB_length]
  cases hx : p.he
  · simp
  · rw [hd_extN hm hx hl]; simp; omega
end

theorem enc_length (p : Pkt) (hm : p.May) : ((enc p).length : Int) = (headB p).length + p.pay.length + p.pad := by
  unfold enc
  have := padB_length p.pad hm.pad0
  simp only [List.length_append]; omega
theorem enc_last (p : Pkt) (h : 0 < p.pad) : lastB (enc p) = p.pad := by
  unfold lastB enc padB
  rw [if_pos h, ← List.append_assoc, ← List.append_assoc]
  exact getD_last _ _
theorem enc_padZ (p : Pkt) (h : 0 < p.pad) : padZ (enc p) = true := by
  have hl := enc_last p h
  unfold padZ
  rw [hl]
  have e : enc p = (headB p ++ p.pay) ++ (List.replicate (p.pad.toNat - 1) 0 ++ [p.pad]) := by rw [enc, padB, if_pos h, List.append_assoc]
  have hlen : (enc p).length - p.pad.toNat = (headB p ++ p.pay).length := by rw [e]; simp; omega
  rw [hlen, e, List.drop_append_of_le_length (Nat.le_refl _), List.drop_length, List.nil_append, List.take_append_of_le_length (by simp), List.take_of_length_le (by simp)]
  simp

/-- What is put is read as it was. -/
theorem enc_get (p : Pkt) (ho : p.Ok) (hm : p.May) (hl : (enc p).length ≤ 512) : pE (enc p) = 0 ∧ pQ (enc p) = p ∧ at2 (enc p) = (headB p).length ∧ (enc p).length - padN (enc p) = (headB p).length + p.pay.length := by
  have hlen := enc_length p hm
  have hh := headB_length p
  have hx := extB_length p
  have hel : p.ext.length ≤ 262143 := by
    cases hb : p.he
    · rw [(hm.he hb).1]; simp
    · rw [hb, if_pos rfl] at hx; have := hm.pad0; omega
  have hp0 := hm.pad0
  have hp1 := hm.pad1
  have hc := hm.csrc
  have a0 : (enc p).getD 0 0 = first p := rfl
  have a1 : (enc p).getD 1 0 = second p := rfl
  have a2 : at2 (enc p) = (headB p).length := hd_at2 hm hel _
  have a3 : at1 (enc p) = 12 + 4 * p.csrc.length := hd_at1 hm _
  have a4 : hasX (enc p) = p.he := hd_X hm _
  have a5 : hasP (enc p) = decide (0 < p.pad) := hd_P hm _
  have a6 : (padN (enc p) : Int) = p.pad := by
    rw [padN, a5]
    by_cases h : 0 < p.pad
    · rw [decide_eq_true h, if_pos rfl, enc_last p h]; omega
    · rw [decide_eq_false h, if_neg (by decide)]; omega
  have hbp : badPad (enc p) = false := by
    rw [badPad, a5]
    by_cases h : 0 < p.pad
    · rw [decide_eq_true h, a2, enc_last p h, enc_padZ p h, decide_eq_false (by omega), decide_eq_false (by omega), decide_eq_false (by omega)]; rfl
    · rw [decide_eq_false h]; rfl
  obtain ⟨f1, f2⟩ := first_bd hm
  obtain ⟨s1, s2, s3⟩ := second_bd hm
  refine ⟨?_, ?_, a2, by omega⟩
  · rw [pE, if_neg (by omega), if_neg (by omega), a0, if_neg (by omega), a1, if_neg s3, a3, if_neg (by omega), if_neg, a2, if_neg (by omega), hbp, if_neg (by decide)]
    rw [a4]
    rintro ⟨h1, h2⟩
    rw [h1, if_pos rfl] at hx
    omega
  · have b3 : (enc p).drop (headB p).length = p.pay ++ padB p.pad := by unfold enc; rw [List.drop_append_of_le_length (Nat.le_refl _), List.drop_length, List.nil_append]
    have b4 : (enc p).length - padN (enc p) - (headB p).length = p.pay.length := by omega
    rw [pQ, a1, a3, a4, a2, b3, b4, a6, List.take_append_of_le_length (Nat.le_refl _), List.take_of_length_le (Nat.le_refl _),
      show ccN (enc p) = p.csrc.length from hd_cc hm _, show nb (enc p) 2 2 = p.seq from hd_seq ho _, show nb (enc p) 4 4 = p.time from hd_time ho _, show nb (enc p) 8 4 = p.ssrc from hd_ssrc ho _,
      show wordsAt (enc p) 12 p.csrc.length = p.csrc from hd_csrc ho _]
    have c1 : decide (128 ≤ second p) = p.mrk := by
      have := hm.ty0
      have := hm.ty1
      unfold second
      cases p.mrk <;> simp <;> omega
    have c2 : second p % 128 = p.ty := by
      have := hm.ty0
      have := hm.ty1
      unfold second
      cases p.mrk <;> simp <;> omega
    rw [c1, c2]
    cases hb : p.he
    · obtain ⟨d1, d2⟩ := hm.he hb
      simp only [Bool.false_eq_true, if_false]
      cases p; simp_all
    · simp only [if_true]
      rw [show nb (enc p) (12 + 4 * p.csrc.length) 2 = p.prof from hd_prof ho _ hb, show extN (enc p) = p.ext.length from hd_extN hm hb hel _, show ((enc p).drop (12 + 4 * p.csrc.length + 4)).take p.ext.length = p.ext from hd_ext p _ hb]
      cases p; simp_all
end Go.Proofs.Ytiamdaeodkiccaa
