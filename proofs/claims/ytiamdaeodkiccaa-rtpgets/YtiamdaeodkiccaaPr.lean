/- Plain mathematics: bytes that are read as a packet are its bytes; beginnings; padding that is not as it should be. -/
import Derived.Test.YtiamdaeodkiccaaPq
namespace Go.Proofs.Ytiamdaeodkiccaa
set_option linter.unusedVariables false

theorem seg (b : List Int) (i k : Nat) : (b.drop i).take k ++ b.drop (i + k) = b.drop i := by
  rw [← List.drop_drop, List.take_append_drop]
theorem be_nb (b : List Int) (hb : Bytes b) (i k : Nat) (h : i + k ≤ b.length) : be k (nb b i k) = (b.drop i).take k := by
  have hl : ((b.drop i).take k).length = k := by rw [List.length_take, List.length_drop]; omega
  have := be_num ((b.drop i).take k) ((hb.drop i).take k)
  rw [hl] at this
  exact this
theorem pow_mono (a : Nat) : ∀ d : Nat, (256 : Int) ^ a ≤ 256 ^ (a + d)
  | 0 => Int.le_refl _
  | d + 1 => by
    have h := pow_mono a d
    have h2 := pow_pos (a + d)
    rw [show a + (d + 1) = a + d + 1 from rfl, pow_succ]
    omega
theorem nb_bd (b : List Int) (hb : Bytes b) (i k : Nat) : 0 ≤ nb b i k ∧ nb b i k < 256 ^ k := by
  have h := num_bd ((b.drop i).take k) ((hb.drop i).take k)
  refine ⟨h.1, Int.lt_of_lt_of_le h.2 ?_⟩
  have hl : ((b.drop i).take k).length ≤ k := by rw [List.length_take]; omega
  obtain ⟨d, hd⟩ := Nat.exists_eq_add_of_le hl
  have hm := pow_mono ((b.drop i).take k).length d
  rw [← hd] at hm
  exact hm
theorem bes_wordsAt (b : List Int) (hb : Bytes b) : ∀ (n i : Nat), i + 4 * n ≤ b.length → bes (wordsAt b i n) = (b.drop i).take (4 * n)
  | 0, i, _ => by simp [wordsAt, bes]
  | n + 1, i, h => by
    rw [wordsAt, bes, be_nb b hb i 4 (by omega), bes_wordsAt b hb n (i + 4) (by omega), show 4 * (n + 1) = 4 + 4 * n from by omega, List.take_add, List.drop_drop]
theorem wordsAt_length (b : List Int) : ∀ (n i : Nat), (wordsAt b i n).length = n
  | 0, _ => rfl
  | n + 1, i => by rw [wordsAt, List.length_cons, wordsAt_length b n]
theorem wordsAt_words (b : List Int) (hb : Bytes b) : ∀ (n i : Nat), Words (wordsAt b i n)
  | 0, _ => by intro x hx; cases hx
  | n + 1, i => by
    intro x hx
    rw [wordsAt, List.mem_cons] at hx
    rcases hx with rfl | hx
    · have := nb_bd b hb i 4; omega
    · exact wordsAt_words b hb n _ x hx
theorem two_hd (b : List Int) (h : 2 ≤ b.length) : [b.getD 0 0, b.getD 1 0] ++ b.drop 2 = b := by
  match b, h with
  | x :: y :: l, _ => rfl
theorem take_two (b : List Int) (n : Nat) (h : 2 ≤ b.length) (hn : 2 ≤ n) : b.take n = [b.getD 0 0, b.getD 1 0] ++ (b.drop 2).take (n - 2) := by
  obtain ⟨m, rfl⟩ := Nat.exists_eq_add_of_le hn
  match b, h with
  | x :: y :: l, _ => rw [Nat.add_sub_cancel_left, Nat.add_comm]; rfl
theorem all_zero : ∀ (l : List Int), l.all (· == 0) = true → l = List.replicate l.length 0
  | [], _ => rfl
  | x :: l, h => by
    simp only [List.all_cons, Bool.and_eq_true, beq_iff_eq] at h
    rw [List.length_cons, List.replicate_succ, ← all_zero l h.2, h.1]

/-- What 'nothing is wrong' says. -/
theorem pE_ok {b : List Int} (h : pE b = 0) : b.length ≤ 512 ∧ 12 ≤ b.length ∧ b.getD 0 0 / 64 = 2 ∧ ¬ (192 ≤ b.getD 1 0 ∧ b.getD 1 0 ≤ 223) ∧ at1 b ≤ b.length ∧ (hasX b = true → at1 b + 4 ≤ b.length) ∧ at2 b ≤ b.length ∧ badPad b = false := by
  unfold pE at h
  split at h
  · cases h
  · split at h
    · cases h
    · split at h
      · cases h
      · split at h
        · cases h
        · split at h
          · cases h
          · split at h
            · cases h
            · split at h
              · cases h
              · split at h
                · cases h
                · rename_i h1 h2 h3 h4 h5 h6 h7 h8
                  exact ⟨by omega, by omega, by omega, h4, by omega, fun hx => by
                    rcases Nat.lt_or_ge b.length (at1 b + 4) with hl | hl
                    · exact absurd ⟨hx, hl⟩ h6
                    · exact hl, by omega, by simpa using h8⟩

/-- Bytes that are a packet are put as they were. -/
theorem get_enc (b : List Int) (hb : Bytes b) (h : pE b = 0) : (pQ b).Ok ∧ (pQ b).May ∧ enc (pQ b) = b ∧ (headB (pQ b)).length = at2 b := by
  obtain ⟨g1, g2, g3, g4, g5, g6, g7, g8⟩ := pE_ok h
  have x0 := hb.getD 0
  have x1 := hb.getD 1
  have hcc : ccN b ≤ 15 := by unfold ccN; omega
  have hcl : (wordsAt b 12 (ccN b)).length = ccN b := wordsAt_length b _ _
  have hpad : 0 ≤ lastB b ∧ lastB b ≤ 255 := hb.getD _
  -- the padding
  have hpd : padB (padN b) = b.drop (b.length - padN b) ∧ at2 b + padN b ≤ b.length ∧ (0 < padN b ↔ hasP b = true) := by
    unfold badPad at g8
    rw [padN]
    cases hp : hasP b
    · refine ⟨?_, ?_, by simp⟩
      · simp [padB]
      · simp; exact g7
    · rw [hp] at g8
      simp only [Bool.true_and, Bool.or_eq_false_iff, decide_eq_false_iff_not, Bool.not_eq_false'] at g8
      obtain ⟨⟨⟨k1, k2⟩, k3⟩, k4⟩ := g8
      have hn : ((lastB b).toNat : Int) = lastB b := by omega
      have hz := all_zero _ k4
      have hlen : ((b.drop (b.length - (lastB b).toNat)).take ((lastB b).toNat - 1)).length = (lastB b).toNat - 1 := by rw [List.length_take, List.length_drop]; omega
      rw [hlen] at hz
      refine ⟨?_, by simp only [if_true]; omega, by simp; omega⟩
      simp only [if_true]
      have hpos : (0 : Int) < ((lastB b).toNat : Int) := by omega
      rw [padB, if_pos hpos, Int.toNat_natCast, ← hz]
      refine Eq.trans ?_ (seg b (b.length - (lastB b).toNat) ((lastB b).toNat - 1))
      congr 1
      rw [show b.length - (lastB b).toNat + ((lastB b).toNat - 1) = b.length - 1 from by omega, hn]
      have hlt : b.length - 1 < b.length := by omega
      rw [List.drop_eq_getElem_cons hlt, List.drop_of_length_le (by omega)]
      congr 1
      rw [lastB, List.getD_eq_getElem?_getD, List.getElem?_eq_getElem hlt]; rfl
  obtain ⟨hp1, hp2, hp3⟩ := hpd
  have hext : extB (pQ b) = (b.drop (at1 b)).take (at2 b - at1 b) ∧ (pQ b).ext.length % 4 = 0 ∧ at1 b ≤ at2 b := by
    unfold extB pQ at2 at *
    cases hx : hasX b
    · simp
    · rw [hx] at g7
      simp only [if_true] at g7 ⊢
      have g6' := g6 hx
      have n0 := nb_bd b hb (at1 b + 2) 2
      have hel : ((b.drop (at1 b + 4)).take (extN b)).length = extN b := by rw [List.length_take, List.length_drop]; omega
      have hdiv : extN b / 4 = (nb b (at1 b + 2) 2).toNat := by unfold extN; omega
      have hmod : extN b % 4 = 0 := by unfold extN; omega
      rw [hel, hdiv]
      refine ⟨?_, hmod, by omega⟩
      rw [show (((nb b (at1 b + 2) 2).toNat : Nat) : Int) = nb b (at1 b + 2) 2 from by omega, be_nb b hb _ 2 (by omega), be_nb b hb _ 2 (by omega), show at1 b + 4 + extN b - at1 b = 2 + (2 + extN b) from by omega, List.take_add, List.take_add, List.drop_drop, List.drop_drop]
  obtain ⟨he1, he2, he3⟩ := hext
  have hhead : headB (pQ b) = b.take (at2 b) := by
    unfold headB
    rw [he1]
    have f1 : first (pQ b) = b.getD 0 0 := by
      have hpp : ((0 : Int) < ((padN b : Nat) : Int)) ↔ b.getD 0 0 / 32 % 2 = 1 := by
        rw [hasP, decide_eq_true_eq] at hp3
        rw [← hp3]; omega
      show 128 + (if (0 : Int) < ((padN b : Nat) : Int) then 32 else 0) + (if hasX b = true then 16 else 0) + (((wordsAt b 12 (ccN b)).length : Nat) : Int) = b.getD 0 0
      rw [hcl]
      unfold ccN hasX
      by_cases q1 : b.getD 0 0 / 32 % 2 = 1
      · rw [if_pos (hpp.2 q1)]
        by_cases q2 : b.getD 0 0 / 16 % 2 = 1 <;> simp only [q2, decide_true, decide_false, if_true, if_false, Bool.false_eq_true] <;> omega
      · rw [if_neg (fun q => q1 (hpp.1 q))]
        by_cases q2 : b.getD 0 0 / 16 % 2 = 1 <;> simp only [q2, decide_true, decide_false, if_true, if_false, Bool.false_eq_true] <;> omega
    have f2 : second (pQ b) = b.getD 1 0 := by
      unfold second pQ
      by_cases q : 128 ≤ b.getD 1 0 <;> simp only [q, decide_true, decide_false, if_true, if_false, Bool.false_eq_true] <;> omega
    rw [f1, f2]
    show [b.getD 0 0, b.getD 1 0] ++ (be 2 (nb b 2 2) ++ (be 4 (nb b 4 4) ++ (be 4 (nb b 8 4) ++ (bes (wordsAt b 12 (ccN b)) ++ _)))) = _
    rw [be_nb b hb 2 2 (by omega), be_nb b hb 4 4 (by omega), be_nb b hb 8 4 (by omega), bes_wordsAt b hb _ 12 (by unfold at1 at g5; omega)]
    have e : b.take (at2 b) = [b.getD 0 0, b.getD 1 0] ++ (b.drop 2).take (at2 b - 2) := take_two b _ (by omega) (by unfold at1 at he3; omega)
    have a12 : 12 ≤ at1 b := by unfold at1; omega
    rw [e, show at2 b - 2 = 2 + (4 + (4 + (4 * ccN b + (at2 b - at1 b)))) from by unfold at1 at *; omega, List.take_add, List.take_add, List.take_add, List.take_add, List.drop_drop, List.drop_drop, List.drop_drop, List.drop_drop]
    rw [show at1 b = 2 + 2 + 4 + 4 + 4 * ccN b from by unfold at1; omega]
  have hlen2 : (headB (pQ b)).length = at2 b := by rw [hhead, List.length_take]; omega
  refine ⟨?_, ?_, ?_, hlen2⟩
  · have n1 := nb_bd b hb 2 2
    have n2 := nb_bd b hb 4 4
    have n3 := nb_bd b hb 8 4
    have n4 := nb_bd b hb (at1 b) 2
    refine ⟨n1.1, ?_, n2.1, ?_, n3.1, ?_, wordsAt_words b hb _ _, ?_, ?_, ?_, (hb.drop _).take _⟩
    · show nb b 2 2 ≤ 65535; omega
    · show nb b 4 4 ≤ 4294967295; omega
    · show nb b 8 4 ≤ 4294967295; omega
    · show 0 ≤ (if hasX b then nb b (at1 b) 2 else 0); split <;> omega
    · show (if hasX b then nb b (at1 b) 2 else 0) ≤ 65535; split <;> omega
    · show Bytes (if hasX b then (b.drop (at1 b + 4)).take (extN b) else []); split
      · exact (hb.drop _).take _
      · exact Bytes.nil
  · refine ⟨?_, ?_, ?_, ?_, he2, ?_, ?_, ?_⟩
    · show 0 ≤ b.getD 1 0 % 128; omega
    · show b.getD 1 0 % 128 ≤ 127; omega
    · show decide (128 ≤ b.getD 1 0) = true → ¬ (64 ≤ b.getD 1 0 % 128 ∧ b.getD 1 0 % 128 ≤ 95)
      intro hq; simp only [decide_eq_true_eq] at hq; omega
    · show (wordsAt b 12 (ccN b)).length ≤ 15; omega
    · show hasX b = false → (if hasX b then (b.drop (at1 b + 4)).take (extN b) else []) = [] ∧ (if hasX b then nb b (at1 b) 2 else 0) = 0
      intro hq; rw [hq]; exact ⟨rfl, rfl⟩
    · show (0 : Int) ≤ (padN b : Int); omega
    · show (padN b : Int) ≤ 255
      unfold padN; split <;> omega
  · unfold enc
    rw [hhead]
    show b.take (at2 b) ++ ((b.drop (at2 b)).take (b.length - padN b - at2 b) ++ padB (padN b)) = b
    rw [hp1, show b.drop (b.length - padN b) = b.drop (at2 b + (b.length - padN b - at2 b)) from by congr 1; omega, seg, List.take_append_drop]
end Go.Proofs.Ytiamdaeodkiccaa
