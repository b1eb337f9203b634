/- The contract of the reference's GetItem: any bytes. -/
import Derived.Test.YthmmafpmpnhleaaVb
import Derived.Test.YthmmafpmpnhleaaQmbb
set_option maxRecDepth 100000
namespace Go.Proofs.Ythmmafpmpnhleaa.Fbk
open Go.RowKit
set_option linter.unusedVariables false

theorem pairsAt_cut (xs : List Int) (k : Nat) : ∀ (m i : Nat), i + 4 * m ≤ k → pairsAt ((xs.drop 4).take k) i m = pairsAt xs (4 + i) m
  | 0, _, _ => rfl
  | m + 1, i, h => by
    rw [pairsAt, pairsAt, pairsAt_cut xs k m (i + 4) (by omega)]
    rw [nb_cut xs k i 2 (by omega), nb_cut xs k (i + 2) 2 (by omega)]
    simp only [← Nat.add_assoc]
theorem wordsAt_cut (xs : List Int) (k : Nat) : ∀ (m i : Nat), i + 4 * m ≤ k → wordsAt ((xs.drop 4).take k) i m = wordsAt xs (4 + i) m
  | 0, _, _ => rfl
  | m + 1, i, h => by
    rw [wordsAt, wordsAt, wordsAt_cut xs k m (i + 4) (by omega)]
    rw [nb_cut xs k i 4 (by omega)]
    simp only [← Nat.add_assoc]
/-- GetItem of whatever bytes. -/
theorem gi_all (a : Option Addr) (n c B : Nat) (xs : List Int) (w : World) (hl : n ≤ maxLen) (hlc : n ≤ c) (hr : Rd w B a n xs) (hB : B ≤ w.heap.size) :
    Calls Try.prog 54 #[.slice a n c] w (IRetA w (gIV xs) (gIN xs) (iE xs)) := by
  have hx := hr.1
  have hb := hr.2.1
  by_cases h4 : n < 4
  · have e1 : iE xs = 2 := by rw [iE, if_pos (by omega)]
    rw [gIV, gIN, e1, if_neg (by decide), if_neg (by decide)]
    exact gi_short a n c w h4
  · obtain ⟨b, off, ea, hbB, hc⟩ := hr.2.2 (by omega)
    have b0 := hb.getD 0
    have b1 := hb.getD 1
    have b2 := hb.getD 2
    have b3 := hb.getD 3
    have c0 := hc 0 (by omega)
    have c1 := hc 1 (by omega)
    have c2 := hc 2 (by omega)
    have c3 := hc 3 (by omega)
    rw [Nat.add_zero] at c0
    have hbw : b < w.heap.size := by omega
    by_cases h0 : xs.getD 0 0 / 32 ≠ 4
    · have e1 : iE xs = 1 := by rw [iE, if_neg (by omega), if_pos h0]
      rw [gIV, gIN, e1, if_neg (by decide), if_neg (by decide), ea]
      exact gi_form b off n c _ w (by omega) hbw b0 h0 c0
    · have h0' : xs.getD 0 0 / 32 = 4 := by omega
      by_cases hkt : isRep (xs.getD 1 0) = true
      · have e : rE xs = iE xs := by rw [rE, if_neg (by omega), if_neg h0, if_neg (by rw [hkt]; decide)]
        have := gi_rep a n c B xs w hl hlc hr hB (.inr (.inr hkt))
        rw [gRV, gRN, e] at this
        exact this
      have hei : iE xs = if hE (xs.getD 1 0) (cI xs) (gI xs) ≠ 0 then hE (xs.getD 1 0) (cI xs) (gI xs) else if (xs.length : Int) < 4 + 4 * gI xs then 2 else 0 := by rw [iE, if_neg (by omega), if_neg h0]
      have hcI : 0 ≤ cI xs ∧ cI xs ≤ 31 := by unfold cI; omega
      have hgI : 0 ≤ gI xs := by unfold gI; omega
      obtain ⟨N, hN⟩ : ∃ N : Nat, 4 + 4 * gI xs = N := ⟨(4 + 4 * gI xs).toNat, by omega⟩
      have hiN : iN xs = N := by unfold iN; omega
      simp only [isRep, Bool.or_eq_true, decide_eq_true_eq, not_or] at hkt
      obtain ⟨k0, k1⟩ := hkt
      have hr' := hr.more hB
      subst ea
      rw [hx] at hei
      by_cases k2 : xs.getD 1 0 = 203
      · have hek : hE 203 (cI xs) (gI xs) = if cI xs < 1 ∨ 15 < cI xs ∨ gI xs ≠ cI xs then 1 else 0 := by unfold hE; rw [if_neg (by decide), if_neg (by decide), if_pos rfl]
        rw [k2] at hei c1
        rw [hek] at hei
        by_cases hbad : cI xs < 1 ∨ 15 < cI xs ∨ gI xs ≠ cI xs
        · have e1 : iE xs = 1 := by rw [hei, if_pos hbad]; rfl
          rw [gIV, gIN, e1, if_neg (by decide), if_neg (by decide)]
          by_cases h1 : cI xs < 1
          · exact gi_few203 b off n c _ _ _ (cI xs) (gI xs) w (by omega) hbw b0 b2 b3 h0' rfl rfl c0 c1 c2 c3 h1
          · by_cases h15 : 15 < cI xs
            · exact gi_many203 b off n c _ _ _ (cI xs) (gI xs) w (by omega) hbw b0 b2 b3 h0' rfl rfl c0 c1 c2 c3 h1 h15
            · have hgw : gI xs ≠ cI xs := (hbad.resolve_left h1).resolve_left h15
              exact gi_words203 b off n c _ _ _ (cI xs) (gI xs) w (by omega) hbw b0 b2 b3 h0' rfl rfl c0 c1 c2 c3 h1 h15 (by simpa using hgw)
        · rw [if_neg hbad] at hei
          simp only [ne_eq, not_true, if_false] at hei
          obtain ⟨h1, h15, hgw⟩ : ¬ cI xs < 1 ∧ ¬ 15 < cI xs ∧ gI xs = cI xs := by omega
          by_cases hcut : (n : Int) < 4 + 4 * gI xs
          · have e1 : iE xs = 2 := by rw [hei, if_pos hcut]
            rw [gIV, gIN, e1, if_neg (by decide), if_neg (by decide)]
            exact gi_cut203 b off n c _ _ _ (cI xs) (gI xs) w (by omega) hbw b0 b2 b3 h0' rfl rfl c0 c1 c2 c3 h1 h15 hgw hcut
          · have e1 : iE xs = 0 := by rw [hei, if_neg hcut]
            obtain ⟨k, hk⟩ : ∃ k : Nat, cI xs = k := ⟨(cI xs).toNat, by omega⟩
            have hV : iV xs = ⟨203, 0, 0, 0, 0, 0, [], wordsAt xs 4 k, 0, []⟩ := by unfold iV; rw [if_neg k0, if_neg k1, if_pos k2, hk, Int.toNat_natCast]
            rw [gIV, gIN, e1, if_pos rfl, if_pos rfl, hV, hiN]
            refine (gi_ok203 b off n c _ _ _ (cI xs) (gI xs) w (by omega) hbw b0 b2 b3 h0' rfl rfl c0 c1 c2 c3 hgw h1 h15 k N hN (by omega) hk ((xs.drop 4).take (N - 4)) (fun W X hW hX => ?_) hlc).mono ?_
            · have hrm := rd_mid (hr'.below hW) (show 4 ≤ N from by omega) (show N ≤ n from by omega) hlc hX
              exact item_get203 X (N - 4) (c - 4) k _ W (hrm.more hW.size) (by omega) (by omega) (by omega) (by omega)
            · rintro e' w' ⟨A, z, rfl, ho, hbl⟩
              rw [wordsAt_cut xs (N - 4) k 0 (by omega)] at ho
              have hlen := wordsAt_length xs k 4
              refine ⟨⟨none, 0, A, z, none, 0⟩, ?_, ⟨RowRd.none_ _ rfl, ?_, RowRd.none_ _ rfl, Nat.zero_le _, by simp only [hlen]; omega, Nat.zero_le _, Nat.le_refl _, by simp only [hlen]; exact ho.2.1, Nat.le_refl _⟩, ⟨(fun _ _ h => by cases h), fun b' o' h => own_ge ho h, (fun _ _ h => by cases h)⟩, hbl⟩
              · simp only [ivOf, hlen, List.length_nil]
              · simp only [hlen]; exact rowRd_wd ho.rd (wordsAt_words xs hb k 4)
      · by_cases k3 : xs.getD 1 0 = 205
        · have hek : hE 205 (cI xs) (gI xs) = if cI xs ≠ 1 then 4 else if gI xs < 3 ∨ 18 < gI xs then 1 else 0 := by unfold hE; rw [if_neg (by decide), if_neg (by decide), if_neg (by decide), if_pos rfl]
          rw [k3] at hei c1
          rw [hek] at hei
          by_cases h1 : cI xs = 1
          · rw [if_neg (show ¬ cI xs ≠ 1 from by omega)] at hei
            by_cases hbad : gI xs < 3 ∨ 18 < gI xs
            · have e1 : iE xs = 1 := by rw [hei, if_pos hbad]; rfl
              rw [gIV, gIN, e1, if_neg (by decide), if_neg (by decide)]
              by_cases hlo : gI xs - 2 < 1
              · exact gi_few205 b off n c _ _ _ (cI xs) (gI xs) w (by omega) hbw b0 b2 b3 h0' rfl rfl c0 c1 c2 c3 h1 _ rfl hlo
              · exact gi_many205 b off n c _ _ _ (cI xs) (gI xs) w (by omega) hbw b0 b2 b3 h0' rfl rfl c0 c1 c2 c3 h1 _ rfl hlo (by omega)
            · rw [if_neg hbad] at hei
              simp only [ne_eq, not_true, if_false] at hei
              obtain ⟨hlo, hhi⟩ : ¬ gI xs - 2 < 1 ∧ ¬ 16 < gI xs - 2 := by omega
              by_cases hcut : (n : Int) < 4 + 4 * gI xs
              · have e1 : iE xs = 2 := by rw [hei, if_pos hcut]
                rw [gIV, gIN, e1, if_neg (by decide), if_neg (by decide)]
                exact gi_cut205 b off n c _ _ _ (cI xs) (gI xs) w (by omega) hbw b0 b2 b3 h0' rfl rfl c0 c1 c2 c3 h1 hlo hhi hcut
              · have e1 : iE xs = 0 := by rw [hei, if_neg hcut]
                obtain ⟨k, hk⟩ : ∃ k : Nat, gI xs - 2 = k := ⟨(gI xs - 2).toNat, by omega⟩
                have hV : iV xs = ⟨205, nb xs 4 4, 0, 0, 0, 0, [], [], nb xs 8 4, pairsAt xs 12 k⟩ := by unfold iV; rw [if_neg k0, if_neg k1, if_neg k2, if_pos k3, hk, Int.toNat_natCast]
                rw [gIV, gIN, e1, if_pos rfl, if_pos rfl, hV, hiN]
                refine (gi_ok205 b off n c _ _ _ (cI xs) (gI xs) w (by omega) hbw b0 b2 b3 h0' rfl rfl c0 c1 c2 c3 h1 hlo hhi k N hN (by omega) hk ((xs.drop 4).take (N - 4)) (fun W X hW hX => ?_) hlc).mono ?_
                · have hrm := rd_mid (hr'.below hW) (show 4 ≤ N from by omega) (show N ≤ n from by omega) hlc hX
                  exact item_get205 X (N - 4) (c - 4) k _ W (hrm.more hW.size) (by omega) (by omega) (by omega) (by omega)
                · rintro e' w' ⟨A, z, rfl, ho, hbl⟩
                  rw [pairsAt_cut xs (N - 4) k 8 (by omega)] at ho
                  rw [nb_cut xs (N - 4) 0 4 (by omega), nb_cut xs (N - 4) 4 4 (by omega)]
                  have hlen := pairsAt_length xs k 12
                  refine ⟨⟨none, 0, none, 0, A, z⟩, ?_, ⟨RowRd.none_ _ rfl, Wd.none_ _ rfl, ?_, Nat.zero_le _, Nat.zero_le _, by simp only [hlen]; omega, Nat.le_refl _, Nat.le_refl _, by simp only [hlen]; exact ho.2.1⟩, ⟨(fun _ _ h => by cases h), (fun _ _ h => by cases h), fun b' o' h => own_ge ho h⟩, hbl⟩
                  · simp only [ivOf, hlen, List.length_nil]
                  · simp only [hlen]; exact ho.rd
          · have e1 : iE xs = 4 := by rw [hei, if_pos (show cI xs ≠ 1 from h1)]; rfl
            rw [gIV, gIN, e1, if_neg (by decide), if_neg (by decide)]
            exact gi_other205 b off n c _ _ _ (cI xs) (gI xs) w (by omega) hbw b0 b2 b3 h0' rfl rfl c0 c1 c2 c3 (by simpa using h1)
        · by_cases k4 : xs.getD 1 0 = 206
          · have hek : hE 206 (cI xs) (gI xs) = if cI xs ≠ 1 then 4 else if gI xs ≠ 2 then 1 else 0 := by unfold hE; rw [if_neg (by decide), if_neg (by decide), if_neg (by decide), if_neg (by decide), if_pos rfl]
            rw [k4] at hei c1
            rw [hek] at hei
            by_cases h1 : cI xs = 1
            · rw [if_neg (show ¬ cI xs ≠ 1 from by omega)] at hei
              by_cases hbad : gI xs ≠ 2
              · have e1 : iE xs = 1 := by rw [hei, if_pos hbad]; rfl
                rw [gIV, gIN, e1, if_neg (by decide), if_neg (by decide)]
                by_cases hlo : gI xs - 2 < 0
                · exact gi_few206 b off n c _ _ _ (cI xs) (gI xs) w (by omega) hbw b0 b2 b3 h0' rfl rfl c0 c1 c2 c3 h1 _ rfl hlo
                · exact gi_many206 b off n c _ _ _ (cI xs) (gI xs) w (by omega) hbw b0 b2 b3 h0' rfl rfl c0 c1 c2 c3 h1 _ rfl hlo (by omega)
              · rw [if_neg hbad] at hei
                simp only [ne_eq, not_true, if_false] at hei
                have hg2 : gI xs = 2 := by omega
                have hN12 : N = 12 := by omega
                subst hN12
                by_cases hcut : (n : Int) < 4 + 4 * gI xs
                · have e1 : iE xs = 2 := by rw [hei, if_pos hcut]
                  rw [gIV, gIN, e1, if_neg (by decide), if_neg (by decide)]
                  exact gi_cut206 b off n c _ _ _ (cI xs) (gI xs) w (by omega) hbw b0 b2 b3 h0' rfl rfl c0 c1 c2 c3 h1 hg2 (by omega)
                · have e1 : iE xs = 0 := by rw [hei, if_neg hcut]
                  have hV : iV xs = ⟨206, nb xs 4 4, 0, 0, 0, 0, [], [], nb xs 8 4, []⟩ := by unfold iV; rw [if_neg k0, if_neg k1, if_neg k2, if_neg k3]
                  rw [gIV, gIN, e1, if_pos rfl, if_pos rfl, hV, hiN]
                  refine (gi_ok206 b off n c _ _ _ (cI xs) (gI xs) w (by omega) hbw b0 b2 b3 h0' rfl rfl c0 c1 c2 c3 h1 hg2 (by omega) ((xs.drop 4).take 8) (fun W X hW hX => ?_) hlc).mono ?_
                  · have hrm := rd_mid (hr'.below hW) (show 4 ≤ 12 from by omega) (show 12 ≤ n from by omega) hlc hX
                    refine (item_get206 X 8 (c - 4) 0 _ W (hrm.more hW.size) (by omega) (by omega) (by omega) (by omega)).mono ?_
                    rintro e' w' ⟨A, z, rfl, ho, hbl⟩
                    exact ⟨A, z, rfl, fun b2 o2 h => Nat.le_trans hW.size (own_ge ho h), hbl⟩
                  · rintro e' w' ⟨A, z, rfl, hge, hbl⟩
                    rw [nb_cut xs 8 0 4 (by omega), nb_cut xs 8 4 4 (by omega)]
                    exact ⟨⟨none, 0, none, 0, A, z⟩, rfl, ⟨RowRd.none_ _ rfl, Wd.none_ _ rfl, RowRd.none_ _ rfl, Nat.zero_le _, Nat.zero_le _, Nat.zero_le _, Nat.le_refl _, Nat.le_refl _, Nat.zero_le _⟩, ⟨(fun _ _ h => by cases h), (fun _ _ h => by cases h), hge⟩, hbl⟩
            · have e1 : iE xs = 4 := by rw [hei, if_pos (show cI xs ≠ 1 from h1)]; rfl
              rw [gIV, gIN, e1, if_neg (by decide), if_neg (by decide)]
              exact gi_other206 b off n c _ _ _ (cI xs) (gI xs) w (by omega) hbw b0 b2 b3 h0' rfl rfl c0 c1 c2 c3 (by simpa using h1)
          · have hek : hE (xs.getD 1 0) (cI xs) (gI xs) = 4 := by unfold hE; rw [if_neg k0, if_neg k1, if_neg k2, if_neg k3, if_neg k4]
            have e1 : iE xs = 4 := by rw [hei, hek]; rfl
            rw [gIV, gIN, e1, if_neg (by decide), if_neg (by decide)]
            exact gi_none b off n c _ _ _ _ (cI xs) (gI xs) w (by omega) hbw b0 b2 b3 h0' rfl rfl c0 c1 c2 c3 b1 k0 k1 k2 k3 k4
end Go.Proofs.Ythmmafpmpnhleaa.Fbk
