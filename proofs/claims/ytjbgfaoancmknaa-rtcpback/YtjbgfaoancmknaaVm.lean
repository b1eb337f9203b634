/- The contract of rtcp.getOne, of any bytes. -/
import Derived.Test.YtjbgfaoancmknaaVl
namespace Go.Proofs.Ytjbgfaoancmknaa.Fbk
open Go.RowKit
set_option linter.unusedVariables false

theorem iE_head {xs : List Int} (h4 : ¬ xs.length < 4) (h0 : xs.getD 0 0 / 32 = 4) : iE xs = if hE (xs.getD 1 0) (cI xs) (gI xs) ≠ 0 then hE (xs.getD 1 0) (cI xs) (gI xs) else if (xs.length : Int) < 4 + 4 * gI xs then 2 else 0 := by
  rw [iE, if_neg h4, if_neg (by omega)]
theorem one_ours (b off n c B : Nat) (xs : List Int) (w : World) (hl : n ≤ maxLen) (hlc : n ≤ c) (hr : Rd w B (some ⟨b, off, none⟩) n xs) (hB : B ≤ w.heap.size) (h4 : 4 ≤ n) (h0 : xs.getD 0 0 / 32 = 4) (K cnt : Int) (hK : xs.getD 1 0 = K) (k : Bool)
    (h3 : (K = 203 ∧ cnt = cI xs) ∨ (K = 205 ∧ cnt = gI xs - 2) ∨ (K = 206 ∧ cnt = 0)) (hbb : (K != 203) = false ∨ ((K != 203) = true ∧ (cI xs != 1) = false)) (hk : hE K (cI xs) (gI xs) = if k = true then 0 else 1)
    (CL : ∀ W, Calls Try.prog 39 #[.int .i64 K, .int .i64 (cI xs), .int .i64 (gI xs)] W (RetL cnt k W)) :
    Calls Try.prog 26 #[.slice (some ⟨b, off, none⟩) n c] w (IRetA w (gIV xs) (gIN xs) (iE xs)) := by
  have hx := hr.1
  have hb := hr.2.1
  obtain ⟨b', off', ea, hbB, hc⟩ := hr.2.2 (by omega)
  simp only [Option.some.injEq, Addr.mk.injEq, and_true] at ea
  obtain ⟨rfl, rfl⟩ := ea
  have c0 := hc 0 (by omega)
  have c1 := hc 1 (by omega)
  rw [Nat.add_zero] at c0
  rw [hK] at c1
  have b0 := hb.getD 0
  have b1 := hb.getD 1
  have b2 := hb.getD 2
  have b3 := hb.getD 3
  have hei := iE_head (xs := xs) (by omega) h0
  rw [hK, hk, hx] at hei
  have hg : 0 ≤ gI xs ∧ gI xs ≤ 65535 := by unfold gI; omega
  have hm : gIN xs ≤ 281474976710656 := by
    unfold gIN
    split
    · unfold iN; omega
    · omega
  refine one_tail b off n c (xs.getD 0 0) K (cI xs) w h4 (by omega) ?_ (and_31 _ b0.1 b0.2) (by unfold cI; omega) (by omega) c0 c1 (by omega) hbb (gI xs) cnt k (gIV xs) (gIN xs) (iE xs) hg hm ?_ ?_ CL ?_
  · rw [and_224 _ b0.1 b0.2]; exact decide_eq_false (by omega)
  · refine ⟨fun h => ?_, fun h h2 => ?_, fun h h2 => ?_⟩
    · have e : iE xs = 1 := by rw [hei, h]; simp
      exact ⟨by rw [gIV, e]; rfl, by rw [gIN, e]; rfl, e⟩
    · have e : iE xs = 2 := by rw [hei, h]; simp; omega
      exact ⟨by rw [gIV, e]; rfl, by rw [gIN, e]; rfl, e⟩
    · rw [hei, h]; simp; omega
  · intro W hW
    have := Fld.get_any (some ⟨b, off, none⟩) n c B 2 2 xs W hl hlc (hr.below (hW.mono hB))
    have e1 : numGet xs 2 2 = gI xs := (numGet_nb xs 2 2 (by omega) (by omega) (by omega)).trans (nb_two xs (by omega))
    rw [e1, show withinB n 2 2 = true from by simp [withinB]; omega] at this
    exact this
  · intro h h2 W q hW hq hR
    have e : iE xs = 0 := by rw [hei, h]; simp; omega
    rw [gIV, gIN, if_pos e, if_pos e]
    exact citem_iv b off n c q xs W hR ((hr.below (hW.mono hB)).more (by omega)) hl hlc e K cnt hK h3
theorem one_any (a : Option Addr) (n c B : Nat) (xs : List Int) (w : World) (hl : n ≤ maxLen) (hlc : n ≤ c) (hr : Rd w B a n xs) (hB : B ≤ w.heap.size) :
    Calls Try.prog 26 #[.slice a n c] w (IRetA w (gIV xs) (gIN xs) (iE xs)) := by
  have hx := hr.1
  have hb := hr.2.1
  by_cases h4 : n < 4
  · have e1 : iE xs = 2 := by rw [iE, if_pos (by omega)]
    rw [gIV, gIN, e1, if_neg (by decide), if_neg (by decide)]
    exact one_short a n c w h4
  · obtain ⟨b, off, ea, hbB, hc⟩ := hr.2.2 (by omega)
    have b0 := hb.getD 0
    have b1 := hb.getD 1
    have c0 := hc 0 (by omega)
    have c1 := hc 1 (by omega)
    rw [Nat.add_zero] at c0
    have hbw : b < w.heap.size := by omega
    have hcI : 0 ≤ cI xs ∧ cI xs ≤ 31 := by unfold cI; omega
    have hgI : 0 ≤ gI xs ∧ gI xs ≤ 65535 := by have := hb.getD 2; have := hb.getD 3; unfold gI; omega
    by_cases h0 : xs.getD 0 0 / 32 ≠ 4
    · have e1 : iE xs = 1 := by rw [iE, if_neg (by omega), if_pos h0]
      rw [gIV, gIN, e1, if_neg (by decide), if_neg (by decide), ea]
      exact one_form b off n c _ w (by omega) hbw (by rw [and_224 _ b0.1 b0.2]; exact decide_eq_true h0) c0
    · have h0' : xs.getD 0 0 / 32 = 4 := by omega
      have hei := iE_head (xs := xs) (by omega) h0'
      have hq : (bits BinOp.and IntKind.u8 (xs.getD 0 0) 224 != 128) = false := by rw [and_224 _ b0.1 b0.2]; exact decide_eq_false (by omega)
      subst ea
      by_cases hk : xs.getD 1 0 = 203 ∨ xs.getD 1 0 = 205 ∨ xs.getD 1 0 = 206
      · rcases hk with hk | hk | hk
        · refine one_ours b off n c B xs w hl hlc hr hB (by omega) h0' 203 (cI xs) hk ((decide (1 ≤ cI xs) && decide (cI xs ≤ 15)) && decide (gI xs = cI xs)) (.inl ⟨rfl, rfl⟩) (.inl rfl) ?_ (fun W => listed_203 _ _ W)
          unfold hE
          rw [if_neg (by decide), if_neg (by decide), if_pos rfl]
          by_cases hq : cI xs < 1 ∨ 15 < cI xs ∨ gI xs ≠ cI xs
          · rw [if_pos hq, if_neg (by simp; omega)]
          · rw [if_neg hq, if_pos (by simp; omega)]
        · by_cases h1 : cI xs = 1
          · refine one_ours b off n c B xs w hl hlc hr hB (by omega) h0' 205 (gI xs - 2) hk (decide (1 ≤ gI xs - 2) && decide (gI xs - 2 ≤ 16)) (.inr (.inl ⟨rfl, rfl⟩)) (.inr ⟨rfl, by simpa using h1⟩) ?_ (fun W => listed_205 _ _ W hgI.1 hgI.2)
            unfold hE
            rw [if_neg (by decide), if_neg (by decide), if_neg (by decide), if_pos rfl, if_neg (by omega)]
            by_cases hq : gI xs < 3 ∨ 18 < gI xs
            · rw [if_pos hq, if_neg (by simp; omega)]
            · rw [if_neg hq, if_pos (by simp; omega)]
          · have e1 : iE xs = 4 := by
              rw [hei, hk]; unfold hE
              rw [if_neg (show ¬ (205 : Int) = 200 by decide), if_neg (show ¬ (205 : Int) = 201 by decide), if_neg (show ¬ (205 : Int) = 203 by decide), if_pos rfl, if_pos h1]; rfl
            rw [gIV, gIN, e1, if_neg (by decide), if_neg (by decide)]
            exact one_kind b off n c _ _ (cI xs) w (by omega) hbw hq (and_31 _ b0.1 b0.2) hcI (by omega) c0 c1 (.inr (.inl hk)) (by rw [hk]; rfl) (by simpa using h1)
        · by_cases h1 : cI xs = 1
          · refine one_ours b off n c B xs w hl hlc hr hB (by omega) h0' 206 0 hk (decide (gI xs = 2)) (.inr (.inr ⟨rfl, rfl⟩)) (.inr ⟨rfl, by simpa using h1⟩) ?_ (fun W => listed_206 _ _ W)
            unfold hE
            rw [if_neg (by decide), if_neg (by decide), if_neg (by decide), if_neg (by decide), if_pos rfl, if_neg (by omega)]
            by_cases hq : gI xs ≠ 2
            · rw [if_pos hq, if_neg (by simp; omega)]
            · rw [if_neg hq, if_pos (by simp; omega)]
          · have e1 : iE xs = 4 := by
              rw [hei, hk]; unfold hE
              rw [if_neg (show ¬ (206 : Int) = 200 by decide), if_neg (show ¬ (206 : Int) = 201 by decide), if_neg (show ¬ (206 : Int) = 203 by decide), if_neg (show ¬ (206 : Int) = 205 by decide), if_pos rfl, if_pos h1]; rfl
            rw [gIV, gIN, e1, if_neg (by decide), if_neg (by decide)]
            exact one_kind b off n c _ _ (cI xs) w (by omega) hbw hq (and_31 _ b0.1 b0.2) hcI (by omega) c0 c1 (.inr (.inr hk)) (by rw [hk]; rfl) (by simpa using h1)
      · have e : rE xs = iE xs := by
          rw [rE, if_neg (by omega), if_neg h0]
          by_cases hr : isRep (xs.getD 1 0) = false
          · rw [if_pos hr, hei]
            have : hE (xs.getD 1 0) (cI xs) (gI xs) = 4 := by
              simp only [isRep, Bool.or_eq_false_iff, decide_eq_false_iff_not] at hr
              unfold hE
              rw [if_neg hr.1, if_neg hr.2, if_neg (by omega), if_neg (by omega), if_neg (by omega)]
            rw [this]; rfl
          · rw [if_neg hr]
        have CR := fun W (hW : Below w.heap.size w W) => get_anyA (some ⟨b, off, none⟩) n c B xs W hl hlc (hr.below (hW.mono hB)) (Nat.le_trans hB hW.size)
        unfold gRV gRN at CR
        rw [e] at CR
        exact one_rep b off n c _ _ (cI xs) w (by omega) hbw hq (and_31 _ b0.1 b0.2) hcI (by omega) c0 c1 (by omega) _ _ _ CR
end Go.Proofs.Ytjbgfaoancmknaa.Fbk
