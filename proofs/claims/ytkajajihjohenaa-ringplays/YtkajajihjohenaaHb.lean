/- The contracts of ring's Push, Head. -/
import Derived.Test.YtkajajihjohenaaHa
set_option maxRecDepth 100000
namespace Go.Proofs.Ytkajajihjohenaa.Rng
open Go.RowKit
open Go.Proofs.Ytkajajihjohenaa.Arn
set_option linter.unusedVariables false

/-- The ring at block b, its places at block g, C of them: its cells are L. -/
def RIn (w : World) (b g C : Nat) (L : List Cl) : Prop := ∃ f P, Rg w b g C f P L
section
variable {w w' : World} {b g C : Nat} {L : List Cl} {S : Nat → Prop}
theorem RIn.bel (h : RIn w b g C L) (hb : Below w.heap.size w w') : RIn w' b g C L := let ⟨f, P, h⟩ := h; ⟨f, P, h.bel hb⟩
theorem RIn.upd (h : RIn w b g C L) (hu : Upd S w w') (hb : ¬ S b) (hg : ¬ S g) : RIn w' b g C L := let ⟨f, P, h⟩ := h; ⟨f, P, h.upd hu hb hg⟩
theorem RIn.lt (h : RIn w b g C L) : b < w.heap.size ∧ g < w.heap.size := let ⟨f, P, h⟩ := h; h.lt
theorem RIn.fit (h : RIn w b g C L) : L.length ≤ C ∧ C ≤ 256 := let ⟨f, P, h⟩ := h; ⟨h.fit, h.most⟩
end
theorem mod_at {f i C : Nat} (hf : f < C) (hi : i ≤ C) : (f + i) % C = if f + i < C then f + i else f + i - C := by
  split
  · rename_i h; exact Nat.mod_eq_of_lt h
  · rename_i h; rw [Nat.mod_eq_sub_mod (by omega), Nat.mod_eq_of_lt (by omega)]
theorem mod_ne {f i j C : Nat} (hf : f < C) (hi : i < j) (hj : j < C) : (f + i) % C ≠ (f + j) % C := by
  rw [mod_at hf (by omega), mod_at hf (by omega)]
  split <;> split <;> omega
def pushL (C : Nat) (L : List Cl) (x : Cl) : List Cl := if L.length < C then L ++ [x] else L
theorem pushL_yes {C : Nat} {L : List Cl} {x : Cl} (h : L.length < C) : pushL C L x = L ++ [x] := if_pos h
theorem pushL_no {C : Nat} {L : List Cl} {x : Cl} (h : ¬ L.length < C) : pushL C L x = L := if_neg h
theorem at_push {f C : Nat} {P L : List Cl} (x : Cl) (hf : f < C) (hP : P.length = C) (hL : L.length < C) (h : ∀ i x, L[i]? = some x → P[(f + i) % C]? = some x) :
    ∀ i y, (L ++ [x])[i]? = some y → (P.set ((f + L.length) % C) x)[(f + i) % C]? = some y := by
  intro i y hy
  rcases Nat.lt_trichotomy i L.length with hi | hi | hi
  · rw [List.getElem?_append_left hi] at hy
    rw [List.getElem?_set, if_neg (Ne.symm (mod_ne hf hi hL))]
    exact h i y hy
  · subst hi
    rw [List.getElem?_append_right (Nat.le_refl _), Nat.sub_self, List.getElem?_cons_zero] at hy
    cases hy
    rw [List.getElem?_set, if_pos rfl, if_pos (by rw [hP]; exact Nat.mod_lt _ (by omega))]
  · rw [List.getElem?_eq_none (by simp; omega)] at hy; cases hy
theorem at_pop {f C : Nat} {P : List Cl} {x z : Cl} {L : List Cl} (hf : f < C) (hP : P.length = C) (hL : (x :: L).length ≤ C) (h : ∀ i y, (x :: L)[i]? = some y → P[(f + i) % C]? = some y) :
    ∀ i y, L[i]? = some y → (P.set ((f + 0) % C) z)[((f + 1) % C + i) % C]? = some y := by
  intro i y hy
  have hi : i < L.length := (List.getElem?_eq_some_iff.1 hy).1
  rw [List.length_cons] at hL
  have he : ((f + 1) % C + i) % C = (f + (i + 1)) % C := by rw [Nat.mod_add_mod, Nat.add_assoc, Nat.add_comm 1 i]
  rw [he, List.getElem?_set, if_neg (mod_ne hf (by omega) (by omega))]
  exact h (i + 1) y (by rw [List.getElem?_cons_succ]; exact hy)

set_option maxHeartbeats 4000000 in
theorem push_any (w : World) (b g C : Nat) (L : List Cl) (x : Cl) (hA : RIn w b g C L) :
    Calls Try.prog 12 #[.pointer (some ⟨b, 0, none⟩), clV x] w fun e w' => e = .returned (.bool (decide (L.length < C))) ∧ RIn w' b g C (pushL C L x) ∧ Upd (fun k => k = b ∨ k = g) w w' := by
  obtain ⟨f, P, hA⟩ := hA
  have hmost := hA.most
  have hfit := hA.fit
  have hB := Lib.hid ((Below.refl w.heap.size w).alloc (Nat.le_refl _) (clO x))
  have D := Lib.hid (CBlk.new w x)
  have CR : Hid (∀ W, Below w.heap.size w W → Calls Try.prog 16 #[.pointer (some ⟨b, 0, none⟩)] W fun e w' => e = .returned (.int .i64 ((C - L.length : Nat) : Int)) ∧ Below W.heap.size W w') := fun W hW => room_any W b g C f P L (hA.bel hW)
  have CP : Hid (∀ W, Below w.heap.size w W → Calls Try.prog 19 #[.pointer (some ⟨b, 0, none⟩), .int .i64 L.length] W fun e w' => e = .returned (.pointer (some ⟨g, (f + L.length) % C * 4, none⟩)) ∧ Below W.heap.size W w') := fun W hW => place_any W b g C f P L L.length (hA.bel hW) (by omega)
  have HA := Lib.hid hA
  obtain ⟨m, hm⟩ : ∃ m, C - L.length = m := ⟨_, rfl⟩
  rw [hm] at CR
  have hf := hA.first
  clear hA
  by_cases h : L.length < C
  · have hm0 : ¬ (m = 0) := by omega
    rw [pushL_yes h, decide_eq_true h]
    obtain ⟨k, hk⟩ : ∃ k, (f + L.length) % C = k := ⟨_, rfl⟩
    have hkC : k < C := by rw [← hk]; exact Nat.mod_lt _ (by omega)
    rw [hk] at CP
    have hat := Lib.hid (at_push x hf HA.out.len h HA.out.at_)
    rw [hk] at hat
    obtain ⟨n, hn⟩ : ∃ n, L.length = n := ⟨_, rfl⟩
    rw [hn] at CP
    have qw : IntKind.i64.wrap ((n : Int) + 1) = (n : Int) + 1 := IntWalk.i64_in _ (by omega)
    have HN := Lib.hid (And.intro hn h)
    clear hm hk hf hfit hmost h
    go_enter Try.func12, Try.ntmps12
    go_wp2_with fail
    refine (CR.out _ hB.out).mono ?_
    rintro e w2 ⟨rfl, hb2⟩
    have H2 := Lib.hid (hB.out.trans (hb2.mono hB.out.size))
    have D2 := Lib.hid (D.out.bel hb2 D.out.lt)
    obtain ⟨q, hq⟩ : ∃ q, w.heap.size = q := ⟨_, rfl⟩
    rw [hq] at D2 ⊢
    clear hb2 CR hB D
    go_wp2_with fail
    have hS : Below w2.heap.size w2 w2.drew := (Below.refl _ _).drew
    have fs : ∀ W, Below w2.heap.size w2 W → W.cell? ⟨b, 2, none⟩ = some (.int .i64 n) := fun W hW => by rw [← hn]; exact ((HA.out.bel H2.out).bel hW).c2
    have d0 : ∀ W, Below w2.heap.size w2 W → W.cell? ⟨q, 0, none⟩ = some (.int .i64 x.1) := fun W hW => (D2.out.bel hW D2.out.lt).c0
    have d1 : ∀ W, Below w2.heap.size w2 W → W.cell? ⟨q, 1, none⟩ = some (.int .i64 x.2.1) := fun W hW => (D2.out.bel hW D2.out.lt).c1
    have d2 : ∀ W, Below w2.heap.size w2 W → W.cell? ⟨q, 2, none⟩ = some (.int .i64 x.2.2.1) := fun W hW => (D2.out.bel hW D2.out.lt).c2
    have d3 : ∀ W, Below w2.heap.size w2 W → W.cell? ⟨q, 3, none⟩ = some (.int .u32 x.2.2.2) := fun W hW => (D2.out.bel hW D2.out.lt).c3
    clear hn
    refine region_seqX (Below w2.heap.size w2) 8 [(0, false), (1, false), (2, false), (3, false), (4, false), (6, false), (5, true), (7, false), (8, true)] (by kernel_rfl) (by kernel_rfl) rfl (by kernel_rfl) ?_
    iterate 6 (refine seqX_read (v := _) rfl (fun _ _ _ h => h) hS (Or.inl ⟨by rfl, fun W hW => by go_simp <;> with_reducible rfl⟩) ?_; simp only [Act.put, List.setIfInBounds_toArray, List.set_cons_zero, List.set_cons_succ])
    refine seqX_do rfl (fun K hK => ?_)
    go_simp
    refine (CP.out _ (H2.out.trans (hS.mono H2.out.size))).mono ?_
    rintro e w3 ⟨rfl, hb3⟩
    have hS : Below w2.heap.size w2 w3 := hS.trans (hb3.mono hS.size)
    refine hK.out _ _ _ (fun W h => h) hS ?_
    clear hK K
    iterate 1 (refine seqX_read (v := _) rfl (fun _ _ _ h => h) hS (Or.inl ⟨by rfl, fun W hW => by go_simp <;> with_reducible rfl⟩) ?_; simp only [Act.put, List.setIfInBounds_toArray, List.set_cons_zero, List.set_cons_succ])
    have H3 := Lib.hid (H2.out.trans (hS.mono H2.out.size))
    have A3 := HA.out.bel H3.out
    have hP : k < P.length := by rw [A3.len]; exact hkC
    obtain ⟨z, hx⟩ : ∃ z, P[k]? = some z := ⟨_, List.getElem?_eq_getElem hP⟩
    have e0 : w3.cell? ⟨g, k * 4, none⟩ = some (.int .i64 z.1) := Whole_cell (L := celL) (j := 0) A3.row hx rfl
    have e1 : w3.cell? ⟨g, k * 4 + 1, none⟩ = some (.int .i64 z.2.1) := Whole_cell (L := celL) (j := 1) A3.row hx rfl
    have e2 : w3.cell? ⟨g, k * 4 + 2, none⟩ = some (.int .i64 z.2.2.1) := Whole_cell (L := celL) (j := 2) A3.row hx rfl
    have e3 : w3.cell? ⟨g, k * 4 + 3, none⟩ = some (.int .u32 z.2.2.2) := Whole_cell (L := celL) (j := 3) A3.row hx rfl
    have z0 := Whole_frozen A3.row (k * 4)
    have z1 := Whole_frozen A3.row (k * 4 + 1)
    have z2 := Whole_frozen A3.row (k * 4 + 2)
    have z3 := Whole_frozen A3.row (k * 4 + 3)
    have HR := Lib.hid (Whole_put A3.row hP x)
    have HU := Lib.hid (upd_put4 (Upd.of (S := fun k => k = b ∨ k = g) H3.out) (b := g) (i := k * 4) (.inl (.inr rfl)) x)
    have HK := Lib.hid (A3.blk |> fun hh => (upd_put4 (Upd.refl (fun q => q = g) w3) (b := g) (i := k * 4) (.inl rfl) x).keep hh A3.ne)
    clear A3 hx hP fs d0 d1 d2 d3 hb3 hS
    refine seqX_last rfl (fun K hK => ?_)
    go_simp
    refine hK.out _ _ ?_
    clear hK K
    unfold put4 at HR HU HK
    generalize (((w3.setCell ⟨g, k * 4, none⟩ (.int .i64 x.1)).setCell ⟨g, k * 4 + 1, none⟩ (.int .i64 x.2.1)).setCell ⟨g, k * 4 + 2, none⟩ (.int .i64 x.2.2.1)).setCell ⟨g, k * 4 + 3, none⟩ (.int .u32 x.2.2.2) = w4 at *
    have c2 : w4.cell? ⟨b, 2, none⟩ = some (.int .i64 n) := by rw [cell_of_row w4 b 2 _ _ _ HK.out, ← HN.out.1]; rfl
    have fz : w4.frozen? ⟨b, 2, none⟩ = false := frozen_of_row w4 b 2 _ _ HK.out
    have hbg := Lib.hid (HA.out.ne)
    have HU2 := Lib.hid (HU.out.setCell (b := b) (i := 2) (.inl (.inl rfl)) (.int .i64 ((n : Int) + 1)))
    have HK2 := Lib.hid (heap_setCell_same w4 b 2 _ _ (.int .i64 ((n : Int) + 1)) HK.out)
    have HR2 := Lib.hid ((Below.heap_setCell w4 ⟨b, 2, none⟩ (.int .i64 ((n : Int) + 1)) g (Ne.symm hbg.out)).trans HR.out)
    clear e0 e1 e2 e3 z0 z1 z2 z3
    go_wp2
    go_ret
    refine ⟨rfl, ⟨f, P.set k x, ⟨?_, HR2.out, by rw [List.length_set]; exact HA.out.len, HA.out.first, HA.out.most, by rw [List.length_append]; exact HN.out.2, hat.out⟩⟩, HU2.out⟩
    rw [HK2.out, List.length_append, HN.out.1]
    rfl
  · obtain rfl : 0 = m := by omega
    rw [pushL_no h, decide_eq_false h]
    clear hm hf hfit hmost h CP
    go_enter Try.func12, Try.ntmps12
    go_wp2_with fail
    refine (CR.out _ hB.out).mono ?_
    rintro e w2 ⟨rfl, hb2⟩
    have H2 := Lib.hid (hB.out.trans (hb2.mono hB.out.size))
    clear hb2 CR hB D
    go_wp2
    go_ret
    exact ⟨rfl, ⟨f, P, HA.out.bel H2.out⟩, .of H2.out⟩
end Go.Proofs.Ytkajajihjohenaa.Rng
