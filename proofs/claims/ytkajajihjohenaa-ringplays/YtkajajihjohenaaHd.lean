/- The contract of ring's Pop. -/
import Derived.Test.YtkajajihjohenaaHc
set_option maxRecDepth 100000
namespace Go.Proofs.Ytkajajihjohenaa.Rng
open Go.RowKit
open Go.Proofs.Ytkajajihjohenaa.Arn
set_option linter.unusedVariables false

set_option maxHeartbeats 4000000 in
theorem pop_any (w : World) (b g C : Nat) (L : List Cl) (hA : RIn w b g C L) :
    Calls Try.prog 10 #[.pointer (some ⟨b, 0, none⟩)] w fun e w' => e = .returned (.tuple #[clV (headV L), .bool (decide (0 < L.length))]) ∧ RIn w' b g C L.tail ∧ Upd (fun k => k = b ∨ k = g) w w' := by
  have CH : Hid (∀ W, Below w.heap.size w W → Calls Try.prog 14 #[.pointer (some ⟨b, 0, none⟩)] W fun e w' => e = .returned (.tuple #[clV (headV L), .bool (decide (0 < L.length))]) ∧ Below W.heap.size W w') := fun W hW => head_any W b g C L (hA.bel hW)
  obtain ⟨f, P, hA⟩ := hA
  have hmost := hA.most
  have hfit := hA.fit
  have hf := hA.first
  have HB := Lib.hid ((Below.refl w.heap.size w).alloc (Nat.le_refl _) (clO cl0))
  have D := Lib.hid (CBlk.new w cl0)
  have hbw := Lib.hid hA.lt
  have CP : Hid (∀ W, Below w.heap.size w W → Calls Try.prog 19 #[.pointer (some ⟨b, 0, none⟩), .int .i64 0] W fun e w' => e = .returned (.pointer (some ⟨g, (f + 0) % C * 4, none⟩)) ∧ Below W.heap.size W w') := fun W hW => place_any W b g C f P L 0 (hA.bel hW) (by omega)
  have HA := Lib.hid hA
  clear hA
  obtain ⟨q, hq⟩ : ∃ q, w.heap.size = q := ⟨_, rfl⟩
  rcases L with _ | ⟨x, r⟩
  · rw [show headV [] = cl0 from rfl, show decide (0 < ([] : List Cl).length) = false from rfl] at CH
    rw [show headV [] = cl0 from rfl, show decide (0 < ([] : List Cl).length) = false from rfl, show ([] : List Cl).tail = [] from rfl]
    clear CP hfit hq
    go_enter Try.func10, Try.ntmps10
    go_wp2_with fail
    refine (CH.out _ HB.out).mono ?_
    rintro e w2 ⟨rfl, hb2⟩
    have H2 := Lib.hid ((HB.out.trans (hb2.mono HB.out.size)).alloc (HB.out.trans (hb2.mono HB.out.size)).size (clO cl0))
    have D2 := (D.out.bel hb2 D.out.lt).bel ((Below.refl w2.heap.size w2).alloc (Nat.le_refl _) (clO cl0)) (D.out.bel hb2 D.out.lt).lt
    clear hb2 HB D CH
    have d0 := D2.c0
    have d1 := D2.c1
    have d2 := D2.c2
    have d3 := D2.c3
    have f0 := D2.frozen 0
    have f1 := D2.frozen 1
    have f2 := D2.frozen 2
    have f3 := D2.frozen 3
    go_wp2_with fail
    have hbb : Below w.heap.size w (((((w2.alloc (clO cl0)).setCell ⟨w.heap.size, 0, none⟩ (.int .i64 0)).setCell ⟨w.heap.size, 1, none⟩ (.int .i64 0)).setCell ⟨w.heap.size, 2, none⟩ (.int .i64 0)).setCell ⟨w.heap.size, 3, none⟩ (.int .u32 0)) := bel_put4 H2.out (Nat.le_refl _) cl0
    have D3 : CBlk (((((w2.alloc (clO cl0)).setCell ⟨w.heap.size, 0, none⟩ (.int .i64 0)).setCell ⟨w.heap.size, 1, none⟩ (.int .i64 0)).setCell ⟨w.heap.size, 2, none⟩ (.int .i64 0)).setCell ⟨w.heap.size, 3, none⟩ (.int .u32 0)) w.heap.size cl0 := D2.store cl0
    generalize ((((w2.alloc (clO cl0)).setCell ⟨w.heap.size, 0, none⟩ (.int .i64 0)).setCell ⟨w.heap.size, 1, none⟩ (.int .i64 0)).setCell ⟨w.heap.size, 2, none⟩ (.int .i64 0)).setCell ⟨w.heap.size, 3, none⟩ (.int .u32 0) = w3 at *
    exact retC_at Try.results10 D3 ⟨rfl, ⟨f, P, HA.out.bel hbb⟩, .of hbb⟩
  · obtain ⟨n, hn⟩ : ∃ n, r.length = n := ⟨_, rfl⟩
    rw [show headV (x :: r) = x from rfl, show decide (0 < (x :: r).length) = true from by simp] at CH
    rw [show headV (x :: r) = x from rfl, show decide (0 < (x :: r).length) = true from by simp, show (x :: r).tail = r from rfl]
    rw [List.length_cons] at hfit
    obtain ⟨k, hk⟩ : ∃ k, (f + 0) % C = k := ⟨_, rfl⟩
    obtain ⟨m, hm⟩ : ∃ m, (f + 1) % C = m := ⟨_, rfl⟩
    have HX : Hid (P[k]? = some x) := by rw [← hk]; exact HA.out.at_ 0 x rfl
    have HM : Hid (m < C) := by rw [← hm]; exact Nat.mod_lt _ (by omega)
    have HT : Hid (∀ i y, r[i]? = some y → (P.set k cl0)[(m + i) % C]? = some y) := by rw [← hk, ← hm]; exact at_pop hf HA.out.len (by rw [List.length_cons]; exact hfit) HA.out.at_
    have HP : Hid (k < P.length) := by rw [HA.out.len, ← hk]; exact Nat.mod_lt _ (by omega)
    rw [hk] at CP
    have CA : Hid (∀ W, W.heap[b]? = some (.cells #[.slice (some ⟨g, 0, none⟩) C C, .int .i64 f, .int .i64 (n + 1 : Nat)] 47 (0, 0)) → Calls Try.prog 20 #[.pointer (some ⟨b, 0, none⟩), .int .i64 1] W fun e w' => e = .returned (.int .i64 (m : Int)) ∧ Below W.heap.size W w') := fun W hW => by
      have := around_blk W b g C f (n + 1) 1 hW hf hmost (by omega)
      rw [hm] at this
      exact this
    have qw : IntKind.i64.wrap (((n + 1 : Nat) : Int) - 1) = (n : Int) := by rw [IntWalk.i64_in _ (by omega)]; omega
    have HN := Lib.hid hn
    have HQ := Lib.hid hq
    clear hm hk hfit hf hmost hn
    rw [hq] at D hbw
    obtain ⟨N1, hN1⟩ : ∃ N1 : Int, ((n + 1 : Nat) : Int) = N1 := ⟨_, rfl⟩
    rw [hN1] at CA qw
    have HN1 := Lib.hid hN1
    clear hN1
    go_enter Try.func10, Try.ntmps10
    go_wp2_with fail
    refine (CH.out _ HB.out).mono ?_
    rintro e w2 ⟨rfl, hb2⟩
    have H1 := Lib.hid (HB.out.trans (hb2.mono HB.out.size))
    have hqq := D.out.bel hb2 D.out.lt
    have D2 := Lib.hid (hqq.bel ((Below.refl w2.heap.size w2).alloc (Nat.le_refl _) (clO x)) hqq.lt)
    have H2 := Lib.hid (H1.out.alloc H1.out.size (clO x))
    have D4 := Lib.hid (CBlk.new w2 x)
    have HL := Lib.hid (show q < w2.heap.size from hqq.lt)
    clear hb2 HB D CH H1 hqq
    go_wp2_with fail
    refine (CP.out _ H2.out).mono ?_
    rintro e w3 ⟨rfl, hb3⟩
    have H3 := Lib.hid (H2.out.trans (hb3.mono H2.out.size))
    have D3 := Lib.hid (D2.out.bel hb3 D2.out.lt)
    have D5 := Lib.hid (D4.out.bel hb3 D4.out.lt)
    obtain ⟨p, hp⟩ : ∃ p, w2.heap.size = p := ⟨_, rfl⟩
    rw [hp] at D5 HL ⊢
    clear hb3 H2 D2 D4 CP hp
    have A3 := HA.out.bel H3.out
    have e0 : w3.cell? ⟨g, k * 4, none⟩ = some (.int .i64 x.1) := Whole_cell (L := celL) (j := 0) A3.row HX.out rfl
    have e1 : w3.cell? ⟨g, k * 4 + 1, none⟩ = some (.int .i64 x.2.1) := Whole_cell (L := celL) (j := 1) A3.row HX.out rfl
    have e2 : w3.cell? ⟨g, k * 4 + 2, none⟩ = some (.int .i64 x.2.2.1) := Whole_cell (L := celL) (j := 2) A3.row HX.out rfl
    have e3 : w3.cell? ⟨g, k * 4 + 3, none⟩ = some (.int .u32 x.2.2.2) := Whole_cell (L := celL) (j := 3) A3.row HX.out rfl
    have z0 := Whole_frozen A3.row (k * 4)
    have z1 := Whole_frozen A3.row (k * 4 + 1)
    have z2 := Whole_frozen A3.row (k * 4 + 2)
    have z3 := Whole_frozen A3.row (k * 4 + 3)
    have HR : Hid (Whole celL ((((w3.setCell ⟨g, k * 4, none⟩ (.int .i64 0)).setCell ⟨g, k * 4 + 1, none⟩ (.int .i64 0)).setCell ⟨g, k * 4 + 2, none⟩ (.int .i64 0)).setCell ⟨g, k * 4 + 3, none⟩ (.int .u32 0)) g (P.set k cl0)) := Whole_put A3.row HP.out cl0
    have HU : Hid (Upd (fun k => k = b ∨ k = g) w ((((w3.setCell ⟨g, k * 4, none⟩ (.int .i64 0)).setCell ⟨g, k * 4 + 1, none⟩ (.int .i64 0)).setCell ⟨g, k * 4 + 2, none⟩ (.int .i64 0)).setCell ⟨g, k * 4 + 3, none⟩ (.int .u32 0))) := upd_put4 (Upd.of (S := fun k => k = b ∨ k = g) H3.out) (b := g) (i := k * 4) (.inl (.inr rfl)) cl0
    have UG : Upd (fun q => q = g) w3 ((((w3.setCell ⟨g, k * 4, none⟩ (.int .i64 0)).setCell ⟨g, k * 4 + 1, none⟩ (.int .i64 0)).setCell ⟨g, k * 4 + 2, none⟩ (.int .i64 0)).setCell ⟨g, k * 4 + 3, none⟩ (.int .u32 0)) := upd_put4 (Upd.refl (fun q => q = g) w3) (b := g) (i := k * 4) (.inl rfl) cl0
    have HK : Hid (((((w3.setCell ⟨g, k * 4, none⟩ (.int .i64 0)).setCell ⟨g, k * 4 + 1, none⟩ (.int .i64 0)).setCell ⟨g, k * 4 + 2, none⟩ (.int .i64 0)).setCell ⟨g, k * 4 + 3, none⟩ (.int .u32 0)).heap[b]? = some (.cells #[.slice (some ⟨g, 0, none⟩) C C, .int .i64 f, .int .i64 N1] 47 (0, 0))) := by
      have := UG.keep A3.blk A3.ne
      rw [List.length_cons, HN.out, HN1.out] at this
      exact this
    have D6 : Hid (CBlk ((((w3.setCell ⟨g, k * 4, none⟩ (.int .i64 0)).setCell ⟨g, k * 4 + 1, none⟩ (.int .i64 0)).setCell ⟨g, k * 4 + 2, none⟩ (.int .i64 0)).setCell ⟨g, k * 4 + 3, none⟩ (.int .u32 0)) q cl0) := D3.out.upd UG (by have := hbw.out.2; show ¬ (q = g); omega)
    have D7 : Hid (CBlk ((((w3.setCell ⟨g, k * 4, none⟩ (.int .i64 0)).setCell ⟨g, k * 4 + 1, none⟩ (.int .i64 0)).setCell ⟨g, k * 4 + 2, none⟩ (.int .i64 0)).setCell ⟨g, k * 4 + 3, none⟩ (.int .u32 0)) p x) := D5.out.upd UG (by have := hbw.out.2; have := HL.out; show ¬ (p = g); omega)
    clear A3 D3 D5 UG H3
    go_wp2_with fail
    generalize (((w3.setCell ⟨g, k * 4, none⟩ (.int .i64 0)).setCell ⟨g, k * 4 + 1, none⟩ (.int .i64 0)).setCell ⟨g, k * 4 + 2, none⟩ (.int .i64 0)).setCell ⟨g, k * 4 + 3, none⟩ (.int .u32 0) = w4 at *
    refine (CA.out _ HK.out).mono ?_
    rintro e w5 ⟨rfl, hb5⟩
    have HR5 := Lib.hid (Whole_bel HR.out hb5)
    have HU5 := Lib.hid (HU.out.trans (.of hb5))
    have HK5 := Lib.hid ((hb5.block b (lt_of_some HK.out)).trans HK.out)
    have D8 := Lib.hid (D6.out.bel hb5 D6.out.lt)
    have D9 := Lib.hid (D7.out.bel hb5 D7.out.lt)
    clear hb5 D6 D7 HR HU HK e0 e1 e2 e3 z0 z1 z2 z3 CA
    have c1 : w5.cell? ⟨b, 1, none⟩ = some (.int .i64 f) := by rw [cell_of_row w5 b 1 _ _ _ HK5.out]; rfl
    have c2 : w5.cell? ⟨b, 2, none⟩ = some (.int .i64 N1) := by rw [cell_of_row w5 b 2 _ _ _ HK5.out]; rfl
    have y1 : w5.frozen? ⟨b, 1, none⟩ = false := frozen_of_row w5 b 1 _ _ HK5.out
    have y2 : w5.frozen? ⟨b, 2, none⟩ = false := frozen_of_row w5 b 2 _ _ HK5.out
    have U6 : Upd (fun q => q = b) w5 ((w5.setCell ⟨b, 1, none⟩ (.int .i64 m)).setCell ⟨b, 2, none⟩ (.int .i64 n)) := ((Upd.refl (fun q => q = b) w5).setCell (b := b) (i := 1) (.inl rfl) _).setCell (b := b) (i := 2) (.inl rfl) _
    have HU6 : Hid (Upd (fun k => k = b ∨ k = g) w ((w5.setCell ⟨b, 1, none⟩ (.int .i64 m)).setCell ⟨b, 2, none⟩ (.int .i64 n))) := (HU5.out.setCell (b := b) (i := 1) (.inl (.inl rfl)) _).setCell (b := b) (i := 2) (.inl (.inl rfl)) _
    have HK6 : Hid (((w5.setCell ⟨b, 1, none⟩ (.int .i64 m)).setCell ⟨b, 2, none⟩ (.int .i64 n)).heap[b]? = some (.cells #[.slice (some ⟨g, 0, none⟩) C C, .int .i64 m, .int .i64 n] 47 (0, 0))) := heap_setCell_same _ b 2 _ _ _ (heap_setCell_same w5 b 1 _ _ _ HK5.out)
    have HR6 := Lib.hid (Whole_upd HR5.out U6 (Ne.symm HA.out.ne))
    have D10 := D8.out.upd U6 (by have := hbw.out.1; show ¬ (q = b); omega)
    have D11 := D9.out.upd U6 (by have := hbw.out.1; have := HL.out; show ¬ (p = b); omega)
    have d0 := D10.c0
    have d1 := D10.c1
    have d2 := D10.c2
    have d3 := D10.c3
    have f0 := D10.frozen 0
    have f1 := D10.frozen 1
    have f2 := D10.frozen 2
    have f3 := D10.frozen 3
    have v0 := D11.c0
    have v1 := D11.c1
    have v2 := D11.c2
    have v3 := D11.c3
    have HE : Hid (Upd (fun k => k = b ∨ k = g) w ((((((w5.setCell ⟨b, 1, none⟩ (.int .i64 m)).setCell ⟨b, 2, none⟩ (.int .i64 n)).setCell ⟨q, 0, none⟩ (.int .i64 x.1)).setCell ⟨q, 1, none⟩ (.int .i64 x.2.1)).setCell ⟨q, 2, none⟩ (.int .i64 x.2.2.1)).setCell ⟨q, 3, none⟩ (.int .u32 x.2.2.2))) := upd_put4 HU6.out (b := q) (i := 0) (.inr (by rw [HQ.out]; exact Nat.le_refl _)) x
    have D12 : Hid (CBlk ((((((w5.setCell ⟨b, 1, none⟩ (.int .i64 m)).setCell ⟨b, 2, none⟩ (.int .i64 n)).setCell ⟨q, 0, none⟩ (.int .i64 x.1)).setCell ⟨q, 1, none⟩ (.int .i64 x.2.1)).setCell ⟨q, 2, none⟩ (.int .i64 x.2.2.1)).setCell ⟨q, 3, none⟩ (.int .u32 x.2.2.2)) q x) := D10.store x
    have U7 : Upd (fun k => k = q) ((w5.setCell ⟨b, 1, none⟩ (.int .i64 m)).setCell ⟨b, 2, none⟩ (.int .i64 n)) ((((((w5.setCell ⟨b, 1, none⟩ (.int .i64 m)).setCell ⟨b, 2, none⟩ (.int .i64 n)).setCell ⟨q, 0, none⟩ (.int .i64 x.1)).setCell ⟨q, 1, none⟩ (.int .i64 x.2.1)).setCell ⟨q, 2, none⟩ (.int .i64 x.2.2.1)).setCell ⟨q, 3, none⟩ (.int .u32 x.2.2.2)) := upd_put4 (Upd.refl (fun k => k = q) _) (b := q) (i := 0) (.inl rfl) x
    have HK7 := Lib.hid (U7.keep HK6.out (by have := hbw.out.1; show ¬ (b = q); omega))
    have HR7 := Lib.hid (Whole_upd HR6.out U7 (by have := hbw.out.2; show ¬ (g = q); omega))
    clear U6 U7 D8 D9 HR5 HU5 HK5 D10 D11 HU6 HK6 HR6
    go_wp2_with fail
    generalize (((((w5.setCell ⟨b, 1, none⟩ (.int .i64 m)).setCell ⟨b, 2, none⟩ (.int .i64 n)).setCell ⟨q, 0, none⟩ (.int .i64 x.1)).setCell ⟨q, 1, none⟩ (.int .i64 x.2.1)).setCell ⟨q, 2, none⟩ (.int .i64 x.2.2.1)).setCell ⟨q, 3, none⟩ (.int .u32 x.2.2.2) = w7 at *
    refine retC_at Try.results10 D12.out ⟨rfl, ⟨m, P.set k cl0, ⟨?_, HR7.out, by rw [List.length_set]; exact HA.out.len, HM.out, HA.out.most, by have := HA.out.fit; rw [List.length_cons] at this; omega, HT.out⟩⟩, HE.out⟩
    rw [HK7.out, HN.out]
end Go.Proofs.Ytkajajihjohenaa.Rng
