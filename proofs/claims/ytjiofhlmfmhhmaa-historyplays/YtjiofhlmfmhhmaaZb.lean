/- The contract of history's Push; of it at a nil history. -/
import Derived.Test.YtjiofhlmfmhhmaaZa
set_option maxRecDepth 100000
namespace Go.Proofs.Ytjiofhlmfmhhmaa.Hst
open Go.RowKit
open Go.Proofs.Ytjiofhlmfmhhmaa.Arn
set_option linter.unusedVariables false

theorem mod2 {a C : Nat} (h : a < 2 * C) : a % C = if a < C then a else a - C := by
  split
  · rename_i h1; exact Nat.mod_eq_of_lt h1
  · rename_i h1; rw [Nat.mod_eq_sub_mod (by omega), Nat.mod_eq_of_lt (by omega)]
theorem at_push {m C : Nat} {P R : List En} (x : En) (hm : m < C) (hP : P.length = C) (h : ∀ k y, R[k]? = some y → P[(m + C - 1 - k) % C]? = some y) :
    ∀ k y, ((x :: R).take C)[k]? = some y → (P.set m x)[((m + 1) % C + C - 1 - k) % C]? = some y := by
  intro k y hy
  have hk : k < C := by
    have := (List.getElem?_eq_some_iff.1 hy).1
    rw [List.length_take] at this
    omega
  rw [List.getElem?_take, if_pos hk] at hy
  have e1 : (m + 1) % C = if m + 1 < C then m + 1 else m + 1 - C := mod2 (by omega)
  match k with
  | 0 =>
    rw [List.getElem?_cons_zero] at hy
    cases hy
    have e2 : ((m + 1) % C + C - 1 - 0) % C = m := by
      rw [mod2 (by rw [e1]; split <;> omega), e1]
      split <;> split <;> omega
    rw [e2, List.getElem?_set, if_pos rfl, if_pos (by omega)]
  | k + 1 =>
    rw [List.getElem?_cons_succ] at hy
    have h1 := h k y hy
    have e3 : (m + C - 1 - k) % C = if m + C - 1 - k < C then m + C - 1 - k else m + C - 1 - k - C := mod2 (by omega)
    have e2 : ((m + 1) % C + C - 1 - (k + 1)) % C = (m + C - 1 - k) % C := by
      rw [mod2 (by rw [e1]; split <;> omega), e1, e3]
      split <;> split <;> split <;> omega
    rw [e2, List.getElem?_set, if_neg (by rw [e3]; split <;> omega)]
    exact h1
/-- The one that goes when x comes to R, with room for C. -/
def goneV (C : Nat) (R : List En) (x : En) : En := ((x :: R)[C]?).getD en0
theorem gone_none {C : Nat} {R : List En} (x : En) (h : R.length < C) : goneV C R x = en0 := by
  unfold goneV
  rw [List.getElem?_eq_none (by rw [List.length_cons]; omega)]
  rfl
theorem gone_some {C : Nat} {R : List En} (x z : En) (h : R[C]? = some z) : goneV (C + 1) R x = z := by
  unfold goneV
  rw [List.getElem?_cons_succ, h]
  rfl

set_option maxHeartbeats 4000000 in
theorem push_nil (w : World) (x : En) :
    Calls Try.prog 10 #[.pointer none, enV x] w fun e w' => e = .returned (.tuple #[enV x, .bool true]) ∧ Below w.heap.size w w' := by
  have HB := Lib.hid (((Below.refl w.heap.size w).alloc (Nat.le_refl _) (enO x)).alloc (((Below.refl w.heap.size w).alloc (Nat.le_refl _) (enO x)).size) (enO x))
  have D := Lib.hid (EBlk.new (w.alloc (enO x)) x)
  go_enter Try.func10, Try.ntmps10
  go_wp2_with fail
  exact retE_at Try.results10 (b := (w.alloc (enO x)).heap.size) D.out ⟨rfl, HB.out⟩ (by simp)
set_option maxHeartbeats 4000000 in
theorem push_zero (w : World) (b g m : Nat) (P : List En) (x : En) (hA : Hy w b g 0 m P []) :
    Calls Try.prog 10 #[.pointer (some ⟨b, 0, none⟩), enV x] w fun e w' => e = .returned (.tuple #[enV x, .bool true]) ∧ Below w.heap.size w w' := by
  have HB := Lib.hid (((Below.refl w.heap.size w).alloc (Nat.le_refl _) (enO x)).alloc (((Below.refl w.heap.size w).alloc (Nat.le_refl _) (enO x)).size) (enO x))
  have D := Lib.hid (EBlk.new (w.alloc (enO x)) x)
  have c0 := (hA.bel (((Below.refl w.heap.size w).alloc (Nat.le_refl _) (enO x)).alloc (((Below.refl w.heap.size w).alloc (Nat.le_refl _) (enO x)).size) (enO en0))).c0
  clear hA
  go_enter Try.func10, Try.ntmps10
  go_wp2_with fail
  exact retE_at Try.results10 (b := (w.alloc (enO x)).heap.size) D.out ⟨rfl, HB.out⟩ (by simp)

set_option maxHeartbeats 8000000 in
theorem push_pos (w : World) (b g C m : Nat) (P R : List En) (x : En) (hA : Hy w b g C m P R) (hC : 0 < C) :
    Calls Try.prog 10 #[.pointer (some ⟨b, 0, none⟩), enV x] w fun e w' => e = .returned (.tuple #[enV (goneV C R x), .bool (decide (C ≤ R.length))]) ∧ HIn w' b g C ((x :: R).take C) ∧ Upd (fun k => k = b ∨ k = g) w w' := by
  have hmost := hA.most
  have hfit := hA.fit
  have hm : m < C := by have := hA.nx; omega
  have hmP : m < P.length := by rw [hA.len]; exact hm
  obtain ⟨z, hz⟩ : ∃ z, P[m]? = some z := ⟨_, List.getElem?_eq_getElem hmP⟩
  have HZ := Lib.hid hz
  have HMP := Lib.hid hmP
  have hB := ((Below.refl w.heap.size w).alloc (Nat.le_refl _) (enO x)).alloc (((Below.refl w.heap.size w).alloc (Nat.le_refl _) (enO x)).size) (enO en0)
  have HB := Lib.hid hB
  have Dq := Lib.hid ((EBlk.new w x).more ((Below.refl (w.alloc (enO x)).heap.size (w.alloc (enO x))).alloc (Nat.le_refl _) (enO en0)))
  have Dr := Lib.hid (EBlk.new (w.alloc (enO x)) en0)
  rw [show (w.alloc (enO x)).heap.size = w.heap.size + 1 from by simp] at Dr
  have A2 := Lib.hid (hA.bel hB)
  have c0 := (hA.bel hB).c0
  have HL := Lib.hid (And.intro hA.lt.1 hA.lt.2)
  have hat := Lib.hid (at_push x hm hA.len hA.at_)
  have qz : ¬ (C = 0) := by omega
  have HA := Lib.hid hA
  clear hA hB hz hmP
  go_enter Try.func10, Try.ntmps10
  go_wp2_with fail
  clear c0
  obtain ⟨q, hq⟩ : ∃ q, w.heap.size = q := ⟨_, rfl⟩
  generalize (w.alloc (.cells #[.int .u16 x.sq, .int .i64 x.sl, .int .u32 x.gn, .int .u16 x.ps, .int .u32 x.pt, .int .u32 x.pc, .int .u16 x.pf] 34 (0, 0))).alloc (.cells #[.int .u16 0, .int .i64 0, .int .u32 0, .int .u16 0, .int .u32 0, .int .u32 0, .int .u16 0] 34 (0, 0)) = w2 at *
  have HQ : Hid (b < q ∧ g < q ∧ w.heap.size = q) := ⟨by have := HL.out.1; omega, by have := HL.out.2; omega, hq⟩
  rw [hq] at Dq Dr ⊢
  obtain ⟨r, hr⟩ : ∃ r, q + 1 = r := ⟨_, rfl⟩
  rw [hr] at Dr ⊢
  have HQR : Hid (q < r) := by show q < r; omega
  clear hq hr
  have f0 : ∀ W, Below w2.heap.size w2 W → W.cell? ⟨b, 0, none⟩ = some (.slice (some ⟨g, 0, none⟩) C C) := fun W h => (A2.out.bel h).c0
  have f1 : ∀ W, Below w2.heap.size w2 W → W.cell? ⟨b, 1, none⟩ = some (.int .i64 m) := fun W h => (A2.out.bel h).c1
  have d0 : ∀ W, Below w2.heap.size w2 W → W.cell? ⟨g, m * 7, none⟩ = some (.int .u16 z.sq) := fun W h => Whole_cell (L := enL) (j := 0) ((A2.out.bel h).row) HZ.out rfl; have d1 : ∀ W, Below w2.heap.size w2 W → W.cell? ⟨g, m * 7 + 1, none⟩ = some (.int .i64 z.sl) := fun W h => Whole_cell (L := enL) (j := 1) ((A2.out.bel h).row) HZ.out rfl; have d2 : ∀ W, Below w2.heap.size w2 W → W.cell? ⟨g, m * 7 + 2, none⟩ = some (.int .u32 z.gn) := fun W h => Whole_cell (L := enL) (j := 2) ((A2.out.bel h).row) HZ.out rfl; have d3 : ∀ W, Below w2.heap.size w2 W → W.cell? ⟨g, m * 7 + 3, none⟩ = some (.int .u16 z.ps) := fun W h => Whole_cell (L := enL) (j := 3) ((A2.out.bel h).row) HZ.out rfl; have d4 : ∀ W, Below w2.heap.size w2 W → W.cell? ⟨g, m * 7 + 4, none⟩ = some (.int .u32 z.pt) := fun W h => Whole_cell (L := enL) (j := 4) ((A2.out.bel h).row) HZ.out rfl; have d5 : ∀ W, Below w2.heap.size w2 W → W.cell? ⟨g, m * 7 + 5, none⟩ = some (.int .u32 z.pc) := fun W h => Whole_cell (L := enL) (j := 5) ((A2.out.bel h).row) HZ.out rfl; have d6 : ∀ W, Below w2.heap.size w2 W → W.cell? ⟨g, m * 7 + 6, none⟩ = some (.int .u16 z.pf) := fun W h => Whole_cell (L := enL) (j := 6) ((A2.out.bel h).row) HZ.out rfl
  have hS : Below w2.heap.size w2 w2.drew := (Below.refl _ _).drew
  refine region_seq (Below w2.heap.size w2) [(0, false), (1, false), (2, false), (3, false), (4, false), (5, false), (6, false), (7, false), (8, false), (9, false), (10, true), (11, true)] (by kernel_rfl) (by kernel_rfl) rfl (by kernel_rfl) ?_
  iterate 10 (refine seq_read (v := _) rfl (fun _ _ _ h => h) hS (Or.inl ⟨by rfl, fun W hW => by go_simp <;> with_reducible rfl⟩) ?_; simp only [Act.put, List.setIfInBounds_toArray, List.set_cons_zero, List.set_cons_succ])
  refine seq_do rfl (fun K hK => ?_)
  go_simp
  refine hK.out _ _ _ (fun W h => h) (hS.alloc hS.size (enO en0)) ?_
  clear hK K
  refine seq_do rfl (fun K hK => ?_)
  go_simp
  have hS3 : Below w2.heap.size w2 (w2.alloc (enO z)).drew := ((Below.refl w2.heap.size w2).alloc (Nat.le_refl _) (enO z)).drew
  refine hK.out _ _ _ (fun W h => h) hS3 ?_
  clear hK K hS f0 f1 d0 d1 d2 d3 d4 d5 d6
  refine seq_end ?_
  go_wp2_with fail
  have Ds : Hid (EBlk (w2.alloc (enO z)).drew w2.heap.size z) := EBlk.new w2 z
  have A3 := Lib.hid (A2.out.bel hS3)
  have Dq3 := Lib.hid (Dq.out.more hS3)
  have Dr3 := Lib.hid (Dr.out.more hS3)
  have H3 := Lib.hid (HB.out.trans (hS3.mono HB.out.size))
  have HRS : Hid (r < w2.heap.size) := Dr.out.lt
  obtain ⟨s, hs⟩ : ∃ s, w2.heap.size = s := ⟨_, rfl⟩
  rw [hs] at Ds HRS ⊢
  generalize (w2.alloc (.cells #[.int .u16 z.sq, .int .i64 z.sl, .int .u32 z.gn, .int .u16 z.ps, .int .u32 z.pt, .int .u32 z.pc, .int .u16 z.pf] 34 (0, 0))).drew = w3 at *
  clear hS3 A2 Dq Dr HB hs
  clear w2
  obtain ⟨wd, hwd⟩ : ∃ wd, w3.drew = wd := ⟨_, rfl⟩
  have hS : Below w3.heap.size w3 wd := by rw [← hwd]; exact (Below.refl _ _).drew
  have f0 : ∀ W, Below w3.heap.size w3 W → W.cell? ⟨b, 0, none⟩ = some (.slice (some ⟨g, 0, none⟩) C C) := fun W h => (A3.out.bel h).c0
  have f1 : ∀ W, Below w3.heap.size w3 W → W.cell? ⟨b, 1, none⟩ = some (.int .i64 m) := fun W h => (A3.out.bel h).c1
  have d0 : ∀ W, Below w3.heap.size w3 W → W.cell? ⟨q, 0, none⟩ = some (.int .u16 x.sq) := fun W h => (Dq3.out.more h).c0; have d1 : ∀ W, Below w3.heap.size w3 W → W.cell? ⟨q, 1, none⟩ = some (.int .i64 x.sl) := fun W h => (Dq3.out.more h).c1; have d2 : ∀ W, Below w3.heap.size w3 W → W.cell? ⟨q, 2, none⟩ = some (.int .u32 x.gn) := fun W h => (Dq3.out.more h).c2; have d3 : ∀ W, Below w3.heap.size w3 W → W.cell? ⟨q, 3, none⟩ = some (.int .u16 x.ps) := fun W h => (Dq3.out.more h).c3; have d4 : ∀ W, Below w3.heap.size w3 W → W.cell? ⟨q, 4, none⟩ = some (.int .u32 x.pt) := fun W h => (Dq3.out.more h).c4; have d5 : ∀ W, Below w3.heap.size w3 W → W.cell? ⟨q, 5, none⟩ = some (.int .u32 x.pc) := fun W h => (Dq3.out.more h).c5; have d6 : ∀ W, Below w3.heap.size w3 W → W.cell? ⟨q, 6, none⟩ = some (.int .u16 x.pf) := fun W h => (Dq3.out.more h).c6
  refine region_seqX (Below w3.heap.size w3) 10 [(0, false), (1, false), (2, false), (3, false), (4, false), (5, false), (6, false), (7, false), (8, false), (9, false), (10, true)] (by kernel_rfl) (by kernel_rfl) rfl (by kernel_rfl) ?_
  rw [hwd]
  iterate 10 (refine seqX_read (v := _) rfl (fun _ _ _ h => h) hS (Or.inl ⟨by rfl, fun W hW => by go_simp <;> with_reducible rfl⟩) ?_; simp only [Act.put, List.setIfInBounds_toArray, List.set_cons_zero, List.set_cons_succ])
  have A4 := A3.out.bel hS
  have e0 : wd.cell? ⟨g, m * 7, none⟩ = some (.int .u16 z.sq) := Whole_cell (L := enL) (j := 0) A4.row HZ.out rfl; have e1 : wd.cell? ⟨g, m * 7 + 1, none⟩ = some (.int .i64 z.sl) := Whole_cell (L := enL) (j := 1) A4.row HZ.out rfl; have e2 : wd.cell? ⟨g, m * 7 + 2, none⟩ = some (.int .u32 z.gn) := Whole_cell (L := enL) (j := 2) A4.row HZ.out rfl; have e3 : wd.cell? ⟨g, m * 7 + 3, none⟩ = some (.int .u16 z.ps) := Whole_cell (L := enL) (j := 3) A4.row HZ.out rfl; have e4 : wd.cell? ⟨g, m * 7 + 4, none⟩ = some (.int .u32 z.pt) := Whole_cell (L := enL) (j := 4) A4.row HZ.out rfl; have e5 : wd.cell? ⟨g, m * 7 + 5, none⟩ = some (.int .u32 z.pc) := Whole_cell (L := enL) (j := 5) A4.row HZ.out rfl; have e6 : wd.cell? ⟨g, m * 7 + 6, none⟩ = some (.int .u16 z.pf) := Whole_cell (L := enL) (j := 6) A4.row HZ.out rfl
  have y0 := Whole_frozen A4.row (m * 7); have y1 := Whole_frozen A4.row (m * 7 + 1); have y2 := Whole_frozen A4.row (m * 7 + 2); have y3 := Whole_frozen A4.row (m * 7 + 3); have y4 := Whole_frozen A4.row (m * 7 + 4); have y5 := Whole_frozen A4.row (m * 7 + 5); have y6 := Whole_frozen A4.row (m * 7 + 6)
  have HR : Hid (Whole enL (((((((wd.setCell ⟨g, m * 7, none⟩ (.int .u16 x.sq)).setCell ⟨g, m * 7 + 1, none⟩ (.int .i64 x.sl)).setCell ⟨g, m * 7 + 2, none⟩ (.int .u32 x.gn)).setCell ⟨g, m * 7 + 3, none⟩ (.int .u16 x.ps)).setCell ⟨g, m * 7 + 4, none⟩ (.int .u32 x.pt)).setCell ⟨g, m * 7 + 5, none⟩ (.int .u32 x.pc)).setCell ⟨g, m * 7 + 6, none⟩ (.int .u16 x.pf)) g (P.set m x)) := Whole_put A4.row HMP.out x
  have HU : Hid (Upd (fun k => k = b ∨ k = g) w (((((((wd.setCell ⟨g, m * 7, none⟩ (.int .u16 x.sq)).setCell ⟨g, m * 7 + 1, none⟩ (.int .i64 x.sl)).setCell ⟨g, m * 7 + 2, none⟩ (.int .u32 x.gn)).setCell ⟨g, m * 7 + 3, none⟩ (.int .u16 x.ps)).setCell ⟨g, m * 7 + 4, none⟩ (.int .u32 x.pt)).setCell ⟨g, m * 7 + 5, none⟩ (.int .u32 x.pc)).setCell ⟨g, m * 7 + 6, none⟩ (.int .u16 x.pf))) := upd_putE (Upd.of (S := fun k => k = b ∨ k = g) (H3.out.trans (hS.mono H3.out.size))) (b := g) (i := m * 7) (.inl (.inr rfl)) x
  have U4 : Upd (fun k => k = g) wd (((((((wd.setCell ⟨g, m * 7, none⟩ (.int .u16 x.sq)).setCell ⟨g, m * 7 + 1, none⟩ (.int .i64 x.sl)).setCell ⟨g, m * 7 + 2, none⟩ (.int .u32 x.gn)).setCell ⟨g, m * 7 + 3, none⟩ (.int .u16 x.ps)).setCell ⟨g, m * 7 + 4, none⟩ (.int .u32 x.pt)).setCell ⟨g, m * 7 + 5, none⟩ (.int .u32 x.pc)).setCell ⟨g, m * 7 + 6, none⟩ (.int .u16 x.pf)) := upd_putE (Upd.refl (fun k => k = g) wd) (b := g) (i := m * 7) (.inl rfl) x
  have HK := Lib.hid (U4.keep A4.blk A4.ne)
  have Dr4 := Lib.hid ((Dr3.out.more hS).upd U4 (by have := HQ.out; have := HQR.out; show ¬ r = g; omega))
  have Ds4 := Lib.hid ((Ds.out.more hS).upd U4 (by have := HQ.out; have := HQR.out; have := HRS.out; show ¬ s = g; omega))
  have HN : Hid (b ≠ g) := A4.ne
  clear A4 U4 f0 f1 d0 d1 d2 d3 d4 d5 d6 hS
  refine seqX_last rfl (fun K hK => ?_)
  go_simp
  refine hK.out _ _ ?_
  clear hK K
  generalize ((((((wd.setCell ⟨g, m * 7, none⟩ (.int .u16 x.sq)).setCell ⟨g, m * 7 + 1, none⟩ (.int .i64 x.sl)).setCell ⟨g, m * 7 + 2, none⟩ (.int .u32 x.gn)).setCell ⟨g, m * 7 + 3, none⟩ (.int .u16 x.ps)).setCell ⟨g, m * 7 + 4, none⟩ (.int .u32 x.pt)).setCell ⟨g, m * 7 + 5, none⟩ (.int .u32 x.pc)).setCell ⟨g, m * 7 + 6, none⟩ (.int .u16 x.pf) = w4 at *
  clear e0 e1 e2 e3 e4 e5 e6 y0 y1 y2 y3 y4 y5 y6 A3 Dq3 Dr3 Ds H3
  clear hwd
  clear wd w3
  go_wp2_with fail
  obtain ⟨n, hn⟩ : ∃ n, R.length = n := ⟨_, rfl⟩
  rw [hn] at HK hfit
  have HNn := Lib.hid hn
  clear hn
  obtain ⟨M, hM⟩ : ∃ M, (m + 1) % C = M := ⟨_, rfl⟩
  rw [hM] at hat
  have HMC : Hid (M < C) := by rw [← hM]; exact Nat.mod_lt _ hC
  have qw : IntKind.i64.wrap ((m : Int) + 1) = (m : Int) + 1 := IntWalk.i64_in _ (by omega)
  have qr : ((m : Int) + 1).tmod (C : Int) = (M : Int) := by rw [Int.tmod_eq_emod_of_nonneg (by omega), ← hM]; rfl
  have qc : IntKind.i64.wrap (M : Int) = (M : Int) := IntWalk.i64_in _ (by have := HMC.out; omega)
  clear hM
  obtain ⟨wd, hwd⟩ : ∃ wd, w4.drew = wd := ⟨_, rfl⟩
  have hS : Below w4.heap.size w4 wd := by rw [← hwd]; exact (Below.refl _ _).drew
  have KB : ∀ W, Below w4.heap.size w4 W → W.heap[b]? = some (.cells #[.slice (some ⟨g, 0, none⟩) C C, .int .i64 m, .int .i64 n] 49 (0, 0)) := fun W hW => (hW.block b (lt_of_some HK.out)).trans HK.out
  have f0 : ∀ W, Below w4.heap.size w4 W → W.cell? ⟨b, 0, none⟩ = some (.slice (some ⟨g, 0, none⟩) C C) := fun W h => by rw [cell_of_row W b 0 _ _ _ (KB W h)]; rfl
  have f1 : ∀ W, Below w4.heap.size w4 W → W.cell? ⟨b, 1, none⟩ = some (.int .i64 m) := fun W h => by rw [cell_of_row W b 1 _ _ _ (KB W h)]; rfl
  have HKd := Lib.hid (KB _ hS)
  clear KB
  refine region_seqX (Below w4.heap.size w4) 14 [(0, false), (1, false), (2, false), (3, false), (4, false), (5, false), (6, false), (7, false), (8, false), (9, false), (10, false), (11, false), (12, false), (13, false), (14, true)] (by kernel_rfl) (by kernel_rfl) rfl (by kernel_rfl) ?_
  rw [hwd]
  iterate 14 (refine seqX_read (v := _) rfl (fun _ _ _ h => h) hS (Or.inl ⟨by rfl, fun W hW => by go_simp <;> with_reducible rfl⟩) ?_; simp only [Act.put, List.setIfInBounds_toArray, List.set_cons_zero, List.set_cons_succ])
  have e1 : wd.cell? ⟨b, 1, none⟩ = some (.int .i64 m) := f1 _ hS
  have y1 : wd.frozen? ⟨b, 1, none⟩ = false := frozen_of_row wd b 1 _ _ HKd.out
  have U5 : Upd (fun k => k = b) wd (wd.setCell ⟨b, 1, none⟩ (.int .i64 M)) := (Upd.refl (fun k => k = b) wd).setCell (b := b) (i := 1) (.inl rfl) _
  have HU5 := Lib.hid ((HU.out.trans (.of (hS.mono (Nat.le_refl _)))).setCell (b := b) (i := 1) (.inl (.inl rfl)) (.int .i64 M))
  have HK5 : Hid ((wd.setCell ⟨b, 1, none⟩ (.int .i64 M)).heap[b]? = some (.cells #[.slice (some ⟨g, 0, none⟩) C C, .int .i64 M, .int .i64 n] 49 (0, 0))) := heap_setCell_same wd b 1 _ _ _ HKd.out
  have HR5 := Lib.hid (Whole_upd (Whole_bel HR.out hS) U5 (Ne.symm HN.out))
  have Dr5 := Lib.hid ((Dr4.out.more hS).upd U5 (by have := HQ.out; have := HQR.out; show ¬ r = b; omega))
  have Ds5 := Lib.hid ((Ds4.out.more hS).upd U5 (by have := HQ.out; have := HQR.out; have := HRS.out; show ¬ s = b; omega))
  clear f0 f1 U5
  refine seqX_last rfl (fun K hK => ?_)
  go_simp
  refine hK.out _ _ ?_
  clear hK K
  generalize wd.setCell ⟨b, 1, none⟩ (.int .i64 M) = w5 at *
  clear e1 y1 hS HKd HR HU HK Dr4 Ds4 hwd
  clear wd w4 
  go_wp2_with fail
  obtain ⟨w6, hw6⟩ : ∃ w6, w5.drew = w6 := ⟨_, rfl⟩
  have hS : Below w5.heap.size w5 w6 := by rw [← hw6]; exact (Below.refl _ _).drew
  have KB : ∀ W, Below w5.heap.size w5 W → W.heap[b]? = some (.cells #[.slice (some ⟨g, 0, none⟩) C C, .int .i64 M, .int .i64 n] 49 (0, 0)) := fun W hW => (hW.block b (lt_of_some HK5.out)).trans HK5.out
  have f0 : ∀ W, Below w5.heap.size w5 W → W.cell? ⟨b, 0, none⟩ = some (.slice (some ⟨g, 0, none⟩) C C) := fun W h => by rw [cell_of_row W b 0 _ _ _ (KB W h)]; rfl
  have f2 : ∀ W, Below w5.heap.size w5 W → W.cell? ⟨b, 2, none⟩ = some (.int .i64 n) := fun W h => by rw [cell_of_row W b 2 _ _ _ (KB W h)]; rfl
  have HK6 := Lib.hid (KB _ hS)
  have HR6 := Lib.hid (Whole_bel HR5.out hS)
  have HU6 := Lib.hid (HU5.out.trans (.of hS))
  have Dr6 := Lib.hid (Dr5.out.more hS)
  have Ds6 := Lib.hid (Ds5.out.more hS)
  clear KB
  refine region_seq (Below w5.heap.size w5) [(0, false), (1, false), (2, false), (3, false), (4, false), (5, false), (6, false), (7, false), (8, false), (9, false)] (by kernel_rfl) (by kernel_rfl) rfl (by kernel_rfl) ?_
  rw [hw6]
  iterate 10 (refine seq_read (v := _) rfl (fun _ _ _ h => h) hS (Or.inl ⟨by rfl, fun W hW => by go_simp <;> with_reducible rfl⟩) ?_; simp only [Act.put, List.setIfInBounds_toArray, List.set_cons_zero, List.set_cons_succ])
  refine seq_end ?_
  clear f0 f2 hS HK5 HR5 HU5 Dr5 Ds5 hw6
  clear w5 
  by_cases h : n < C
  · have hd : decide (n < C) = true := by simp; exact h
    have qn : IntKind.i64.wrap ((n : Int) + 1) = (n : Int) + 1 := IntWalk.i64_in _ (by omega)
    have c2 : w6.cell? ⟨b, 2, none⟩ = some (.int .i64 n) := by rw [cell_of_row w6 b 2 _ _ _ HK6.out]; rfl
    have y2 : w6.frozen? ⟨b, 2, none⟩ = false := frozen_of_row w6 b 2 _ _ HK6.out
    obtain ⟨w7, hw7⟩ : ∃ w7, w6.setCell ⟨b, 2, none⟩ (.int .i64 ((n : Int) + 1)) = w7 := ⟨_, rfl⟩
    have U7 : Upd (fun k => k = b) w6 w7 := by rw [← hw7]; exact (Upd.refl (fun k => k = b) w6).setCell (b := b) (i := 2) (.inl rfl) _
    have HK7 : w7.heap[b]? = some (.cells #[.slice (some ⟨g, 0, none⟩) C C, .int .i64 M, .int .i64 ((n : Int) + 1)] 49 (0, 0)) := by rw [← hw7]; exact heap_setCell_same w6 b 2 _ _ _ HK6.out
    have HU7 : Upd (fun k => k = b ∨ k = g) w w7 := by rw [← hw7]; exact HU6.out.setCell (b := b) (i := 2) (.inl (.inl rfl)) _
    have HR7 := Whole_upd HR6.out U7 (Ne.symm HN.out)
    have D7 := Dr6.out.upd U7 (by have := HQ.out; have := HQR.out; show ¬ r = b; omega)
    obtain ⟨w8, hw8⟩ : ∃ w8, ((((((w7.setCell ⟨r, 0, none⟩ (.int .u16 0)).setCell ⟨r, 1, none⟩ (.int .i64 0)).setCell ⟨r, 2, none⟩ (.int .u32 0)).setCell ⟨r, 3, none⟩ (.int .u16 0)).setCell ⟨r, 4, none⟩ (.int .u32 0)).setCell ⟨r, 5, none⟩ (.int .u32 0)).setCell ⟨r, 6, none⟩ (.int .u16 0) = w8 := ⟨_, rfl⟩
    have V : Upd (fun k => k = r) w7 w8 := by rw [← hw8]; exact upd_putE (Upd.refl (fun k => k = r) _) (b := r) (i := 0) (.inl rfl) en0
    have HK8 := Lib.hid (V.keep HK7 (by have := HQ.out; have := HQR.out; show ¬ b = r; omega))
    have HR8 := Lib.hid (Whole_upd HR7 V (by have := HQ.out; have := HQR.out; show ¬ g = r; omega))
    have D8 : Hid (EBlk w8 r en0) := by rw [← hw8]; exact D7.store en0
    have HU8 : Hid (Upd (fun k => k = b ∨ k = g) w w8) := by rw [← hw8]; exact upd_putE HU7 (b := r) (i := 0) (.inr (by have := HQ.out; have := HQR.out; omega)) en0
    have d0 := D7.c0; have d1 := D7.c1; have d2 := D7.c2; have d3 := D7.c3; have d4 := D7.c4; have d5 := D7.c5; have d6 := D7.c6
    have f0 := D7.frozen 0; have f1 := D7.frozen 1; have f2 := D7.frozen 2; have f3 := D7.frozen 3; have f4 := D7.frozen 4; have f5 := D7.frozen 5; have f6 := D7.frozen 6
    clear U7 V HK7 HR7 D7 HU7 HK6 HR6 HU6 Dr6 Ds6
    go_wp2_with fail
    refine retE_at Try.results10 D8.out ?_
    have hlen : ((x :: R).take C).length = n + 1 := by rw [List.length_take, List.length_cons, HNn.out]; omega
    rw [gone_none x (by rw [HNn.out]; exact h), HNn.out, show decide (C ≤ n) = false from by simp; omega]
    refine ⟨rfl, ⟨M, P.set m x, ⟨?_, HR8.out, by rw [List.length_set]; exact HA.out.len, .inl HMC.out, hmost, by rw [hlen]; omega, hat.out⟩⟩, HU8.out⟩
    rw [hlen, HK8.out]
    rfl
  · have hd : decide (n < C) = false := by simp; omega
    have D6 := Dr6.out
    obtain ⟨w8, hw8⟩ : ∃ w8, ((((((w6.setCell ⟨r, 0, none⟩ (.int .u16 z.sq)).setCell ⟨r, 1, none⟩ (.int .i64 z.sl)).setCell ⟨r, 2, none⟩ (.int .u32 z.gn)).setCell ⟨r, 3, none⟩ (.int .u16 z.ps)).setCell ⟨r, 4, none⟩ (.int .u32 z.pt)).setCell ⟨r, 5, none⟩ (.int .u32 z.pc)).setCell ⟨r, 6, none⟩ (.int .u16 z.pf) = w8 := ⟨_, rfl⟩
    have V : Upd (fun k => k = r) w6 w8 := by rw [← hw8]; exact upd_putE (Upd.refl (fun k => k = r) _) (b := r) (i := 0) (.inl rfl) z
    have HK8 := Lib.hid (V.keep HK6.out (by have := HQ.out; have := HQR.out; show ¬ b = r; omega))
    have HR8 := Lib.hid (Whole_upd HR6.out V (by have := HQ.out; have := HQR.out; show ¬ g = r; omega))
    have D8 : Hid (EBlk w8 r z) := by rw [← hw8]; exact D6.store z
    have HU8 : Hid (Upd (fun k => k = b ∨ k = g) w w8) := by rw [← hw8]; exact upd_putE HU6.out (b := r) (i := 0) (.inr (by have := HQ.out; have := HQR.out; omega)) z
    have d0 := D6.c0; have d1 := D6.c1; have d2 := D6.c2; have d3 := D6.c3; have d4 := D6.c4; have d5 := D6.c5; have d6 := D6.c6
    have f0 := D6.frozen 0; have f1 := D6.frozen 1; have f2 := D6.frozen 2; have f3 := D6.frozen 3; have f4 := D6.frozen 4; have f5 := D6.frozen 5; have f6 := D6.frozen 6
    have e0 := Ds6.out.c0; have e1 := Ds6.out.c1; have e2 := Ds6.out.c2; have e3 := Ds6.out.c3; have e4 := Ds6.out.c4; have e5 := Ds6.out.c5; have e6 := Ds6.out.c6
    clear V HK6 HR6 HU6 Dr6 Ds6 D6
    go_wp2_with fail
    refine retE_at Try.results10 D8.out ?_
    have hnC : n = C := by omega
    have hlen : ((x :: R).take C).length = n := by rw [List.length_take, List.length_cons, HNn.out]; omega
    have hgone : goneV C R x = z := by
      obtain ⟨c, rfl⟩ : ∃ c, C = c + 1 := ⟨C - 1, by omega⟩
      refine gone_some x z ?_
      have hc : c < R.length := by rw [HNn.out]; omega
      have h1 := HA.out.at_ c R[c] (List.getElem?_eq_getElem hc)
      rw [show (m + (c + 1) - 1 - c) % (c + 1) = m from by rw [show m + (c + 1) - 1 - c = m from by omega]; exact Nat.mod_eq_of_lt hm, HZ.out] at h1
      rw [List.getElem?_eq_getElem hc]
      exact h1.symm
    rw [hgone, HNn.out, show decide (C ≤ n) = true from by simp; omega]
    refine ⟨rfl, ⟨M, P.set m x, ⟨?_, HR8.out, by rw [List.length_set]; exact HA.out.len, .inl HMC.out, hmost, by rw [hlen]; omega, hat.out⟩⟩, HU8.out⟩
    rw [hlen, HK8.out]
theorem push_any (w : World) (b g C : Nat) (R : List En) (x : En) (hA : HIn w b g C R) :
    Calls Try.prog 10 #[.pointer (some ⟨b, 0, none⟩), enV x] w fun e w' => e = .returned (.tuple #[enV (goneV C R x), .bool (decide (C ≤ R.length))]) ∧ HIn w' b g C ((x :: R).take C) ∧ Upd (fun k => k = b ∨ k = g) w w' := by
  obtain ⟨m, P, hA⟩ := hA
  rcases Nat.eq_zero_or_pos C with rfl | hC
  · have hR : R = [] := List.eq_nil_of_length_eq_zero (by have := hA.fit; omega)
    subst hR
    refine (push_zero w b g m P x hA).mono ?_
    rintro e w' ⟨rfl, hb⟩
    exact ⟨rfl, ⟨m, P, hA.bel hb⟩, .of hb⟩
  · exact push_pos w b g C m P R x hA hC
end Go.Proofs.Ytjiofhlmfmhhmaa.Hst
