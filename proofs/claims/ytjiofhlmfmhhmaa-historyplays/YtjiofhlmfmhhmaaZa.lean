/- Entries of seven cells as records; the history at its block; the contracts of its New, kept, back, Push. -/
import Derived.Test.YtjiofhlmfmhhmaaEd
import Derived.Test.YtjiofhlmfmhhmaaSqx
import Derived.Laws.MakeOwn
import Derived.Lib.SliceRun
set_option maxRecDepth 100000
namespace Go.Proofs.Ytjiofhlmfmhhmaa.Hst
open Go.RowKit
open Go.Proofs.Ytjiofhlmfmhhmaa.Arn
set_option linter.unusedVariables false

/-- An entry: number, the handle's slot and generation, the patch's number, time, source, frame. -/
structure En where
  sq : Int
  sl : Int
  gn : Int
  ps : Int
  pt : Int
  pc : Int
  pf : Int
abbrev enV (x : En) : Value := .agg #[.int .u16 x.sq, .int .i64 x.sl, .int .u32 x.gn, .int .u16 x.ps, .int .u32 x.pt, .int .u32 x.pc, .int .u16 x.pf]
abbrev enO (x : En) : Obj := .cells #[.int .u16 x.sq, .int .i64 x.sl, .int .u32 x.gn, .int .u16 x.ps, .int .u32 x.pt, .int .u32 x.pc, .int .u16 x.pf] 34 (0, 0)
abbrev en0 : En := ⟨0, 0, 0, 0, 0, 0, 0⟩
def enL : Lay En := ⟨34, 7, fun x => [.int .u16 x.sq, .int .i64 x.sl, .int .u32 x.gn, .int .u16 x.ps, .int .u32 x.pt, .int .u32 x.pc, .int .u16 x.pf], fun _ => rfl, fun x v hv => by
  simp only [List.mem_cons, List.not_mem_nil, or_false] at hv
  rcases hv with rfl | rfl | rfl | rfl | rfl | rfl | rfl <;> rfl, by decide⟩
theorem info_en : (Try.prog.info? 34).map (fun i => (i.zero, i.size, i.bytes)) = some (some (enV en0), 7, 40) := by kernel_rfl

section
variable {α : Type} {L : Lay α} {w w' : World} {g k j : Nat} {xs : List α} {x y : α}
theorem Whole_lt (h : Whole L w g xs) : g < w.heap.size := lt_of_some h
theorem Whole_cell (h : Whole L w g xs) (hx : xs[k]? = some x) {v : Value} (hv : (L.cel x)[j]? = some v) : w.cell? ⟨g, k * L.s + j, none⟩ = some v := by
  rw [cell_of_row w g _ _ L.e (0, 0) h, List.getElem?_toArray]
  exact flat_get L xs k j x v hx hv
theorem Whole_frozen (h : Whole L w g xs) (i : Nat) : w.frozen? ⟨g, i, none⟩ = false := frozen_of_row w g i _ _ h
theorem Whole_set (h : Whole L w g xs) (hx : xs[k]? = some x) (u : Value) (hj : j < L.s) (hc : (L.cel x).set j u = L.cel y) : Whole L (w.setCell ⟨g, k * L.s + j, none⟩ u) g (xs.set k y) := by
  have := heap_setCell_same w g (k * L.s + j) _ _ u h
  unfold Whole
  rw [this, List.setIfInBounds_toArray]
  have hf := flat_set L [] xs k j x y u hx hj hc
  simp only [List.append_nil] at hf
  rw [← hf]
theorem Whole_upd {S : Nat → Prop} (h : Whole L w g xs) (hu : Upd S w w') (hS : ¬ S g) : Whole L w' g xs := hu.keep h hS
theorem Whole_bel (h : Whole L w g xs) (hb : Below w.heap.size w w') : Whole L w' g xs := (hb.block g (lt_of_some h)).trans h
end
/-- An entry at block b. -/
def EBlk (w : World) (b : Nat) (x : En) : Prop := w.heap[b]? = some (enO x)
section
variable {w w' : World} {b : Nat} {x : En}
theorem EBlk.c0 (h : EBlk w b x) : w.cell? ⟨b, 0, none⟩ = some (.int .u16 x.sq) := by rw [cell_of_row w b 0 _ _ _ h]; rfl
theorem EBlk.c1 (h : EBlk w b x) : w.cell? ⟨b, 1, none⟩ = some (.int .i64 x.sl) := by rw [cell_of_row w b 1 _ _ _ h]; rfl
theorem EBlk.c2 (h : EBlk w b x) : w.cell? ⟨b, 2, none⟩ = some (.int .u32 x.gn) := by rw [cell_of_row w b 2 _ _ _ h]; rfl
theorem EBlk.c3 (h : EBlk w b x) : w.cell? ⟨b, 3, none⟩ = some (.int .u16 x.ps) := by rw [cell_of_row w b 3 _ _ _ h]; rfl
theorem EBlk.c4 (h : EBlk w b x) : w.cell? ⟨b, 4, none⟩ = some (.int .u32 x.pt) := by rw [cell_of_row w b 4 _ _ _ h]; rfl
theorem EBlk.c5 (h : EBlk w b x) : w.cell? ⟨b, 5, none⟩ = some (.int .u32 x.pc) := by rw [cell_of_row w b 5 _ _ _ h]; rfl
theorem EBlk.c6 (h : EBlk w b x) : w.cell? ⟨b, 6, none⟩ = some (.int .u16 x.pf) := by rw [cell_of_row w b 6 _ _ _ h]; rfl
theorem EBlk.frozen (h : EBlk w b x) (i : Nat) : w.frozen? ⟨b, i, none⟩ = false := frozen_of_row w b i _ _ h
theorem EBlk.lt (h : EBlk w b x) : b < w.heap.size := lt_of_some h
theorem EBlk.new (w : World) (x : En) : EBlk (w.alloc (enO x)) w.heap.size x := heap_alloc_new w _
theorem EBlk.bel {B : Nat} (h : EBlk w b x) (hb : Below B w w') (hB : b < B) : EBlk w' b x := (hb.block b hB).trans h
theorem EBlk.upd {S : Nat → Prop} (h : EBlk w b x) (hu : Upd S w w') (hS : ¬ S b) : EBlk w' b x := hu.keep h hS
theorem EBlk.more (h : EBlk w b x) (hb : Below w.heap.size w w') : EBlk w' b x := h.bel hb h.lt
/-- A whole store of an entry. -/
abbrev putE (w : World) (b i : Nat) (y : En) : World := ((((((w.setCell ⟨b, i, none⟩ (.int .u16 y.sq)).setCell ⟨b, i + 1, none⟩ (.int .i64 y.sl)).setCell ⟨b, i + 2, none⟩ (.int .u32 y.gn)).setCell ⟨b, i + 3, none⟩ (.int .u16 y.ps)).setCell ⟨b, i + 4, none⟩ (.int .u32 y.pt)).setCell ⟨b, i + 5, none⟩ (.int .u32 y.pc)).setCell ⟨b, i + 6, none⟩ (.int .u16 y.pf)
theorem EBlk.store (h : EBlk w b x) (y : En) : EBlk (putE w b 0 y) b y := by
  unfold EBlk enO at h ⊢
  have h0 := heap_setCell_same w b 0 _ _ (.int .u16 y.sq) h
  simp only [List.setIfInBounds_toArray, List.set_cons_zero] at h0
  have h1 := heap_setCell_same _ b 1 _ _ (.int .i64 y.sl) h0
  simp only [List.setIfInBounds_toArray, List.set_cons_zero, List.set_cons_succ] at h1
  have h2 := heap_setCell_same _ b 2 _ _ (.int .u32 y.gn) h1
  simp only [List.setIfInBounds_toArray, List.set_cons_zero, List.set_cons_succ] at h2
  have h3 := heap_setCell_same _ b 3 _ _ (.int .u16 y.ps) h2
  simp only [List.setIfInBounds_toArray, List.set_cons_zero, List.set_cons_succ] at h3
  have h4 := heap_setCell_same _ b 4 _ _ (.int .u32 y.pt) h3
  simp only [List.setIfInBounds_toArray, List.set_cons_zero, List.set_cons_succ] at h4
  have h5 := heap_setCell_same _ b 5 _ _ (.int .u32 y.pc) h4
  simp only [List.setIfInBounds_toArray, List.set_cons_zero, List.set_cons_succ] at h5
  have h6 := heap_setCell_same _ b 6 _ _ (.int .u16 y.pf) h5
  simp only [List.setIfInBounds_toArray, List.set_cons_zero, List.set_cons_succ] at h6
  exact h6
theorem upd_putE {S : Nat → Prop} {w w1 : World} (h : Upd S w w1) {b i : Nat} (hb : S b ∨ w.heap.size ≤ b) (y : En) : Upd S w (putE w1 b i y) := ((((((h.setCell hb _).setCell hb _).setCell hb _).setCell hb _).setCell hb _).setCell hb _).setCell hb _
theorem bel_putE {B : Nat} {w w1 : World} (h : Below B w w1) {b i : Nat} (hb : B ≤ b) (y : En) : Below B w (putE w1 b i y) := ((((((h.setCell (p := ⟨b, i, none⟩) hb _).setCell (p := ⟨b, i + 1, none⟩) hb _).setCell (p := ⟨b, i + 2, none⟩) hb _).setCell (p := ⟨b, i + 3, none⟩) hb _).setCell (p := ⟨b, i + 4, none⟩) hb _).setCell (p := ⟨b, i + 5, none⟩) hb _).setCell (p := ⟨b, i + 6, none⟩) hb _
/-- A store of a whole entry into a row that lies whole. -/
theorem Whole_put {g k : Nat} {P : List En} (h : Whole enL w g P) (hk : k < P.length) (y : En) : Whole enL (putE w g (k * 7) y) g (P.set k y) := by
  have hx := List.getElem?_eq_getElem hk
  generalize P[k] = x at hx
  have h0 := Whole_set (L := enL) (j := 0) (x := x) (y := ⟨y.sq, x.sl, x.gn, x.ps, x.pt, x.pc, x.pf⟩) h hx (.int .u16 y.sq) (by decide) rfl
  have h1 := Whole_set (L := enL) (j := 1) (x := ⟨y.sq, x.sl, x.gn, x.ps, x.pt, x.pc, x.pf⟩) (y := ⟨y.sq, y.sl, x.gn, x.ps, x.pt, x.pc, x.pf⟩) h0 (by rw [List.getElem?_set, if_pos rfl, if_pos (hk)]) (.int .i64 y.sl) (by decide) rfl
  have h2 := Whole_set (L := enL) (j := 2) (x := ⟨y.sq, y.sl, x.gn, x.ps, x.pt, x.pc, x.pf⟩) (y := ⟨y.sq, y.sl, y.gn, x.ps, x.pt, x.pc, x.pf⟩) h1 (by rw [List.getElem?_set, if_pos rfl, if_pos (by rw [List.length_set]; exact hk)]) (.int .u32 y.gn) (by decide) rfl
  have h3 := Whole_set (L := enL) (j := 3) (x := ⟨y.sq, y.sl, y.gn, x.ps, x.pt, x.pc, x.pf⟩) (y := ⟨y.sq, y.sl, y.gn, y.ps, x.pt, x.pc, x.pf⟩) h2 (by rw [List.getElem?_set, if_pos rfl, if_pos (by rw [List.length_set, List.length_set]; exact hk)]) (.int .u16 y.ps) (by decide) rfl
  have h4 := Whole_set (L := enL) (j := 4) (x := ⟨y.sq, y.sl, y.gn, y.ps, x.pt, x.pc, x.pf⟩) (y := ⟨y.sq, y.sl, y.gn, y.ps, y.pt, x.pc, x.pf⟩) h3 (by rw [List.getElem?_set, if_pos rfl, if_pos (by rw [List.length_set, List.length_set, List.length_set]; exact hk)]) (.int .u32 y.pt) (by decide) rfl
  have h5 := Whole_set (L := enL) (j := 5) (x := ⟨y.sq, y.sl, y.gn, y.ps, y.pt, x.pc, x.pf⟩) (y := ⟨y.sq, y.sl, y.gn, y.ps, y.pt, y.pc, x.pf⟩) h4 (by rw [List.getElem?_set, if_pos rfl, if_pos (by rw [List.length_set, List.length_set, List.length_set, List.length_set]; exact hk)]) (.int .u32 y.pc) (by decide) rfl
  have h6 := Whole_set (L := enL) (j := 6) (x := ⟨y.sq, y.sl, y.gn, y.ps, y.pt, y.pc, x.pf⟩) (y := y) h5 (by rw [List.getElem?_set, if_pos rfl, if_pos (by rw [List.length_set, List.length_set, List.length_set, List.length_set, List.length_set]; exact hk)]) (.int .u16 y.pf) (by decide) rfl
  simp only [List.set_set] at h6
  exact h6
end

/-- The history at block b: its places P at block g, C of them, the next one goes to place m; R is kept, the last one first. -/
structure Hy (w : World) (b g C m : Nat) (P R : List En) : Prop where
  blk : w.heap[b]? = some (.cells #[.slice (some ⟨g, 0, none⟩) C C, .int .i64 m, .int .i64 R.length] 49 (0, 0))
  row : Whole enL w g P
  len : P.length = C
  nx : m < C ∨ (C = 0 ∧ m = 0)
  most : C ≤ 64
  fit : R.length ≤ C
  at_ : ∀ k x, R[k]? = some x → P[(m + C - 1 - k) % C]? = some x
section
variable {w w' : World} {b g C m : Nat} {P R : List En} {S : Nat → Prop}
theorem Hy.c0 (h : Hy w b g C m P R) : w.cell? ⟨b, 0, none⟩ = some (.slice (some ⟨g, 0, none⟩) C C) := by rw [cell_of_row w b 0 _ _ _ h.blk]; rfl
theorem Hy.c1 (h : Hy w b g C m P R) : w.cell? ⟨b, 1, none⟩ = some (.int .i64 m) := by rw [cell_of_row w b 1 _ _ _ h.blk]; rfl
theorem Hy.c2 (h : Hy w b g C m P R) : w.cell? ⟨b, 2, none⟩ = some (.int .i64 R.length) := by rw [cell_of_row w b 2 _ _ _ h.blk]; rfl
theorem Hy.frozen (h : Hy w b g C m P R) (i : Nat) : w.frozen? ⟨b, i, none⟩ = false := frozen_of_row w b i _ _ h.blk
theorem Hy.ne (h : Hy w b g C m P R) : b ≠ g := by
  rintro rfl
  have := h.blk.symm.trans h.row
  simp only [Option.some.injEq, Obj.cells.injEq] at this
  exact absurd this.2.1 (by decide)
theorem Hy.bel (h : Hy w b g C m P R) (hb : Below w.heap.size w w') : Hy w' b g C m P R := ⟨(hb.block b (lt_of_some h.blk)).trans h.blk, Whole_bel h.row hb, h.len, h.nx, h.most, h.fit, h.at_⟩
theorem Hy.upd (h : Hy w b g C m P R) (hu : Upd S w w') (hb : ¬ S b) (hg : ¬ S g) : Hy w' b g C m P R := ⟨hu.keep h.blk hb, Whole_upd h.row hu hg, h.len, h.nx, h.most, h.fit, h.at_⟩
theorem Hy.lt (h : Hy w b g C m P R) : b < w.heap.size ∧ g < w.heap.size := ⟨lt_of_some h.blk, lt_of_some h.row⟩
end
/-- The history at block b, its places at block g, C of them; R is kept, the last one first. -/
def HIn (w : World) (b g C : Nat) (R : List En) : Prop := ∃ m P, Hy w b g C m P R
section
variable {w w' : World} {b g C : Nat} {R : List En} {S : Nat → Prop}
theorem HIn.bel (h : HIn w b g C R) (hb : Below w.heap.size w w') : HIn w' b g C R := let ⟨m, P, h⟩ := h; ⟨m, P, h.bel hb⟩
theorem HIn.upd (h : HIn w b g C R) (hu : Upd S w w') (hb : ¬ S b) (hg : ¬ S g) : HIn w' b g C R := let ⟨m, P, h⟩ := h; ⟨m, P, h.upd hu hb hg⟩
theorem HIn.lt (h : HIn w b g C R) : b < w.heap.size ∧ g < w.heap.size := let ⟨m, P, h⟩ := h; h.lt
theorem HIn.fit (h : HIn w b g C R) : R.length ≤ C ∧ C ≤ 64 := let ⟨m, P, h⟩ := h; ⟨h.fit, h.most⟩
end

/-- Results that lie in cells. -/
theorem retE_at {f : Func} {Q : Ending → World → Prop} {W : World} {b : Nat} {x : En} {v : Bool} {tmps : Array Value} (hf : f.results = #[.cell 4 34, .tmp 5]) (D : EBlk W b x) (hR : Q (.returned (.tuple #[enV x, .bool v])) W)
    (h4 : tmps[4]?.getD undef = .pointer (some ⟨b, 0, none⟩) := by rfl) (h5 : tmps[5]?.getD undef = .bool v := by rfl) : bodyPost Try.prog f Q .ret ⟨tmps, []⟩ W := by
  have c0 := D.c0; have c1 := D.c1; have c2 := D.c2; have c3 := D.c3; have c4 := D.c4; have c5 := D.c5; have c6 := D.c6
  exact bodyPost_ret (v := .tuple #[enV x, .bool v]) (by simp [results, hf, go_sem, h4, h5, c0, c1, c2, c3, c4, c5, c6]) rfl hR
theorem ret1_at {f : Func} {Q : Ending → World → Prop} {W : World} {b : Nat} {x : En} {tmps : Array Value} (hf : f.results = #[.cell 4 34]) (D : EBlk W b x) (hR : Q (.returned (enV x)) W)
    (h4 : tmps[4]?.getD undef = .pointer (some ⟨b, 0, none⟩) := by rfl) : bodyPost Try.prog f Q .ret ⟨tmps, []⟩ W := by
  have c0 := D.c0; have c1 := D.c1; have c2 := D.c2; have c3 := D.c3; have c4 := D.c4; have c5 := D.c5; have c6 := D.c6
  exact bodyPost_ret (v := enV x) (by simp [results, hf, go_sem, h4, c0, c1, c2, c3, c4, c5, c6]) rfl hR

set_option maxHeartbeats 4000000 in
theorem kept_any (w : World) (b g C : Nat) (R : List En) (hA : HIn w b g C R) :
    Calls Try.prog 16 #[.pointer (some ⟨b, 0, none⟩)] w fun e w' => e = .returned (.int .i64 R.length) ∧ Below w.heap.size w w' := by
  obtain ⟨m, P, hA⟩ := hA
  have c2 := hA.c2
  clear hA
  go_enter Try.func16, Try.ntmps16
  go_wp2
  go_ret
  exact ⟨rfl, Below.refl _ _⟩
set_option maxHeartbeats 4000000 in
theorem kept_nil (w : World) :
    Calls Try.prog 16 #[.pointer none] w fun e w' => e = .returned (.int .i64 0) ∧ Below w.heap.size w w' := by
  go_enter Try.func16, Try.ntmps16
  go_wp2
  go_ret
  exact ⟨rfl, Below.refl _ _⟩

set_option maxHeartbeats 4000000 in
theorem back_any (w : World) (b g C : Nat) (R : List En) (k : Nat) (x : En) (hA : HIn w b g C R) (hx : R[k]? = some x) :
    Calls Try.prog 17 #[.pointer (some ⟨b, 0, none⟩), .int .i64 k] w fun e w' => e = .returned (enV x) ∧ Below w.heap.size w w' := by
  obtain ⟨m, P, hA⟩ := hA
  have hk := (List.getElem?_eq_some_iff.1 hx).1
  have hfit := hA.fit
  have hmost := hA.most
  have hnx := hA.nx
  have hP := hA.at_ k x hx
  obtain ⟨N, hN⟩ : ∃ N, m + C - 1 - k = N := ⟨_, rfl⟩
  rw [hN] at hP
  have hlt : N % C < C := Nat.mod_lt _ (by omega)
  have q1 : IntKind.i64.wrap ((m : Int) + C) = (m : Int) + C := IntWalk.i64_in _ (by omega)
  have q2 : IntKind.i64.wrap ((m : Int) + C - 1) = (m : Int) + C - 1 := IntWalk.i64_in _ (by omega)
  have q3 : IntKind.i64.wrap ((m : Int) + C - 1 - k) = (N : Int) := by rw [IntWalk.i64_in _ (by omega)]; omega
  have q4 : (N : Int).tmod (C : Int) = ((N % C : Nat) : Int) := by rw [Int.tmod_eq_emod_of_nonneg (by omega)]; rfl
  obtain ⟨p, hp⟩ : ∃ p, N % C = p := ⟨_, rfl⟩
  rw [hp] at hP hlt q4
  have q5 : IntKind.i64.wrap (p : Int) = (p : Int) := IntWalk.i64_in _ (by omega)
  have qz : ¬ (C = 0) := by omega
  have f0 : ∀ W, Below w.heap.size w W → W.cell? ⟨b, 0, none⟩ = some (.slice (some ⟨g, 0, none⟩) C C) := fun W h => (hA.bel h).c0
  have f1 : ∀ W, Below w.heap.size w W → W.cell? ⟨b, 1, none⟩ = some (.int .i64 m) := fun W h => (hA.bel h).c1
  have d0 : ∀ W, Below w.heap.size w W → W.cell? ⟨g, p * 7, none⟩ = some (.int .u16 x.sq) := fun W h => Whole_cell (L := enL) (j := 0) ((hA.bel h).row) hP rfl; have d1 : ∀ W, Below w.heap.size w W → W.cell? ⟨g, p * 7 + 1, none⟩ = some (.int .i64 x.sl) := fun W h => Whole_cell (L := enL) (j := 1) ((hA.bel h).row) hP rfl; have d2 : ∀ W, Below w.heap.size w W → W.cell? ⟨g, p * 7 + 2, none⟩ = some (.int .u32 x.gn) := fun W h => Whole_cell (L := enL) (j := 2) ((hA.bel h).row) hP rfl; have d3 : ∀ W, Below w.heap.size w W → W.cell? ⟨g, p * 7 + 3, none⟩ = some (.int .u16 x.ps) := fun W h => Whole_cell (L := enL) (j := 3) ((hA.bel h).row) hP rfl; have d4 : ∀ W, Below w.heap.size w W → W.cell? ⟨g, p * 7 + 4, none⟩ = some (.int .u32 x.pt) := fun W h => Whole_cell (L := enL) (j := 4) ((hA.bel h).row) hP rfl; have d5 : ∀ W, Below w.heap.size w W → W.cell? ⟨g, p * 7 + 5, none⟩ = some (.int .u32 x.pc) := fun W h => Whole_cell (L := enL) (j := 5) ((hA.bel h).row) hP rfl; have d6 : ∀ W, Below w.heap.size w W → W.cell? ⟨g, p * 7 + 6, none⟩ = some (.int .u16 x.pf) := fun W h => Whole_cell (L := enL) (j := 6) ((hA.bel h).row) hP rfl
  have HB := Lib.hid ((Below.refl w.heap.size w).alloc (Nat.le_refl _) (enO en0))
  have D := Lib.hid (EBlk.new w en0)
  have g0 := f0 _ HB.out
  clear hA hx hk hfit hmost hnx hP hN hp
  go_enter Try.func17, Try.ntmps17
  go_wp2_with fail
  have hS : Below w.heap.size w (w.alloc (enO en0)).drew := HB.out.drew
  refine region_seq (Below w.heap.size w) [(0, false), (1, false), (2, false), (3, false), (4, false), (5, false), (6, false), (7, false), (8, false), (9, false), (10, false), (11, false), (12, false), (13, false), (14, false), (15, false), (16, false), (17, true)] (by kernel_rfl) (by kernel_rfl) rfl (by kernel_rfl) ?_
  iterate 17 (refine seq_read (v := _) rfl (fun _ _ _ h => h) hS (Or.inl ⟨by rfl, fun W hW => by go_simp <;> with_reducible rfl⟩) ?_; simp only [Act.put, List.setIfInBounds_toArray, List.set_cons_zero, List.set_cons_succ])
  refine seq_do rfl (fun K hK => ?_)
  go_simp
  have HB2 : Below w.heap.size w (w.alloc (enO x)).drew := ((Below.refl w.heap.size w).alloc (Nat.le_refl _) (enO x)).drew
  refine hK.out _ _ _ (fun W h => h) HB2 ?_
  refine seq_end ?_
  go_wp2_with fail
  exact ret1_at Try.results17 (b := w.heap.size) (EBlk.new w x) ⟨rfl, HB2⟩

/-- How many a history of n keeps. -/
def capN (n : Int) : Nat := (min (max n 0) 64).toNat
theorem capN_le (n : Int) : capN n ≤ 64 := by unfold capN; omega
theorem made_ens (n : Nat) : (madeCells (enV en0).cells (n * 7)) = (flat enL (List.replicate n en0)).toArray := by
  apply Array.ext
  · rw [size_madeCells, List.size_toArray, flat_len, List.length_replicate]; rfl
  · intro j h1 h2
    rw [size_madeCells] at h1
    have hq : j / 7 < n := by omega
    have hy : (List.replicate n en0)[j / 7]? = some en0 := by rw [List.getElem?_replicate, if_pos hq]
    have he : j / 7 * 7 + j % 7 = j := by omega
    have h7 : j % 7 = 0 ∨ j % 7 = 1 ∨ j % 7 = 2 ∨ j % 7 = 3 ∨ j % 7 = 4 ∨ j % 7 = 5 ∨ j % 7 = 6 := by omega
    rcases h7 with h0 | h0 | h0 | h0 | h0 | h0 | h0
    · have hg := flat_get enL (List.replicate n en0) (j / 7) 0 _ _ hy rfl
      rw [show enL.s = 7 from rfl, show j / 7 * 7 + 0 = j from by omega] at hg
      have hg2 := (List.getElem?_eq_some_iff.1 hg).2
      simp [madeCells, h0, hg2, Value.cells]
    · have hg := flat_get enL (List.replicate n en0) (j / 7) 1 _ _ hy rfl
      rw [show enL.s = 7 from rfl, show j / 7 * 7 + 1 = j from by omega] at hg
      have hg2 := (List.getElem?_eq_some_iff.1 hg).2
      simp [madeCells, h0, hg2, Value.cells]
    · have hg := flat_get enL (List.replicate n en0) (j / 7) 2 _ _ hy rfl
      rw [show enL.s = 7 from rfl, show j / 7 * 7 + 2 = j from by omega] at hg
      have hg2 := (List.getElem?_eq_some_iff.1 hg).2
      simp [madeCells, h0, hg2, Value.cells]
    · have hg := flat_get enL (List.replicate n en0) (j / 7) 3 _ _ hy rfl
      rw [show enL.s = 7 from rfl, show j / 7 * 7 + 3 = j from by omega] at hg
      have hg2 := (List.getElem?_eq_some_iff.1 hg).2
      simp [madeCells, h0, hg2, Value.cells]
    · have hg := flat_get enL (List.replicate n en0) (j / 7) 4 _ _ hy rfl
      rw [show enL.s = 7 from rfl, show j / 7 * 7 + 4 = j from by omega] at hg
      have hg2 := (List.getElem?_eq_some_iff.1 hg).2
      simp [madeCells, h0, hg2, Value.cells]
    · have hg := flat_get enL (List.replicate n en0) (j / 7) 5 _ _ hy rfl
      rw [show enL.s = 7 from rfl, show j / 7 * 7 + 5 = j from by omega] at hg
      have hg2 := (List.getElem?_eq_some_iff.1 hg).2
      simp [madeCells, h0, hg2, Value.cells]
    · have hg := flat_get enL (List.replicate n en0) (j / 7) 6 _ _ hy rfl
      rw [show enL.s = 7 from rfl, show j / 7 * 7 + 6 = j from by omega] at hg
      have hg2 := (List.getElem?_eq_some_iff.1 hg).2
      simp [madeCells, h0, hg2, Value.cells]
theorem make_ens (n : Nat) (hn : n ≤ 256) (W : World) : (Instr.makeSlice 26 (.int .i64 n) (.int .i64 n)).run Try.prog W = .ok (.slice (some ⟨W.heap.size, 0, none⟩) n n) (W.alloc (.cells (flat enL (List.replicate n en0)).toArray 34 (0, 0))) := by
  obtain ⟨i0, hi0, hz0, hz1, hz2⟩ := info_parts info_en
  have := run_make (P := Try.prog) W 26 34 i0 _ Try.underlying26 hi0 hz0 .i64 .i64 n n (by omega) (Int.le_refl _) (by rw [hz2]; omega) (by omega)
  rw [this, hz1]
  simp only [Int.toNat_natCast]
  rw [made_ens n]
/-- A new history. -/
def RetN (w : World) (n : Int) (e : Ending) (w' : World) : Prop := ∃ b g, e = .returned (.pointer (some ⟨b, 0, none⟩)) ∧ HIn w' b g (capN n) [] ∧ w.heap.size ≤ b ∧ w.heap.size ≤ g ∧ Below w.heap.size w w'
set_option maxHeartbeats 4000000 in
theorem new_any (w : World) (n : Int) (hw1 : -9223372036854775808 ≤ n) (hw2 : n ≤ 9223372036854775807) : Calls Try.prog 8 #[.int .i64 n] w (RetN w n) := by
  obtain ⟨N, hN⟩ : ∃ N, capN n = N := ⟨_, rfl⟩
  have hN2 : N ≤ 64 := by rw [← hN]; exact capN_le n
  have hM := make_ens N (by omega) w
  have hB := (Below.refl w.heap.size w).alloc (Nat.le_refl _) (.cells (flat enL (List.replicate N en0)).toArray 34 (0, 0))
  have hW : Whole enL (w.alloc (.cells (flat enL (List.replicate N en0)).toArray 34 (0, 0))) w.heap.size (List.replicate N en0) := heap_alloc_new w _
  generalize w.alloc (.cells (flat enL (List.replicate N en0)).toArray 34 (0, 0)) = w1 at *
  have fin : Hid (RetN w n (.returned (.pointer (some ⟨w1.heap.size, 0, none⟩))) (w1.alloc (.cells #[.slice (some ⟨w.heap.size, 0, none⟩) N N, .int .i64 0, .int .i64 0] 49 (0, 0)))) := by
    refine ⟨w1.heap.size, w.heap.size, rfl, ?_, hB.size, Nat.le_refl _, hB.alloc hB.size _⟩
    rw [hN]
    exact ⟨0, List.replicate N en0, heap_alloc_new w1 _, Whole_bel hW ((Below.refl _ _).alloc (Nat.le_refl _) _), List.length_replicate, by omega, hN2, Nat.zero_le _, fun i x h => by simp at h⟩
  clear hB hW
  have h3 : n < 0 ∨ (0 ≤ n ∧ n ≤ 64) ∨ 64 < n := by omega
  unfold capN at hN
  rcases h3 with h | ⟨h, h'⟩ | h
  · obtain rfl : 0 = N := by omega
    rw [show ((0 : Nat) : Int) = 0 from rfl] at hM
    go_enter Try.func8, Try.ntmps8
    go_wp2
    go_ret
    exact fin.out
  · obtain rfl : n = (N : Int) := by omega
    go_enter Try.func8, Try.ntmps8
    go_wp2
    go_ret
    exact fin.out
  · obtain rfl : 64 = N := by omega
    rw [show ((64 : Nat) : Int) = 64 from rfl] at hM
    go_enter Try.func8, Try.ntmps8
    go_wp2
    go_ret
    exact fin.out
end Go.Proofs.Ytjiofhlmfmhhmaa.Hst
