/- Cells of four words as records; the ring at its block; the contracts of ring's around, place, Len, Room. -/
import Derived.Test.YtkajajihjohenaaEd
import Derived.Test.YtkajajihjohenaaSqx
import Derived.Laws.MakeOwn
import Derived.Lib.SliceRun
set_option maxRecDepth 100000
namespace Go.Proofs.Ytkajajihjohenaa.Rng
open Go.RowKit
open Go.Proofs.Ytkajajihjohenaa.Arn
set_option linter.unusedVariables false

/-- A cell: event, epoch, the handle's slot and generation. -/
abbrev Cl := Int × Int × Int × Int
abbrev clV (x : Cl) : Value := .agg #[.int .i64 x.1, .int .i64 x.2.1, .int .i64 x.2.2.1, .int .u32 x.2.2.2]
abbrev clO (x : Cl) : Obj := .cells #[.int .i64 x.1, .int .i64 x.2.1, .int .i64 x.2.2.1, .int .u32 x.2.2.2] 32 (0, 0)
abbrev cl0 : Cl := (0, 0, 0, 0)
def celL : Lay Cl := ⟨32, 4, fun x => [.int .i64 x.1, .int .i64 x.2.1, .int .i64 x.2.2.1, .int .u32 x.2.2.2], fun _ => rfl, fun x v hv => by
  simp only [List.mem_cons, List.not_mem_nil, or_false] at hv
  rcases hv with rfl | rfl | rfl | rfl <;> rfl, by decide⟩
theorem info_cel : (Try.prog.info? 32).map (fun i => (i.zero, i.size, i.bytes)) = some (some (clV cl0), 4, 32) := by kernel_rfl

section
variable {α : Type} {L : Lay α} {w w' : World} {g k j : Nat} {xs : List α} {x y : α}
theorem Whole_lt (h : Whole L w g xs) : g < w.heap.size := lt_of_some h
theorem Whole_cell (h : Whole L w g xs) (hx : xs[k]? = some x) {v : Value} (hv : (L.cel x)[j]? = some v) : w.cell? ⟨g, k * L.s + j, none⟩ = some v := by
  rw [cell_of_row w g _ _ L.e (0, 0) h, List.getElem?_toArray]
  exact flat_get L xs k j x v hx hv
theorem Whole_frozen (h : Whole L w g xs) (i : Nat) : w.frozen? ⟨g, i, none⟩ = false := frozen_of_row w g i _ _ h
theorem Whole_set (h : Whole L w g xs) (hx : xs[k]? = some x) (u : Value) (hj : j < L.s) (hc : (L.cel x).set j u = L.cel y) : Whole L (w.setCell ⟨g, k * L.s + j, none⟩ u) g (xs.set k y) := by
  have := heap_setCell_same w g (k * L.s + j) _ _ u h
  unfold Whole
  rw [this, List.setIfInBounds_toArray]
  have hf := flat_set L [] xs k j x y u hx hj hc
  simp only [List.append_nil] at hf
  rw [← hf]
theorem Whole_upd {S : Nat → Prop} (h : Whole L w g xs) (hu : Upd S w w') (hS : ¬ S g) : Whole L w' g xs := hu.keep h hS
theorem Whole_bel (h : Whole L w g xs) (hb : Below w.heap.size w w') : Whole L w' g xs := (hb.block g (lt_of_some h)).trans h
end
/-- A cell at block b. -/
def CBlk (w : World) (b : Nat) (x : Cl) : Prop := w.heap[b]? = some (clO x)
section
variable {w w' : World} {b : Nat} {x : Cl}
theorem CBlk.c0 (h : CBlk w b x) : w.cell? ⟨b, 0, none⟩ = some (.int .i64 x.1) := by rw [cell_of_row w b 0 _ _ _ h]; rfl
theorem CBlk.c1 (h : CBlk w b x) : w.cell? ⟨b, 1, none⟩ = some (.int .i64 x.2.1) := by rw [cell_of_row w b 1 _ _ _ h]; rfl
theorem CBlk.c2 (h : CBlk w b x) : w.cell? ⟨b, 2, none⟩ = some (.int .i64 x.2.2.1) := by rw [cell_of_row w b 2 _ _ _ h]; rfl
theorem CBlk.c3 (h : CBlk w b x) : w.cell? ⟨b, 3, none⟩ = some (.int .u32 x.2.2.2) := by rw [cell_of_row w b 3 _ _ _ h]; rfl
theorem CBlk.frozen (h : CBlk w b x) (i : Nat) : w.frozen? ⟨b, i, none⟩ = false := frozen_of_row w b i _ _ h
theorem CBlk.lt (h : CBlk w b x) : b < w.heap.size := lt_of_some h
theorem CBlk.new (w : World) (x : Cl) : CBlk (w.alloc (clO x)) w.heap.size x := heap_alloc_new w _
theorem CBlk.bel {B : Nat} (h : CBlk w b x) (hb : Below B w w') (hB : b < B) : CBlk w' b x := (hb.block b hB).trans h
theorem CBlk.upd {S : Nat → Prop} (h : CBlk w b x) (hu : Upd S w w') (hS : ¬ S b) : CBlk w' b x := hu.keep h hS
/-- A whole store of a cell. -/
abbrev put4 (w : World) (b i : Nat) (y : Cl) : World := (((w.setCell ⟨b, i, none⟩ (.int .i64 y.1)).setCell ⟨b, i + 1, none⟩ (.int .i64 y.2.1)).setCell ⟨b, i + 2, none⟩ (.int .i64 y.2.2.1)).setCell ⟨b, i + 3, none⟩ (.int .u32 y.2.2.2)
theorem CBlk.store (h : CBlk w b x) (y : Cl) : CBlk (put4 w b 0 y) b y := by
  have h1 := heap_setCell_same w b 0 _ _ (.int .i64 y.1) h
  have h2 := heap_setCell_same _ b 1 _ _ (.int .i64 y.2.1) h1
  have h3 := heap_setCell_same _ b 2 _ _ (.int .i64 y.2.2.1) h2
  have h4 := heap_setCell_same _ b 3 _ _ (.int .u32 y.2.2.2) h3
  exact h4
theorem upd_put4 {S : Nat → Prop} {w w1 : World} (h : Upd S w w1) {b i : Nat} (hb : S b ∨ w.heap.size ≤ b) (y : Cl) : Upd S w (put4 w1 b i y) := (((h.setCell hb _).setCell hb _).setCell hb _).setCell hb _
theorem bel_put4 {B : Nat} {w w1 : World} (h : Below B w w1) {b i : Nat} (hb : B ≤ b) (y : Cl) : Below B w (put4 w1 b i y) := (((h.setCell (p := ⟨b, i, none⟩) hb _).setCell (p := ⟨b, i + 1, none⟩) hb _).setCell (p := ⟨b, i + 2, none⟩) hb _).setCell (p := ⟨b, i + 3, none⟩) hb _
/-- A store of a whole cell into a row that lies whole. -/
theorem Whole_put {g k : Nat} {P : List Cl} (h : Whole celL w g P) (hk : k < P.length) (y : Cl) : Whole celL (put4 w g (k * 4) y) g (P.set k y) := by
  have hx := List.getElem?_eq_getElem hk
  generalize P[k] = x at hx
  have h1 := Whole_set (L := celL) (j := 0) (y := (y.1, x.2.1, x.2.2.1, x.2.2.2)) h hx (.int .i64 y.1) (by decide) rfl
  have h2 := Whole_set (L := celL) (j := 1) (x := (y.1, x.2.1, x.2.2.1, x.2.2.2)) (y := (y.1, y.2.1, x.2.2.1, x.2.2.2)) h1 (by rw [List.getElem?_set, if_pos rfl, if_pos hk]) (.int .i64 y.2.1) (by decide) rfl
  have h3 := Whole_set (L := celL) (j := 2) (x := (y.1, y.2.1, x.2.2.1, x.2.2.2)) (y := (y.1, y.2.1, y.2.2.1, x.2.2.2)) h2 (by rw [List.getElem?_set, if_pos rfl, if_pos (by rw [List.length_set]; exact hk)]) (.int .i64 y.2.2.1) (by decide) rfl
  have h4 := Whole_set (L := celL) (j := 3) (x := (y.1, y.2.1, y.2.2.1, x.2.2.2)) (y := y) h3 (by rw [List.getElem?_set, if_pos rfl, if_pos (by rw [List.length_set, List.length_set]; exact hk)]) (.int .u32 y.2.2.2) (by decide) rfl
  rw [List.set_set, List.set_set, List.set_set] at h4
  exact h4
end

/-- The ring at block b: its places P at block g, C of them; its cells are L, the first one at place f. -/
structure Rg (w : World) (b g C f : Nat) (P L : List Cl) : Prop where
  blk : w.heap[b]? = some (.cells #[.slice (some ⟨g, 0, none⟩) C C, .int .i64 f, .int .i64 L.length] 47 (0, 0))
  row : Whole celL w g P
  len : P.length = C
  first : f < C
  most : C ≤ 256
  fit : L.length ≤ C
  at_ : ∀ i x, L[i]? = some x → P[(f + i) % C]? = some x
section
variable {w w' : World} {b g C f : Nat} {P L : List Cl} {S : Nat → Prop}
theorem Rg.c0 (h : Rg w b g C f P L) : w.cell? ⟨b, 0, none⟩ = some (.slice (some ⟨g, 0, none⟩) C C) := by rw [cell_of_row w b 0 _ _ _ h.blk]; rfl
theorem Rg.c1 (h : Rg w b g C f P L) : w.cell? ⟨b, 1, none⟩ = some (.int .i64 f) := by rw [cell_of_row w b 1 _ _ _ h.blk]; rfl
theorem Rg.c2 (h : Rg w b g C f P L) : w.cell? ⟨b, 2, none⟩ = some (.int .i64 L.length) := by rw [cell_of_row w b 2 _ _ _ h.blk]; rfl
theorem Rg.frozen (h : Rg w b g C f P L) (i : Nat) : w.frozen? ⟨b, i, none⟩ = false := frozen_of_row w b i _ _ h.blk
theorem Rg.ne (h : Rg w b g C f P L) : b ≠ g := by
  rintro rfl
  have := h.blk.symm.trans h.row
  simp only [Option.some.injEq, Obj.cells.injEq] at this
  exact absurd this.2.1 (by decide)
theorem Rg.bel (h : Rg w b g C f P L) (hb : Below w.heap.size w w') : Rg w' b g C f P L := ⟨(hb.block b (lt_of_some h.blk)).trans h.blk, Whole_bel h.row hb, h.len, h.first, h.most, h.fit, h.at_⟩
theorem Rg.upd (h : Rg w b g C f P L) (hu : Upd S w w') (hb : ¬ S b) (hg : ¬ S g) : Rg w' b g C f P L := ⟨hu.keep h.blk hb, Whole_upd h.row hu hg, h.len, h.first, h.most, h.fit, h.at_⟩
theorem Rg.lt (h : Rg w b g C f P L) : b < w.heap.size ∧ g < w.heap.size := ⟨lt_of_some h.blk, lt_of_some h.row⟩
end

set_option maxHeartbeats 4000000 in
theorem around_blk (w : World) (b g C f n : Nat) (i : Nat) (hA : w.heap[b]? = some (.cells #[.slice (some ⟨g, 0, none⟩) C C, .int .i64 f, .int .i64 n] 47 (0, 0))) (hf : f < C) (hm : C ≤ 256) (hi : i ≤ 256) :
    Calls Try.prog 20 #[.pointer (some ⟨b, 0, none⟩), .int .i64 i] w fun e w' => e = .returned (.int .i64 (((f + i) % C : Nat) : Int)) ∧ Below w.heap.size w w' := by
  have f0 : ∀ W, Below w.heap.size w W → W.cell? ⟨b, 0, none⟩ = some (.slice (some ⟨g, 0, none⟩) C C) := fun W hW => by rw [cell_of_row W b 0 _ _ _ ((hW.block b (lt_of_some hA)).trans hA)]; rfl
  have f1 : ∀ W, Below w.heap.size w W → W.cell? ⟨b, 1, none⟩ = some (.int .i64 f) := fun W hW => by rw [cell_of_row W b 1 _ _ _ ((hW.block b (lt_of_some hA)).trans hA)]; rfl
  have hS : Below w.heap.size w w.drew := (Below.refl _ _).drew
  have qw : IntKind.i64.wrap ((f : Int) + i) = (f : Int) + i := IntWalk.i64_in _ (by omega)
  have qz : ¬ (C = 0) := by omega
  have qr : ((f : Int) + i).tmod (C : Int) = (((f + i) % C : Nat) : Int) := by rw [Int.tmod_eq_emod_of_nonneg (by omega)]; rfl
  have qc : IntKind.i64.wrap (((f + i) % C : Nat) : Int) = (((f + i) % C : Nat) : Int) := IntWalk.i64_in _ (by have := Nat.mod_lt (f + i) (show 0 < C by omega); omega)
  clear hA
  go_enter Try.func20, Try.ntmps20
  go_wp2_with fail
  refine region_seq (Below w.heap.size w) [(0, false), (1, false), (2, false), (3, false), (4, false), (5, false), (6, false), (7, false), (8, false), (9, false), (10, false), (11, false), (12, false)] (by kernel_rfl) (by kernel_rfl) rfl (by kernel_rfl) ?_
  iterate 13 (refine seq_read (v := _) rfl (fun _ _ _ h => h) hS (Or.inl ⟨by rfl, fun W hW => by go_simp <;> with_reducible rfl⟩) ?_; simp only [Act.put, List.setIfInBounds_toArray, List.set_cons_zero, List.set_cons_succ])
  refine seq_end ?_
  go_wp2_with fail
  go_ret
  exact ⟨rfl, (Below.refl _ _).drew⟩
theorem around_any (w : World) (b g C f : Nat) (P L : List Cl) (i : Nat) (hA : Rg w b g C f P L) (hi : i ≤ 256) :
    Calls Try.prog 20 #[.pointer (some ⟨b, 0, none⟩), .int .i64 i] w fun e w' => e = .returned (.int .i64 (((f + i) % C : Nat) : Int)) ∧ Below w.heap.size w w' := around_blk w b g C f _ i hA.blk hA.first hA.most hi

set_option maxHeartbeats 4000000 in
theorem place_any (w : World) (b g C f : Nat) (P L : List Cl) (i : Nat) (hA : Rg w b g C f P L) (hi : i ≤ 256) :
    Calls Try.prog 19 #[.pointer (some ⟨b, 0, none⟩), .int .i64 i] w fun e w' => e = .returned (.pointer (some ⟨g, (f + i) % C * 4, none⟩)) ∧ Below w.heap.size w w' := by
  have hm := hA.most
  have hf := hA.first
  have CA : Hid (∀ W, Below w.heap.size w W → Calls Try.prog 20 #[.pointer (some ⟨b, 0, none⟩), .int .i64 i] W fun e w' => e = .returned (.int .i64 (((f + i) % C : Nat) : Int)) ∧ Below W.heap.size W w') := fun W hW => around_any W b g C f P L i (hA.bel hW) hi
  obtain ⟨k, hk⟩ : ∃ k, (f + i) % C = k := ⟨_, rfl⟩
  have hlt : k < C := by rw [← hk]; exact Nat.mod_lt _ (by omega)
  rw [hk] at CA ⊢
  have f0 : ∀ W, Below w.heap.size w W → W.cell? ⟨b, 0, none⟩ = some (.slice (some ⟨g, 0, none⟩) C C) := fun W hW => (hA.bel hW).c0
  have hS : Below w.heap.size w w.drew := (Below.refl _ _).drew
  clear hA hk
  go_enter Try.func19, Try.ntmps19
  go_wp2_with fail
  refine region_seq (Below w.heap.size w) [(0, false), (1, false), (2, false), (3, false), (4, false), (5, false), (6, true), (7, false), (8, false)] (by kernel_rfl) (by kernel_rfl) rfl (by kernel_rfl) ?_
  iterate 6 (refine seq_read (v := _) rfl (fun _ _ _ h => h) hS (Or.inl ⟨by rfl, fun W hW => by go_simp <;> with_reducible rfl⟩) ?_; simp only [Act.put, List.setIfInBounds_toArray, List.set_cons_zero, List.set_cons_succ])
  refine seq_do rfl (fun K hK => ?_)
  go_simp
  refine (CA.out _ hS).mono ?_
  rintro e w2 ⟨rfl, hb2⟩
  have hS : Below w.heap.size w w2 := hS.trans (hb2.mono hS.size)
  refine hK.out _ _ _ (fun W h => h) hS ?_
  clear hK K
  iterate 2 (refine seq_read (v := _) rfl (fun _ _ _ h => h) hS (Or.inl ⟨by rfl, fun W hW => by go_simp <;> with_reducible rfl⟩) ?_; simp only [Act.put, List.setIfInBounds_toArray, List.set_cons_zero, List.set_cons_succ])
  refine seq_end ?_
  go_wp2_with fail
  go_ret
  exact ⟨rfl, hS⟩
set_option maxHeartbeats 4000000 in
theorem len_any (w : World) (b g C f : Nat) (P L : List Cl) (hA : Rg w b g C f P L) :
    Calls Try.prog 15 #[.pointer (some ⟨b, 0, none⟩)] w fun e w' => e = .returned (.int .i64 L.length) ∧ Below w.heap.size w w' := by
  have c2 := hA.c2
  clear hA
  go_enter Try.func15, Try.ntmps15
  go_wp2
  go_ret
  exact ⟨rfl, Below.refl _ _⟩
set_option maxHeartbeats 4000000 in
theorem room_any (w : World) (b g C f : Nat) (P L : List Cl) (hA : Rg w b g C f P L) :
    Calls Try.prog 16 #[.pointer (some ⟨b, 0, none⟩)] w fun e w' => e = .returned (.int .i64 ((C - L.length : Nat) : Int)) ∧ Below w.heap.size w w' := by
  have hm := hA.most
  have hfit := hA.fit
  obtain ⟨n, hn⟩ : ∃ n, L.length = n := ⟨_, rfl⟩
  rw [hn] at hfit ⊢
  have f0 : ∀ W, Below w.heap.size w W → W.cell? ⟨b, 0, none⟩ = some (.slice (some ⟨g, 0, none⟩) C C) := fun W hW => (hA.bel hW).c0
  have f2 : ∀ W, Below w.heap.size w W → W.cell? ⟨b, 2, none⟩ = some (.int .i64 n) := fun W hW => by rw [← hn]; exact (hA.bel hW).c2
  have hS : Below w.heap.size w w.drew := (Below.refl _ _).drew
  have qw : IntKind.i64.wrap ((C : Int) - n) = ((C - n : Nat) : Int) := by rw [IntWalk.i64_in _ (by omega)]; omega
  clear hA hn
  go_enter Try.func16, Try.ntmps16
  go_wp2_with fail
  refine region_seq (Below w.heap.size w) [(0, false), (1, false), (2, false), (3, false), (4, false), (5, false), (6, false), (7, false), (8, false), (9, false), (10, false)] (by kernel_rfl) (by kernel_rfl) rfl (by kernel_rfl) ?_
  iterate 11 (refine seq_read (v := _) rfl (fun _ _ _ h => h) hS (Or.inl ⟨by rfl, fun W hW => by go_simp <;> with_reducible rfl⟩) ?_; simp only [Act.put, List.setIfInBounds_toArray, List.set_cons_zero, List.set_cons_succ])
  refine seq_end ?_
  go_wp2_with fail
  go_ret
  exact ⟨rfl, (Below.refl _ _).drew⟩

/-- How many a ring of n has room for. -/
def capN (n : Int) : Nat := (min (max n 1) 256).toNat
theorem capN_le (n : Int) : 1 ≤ capN n ∧ capN n ≤ 256 := by unfold capN; omega
theorem made_cells (n : Nat) : (madeCells (clV cl0).cells (n * 4)) = (flat celL (List.replicate n cl0)).toArray := by
  apply Array.ext
  · rw [size_madeCells, List.size_toArray, flat_len, List.length_replicate]; rfl
  · intro j h1 h2
    rw [size_madeCells] at h1
    have hq : j / 4 < n := by omega
    have hy : (List.replicate n cl0)[j / 4]? = some cl0 := by rw [List.getElem?_replicate, if_pos hq]
    have he : j / 4 * 4 + j % 4 = j := by omega
    have h4 : j % 4 = 0 ∨ j % 4 = 1 ∨ j % 4 = 2 ∨ j % 4 = 3 := by omega
    rcases h4 with h0 | h0 | h0 | h0
    · have hg := flat_get celL (List.replicate n cl0) (j / 4) 0 _ _ hy rfl
      rw [show celL.s = 4 from rfl, show j / 4 * 4 + 0 = j from by omega] at hg
      have hg2 := (List.getElem?_eq_some_iff.1 hg).2
      simp [madeCells, h0, hg2, Value.cells]
    · have hg := flat_get celL (List.replicate n cl0) (j / 4) 1 _ _ hy rfl
      rw [show celL.s = 4 from rfl, show j / 4 * 4 + 1 = j from by omega] at hg
      have hg2 := (List.getElem?_eq_some_iff.1 hg).2
      simp [madeCells, h0, hg2, Value.cells]
    · have hg := flat_get celL (List.replicate n cl0) (j / 4) 2 _ _ hy rfl
      rw [show celL.s = 4 from rfl, show j / 4 * 4 + 2 = j from by omega] at hg
      have hg2 := (List.getElem?_eq_some_iff.1 hg).2
      simp [madeCells, h0, hg2, Value.cells]
    · have hg := flat_get celL (List.replicate n cl0) (j / 4) 3 _ _ hy rfl
      rw [show celL.s = 4 from rfl, show j / 4 * 4 + 3 = j from by omega] at hg
      have hg2 := (List.getElem?_eq_some_iff.1 hg).2
      simp [madeCells, h0, hg2, Value.cells]
theorem make_cells (n : Nat) (hn : n ≤ 256) (W : World) : (Instr.makeSlice 38 (.int .i64 n) (.int .i64 n)).run Try.prog W = .ok (.slice (some ⟨W.heap.size, 0, none⟩) n n) (W.alloc (.cells (flat celL (List.replicate n cl0)).toArray 32 (0, 0))) := by
  obtain ⟨i0, hi0, hz0, hz1, hz2⟩ := info_parts info_cel
  have := run_make (P := Try.prog) W 38 32 i0 _ Try.underlying38 hi0 hz0 .i64 .i64 n n (by omega) (Int.le_refl _) (by rw [hz2]; omega) (by omega)
  rw [this, hz1]
  simp only [Int.toNat_natCast]
  rw [made_cells n]
/-- A new ring. -/
def RetN (w : World) (n : Int) (e : Ending) (w' : World) : Prop := ∃ b g, e = .returned (.pointer (some ⟨b, 0, none⟩)) ∧ Rg w' b g (capN n) 0 (List.replicate (capN n) cl0) [] ∧ w.heap.size ≤ b ∧ w.heap.size ≤ g ∧ Below w.heap.size w w'
set_option maxHeartbeats 4000000 in
theorem new_any (w : World) (n : Int) (hw1 : -9223372036854775808 ≤ n) (hw2 : n ≤ 9223372036854775807) : Calls Try.prog 8 #[.int .i64 n] w (RetN w n) := by
  obtain ⟨N, hN⟩ : ∃ N, capN n = N := ⟨_, rfl⟩
  have hN1 : 1 ≤ N := by rw [← hN]; exact (capN_le n).1
  have hN2 : N ≤ 256 := by rw [← hN]; exact (capN_le n).2
  have hM := make_cells N hN2 w
  have hB := (Below.refl w.heap.size w).alloc (Nat.le_refl _) (.cells (flat celL (List.replicate N cl0)).toArray 32 (0, 0))
  have hW : Whole celL (w.alloc (.cells (flat celL (List.replicate N cl0)).toArray 32 (0, 0))) w.heap.size (List.replicate N cl0) := heap_alloc_new w _
  generalize w.alloc (.cells (flat celL (List.replicate N cl0)).toArray 32 (0, 0)) = w1 at *
  have fin : Hid (RetN w n (.returned (.pointer (some ⟨w1.heap.size, 0, none⟩))) (w1.alloc (.cells #[.slice (some ⟨w.heap.size, 0, none⟩) N N, .int .i64 0, .int .i64 0] 47 (0, 0)))) := by
    refine ⟨w1.heap.size, w.heap.size, rfl, ?_, hB.size, Nat.le_refl _, hB.alloc hB.size _⟩
    rw [hN]
    exact ⟨heap_alloc_new w1 _, Whole_bel hW ((Below.refl _ _).alloc (Nat.le_refl _) _), List.length_replicate, by omega, hN2, Nat.zero_le _, fun i x h => by simp at h⟩
  clear hB hW
  have h3 : n < 1 ∨ (1 ≤ n ∧ n ≤ 256) ∨ 256 < n := by omega
  unfold capN at hN
  rcases h3 with h | ⟨h, h'⟩ | h
  · obtain rfl : 1 = N := by omega
    rw [show ((1 : Nat) : Int) = 1 from rfl] at hM
    go_enter Try.func8, Try.ntmps8
    go_wp2
    go_ret
    exact fin.out
  · obtain rfl : n = (N : Int) := by omega
    go_enter Try.func8, Try.ntmps8
    go_wp2
    go_ret
    exact fin.out
  · obtain rfl : 256 = N := by omega
    rw [show ((256 : Nat) : Int) = 256 from rfl] at hM
    go_enter Try.func8, Try.ntmps8
    go_wp2
    go_ret
    exact fin.out
end Go.Proofs.Ytkajajihjohenaa.Rng
