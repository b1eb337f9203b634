/- The contracts of rtp.upToPayload, lay. -/
import Derived.Test.YtiamdaeodkiccaaKc
namespace Go.Proofs.Ytiamdaeodkiccaa.Rtp
open Go.RowKit
set_option linter.unusedVariables false

/-- Where the parts are, as a value. -/
abbrev lyt (c x f t : Int) : Value := .agg #[.int .i64 c, .int .i64 x, .int .i64 f, .int .i64 t]
def LBlk (w : World) (b : Nat) (c x f t : Int) : Prop := w.heap[b]? = some (.cells #[.int .i64 c, .int .i64 x, .int .i64 f, .int .i64 t] 51 (0, 0))
section
variable {w w' : World} {b B : Nat} {c x f t : Int}
theorem LBlk.new (w : World) (c x f t : Int) : LBlk (w.alloc (.cells #[.int .i64 c, .int .i64 x, .int .i64 f, .int .i64 t] 51)) w.heap.size c x f t := heap_alloc_new w _
theorem LBlk.below (h : LBlk w b c x f t) (hb : Below B w w') (hg : b < B) : LBlk w' b c x f t := (hb.block b hg).trans h
theorem LBlk.lt (h : LBlk w b c x f t) : b < w.heap.size := by
  rcases Nat.lt_or_ge b w.heap.size with hlt | hge
  · exact hlt
  · unfold LBlk at h; rw [Array.getElem?_eq_none hge] at h; cases h
theorem LBlk.c0 (h : LBlk w b c x f t) : w.cell? ⟨b, 0, none⟩ = some (.int .i64 c) := cell_of_row w b 0 _ 51 (0, 0) h
theorem LBlk.c1 (h : LBlk w b c x f t) : w.cell? ⟨b, 1, none⟩ = some (.int .i64 x) := cell_of_row w b 1 _ 51 (0, 0) h
theorem LBlk.c2 (h : LBlk w b c x f t) : w.cell? ⟨b, 2, none⟩ = some (.int .i64 f) := cell_of_row w b 2 _ 51 (0, 0) h
theorem LBlk.c3 (h : LBlk w b c x f t) : w.cell? ⟨b, 3, none⟩ = some (.int .i64 t) := cell_of_row w b 3 _ 51 (0, 0) h
theorem LBlk.frozen (h : LBlk w b c x f t) (i : Nat) : w.frozen? ⟨b, i, none⟩ = false := frozen_of_row w b i _ 51 h
theorem LBlk.store (h : LBlk w b c x f t) (c' x' f' t' : Int) :
    LBlk ((((w.setCell ⟨b, 0, none⟩ (.int .i64 c')).setCell ⟨b, 1, none⟩ (.int .i64 x')).setCell ⟨b, 2, none⟩ (.int .i64 f')).setCell ⟨b, 3, none⟩ (.int .i64 t')) b c' x' f' t' := by
  unfold LBlk at h ⊢
  have h1 := heap_setCell_same w b 0 _ 51 (.int .i64 c') h
  have h2 := heap_setCell_same _ b 1 _ 51 (.int .i64 x') h1
  have h3 := heap_setCell_same _ b 2 _ 51 (.int .i64 f') h2
  exact heap_setCell_same _ b 3 _ 51 (.int .i64 t') h3
theorem LBlk.set1 (h : LBlk w b c x f t) (x' : Int) : LBlk (w.setCell ⟨b, 1, none⟩ (.int .i64 x')) b c x' f t := heap_setCell_same w b 1 _ 51 (.int .i64 x') h
theorem LBlk.set2 (h : LBlk w b c x f t) (f' : Int) : LBlk (w.setCell ⟨b, 2, none⟩ (.int .i64 f')) b c x f' t := heap_setCell_same w b 2 _ 51 (.int .i64 f') h
theorem LBlk.set3 (h : LBlk w b c x f t) (t' : Int) : LBlk (w.setCell ⟨b, 3, none⟩ (.int .i64 t')) b c x f t' := heap_setCell_same w b 3 _ 51 (.int .i64 t') h
theorem LBlk.off (h : LBlk w b c x f t) {p : Addr} (hp : p.block ≠ b) (u : Value) : LBlk (w.setCell p u) b c x f t := (Below.heap_setCell w p u b (fun e => hp e.symm)).trans h
/-- Four stores at a block that lies above B. -/
theorem below_store (hb : Below B w w') (hB : B ≤ b) (u0 u1 u2 u3 : Value) :
    Below B w ((((w'.setCell ⟨b, 0, none⟩ u0).setCell ⟨b, 1, none⟩ u1).setCell ⟨b, 2, none⟩ u2).setCell ⟨b, 3, none⟩ u3) :=
  (((hb.setCell (p := ⟨b, 0, none⟩) hB u0).setCell (p := ⟨b, 1, none⟩) hB u1).setCell (p := ⟨b, 2, none⟩) hB u2).setCell (p := ⟨b, 3, none⟩) hB u3
end
def RetU (w : World) (c x f t : Int) (ok : Bool) (e : Ending) (w' : World) : Prop := e = .returned (.tuple #[lyt c x f t, .bool ok]) ∧ Below w.heap.size w w'
def RetL (w : World) (c x f t n : Int) (e : Ending) (w' : World) : Prop := e = .returned (.tuple #[lyt c x f t, .int .i64 n]) ∧ Below w.heap.size w w'
theorem retU_at {w W : World} {b : Nat} {c x f t : Int} {ok : Bool} {tmps : Array Value} (D : LBlk W b c x f t) (hb : Below w.heap.size w W)
    (h2 : tmps[2]?.getD undef = .pointer (some ⟨b, 0, none⟩) := by rfl) (h3 : tmps[3]?.getD undef = .bool ok := by rfl) :
    bodyPost Try.prog Try.f36 (RetU w c x f t ok) .ret ⟨tmps, []⟩ W := by
  have c0 := D.c0
  have c1 := D.c1
  have c2 := D.c2
  have c3 := D.c3
  exact bodyPost_ret (v := .tuple #[lyt c x f t, .bool ok]) (by simp [results, Try.results36, go_sem, h2, h3, c0, c1, c2, c3]) rfl ⟨rfl, hb⟩
theorem retL_at {w W : World} {b : Nat} {c x f t n : Int} {tmps : Array Value} (D : LBlk W b c x f t) (hb : Below w.heap.size w W)
    (h2 : tmps[2]?.getD undef = .pointer (some ⟨b, 0, none⟩) := by rfl) (h3 : tmps[3]?.getD undef = .int .i64 n := by rfl) :
    bodyPost Try.prog Try.f27 (RetL w c x f t n) .ret ⟨tmps, []⟩ W := by
  have c0 := D.c0
  have c1 := D.c1
  have c2 := D.c2
  have c3 := D.c3
  exact bodyPost_ret (v := .tuple #[lyt c x f t, .int .i64 n]) (by simp [results, Try.results27, go_sem, h2, h3, c0, c1, c2, c3]) rfl ⟨rfl, hb⟩

theorem LBlk.off4 {w : World} {b g : Nat} {c x f t : Int} (h : LBlk w b c x f t) (hg : g ≠ b) (u0 u1 u2 u3 : Value) :
    LBlk ((((w.setCell ⟨g, 0, none⟩ u0).setCell ⟨g, 1, none⟩ u1).setCell ⟨g, 2, none⟩ u2).setCell ⟨g, 3, none⟩ u3) b c x f t :=
  (((h.off (p := ⟨g, 0, none⟩) hg u0).off (p := ⟨g, 1, none⟩) hg u1).off (p := ⟨g, 2, none⟩) hg u2).off (p := ⟨g, 3, none⟩) hg u3

set_option maxHeartbeats 1000000 in
/-- No extension. -/
theorem upTo_plain (b off len cap : Nat) (x0 : Int) (c : Nat) (w : World) (hl : len ≤ 512) (h12 : 12 ≤ len) (hb : b < w.heap.size) (h0 : w.cell? ⟨b, off, none⟩ = some (.int .u8 x0)) (b0 : 0 ≤ x0 ∧ x0 ≤ 255)
    (hc : (c : Int) = 12 + 4 * (x0 % 16)) (hx : (bits BinOp.and IntKind.u8 x0 16 != 0) = false) :
    Calls Try.prog 36 #[.slice (some ⟨b, off, none⟩) len cap] w (RetU w c c c 0 (decide (c ≤ len))) := by
  have hp0 : 0 < len := by omega
  have e0 := and_15 x0 b0.1 b0.2
  have e1 : IntKind.i64.wrap (x0 % 16) = x0 % 16 := IntWalk.i64_in _ (by omega)
  have e2 : 12 + 4 * (x0 % 16) = (c : Int) := hc.symm
  have C0 : Hid (∀ W, Below w.heap.size w W → W.cell? ⟨b, off, none⟩ = some (.int .u8 x0)) := fun W hW => (hW.cell (p := ⟨b, off, none⟩) hb).trans h0
  clear h0 hc
  go_enter Try.func36, Try.ntmps36
  have c0 := C0.out _ ((Below.refl _ w).alloc (Nat.le_refl _) (.cells #[.int .i64 0, .int .i64 0, .int .i64 0, .int .i64 0] 51))
  have c0' := C0.out _ (((Below.refl _ w).alloc (Nat.le_refl _) (.cells #[.int .i64 0, .int .i64 0, .int .i64 0, .int .i64 0] 51)).alloc (by simp) (.cells #[.int .i64 c, .int .i64 c, .int .i64 c, .int .i64 0] 51))
  go_wp2_with fail
  clear c0 c0' C0 e0 e1 e2 hx
  have D2 := (LBlk.new w 0 0 0 0).below ((Below.refl (w.heap.size + 1) _).alloc (by simp) (.cells #[.int .i64 c, .int .i64 c, .int .i64 c, .int .i64 0] 51)) (Nat.lt_succ_self _)
  have D5 := LBlk.new (w.alloc (.cells #[.int .i64 0, .int .i64 0, .int .i64 0, .int .i64 0] 51)) c c c 0
  have hb2 := ((Below.refl w.heap.size w).alloc (Nat.le_refl _) (.cells #[.int .i64 0, .int .i64 0, .int .i64 0, .int .i64 0] 51)).alloc (by simp) (.cells #[.int .i64 c, .int .i64 c, .int .i64 c, .int .i64 0] 51)
  rw [show (w.alloc (.cells #[.int .i64 0, .int .i64 0, .int .i64 0, .int .i64 0] 51)).heap.size = w.heap.size + 1 from by simp] at D5
  generalize (w.alloc (.cells #[.int .i64 0, .int .i64 0, .int .i64 0, .int .i64 0] 51)).alloc (.cells #[.int .i64 c, .int .i64 c, .int .i64 c, .int .i64 0] 51) = w2 at *
  have hS : LBlk w2.drew (w.heap.size + 1) c c c 0 := D5
  have c0 : ∀ W, LBlk W (w.heap.size + 1) c c c 0 → W.cell? ⟨w.heap.size + 1, 0, none⟩ = some (.int .i64 c) := fun W h => h.c0
  have c1 : ∀ W, LBlk W (w.heap.size + 1) c c c 0 → W.cell? ⟨w.heap.size + 1, 1, none⟩ = some (.int .i64 c) := fun W h => h.c1
  have c2 : ∀ W, LBlk W (w.heap.size + 1) c c c 0 → W.cell? ⟨w.heap.size + 1, 2, none⟩ = some (.int .i64 c) := fun W h => h.c2
  have c3 : ∀ W, LBlk W (w.heap.size + 1) c c c 0 → W.cell? ⟨w.heap.size + 1, 3, none⟩ = some (.int .i64 0) := fun W h => h.c3
  refine region_seq (fun W => LBlk W (w.heap.size + 1) c c c 0) [(0, false), (1, false), (2, false), (3, false), (4, false), (5, false), (6, true), (7, false)] (by kernel_rfl) (by kernel_rfl) rfl (by kernel_rfl) ?_
  iterate 6 (refine seq_read (v := _) rfl (fun _ _ _ h => h) hS (Or.inl ⟨by rfl, fun W hW => by go_simp <;> with_reducible rfl⟩) ?_; simp only [Act.put, List.setIfInBounds_toArray, List.set_cons_zero, List.set_cons_succ])
  clear c0 c1 c2 c3
  have D3 : LBlk w2 w.heap.size 0 0 0 0 := D2
  have f0 := D3.c0
  have f1 := D3.c1
  have f2 := D3.c2
  have f3 := D3.c3
  have g0 := D3.frozen 0
  have g1 := D3.frozen 1
  have g2 := D3.frozen 2
  have g3 := D3.frozen 3
  refine seq_do rfl (fun K hK => ?_)
  go_simp
  refine hK.out _ _ (fun W => LBlk W (w.heap.size + 1) c c c 0) (fun W h => h) (LBlk.off4 (show LBlk w2 (w.heap.size + 1) _ _ _ _ from hS) (Nat.ne_of_lt (Nat.lt_succ_self w.heap.size)) _ _ _ _) ?_
  clear hK K f0 f1 f2 f3 g0 g1 g2 g3
  refine seq_read (v := _) rfl (fun _ _ _ h => h) (LBlk.off4 (show LBlk w2 (w.heap.size + 1) _ _ _ _ from hS) (Nat.ne_of_lt (Nat.lt_succ_self w.heap.size)) _ _ _ _) (Or.inl ⟨by rfl, fun W hW => by go_simp <;> with_reducible rfl⟩) ?_
  simp only [Act.put, List.setIfInBounds_toArray, List.set_cons_zero, List.set_cons_succ]
  refine seq_end ?_
  go_wp2
  exact retU_at (D3.store c c c 0) (below_store hb2 (Nat.le_refl _) _ _ _ _).drew

set_option maxHeartbeats 1000000 in
/-- The four bytes ahead of the extension are not all there. -/
theorem upTo_short (b off len cap : Nat) (x0 : Int) (c : Nat) (w : World) (hl : len ≤ 512) (h12 : 12 ≤ len) (hb : b < w.heap.size) (h0 : w.cell? ⟨b, off, none⟩ = some (.int .u8 x0)) (b0 : 0 ≤ x0 ∧ x0 ≤ 255)
    (hc : (c : Int) = 12 + 4 * (x0 % 16)) (hx : (bits BinOp.and IntKind.u8 x0 16 != 0) = true) (n : Int)
    (CG : Hid (∀ W, Below w.heap.size w W → Calls Try.prog 38 #[.slice (some ⟨b, off, none⟩) len cap, .int .i64 ((c : Int) + 2), .int .i64 2] W fun e w' => e = .returned (.tuple #[.int .u64 n, .bool false]) ∧ W = w')) :
    Calls Try.prog 36 #[.slice (some ⟨b, off, none⟩) len cap] w (RetU w 0 0 0 0 false) := by
  have hp0 : 0 < len := by omega
  have e0 := and_15 x0 b0.1 b0.2
  have e1 : IntKind.i64.wrap (x0 % 16) = x0 % 16 := IntWalk.i64_in _ (by omega)
  have e2 : 12 + 4 * (x0 % 16) = (c : Int) := hc.symm
  have hc1 : c ≤ 1000 := by omega
  have C0 : Hid (∀ W, Below w.heap.size w W → W.cell? ⟨b, off, none⟩ = some (.int .u8 x0)) := fun W hW => (hW.cell (p := ⟨b, off, none⟩) hb).trans h0
  clear h0 hc
  go_enter Try.func36, Try.ntmps36
  have c0 := C0.out _ ((Below.refl _ w).alloc (Nat.le_refl _) (.cells #[.int .i64 0, .int .i64 0, .int .i64 0, .int .i64 0] 51))
  have c0' := C0.out _ (((Below.refl _ w).alloc (Nat.le_refl _) (.cells #[.int .i64 0, .int .i64 0, .int .i64 0, .int .i64 0] 51)).alloc (by simp) (.cells #[.int .i64 c, .int .i64 c, .int .i64 c, .int .i64 0] 51))
  go_wp2_with fail
  clear c0 c0' C0 e0 e1 e2 hx
  have D2 := (LBlk.new w 0 0 0 0).below ((Below.refl (w.heap.size + 1) _).alloc (by simp) (.cells #[.int .i64 c, .int .i64 c, .int .i64 c, .int .i64 0] 51)) (Nat.lt_succ_self _)
  have hb2 := ((Below.refl w.heap.size w).alloc (Nat.le_refl _) (.cells #[.int .i64 0, .int .i64 0, .int .i64 0, .int .i64 0] 51)).alloc (by simp) (.cells #[.int .i64 c, .int .i64 c, .int .i64 c, .int .i64 0] 51)
  generalize (w.alloc (.cells #[.int .i64 0, .int .i64 0, .int .i64 0, .int .i64 0] 51)).alloc (.cells #[.int .i64 c, .int .i64 c, .int .i64 c, .int .i64 0] 51) = w2 at *
  refine (CG.out _ hb2).mono ?_
  rintro e w' ⟨rfl, rfl⟩
  have f0 := D2.c0
  have f1 := D2.c1
  have f2 := D2.c2
  have f3 := D2.c3
  have g0 := D2.frozen 0
  have g1 := D2.frozen 1
  have g2 := D2.frozen 2
  have g3 := D2.frozen 3
  go_wp2
  exact retU_at (D2.store 0 0 0 0) (below_store hb2 (Nat.le_refl _) _ _ _ _)

set_option maxHeartbeats 1000000 in
/-- With an extension. -/
theorem upTo_ext (b off len cap : Nat) (x0 : Int) (c : Nat) (w : World) (hl : len ≤ 512) (h12 : 12 ≤ len) (hb : b < w.heap.size) (h0 : w.cell? ⟨b, off, none⟩ = some (.int .u8 x0)) (b0 : 0 ≤ x0 ∧ x0 ≤ 255)
    (hc : (c : Int) = 12 + 4 * (x0 % 16)) (hx : (bits BinOp.and IntKind.u8 x0 16 != 0) = true) (n : Nat) (hn : n ≤ 65535)
    (CG : Hid (∀ W, Below w.heap.size w W → Calls Try.prog 38 #[.slice (some ⟨b, off, none⟩) len cap, .int .i64 ((c : Int) + 2), .int .i64 2] W fun e w' => e = .returned (.tuple #[.int .u64 n, .bool true]) ∧ W = w')) :
    Calls Try.prog 36 #[.slice (some ⟨b, off, none⟩) len cap] w (RetU w c ((c : Int) + 4) ((c : Int) + 4 + 4 * n) 0 (decide ((c : Int) + 4 + 4 * n ≤ len))) := by
  have hp0 : 0 < len := by omega
  have e0 := and_15 x0 b0.1 b0.2
  have e1 : IntKind.i64.wrap (x0 % 16) = x0 % 16 := IntWalk.i64_in _ (by omega)
  have e2 : 12 + 4 * (x0 % 16) = (c : Int) := hc.symm
  have hc1 : c ≤ 1000 := by omega
  have C0 : Hid (∀ W, Below w.heap.size w W → W.cell? ⟨b, off, none⟩ = some (.int .u8 x0)) := fun W hW => (hW.cell (p := ⟨b, off, none⟩) hb).trans h0
  clear h0 hc
  go_enter Try.func36, Try.ntmps36
  have c0 := C0.out _ ((Below.refl _ w).alloc (Nat.le_refl _) (.cells #[.int .i64 0, .int .i64 0, .int .i64 0, .int .i64 0] 51))
  have c0' := C0.out _ (((Below.refl _ w).alloc (Nat.le_refl _) (.cells #[.int .i64 0, .int .i64 0, .int .i64 0, .int .i64 0] 51)).alloc (by simp) (.cells #[.int .i64 c, .int .i64 c, .int .i64 c, .int .i64 0] 51))
  go_wp2_with fail
  clear c0 c0' C0 e0 e1 e2 hx
  have D2 := (LBlk.new w 0 0 0 0).below ((Below.refl (w.heap.size + 1) _).alloc (by simp) (.cells #[.int .i64 c, .int .i64 c, .int .i64 c, .int .i64 0] 51)) (Nat.lt_succ_self _)
  have D5 := LBlk.new (w.alloc (.cells #[.int .i64 0, .int .i64 0, .int .i64 0, .int .i64 0] 51)) c c c 0
  have hb2 := ((Below.refl w.heap.size w).alloc (Nat.le_refl _) (.cells #[.int .i64 0, .int .i64 0, .int .i64 0, .int .i64 0] 51)).alloc (by simp) (.cells #[.int .i64 c, .int .i64 c, .int .i64 c, .int .i64 0] 51)
  rw [show (w.alloc (.cells #[.int .i64 0, .int .i64 0, .int .i64 0, .int .i64 0] 51)).heap.size = w.heap.size + 1 from by simp] at D5
  generalize (w.alloc (.cells #[.int .i64 0, .int .i64 0, .int .i64 0, .int .i64 0] 51)).alloc (.cells #[.int .i64 c, .int .i64 c, .int .i64 c, .int .i64 0] 51) = w2 at *
  refine (CG.out _ hb2).mono ?_
  rintro e w' ⟨rfl, rfl⟩
  clear CG
  have k1 := D5.c1
  have k2 := D5.c2
  have j1 := D5.frozen 1
  have E5 := D5.set1 ((c : Int) + 4)
  have m1 := E5.c1
  have m2 := E5.c2
  have n2 := E5.frozen 2
  have F5 := E5.set2 ((c : Int) + 4 + 4 * n)
  have F2 := (D2.off (p := ⟨w.heap.size + 1, 1, none⟩) (by simp) (.int .i64 ((c : Int) + 4))).off (p := ⟨w.heap.size + 1, 2, none⟩) (by simp) (.int .i64 ((c : Int) + 4 + 4 * n))
  have hb3 := (hb2.setCell (p := ⟨w.heap.size + 1, 1, none⟩) (Nat.le_succ _) (.int .i64 ((c : Int) + 4))).setCell (p := ⟨w.heap.size + 1, 2, none⟩) (Nat.le_succ _) (.int .i64 ((c : Int) + 4 + 4 * n))
  clear D5 E5 D2
  go_wp2_with fail
  clear k1 k2 j1 m1 m2 n2
  generalize (w2.setCell ⟨w.heap.size + 1, 1, none⟩ (.int .i64 ((c : Int) + 4))).setCell ⟨w.heap.size + 1, 2, none⟩ (.int .i64 ((c : Int) + 4 + 4 * n)) = w3 at *
  obtain ⟨F, hF⟩ : ∃ F, (c : Int) + 4 + 4 * n = F := ⟨_, rfl⟩
  simp only [hF] at F5 ⊢
  have hS : LBlk w3.drew (w.heap.size + 1) c ((c : Int) + 4) F 0 := F5
  have c0 : ∀ W, LBlk W (w.heap.size + 1) c ((c : Int) + 4) F 0 → W.cell? ⟨w.heap.size + 1, 0, none⟩ = some (.int .i64 c) := fun W h => h.c0
  have c1 : ∀ W, LBlk W (w.heap.size + 1) c ((c : Int) + 4) F 0 → W.cell? ⟨w.heap.size + 1, 1, none⟩ = some (.int .i64 ((c : Int) + 4)) := fun W h => h.c1
  have c2 : ∀ W, LBlk W (w.heap.size + 1) c ((c : Int) + 4) F 0 → W.cell? ⟨w.heap.size + 1, 2, none⟩ = some (.int .i64 F) := fun W h => h.c2
  have c3 : ∀ W, LBlk W (w.heap.size + 1) c ((c : Int) + 4) F 0 → W.cell? ⟨w.heap.size + 1, 3, none⟩ = some (.int .i64 0) := fun W h => h.c3
  refine region_seq (fun W => LBlk W (w.heap.size + 1) c ((c : Int) + 4) F 0) [(0, false), (1, false), (2, false), (3, false), (4, false), (5, false), (6, true), (7, false)] (by kernel_rfl) (by kernel_rfl) rfl (by kernel_rfl) ?_
  iterate 6 (refine seq_read (v := _) rfl (fun _ _ _ h => h) hS (Or.inl ⟨by rfl, fun W hW => by go_simp <;> with_reducible rfl⟩) ?_; simp only [Act.put, List.setIfInBounds_toArray, List.set_cons_zero, List.set_cons_succ])
  clear c0 c1 c2 c3
  have D3 : LBlk w3 w.heap.size 0 0 0 0 := F2
  have f0 := D3.c0
  have f1 := D3.c1
  have f2 := D3.c2
  have f3 := D3.c3
  have g0 := D3.frozen 0
  have g1 := D3.frozen 1
  have g2 := D3.frozen 2
  have g3 := D3.frozen 3
  refine seq_do rfl (fun K hK => ?_)
  go_simp
  refine hK.out _ _ (fun W => LBlk W (w.heap.size + 1) c ((c : Int) + 4) F 0) (fun W h => h) (LBlk.off4 (show LBlk w3 (w.heap.size + 1) _ _ _ _ from hS) (Nat.ne_of_lt (Nat.lt_succ_self w.heap.size)) _ _ _ _) ?_
  clear hK K f0 f1 f2 f3 g0 g1 g2 g3
  refine seq_read (v := _) rfl (fun _ _ _ h => h) (LBlk.off4 (show LBlk w3 (w.heap.size + 1) _ _ _ _ from hS) (Nat.ne_of_lt (Nat.lt_succ_self w.heap.size)) _ _ _ _) (Or.inl ⟨by rfl, fun W hW => by go_simp <;> with_reducible rfl⟩) ?_
  simp only [Act.put, List.setIfInBounds_toArray, List.set_cons_zero, List.set_cons_succ]
  refine seq_end ?_
  go_wp2
  subst hF
  exact retU_at (D3.store c ((c : Int) + 4) _ 0) (below_store hb3 (Nat.le_refl _) _ _ _ _).drew

/-- The parts that stand ahead of the payload are all there. -/
def inB (b : List Int) : Bool := decide (at1 b ≤ b.length) && (!hasX b || decide (at1 b + 4 ≤ b.length)) && decide (at2 b ≤ b.length)
/-- The four bytes ahead of the extension are not all there. -/
def uS (b : List Int) : Bool := hasX b && decide (b.length < at1 b + 4)
def lX (b : List Int) : Int := if hasX b then (at1 b : Int) + 4 else at1 b
def uC (b : List Int) : Int := if uS b then 0 else at1 b
def uX (b : List Int) : Int := if uS b then 0 else lX b
def uF (b : List Int) : Int := if uS b then 0 else at2 b
theorem uS_in {b : List Int} (h : inB b = true) : uS b = false := by
  unfold inB at h
  unfold uS
  simp only [Bool.and_eq_true, Bool.or_eq_true, Bool.not_eq_true', decide_eq_true_eq] at h
  rcases h.1.2 with h' | h'
  · rw [h']; rfl
  · rw [decide_eq_false (by omega), Bool.and_false]
theorem upTo_any (a : Option Addr) (len cap B : Nat) (xs : List Int) (w : World) (hl : len ≤ 512) (h12 : 12 ≤ len) (hlc : len ≤ cap) (hr : Rd w B a len xs) (hB : B ≤ w.heap.size) :
    Calls Try.prog 36 #[.slice a len cap] w (RetU w (uC xs) (uX xs) (uF xs) 0 (inB xs)) := by
  have hx := hr.1
  obtain ⟨b, off, rfl, hlt, hcell⟩ := hr.2.2 (by omega)
  have h0 := hcell 0 (by omega)
  rw [Nat.add_zero] at h0
  have b0 := hr.2.1.getD 0
  have hc : (at1 xs : Int) = 12 + 4 * (xs.getD 0 0 % 16) := by unfold at1 ccN; omega
  have hxx := and_16 _ b0.1 b0.2
  rcases hX : hasX xs with _ | _
  · have hx' : (bits BinOp.and IntKind.u8 (xs.getD 0 0) 16 != 0) = false := by rw [hxx]; exact hX
    have ha2 : at2 xs = at1 xs := by rw [at2, hX]; rfl
    have hu : uS xs = false := by rw [uS, hX]; rfl
    have hlx : lX xs = at1 xs := by rw [lX, hX]; rfl
    have hi : inB xs = decide (at1 xs ≤ len) := by rw [inB, hX, ha2, hx]; by_cases q : at1 xs ≤ len <;> simp [q]
    rw [hi, uC, uX, uF, hu, hlx, ha2]
    exact upTo_plain b off len cap _ (at1 xs) w hl h12 (by omega) h0 b0 hc hx'
  · have hx' : (bits BinOp.and IntKind.u8 (xs.getD 0 0) 16 != 0) = true := by rw [hxx]; exact hX
    have ha2 : at2 xs = at1 xs + 4 + 4 * (nb xs (at1 xs + 2) 2).toNat := by rw [at2, hX]; rfl
    have hlx : lX xs = (at1 xs : Int) + 4 := by rw [lX, hX]; rfl
    have CG := fun W (hW : Below w.heap.size w W) => Fld.get_any (some ⟨b, off, none⟩) len cap B ((at1 xs : Int) + 2) 2 xs W (by unfold maxLen; omega) hlc (hr.below (hW.mono hB))
    by_cases hin : at1 xs + 4 ≤ len
    · have hu : uS xs = false := by rw [uS, hx, decide_eq_false (by omega), Bool.and_false]
      have hw : withinB len ((at1 xs : Int) + 2) 2 = true := by simp [withinB]; omega
      have hn := nb_bd xs hr.2.1 (at1 xs + 2) 2
      have hg : numGet xs ((at1 xs : Int) + 2) 2 = ((nb xs (at1 xs + 2) 2).toNat : Int) := by
        have hw' := hw
        rw [← hx] at hw'
        rw [numGet, hw', if_pos rfl, show (((at1 xs : Int) + 2).toNat) = at1 xs + 2 from by omega]
        show nb xs (at1 xs + 2) 2 = _
        omega
      rw [hw, hg] at CG
      have hi : inB xs = decide ((at1 xs : Int) + 4 + 4 * ((nb xs (at1 xs + 2) 2).toNat : Int) ≤ len) := by
        rw [inB, hX, ha2, hx, Bool.eq_iff_iff]; simp; omega
      have hf : (at2 xs : Int) = (at1 xs : Int) + 4 + 4 * ((nb xs (at1 xs + 2) 2).toNat : Int) := by rw [ha2]; omega
      rw [hi, uC, uX, uF, hu, hlx, hf]
      exact upTo_ext b off len cap _ (at1 xs) w hl h12 (by omega) h0 b0 hc hx' _ (by omega) CG
    · have hu : uS xs = true := by rw [uS, hX, hx, decide_eq_true (by omega)]; rfl
      have hw : withinB len ((at1 xs : Int) + 2) 2 = false := by simp [withinB]; omega
      rw [hw] at CG
      have hi : inB xs = false := by rw [inB, hX, hx, decide_eq_false hin]; simp
      rw [hi, uC, uX, uF, hu]
      exact upTo_short b off len cap _ (at1 xs) w hl h12 (by omega) h0 b0 hc hx' _ CG
end Go.Proofs.Ytiamdaeodkiccaa.Rtp
