/- The contract of desc.Get. · The contract of desc.Get, its further ways, and all of them together. · The contract of desc.Get, whatever the bytes; the contract of 'shown'. -/
import Derived.Test.YtdnnfoacpjgloaaDa
set_option maxRecDepth 100000
namespace Go.Proofs.Ytdnnfoacpjgloaa
open Go.RowKit
set_option linter.unusedVariables false

def formB (x0 x1 : Int) : Bool := mayB (x0 % 4) && firstV (x0 % 4) (keyV x0) (staV x0) == x0 && x1 == 90
def RetG (w : World) (l : Int) (k s : Bool) (f n : Int) (e : Ending) (w' : World) : Prop := e = .returned (.tuple #[dsc l k s f, .int .i64 n]) ∧ Below w.heap.size w w'

theorem DBlk.frozen {w : World} {b : Nat} {l f : Int} {k s : Bool} (h : DBlk w b l k s f) (i : Nat) : w.frozen? ⟨b, i, none⟩ = false := frozen_of_row w b i _ 82 h

theorem DBlk.store {w : World} {b : Nat} {l f : Int} {k s : Bool} (h : DBlk w b l k s f) (l' : Int) (k' s' : Bool) (f' : Int) :
    DBlk ((((w.setCell ⟨b, 0, none⟩ (.int .i64 l')).setCell ⟨b, 1, none⟩ (.bool k')).setCell ⟨b, 2, none⟩ (.bool s')).setCell ⟨b, 3, none⟩ (.int .u16 f')) b l' k' s' f' := by
  unfold DBlk at h ⊢
  have h1 := heap_setCell_same w b 0 _ 82 (.int .i64 l') h
  have h2 := heap_setCell_same _ b 1 _ 82 (.bool k') h1
  have h3 := heap_setCell_same _ b 2 _ 82 (.bool s') h2
  exact heap_setCell_same _ b 3 _ 82 (.int .u16 f') h3

/-- What Get ends with, once its first result lies whole in its cell. -/
theorem ret_at {w W : World} {b : Nat} {l f n : Int} {k s : Bool} {tmps : Array Value} (D : DBlk W b l k s f) (hb : Below w.heap.size w W)
    (h2 : tmps[2]?.getD undef = .pointer (some ⟨b, 0, none⟩) := by rfl) (h3 : tmps[3]?.getD undef = .int .i64 n := by rfl) :
    bodyPost Try.prog Try.f79 (RetG w l k s f n) .ret ⟨tmps, []⟩ W := by
  have c0 := D.c0
  have c1 := D.c1
  have c2 := D.c2
  have c3 := D.c3
  exact bodyPost_ret (v := .tuple #[dsc l k s f, .int .i64 n]) (by simp [results, Try.results79, go_sem, h2, h3, c0, c1, c2, c3]) rfl ⟨rfl, hb⟩

set_option maxHeartbeats 400000 in
theorem get_short (a : Option Addr) (len cap : Nat) (w : World) (h4 : len < 4) :
    Calls Try.prog 79 #[.slice a len cap] w (RetG w 0 false false 0 2) := by
  have hi : (len : Int) < 4 := by omega
  go_enter Try.func79, Try.ntmps79
  go_wp2
  exact bodyPost_ret (v := .tuple #[dsc 0 false false 0, .int .i64 2]) (by simp [results, Try.results79, go_sem]) rfl ⟨rfl, (Below.refl _ w).alloc (Nat.le_refl _) _⟩

set_option maxHeartbeats 1000000 in
theorem get_layer (b off len cap : Nat) (x0 x1 l f : Int) (k s : Bool) (w : World) (hl : len ≤ maxLen) (h4 : 4 ≤ len) (hb : b < w.heap.size)
    (C0 : Hid (∀ W, Below w.heap.size w W → W.cell? ⟨b, off, none⟩ = some (.int .u8 x0))) (C1 : Hid (∀ W, Below w.heap.size w W → W.cell? ⟨b, off + 1, none⟩ = some (.int .u8 x1)))
    (CR : Hid (∀ W, Below w.heap.size w W → Calls Try.prog 87 #[.slice (some ⟨b, off, none⟩) len cap] W (RetD W l k s f)))
    (CM : Hid (∀ W, Calls Try.prog 67 #[dsc l k s f] W fun e w' => e = .returned (.bool false) ∧ Below W.heap.size W w')) :
    Calls Try.prog 79 #[.slice (some ⟨b, off, none⟩) len cap] w (RetG w 0 false false 0 1) := by
  have hi : ¬ (len : Int) < 4 := by omega
  have hp0 : 0 < len := by omega
  have hp1 : 1 < len := by omega
  have hi1 : (1 : Int) < len := by omega
  unfold maxLen at hl
  go_enter Try.func79, Try.ntmps79
  go_wp2_with fail
  refine (CR.out _ ((Below.refl _ w).alloc (Nat.le_refl _) _)).mono ?_
  rintro e w1 ⟨rfl, hb1⟩
  have D1 : DBlk w1 w.heap.size 0 false false 0 := (DBlk.new w 0 false false 0).below hb1 (by simp)
  have H1 : Hid (Below w.heap.size w w1) := ((Below.refl w.heap.size w).alloc (Nat.le_refl _) _).trans (hb1.mono (by simp))
  have hz : w.heap.size < w1.heap.size := D1.lt
  clear hb1
  go_wp2_with fail
  obtain ⟨w2, hw2⟩ : ∃ w2, w1.alloc (.cells #[.int .i64 l, .bool k, .bool s, .int .u16 f] 82) = w2 := ⟨_, rfl⟩
  have D2 : DBlk w2 w1.heap.size l k s f := hw2 ▸ DBlk.new w1 l k s f
  have hb2 : Below w1.heap.size w1 w2 := hw2 ▸ (Below.refl _ _).alloc (Nat.le_refl _) _
  have D0 : DBlk w2 w.heap.size 0 false false 0 := D1.below hb2 D1.lt
  have H2 : Hid (Below w.heap.size w w2) := H1.out.trans (hb2.mono H1.out.size)
  rw [hw2]
  generalize w1.heap.size = g at *
  have HZ2 : Hid (g < w2.heap.size) := D2.lt
  clear hw2 hb2 D1 H1 w1
  have c0 : ∀ W, Below w2.heap.size w2 W → W.cell? ⟨g, 0, none⟩ = some (.int .i64 l) := fun W hW => (D2.below hW D2.lt).c0
  have c1 : ∀ W, Below w2.heap.size w2 W → W.cell? ⟨g, 1, none⟩ = some (.bool k) := fun W hW => (D2.below hW D2.lt).c1
  have c2 : ∀ W, Below w2.heap.size w2 W → W.cell? ⟨g, 2, none⟩ = some (.bool s) := fun W hW => (D2.below hW D2.lt).c2
  have c3 : ∀ W, Below w2.heap.size w2 W → W.cell? ⟨g, 3, none⟩ = some (.int .u16 f) := fun W hW => (D2.below hW D2.lt).c3
  have b0 : ∀ W, Below w2.heap.size w2 W → W.cell? ⟨b, off, none⟩ = some (.int .u8 x0) := fun W hW => C0.out W (H2.out.trans (hW.mono H2.out.size))
  have b1 : ∀ W, Below w2.heap.size w2 W → W.cell? ⟨b, off + 1, none⟩ = some (.int .u8 x1) := fun W hW => C1.out W (H2.out.trans (hW.mono H2.out.size))
  have hS : Below w2.heap.size w2 w2.drew := (Below.refl _ w2).drew
  refine region_seq (fun W => Below w2.heap.size w2 W) [(0, false), (1, true), (2, false), (3, false), (4, false), (6, false), (7, false), (8, false), (5, true), (9, false), (10, false), (11, false), (12, false), (13, false), (14, false), (15, false), (16, false)] (by kernel_rfl) (by kernel_rfl) rfl (by kernel_rfl) ?_
  iterate 1 (refine seq_read (v := _) rfl (fun _ _ _ h => h) hS (Or.inl ⟨by rfl, fun W hW => by go_simp <;> with_reducible rfl⟩) ?_; simp only [Act.put, List.setIfInBounds_toArray, List.set_cons_zero, List.set_cons_succ])
  refine seq_do rfl (fun K hK => ?_)
  go_simp
  refine (CM.out _).mono ?_
  rintro e w3 ⟨rfl, hb3⟩
  have hb23 : Below w2.heap.size w2 w3 := hS.trans hb3
  refine hK.out _ _ (fun W => Below w2.heap.size w2 W) (fun W hW => hW) hb23 ?_
  clear hK K hS hb3
  have hS := hb23
  iterate 2 (refine seq_read (v := _) rfl (fun _ _ _ h => h) hS (Or.inl ⟨by rfl, fun W hW => by go_simp <;> with_reducible rfl⟩) ?_; simp only [Act.put, List.setIfInBounds_toArray, List.set_cons_zero, List.set_cons_succ])
  iterate 4 (refine seq_read (v := undef) rfl (fun _ _ _ h => h) hS (Or.inr ⟨by rfl, rfl⟩) ?_; simp only [Act.put, List.setIfInBounds_toArray, List.set_cons_zero, List.set_cons_succ])
  refine seq_pass rfl (by rfl) hS ?_
  simp only [Act.put, List.setIfInBounds_toArray, List.set_cons_zero, List.set_cons_succ]
  iterate 1 (refine seq_read (v := undef) rfl (fun _ _ _ h => h) hS (Or.inr ⟨by rfl, rfl⟩) ?_; simp only [Act.put, List.setIfInBounds_toArray, List.set_cons_zero, List.set_cons_succ])
  iterate 2 (refine seq_read (v := _) rfl (fun _ _ _ h => h) hS (Or.inl ⟨by rfl, fun W hW => by go_simp <;> with_reducible rfl⟩) ?_; simp only [Act.put, List.setIfInBounds_toArray, List.set_cons_zero, List.set_cons_succ])
  iterate 4 (refine seq_read (v := undef) rfl (fun _ _ _ h => h) hS (Or.inr ⟨by rfl, rfl⟩) ?_; simp only [Act.put, List.setIfInBounds_toArray, List.set_cons_zero, List.set_cons_succ])
  iterate 1 (refine seq_read (v := _) rfl (fun _ _ _ h => h) hS (Or.inl ⟨by rfl, fun W hW => by go_simp <;> with_reducible rfl⟩) ?_; simp only [Act.put, List.setIfInBounds_toArray, List.set_cons_zero, List.set_cons_succ])
  refine seq_end ?_
  have D3 := D0.below hb23 D0.lt
  have f0 := D3.c0
  have f1 := D3.c1
  have f2 := D3.c2
  have f3 := D3.c3
  have g0 := D3.frozen 0
  have g1 := D3.frozen 1
  have g2 := D3.frozen 2
  have g3 := D3.frozen 3
  clear c0 c1 c2 c3 b0 b1
  go_wp2
  have D4 := D3.store 0 false false 0
  have hb4 := ((((Below.refl w.heap.size w3).setCell (p := ⟨w.heap.size, 0, none⟩) (Nat.le_refl _) (.int .i64 0)).setCell (p := ⟨w.heap.size, 1, none⟩) (Nat.le_refl _) (.bool false)).setCell (p := ⟨w.heap.size, 2, none⟩) (Nat.le_refl _) (.bool false)).setCell (p := ⟨w.heap.size, 3, none⟩) (Nat.le_refl _) (.int .u16 0)
  have hb := H2.out.trans ((hb23.mono H2.out.size).trans hb4)
  exact ret_at D4 hb
end Go.Proofs.Ytdnnfoacpjgloaa

namespace Go.Proofs.Ytdnnfoacpjgloaa
open Go.RowKit
set_option linter.unusedVariables false

set_option maxHeartbeats 1000000 in
theorem get_bits (b off len cap : Nat) (x0 x1 l f : Int) (k s : Bool) (w : World) (hl : len ≤ maxLen) (h4 : 4 ≤ len) (hb : b < w.heap.size)
    (C0 : Hid (∀ W, Below w.heap.size w W → W.cell? ⟨b, off, none⟩ = some (.int .u8 x0))) (C1 : Hid (∀ W, Below w.heap.size w W → W.cell? ⟨b, off + 1, none⟩ = some (.int .u8 x1)))
    (CR : Hid (∀ W, Below w.heap.size w W → Calls Try.prog 87 #[.slice (some ⟨b, off, none⟩) len cap] W (RetD W l k s f)))
    (CM : Hid (∀ W, Calls Try.prog 67 #[dsc l k s f] W fun e w' => e = .returned (.bool true) ∧ Below W.heap.size W w')) (y : Int)
    (CF : Hid (∀ W, Calls Try.prog 68 #[dsc l k s f] W fun e w' => e = .returned (.int .u8 y) ∧ Below W.heap.size W w')) (hy : (y != x0) = true) :
    Calls Try.prog 79 #[.slice (some ⟨b, off, none⟩) len cap] w (RetG w 0 false false 0 1) := by
  have hi : ¬ (len : Int) < 4 := by omega
  have hp0 : 0 < len := by omega
  have hp1 : 1 < len := by omega
  have hi1 : (1 : Int) < len := by omega
  unfold maxLen at hl
  go_enter Try.func79, Try.ntmps79
  go_wp2_with fail
  refine (CR.out _ ((Below.refl _ w).alloc (Nat.le_refl _) _)).mono ?_
  rintro e w1 ⟨rfl, hb1⟩
  have D1 : DBlk w1 w.heap.size 0 false false 0 := (DBlk.new w 0 false false 0).below hb1 (by simp)
  have H1 : Hid (Below w.heap.size w w1) := ((Below.refl w.heap.size w).alloc (Nat.le_refl _) _).trans (hb1.mono (by simp))
  have hz : w.heap.size < w1.heap.size := D1.lt
  clear hb1
  go_wp2_with fail
  obtain ⟨w2, hw2⟩ : ∃ w2, w1.alloc (.cells #[.int .i64 l, .bool k, .bool s, .int .u16 f] 82) = w2 := ⟨_, rfl⟩
  have D2 : DBlk w2 w1.heap.size l k s f := hw2 ▸ DBlk.new w1 l k s f
  have hb2 : Below w1.heap.size w1 w2 := hw2 ▸ (Below.refl _ _).alloc (Nat.le_refl _) _
  have D0 : DBlk w2 w.heap.size 0 false false 0 := D1.below hb2 D1.lt
  have H2 : Hid (Below w.heap.size w w2) := H1.out.trans (hb2.mono H1.out.size)
  rw [hw2]
  generalize w1.heap.size = g at *
  have HZ2 : Hid (g < w2.heap.size) := D2.lt
  clear hw2 hb2 D1 H1 w1
  have c0 : ∀ W, Below w2.heap.size w2 W → W.cell? ⟨g, 0, none⟩ = some (.int .i64 l) := fun W hW => (D2.below hW D2.lt).c0
  have c1 : ∀ W, Below w2.heap.size w2 W → W.cell? ⟨g, 1, none⟩ = some (.bool k) := fun W hW => (D2.below hW D2.lt).c1
  have c2 : ∀ W, Below w2.heap.size w2 W → W.cell? ⟨g, 2, none⟩ = some (.bool s) := fun W hW => (D2.below hW D2.lt).c2
  have c3 : ∀ W, Below w2.heap.size w2 W → W.cell? ⟨g, 3, none⟩ = some (.int .u16 f) := fun W hW => (D2.below hW D2.lt).c3
  have b0 : ∀ W, Below w2.heap.size w2 W → W.cell? ⟨b, off, none⟩ = some (.int .u8 x0) := fun W hW => C0.out W (H2.out.trans (hW.mono H2.out.size))
  have b1 : ∀ W, Below w2.heap.size w2 W → W.cell? ⟨b, off + 1, none⟩ = some (.int .u8 x1) := fun W hW => C1.out W (H2.out.trans (hW.mono H2.out.size))
  have hS : Below w2.heap.size w2 w2.drew := (Below.refl _ w2).drew
  refine region_seq (fun W => Below w2.heap.size w2 W) [(0, false), (1, true), (2, false), (3, false), (4, false), (6, false), (7, false), (8, false), (5, true), (9, false), (10, false), (11, false), (12, false), (13, false), (14, false), (15, false), (16, false)] (by kernel_rfl) (by kernel_rfl) rfl (by kernel_rfl) ?_
  iterate 1 (refine seq_read (v := _) rfl (fun _ _ _ h => h) hS (Or.inl ⟨by rfl, fun W hW => by go_simp <;> with_reducible rfl⟩) ?_; simp only [Act.put, List.setIfInBounds_toArray, List.set_cons_zero, List.set_cons_succ])
  refine seq_do rfl (fun K hK => ?_)
  go_simp
  refine (CM.out _).mono ?_
  rintro e w3 ⟨rfl, hb3⟩
  have hb23 : Below w2.heap.size w2 w3 := hS.trans hb3
  refine hK.out _ _ (fun W => Below w2.heap.size w2 W) (fun W hW => hW) hb23 ?_
  clear hK K hS hb3
  have hS := hb23
  iterate 2 (refine seq_read (v := _) rfl (fun _ _ _ h => h) hS (Or.inl ⟨by rfl, fun W hW => by go_simp <;> with_reducible rfl⟩) ?_; simp only [Act.put, List.setIfInBounds_toArray, List.set_cons_zero, List.set_cons_succ])
  iterate 4 (refine seq_read (v := _) rfl (fun _ _ _ h => h) hS (Or.inl ⟨by rfl, fun W hW => by go_simp <;> with_reducible rfl⟩) ?_; simp only [Act.put, List.setIfInBounds_toArray, List.set_cons_zero, List.set_cons_succ])
  refine seq_do rfl (fun K hK => ?_)
  go_simp
  refine (CF.out _).mono ?_
  rintro e w4 ⟨rfl, hb4⟩
  have hb24 : Below w2.heap.size w2 w4 := hb23.trans (hb4.mono hb23.size)
  refine hK.out _ _ (fun W => Below w2.heap.size w2 W) (fun W hW => hW) hb24 ?_
  clear hK K hS hb4 hb23
  have hS := hb24
  iterate 3 (refine seq_read (v := _) rfl (fun _ _ _ h => h) hS (Or.inl ⟨by rfl, fun W hW => by go_simp <;> with_reducible rfl⟩) ?_; simp only [Act.put, List.setIfInBounds_toArray, List.set_cons_zero, List.set_cons_succ])
  iterate 4 (refine seq_read (v := undef) rfl (fun _ _ _ h => h) hS (Or.inr ⟨by rfl, rfl⟩) ?_; simp only [Act.put, List.setIfInBounds_toArray, List.set_cons_zero, List.set_cons_succ])
  iterate 1 (refine seq_read (v := _) rfl (fun _ _ _ h => h) hS (Or.inl ⟨by rfl, fun W hW => by go_simp <;> with_reducible rfl⟩) ?_; simp only [Act.put, List.setIfInBounds_toArray, List.set_cons_zero, List.set_cons_succ])
  refine seq_end ?_
  have D3 := D0.below hb24 D0.lt
  have E3 := D2.below hb24 D2.lt
  clear c0 c1 c2 c3 b0 b1
  have f0 := D3.c0
  have f1 := D3.c1
  have f2 := D3.c2
  have f3 := D3.c3
  have g0 := D3.frozen 0
  have g1 := D3.frozen 1
  have g2 := D3.frozen 2
  have g3 := D3.frozen 3
  go_wp2
  have D4 := D3.store 0 false false 0
  have hb4 := ((((Below.refl w.heap.size w4).setCell (p := ⟨w.heap.size, 0, none⟩) (Nat.le_refl _) (.int .i64 0)).setCell (p := ⟨w.heap.size, 1, none⟩) (Nat.le_refl _) (.bool false)).setCell (p := ⟨w.heap.size, 2, none⟩) (Nat.le_refl _) (.bool false)).setCell (p := ⟨w.heap.size, 3, none⟩) (Nat.le_refl _) (.int .u16 0)
  have hb := H2.out.trans ((hb24.mono H2.out.size).trans hb4)
  exact ret_at D4 hb

set_option maxHeartbeats 1000000 in
theorem get_mark (b off len cap : Nat) (x0 x1 l f : Int) (k s : Bool) (w : World) (hl : len ≤ maxLen) (h4 : 4 ≤ len) (hb : b < w.heap.size)
    (C0 : Hid (∀ W, Below w.heap.size w W → W.cell? ⟨b, off, none⟩ = some (.int .u8 x0))) (C1 : Hid (∀ W, Below w.heap.size w W → W.cell? ⟨b, off + 1, none⟩ = some (.int .u8 x1)))
    (CR : Hid (∀ W, Below w.heap.size w W → Calls Try.prog 87 #[.slice (some ⟨b, off, none⟩) len cap] W (RetD W l k s f)))
    (CM : Hid (∀ W, Calls Try.prog 67 #[dsc l k s f] W fun e w' => e = .returned (.bool true) ∧ Below W.heap.size W w')) (y : Int)
    (CF : Hid (∀ W, Calls Try.prog 68 #[dsc l k s f] W fun e w' => e = .returned (.int .u8 y) ∧ Below W.heap.size W w')) (hy : (y != x0) = false) (hx : (x1 != 90) = true) :
    Calls Try.prog 79 #[.slice (some ⟨b, off, none⟩) len cap] w (RetG w 0 false false 0 1) := by
  have hi : ¬ (len : Int) < 4 := by omega
  have hp0 : 0 < len := by omega
  have hp1 : 1 < len := by omega
  have hi1 : (1 : Int) < len := by omega
  unfold maxLen at hl
  go_enter Try.func79, Try.ntmps79
  go_wp2_with fail
  refine (CR.out _ ((Below.refl _ w).alloc (Nat.le_refl _) _)).mono ?_
  rintro e w1 ⟨rfl, hb1⟩
  have D1 : DBlk w1 w.heap.size 0 false false 0 := (DBlk.new w 0 false false 0).below hb1 (by simp)
  have H1 : Hid (Below w.heap.size w w1) := ((Below.refl w.heap.size w).alloc (Nat.le_refl _) _).trans (hb1.mono (by simp))
  have hz : w.heap.size < w1.heap.size := D1.lt
  clear hb1
  go_wp2_with fail
  obtain ⟨w2, hw2⟩ : ∃ w2, w1.alloc (.cells #[.int .i64 l, .bool k, .bool s, .int .u16 f] 82) = w2 := ⟨_, rfl⟩
  have D2 : DBlk w2 w1.heap.size l k s f := hw2 ▸ DBlk.new w1 l k s f
  have hb2 : Below w1.heap.size w1 w2 := hw2 ▸ (Below.refl _ _).alloc (Nat.le_refl _) _
  have D0 : DBlk w2 w.heap.size 0 false false 0 := D1.below hb2 D1.lt
  have H2 : Hid (Below w.heap.size w w2) := H1.out.trans (hb2.mono H1.out.size)
  rw [hw2]
  generalize w1.heap.size = g at *
  have HZ2 : Hid (g < w2.heap.size) := D2.lt
  clear hw2 hb2 D1 H1 w1
  have c0 : ∀ W, Below w2.heap.size w2 W → W.cell? ⟨g, 0, none⟩ = some (.int .i64 l) := fun W hW => (D2.below hW D2.lt).c0
  have c1 : ∀ W, Below w2.heap.size w2 W → W.cell? ⟨g, 1, none⟩ = some (.bool k) := fun W hW => (D2.below hW D2.lt).c1
  have c2 : ∀ W, Below w2.heap.size w2 W → W.cell? ⟨g, 2, none⟩ = some (.bool s) := fun W hW => (D2.below hW D2.lt).c2
  have c3 : ∀ W, Below w2.heap.size w2 W → W.cell? ⟨g, 3, none⟩ = some (.int .u16 f) := fun W hW => (D2.below hW D2.lt).c3
  have b0 : ∀ W, Below w2.heap.size w2 W → W.cell? ⟨b, off, none⟩ = some (.int .u8 x0) := fun W hW => C0.out W (H2.out.trans (hW.mono H2.out.size))
  have b1 : ∀ W, Below w2.heap.size w2 W → W.cell? ⟨b, off + 1, none⟩ = some (.int .u8 x1) := fun W hW => C1.out W (H2.out.trans (hW.mono H2.out.size))
  have hS : Below w2.heap.size w2 w2.drew := (Below.refl _ w2).drew
  refine region_seq (fun W => Below w2.heap.size w2 W) [(0, false), (1, true), (2, false), (3, false), (4, false), (6, false), (7, false), (8, false), (5, true), (9, false), (10, false), (11, false), (12, false), (13, false), (14, false), (15, false), (16, false)] (by kernel_rfl) (by kernel_rfl) rfl (by kernel_rfl) ?_
  iterate 1 (refine seq_read (v := _) rfl (fun _ _ _ h => h) hS (Or.inl ⟨by rfl, fun W hW => by go_simp <;> with_reducible rfl⟩) ?_; simp only [Act.put, List.setIfInBounds_toArray, List.set_cons_zero, List.set_cons_succ])
  refine seq_do rfl (fun K hK => ?_)
  go_simp
  refine (CM.out _).mono ?_
  rintro e w3 ⟨rfl, hb3⟩
  have hb23 : Below w2.heap.size w2 w3 := hS.trans hb3
  refine hK.out _ _ (fun W => Below w2.heap.size w2 W) (fun W hW => hW) hb23 ?_
  clear hK K hS hb3
  have hS := hb23
  iterate 2 (refine seq_read (v := _) rfl (fun _ _ _ h => h) hS (Or.inl ⟨by rfl, fun W hW => by go_simp <;> with_reducible rfl⟩) ?_; simp only [Act.put, List.setIfInBounds_toArray, List.set_cons_zero, List.set_cons_succ])
  iterate 4 (refine seq_read (v := _) rfl (fun _ _ _ h => h) hS (Or.inl ⟨by rfl, fun W hW => by go_simp <;> with_reducible rfl⟩) ?_; simp only [Act.put, List.setIfInBounds_toArray, List.set_cons_zero, List.set_cons_succ])
  refine seq_do rfl (fun K hK => ?_)
  go_simp
  refine (CF.out _).mono ?_
  rintro e w4 ⟨rfl, hb4⟩
  have hb24 : Below w2.heap.size w2 w4 := hb23.trans (hb4.mono hb23.size)
  refine hK.out _ _ (fun W => Below w2.heap.size w2 W) (fun W hW => hW) hb24 ?_
  clear hK K hS hb4 hb23
  have hS := hb24
  iterate 3 (refine seq_read (v := _) rfl (fun _ _ _ h => h) hS (Or.inl ⟨by rfl, fun W hW => by go_simp <;> with_reducible rfl⟩) ?_; simp only [Act.put, List.setIfInBounds_toArray, List.set_cons_zero, List.set_cons_succ])
  iterate 4 (refine seq_read (v := _) rfl (fun _ _ _ h => h) hS (Or.inl ⟨by rfl, fun W hW => by go_simp <;> with_reducible rfl⟩) ?_; simp only [Act.put, List.setIfInBounds_toArray, List.set_cons_zero, List.set_cons_succ])
  iterate 1 (refine seq_read (v := _) rfl (fun _ _ _ h => h) hS (Or.inl ⟨by rfl, fun W hW => by go_simp <;> with_reducible rfl⟩) ?_; simp only [Act.put, List.setIfInBounds_toArray, List.set_cons_zero, List.set_cons_succ])
  refine seq_end ?_
  have D3 := D0.below hb24 D0.lt
  have E3 := D2.below hb24 D2.lt
  clear c0 c1 c2 c3 b0 b1
  have f0 := D3.c0
  have f1 := D3.c1
  have f2 := D3.c2
  have f3 := D3.c3
  have g0 := D3.frozen 0
  have g1 := D3.frozen 1
  have g2 := D3.frozen 2
  have g3 := D3.frozen 3
  go_wp2
  have D4 := D3.store 0 false false 0
  have hb4 := ((((Below.refl w.heap.size w4).setCell (p := ⟨w.heap.size, 0, none⟩) (Nat.le_refl _) (.int .i64 0)).setCell (p := ⟨w.heap.size, 1, none⟩) (Nat.le_refl _) (.bool false)).setCell (p := ⟨w.heap.size, 2, none⟩) (Nat.le_refl _) (.bool false)).setCell (p := ⟨w.heap.size, 3, none⟩) (Nat.le_refl _) (.int .u16 0)
  have hb := H2.out.trans ((hb24.mono H2.out.size).trans hb4)
  exact ret_at D4 hb

set_option maxHeartbeats 1000000 in
theorem get_all (b off len cap : Nat) (x0 x1 l f : Int) (k s : Bool) (w : World) (hl : len ≤ maxLen) (h4 : 4 ≤ len) (hb : b < w.heap.size)
    (C0 : Hid (∀ W, Below w.heap.size w W → W.cell? ⟨b, off, none⟩ = some (.int .u8 x0))) (C1 : Hid (∀ W, Below w.heap.size w W → W.cell? ⟨b, off + 1, none⟩ = some (.int .u8 x1)))
    (CR : Hid (∀ W, Below w.heap.size w W → Calls Try.prog 87 #[.slice (some ⟨b, off, none⟩) len cap] W (RetD W l k s f)))
    (CM : Hid (∀ W, Calls Try.prog 67 #[dsc l k s f] W fun e w' => e = .returned (.bool true) ∧ Below W.heap.size W w')) (y : Int)
    (CF : Hid (∀ W, Calls Try.prog 68 #[dsc l k s f] W fun e w' => e = .returned (.int .u8 y) ∧ Below W.heap.size W w')) (hy : (y != x0) = false) (hx : (x1 != 90) = false) :
    Calls Try.prog 79 #[.slice (some ⟨b, off, none⟩) len cap] w (RetG w l k s f 0) := by
  have hi : ¬ (len : Int) < 4 := by omega
  have hp0 : 0 < len := by omega
  have hp1 : 1 < len := by omega
  have hi1 : (1 : Int) < len := by omega
  unfold maxLen at hl
  go_enter Try.func79, Try.ntmps79
  go_wp2_with fail
  refine (CR.out _ ((Below.refl _ w).alloc (Nat.le_refl _) _)).mono ?_
  rintro e w1 ⟨rfl, hb1⟩
  have D1 : DBlk w1 w.heap.size 0 false false 0 := (DBlk.new w 0 false false 0).below hb1 (by simp)
  have H1 : Hid (Below w.heap.size w w1) := ((Below.refl w.heap.size w).alloc (Nat.le_refl _) _).trans (hb1.mono (by simp))
  have hz : w.heap.size < w1.heap.size := D1.lt
  clear hb1
  go_wp2_with fail
  obtain ⟨w2, hw2⟩ : ∃ w2, w1.alloc (.cells #[.int .i64 l, .bool k, .bool s, .int .u16 f] 82) = w2 := ⟨_, rfl⟩
  have D2 : DBlk w2 w1.heap.size l k s f := hw2 ▸ DBlk.new w1 l k s f
  have hb2 : Below w1.heap.size w1 w2 := hw2 ▸ (Below.refl _ _).alloc (Nat.le_refl _) _
  have D0 : DBlk w2 w.heap.size 0 false false 0 := D1.below hb2 D1.lt
  have H2 : Hid (Below w.heap.size w w2) := H1.out.trans (hb2.mono H1.out.size)
  rw [hw2]
  generalize w1.heap.size = g at *
  have HZ2 : Hid (g < w2.heap.size) := D2.lt
  clear hw2 hb2 D1 H1 w1
  have c0 : ∀ W, Below w2.heap.size w2 W → W.cell? ⟨g, 0, none⟩ = some (.int .i64 l) := fun W hW => (D2.below hW D2.lt).c0
  have c1 : ∀ W, Below w2.heap.size w2 W → W.cell? ⟨g, 1, none⟩ = some (.bool k) := fun W hW => (D2.below hW D2.lt).c1
  have c2 : ∀ W, Below w2.heap.size w2 W → W.cell? ⟨g, 2, none⟩ = some (.bool s) := fun W hW => (D2.below hW D2.lt).c2
  have c3 : ∀ W, Below w2.heap.size w2 W → W.cell? ⟨g, 3, none⟩ = some (.int .u16 f) := fun W hW => (D2.below hW D2.lt).c3
  have b0 : ∀ W, Below w2.heap.size w2 W → W.cell? ⟨b, off, none⟩ = some (.int .u8 x0) := fun W hW => C0.out W (H2.out.trans (hW.mono H2.out.size))
  have b1 : ∀ W, Below w2.heap.size w2 W → W.cell? ⟨b, off + 1, none⟩ = some (.int .u8 x1) := fun W hW => C1.out W (H2.out.trans (hW.mono H2.out.size))
  have hS : Below w2.heap.size w2 w2.drew := (Below.refl _ w2).drew
  refine region_seq (fun W => Below w2.heap.size w2 W) [(0, false), (1, true), (2, false), (3, false), (4, false), (6, false), (7, false), (8, false), (5, true), (9, false), (10, false), (11, false), (12, false), (13, false), (14, false), (15, false), (16, false)] (by kernel_rfl) (by kernel_rfl) rfl (by kernel_rfl) ?_
  iterate 1 (refine seq_read (v := _) rfl (fun _ _ _ h => h) hS (Or.inl ⟨by rfl, fun W hW => by go_simp <;> with_reducible rfl⟩) ?_; simp only [Act.put, List.setIfInBounds_toArray, List.set_cons_zero, List.set_cons_succ])
  refine seq_do rfl (fun K hK => ?_)
  go_simp
  refine (CM.out _).mono ?_
  rintro e w3 ⟨rfl, hb3⟩
  have hb23 : Below w2.heap.size w2 w3 := hS.trans hb3
  refine hK.out _ _ (fun W => Below w2.heap.size w2 W) (fun W hW => hW) hb23 ?_
  clear hK K hS hb3
  have hS := hb23
  iterate 2 (refine seq_read (v := _) rfl (fun _ _ _ h => h) hS (Or.inl ⟨by rfl, fun W hW => by go_simp <;> with_reducible rfl⟩) ?_; simp only [Act.put, List.setIfInBounds_toArray, List.set_cons_zero, List.set_cons_succ])
  iterate 4 (refine seq_read (v := _) rfl (fun _ _ _ h => h) hS (Or.inl ⟨by rfl, fun W hW => by go_simp <;> with_reducible rfl⟩) ?_; simp only [Act.put, List.setIfInBounds_toArray, List.set_cons_zero, List.set_cons_succ])
  refine seq_do rfl (fun K hK => ?_)
  go_simp
  refine (CF.out _).mono ?_
  rintro e w4 ⟨rfl, hb4⟩
  have hb24 : Below w2.heap.size w2 w4 := hb23.trans (hb4.mono hb23.size)
  refine hK.out _ _ (fun W => Below w2.heap.size w2 W) (fun W hW => hW) hb24 ?_
  clear hK K hS hb4 hb23
  have hS := hb24
  iterate 3 (refine seq_read (v := _) rfl (fun _ _ _ h => h) hS (Or.inl ⟨by rfl, fun W hW => by go_simp <;> with_reducible rfl⟩) ?_; simp only [Act.put, List.setIfInBounds_toArray, List.set_cons_zero, List.set_cons_succ])
  iterate 4 (refine seq_read (v := _) rfl (fun _ _ _ h => h) hS (Or.inl ⟨by rfl, fun W hW => by go_simp <;> with_reducible rfl⟩) ?_; simp only [Act.put, List.setIfInBounds_toArray, List.set_cons_zero, List.set_cons_succ])
  iterate 1 (refine seq_read (v := _) rfl (fun _ _ _ h => h) hS (Or.inl ⟨by rfl, fun W hW => by go_simp <;> with_reducible rfl⟩) ?_; simp only [Act.put, List.setIfInBounds_toArray, List.set_cons_zero, List.set_cons_succ])
  refine seq_end ?_
  have D3 := D0.below hb24 D0.lt
  have E3 := D2.below hb24 D2.lt
  clear c0 c1 c2 c3 b0 b1
  have f0 := D3.c0
  have f1 := D3.c1
  have f2 := D3.c2
  have f3 := D3.c3
  have g0 := D3.frozen 0
  have g1 := D3.frozen 1
  have g2 := D3.frozen 2
  have g3 := D3.frozen 3
  have i0 := E3.c0
  have i1 := E3.c1
  have i2 := E3.c2
  have i3 := E3.c3
  go_wp2
  have D4 := D3.store l k s f
  have hb4 := ((((Below.refl w.heap.size w4).setCell (p := ⟨w.heap.size, 0, none⟩) (Nat.le_refl _) (.int .i64 l)).setCell (p := ⟨w.heap.size, 1, none⟩) (Nat.le_refl _) (.bool k)).setCell (p := ⟨w.heap.size, 2, none⟩) (Nat.le_refl _) (.bool s)).setCell (p := ⟨w.heap.size, 3, none⟩) (Nat.le_refl _) (.int .u16 f)
  have hb := H2.out.trans ((hb24.mono H2.out.size).trans hb4)
  exact ret_at D4 hb

end Go.Proofs.Ytdnnfoacpjgloaa

namespace Go.Proofs.Ytdnnfoacpjgloaa
open Go.RowKit
set_option linter.unusedVariables false

def gOk (xs : List Int) : Bool := decide (4 ≤ xs.length) && formB (xs.getD 0 0) (xs.getD 1 0)
def gE (xs : List Int) : Int := if xs.length < 4 then 2 else if formB (xs.getD 0 0) (xs.getD 1 0) then 0 else 1
def gL (xs : List Int) : Int := if gOk xs then xs.getD 0 0 % 4 else 0
def gK (xs : List Int) : Bool := gOk xs && keyV (xs.getD 0 0)
def gS (xs : List Int) : Bool := gOk xs && staV (xs.getD 0 0)
def gF (xs : List Int) : Int := if gOk xs then xs.getD 2 0 * 256 + xs.getD 3 0 else 0

theorem get_any (a : Option Addr) (len cap B : Nat) (xs : List Int) (w : World) (hl : len ≤ maxLen) (hr : Rd w B a len xs) (hB : B ≤ w.heap.size) :
    Calls Try.prog 79 #[.slice a len cap] w (RetG w (gL xs) (gK xs) (gS xs) (gF xs) (gE xs)) := by
  have hx := hr.1
  rcases Nat.lt_or_ge len 4 with h4 | h4
  · have ho : gOk xs = false := by simp [gOk]; omega
    have he : gE xs = 2 := by rw [gE, if_pos (by omega)]
    rw [gL, gK, gS, gF, ho, he]
    exact get_short a len cap w h4
  · obtain ⟨b, off, rfl, hb, hc⟩ := hr.2.2 (by omega)
    have hb' : b < w.heap.size := by omega
    have b0 := hr.2.1.getD 0
    have b1 := hr.2.1.getD 1
    have b2 := hr.2.1.getD 2
    have b3 := hr.2.1.getD 3
    have h0 := hc 0 (by omega)
    have h1 := hc 1 (by omega)
    have h2 := hc 2 (by omega)
    have h3 := hc 3 (by omega)
    rw [Nat.add_zero] at h0
    have ho : gOk xs = formB (xs.getD 0 0) (xs.getD 1 0) := by rw [gOk, decide_eq_true (by omega), Bool.true_and]
    have he : gE xs = if formB (xs.getD 0 0) (xs.getD 1 0) then 0 else 1 := by rw [gE, if_neg (by omega)]
    rw [gL, gK, gS, gF, ho, he]
    clear ho he hc
    generalize xs.getD 0 0 = x0 at *
    generalize xs.getD 1 0 = x1 at *
    generalize xs.getD 2 0 = x2 at *
    generalize xs.getD 3 0 = x3 at *
    have C0 : Hid (∀ W, Below w.heap.size w W → W.cell? ⟨b, off, none⟩ = some (.int .u8 x0)) := fun W hW => (hW.cell (p := ⟨b, off, none⟩) hb').trans h0
    have C1 : Hid (∀ W, Below w.heap.size w W → W.cell? ⟨b, off + 1, none⟩ = some (.int .u8 x1)) := fun W hW => (hW.cell (p := ⟨b, off + 1, none⟩) hb').trans h1
    have CR : Hid (∀ W, Below w.heap.size w W → Calls Try.prog 87 #[.slice (some ⟨b, off, none⟩) len cap] W (RetD W (x0 % 4) (keyV x0) (staV x0) (x2 * 256 + x3))) := fun W hW =>
      read_any b off len cap x0 x1 x2 x3 W hl h4 (Nat.lt_of_lt_of_le hb' hW.size) ((hW.cell (p := ⟨b, off, none⟩) hb').trans h0) ((hW.cell (p := ⟨b, off + 2, none⟩) hb').trans h2) ((hW.cell (p := ⟨b, off + 3, none⟩) hb').trans h3) b0 b2 b3
    have CM : ∀ W, Calls Try.prog 67 #[dsc (x0 % 4) (keyV x0) (staV x0) (x2 * 256 + x3)] W fun e w' => e = .returned (.bool (mayB (x0 % 4))) ∧ Below W.heap.size W w' := fun W => may_any _ _ _ _ W
    have CF : Hid (∀ W, Calls Try.prog 68 #[dsc (x0 % 4) (keyV x0) (staV x0) (x2 * 256 + x3)] W fun e w' => e = .returned (.int .u8 (firstV (x0 % 4) (keyV x0) (staV x0))) ∧ Below W.heap.size W w') := fun W => first_any _ _ _ _ W (by omega) (by omega)
    rcases hm : mayB (x0 % 4) with _ | _
    · have hf : formB x0 x1 = false := by simp [formB, hm]
      rw [hf]
      rw [hm] at CM
      exact get_layer b off len cap x0 x1 _ _ _ _ w hl h4 hb' C0 C1 CR CM
    · rw [hm] at CM
      rcases hy : (firstV (x0 % 4) (keyV x0) (staV x0) != x0) with _ | _
      · rcases hx1 : (x1 != 90) with _ | _
        · have hf : formB x0 x1 = true := by
            rw [formB, hm, Bool.true_and, Bool.and_eq_true]
            simp only [bne_eq_false_iff_eq] at hy hx1
            exact ⟨by rw [hy, beq_self_eq_true], by rw [hx1]; rfl⟩
          rw [hf]
          exact get_all b off len cap x0 x1 _ _ _ _ w hl h4 hb' C0 C1 CR CM _ CF hy hx1
        · have hf : formB x0 x1 = false := by
            rw [formB]
            rw [bne, Bool.not_eq_true'] at hx1
            rw [hx1, Bool.and_false]
          rw [hf]
          exact get_mark b off len cap x0 x1 _ _ _ _ w hl h4 hb' C0 C1 CR CM _ CF hy hx1
      · have hf : formB x0 x1 = false := by
          rw [formB]
          have hy' := hy
          rw [bne, Bool.not_eq_true'] at hy'
          rw [hy', Bool.and_false, Bool.false_and]
        rw [hf]
        exact get_bits b off len cap x0 x1 _ _ _ _ w hl h4 hb' C0 C1 CR CM _ CF hy

theorem alloc4 (w : World) (x y z u : Int) : Blk (w.alloc (.cells #[.int .u8 x, .int .u8 y, .int .u8 z, .int .u8 u] 5)) w.heap.size [x, y, z, u] [] := alloc_blk w [x, y, z, u]
theorem alloc5 (w : World) (x y z u v : Int) : Blk (w.alloc (.cells #[.int .u8 x, .int .u8 y, .int .u8 z, .int .u8 u, .int .u8 v] 5)) w.heap.size [x, y, z, u, v] [] := alloc_blk w [x, y, z, u, v]

theorem box (w : World) (l : Int) (k s : Bool) (f : Int) : Below w.heap.size w (w.alloc (.cells #[.int .i64 l, .bool k, .bool s, .int .u16 f] 82)) := (Below.refl _ _).alloc (Nat.le_refl _) _

theorem form_put (l : Int) (k s : Bool) (h0 : 0 ≤ l) (h2 : l ≤ 2) : firstV l k s % 4 = l ∧ keyV (firstV l k s) = k ∧ staV (firstV l k s) = s ∧ formB (firstV l k s) 90 = true := by
  obtain rfl | rfl | rfl : l = 0 ∨ l = 1 ∨ l = 2 := by omega
  all_goals (cases k <;> cases s <;> decide +kernel)
/-- What is put is read, whatever is behind it. -/
theorem put_get (l : Int) (k s : Bool) (f : Int) (ys : List Int) (h0 : 0 ≤ l) (h2 : l ≤ 2) (hf0 : 0 ≤ f) (hf : f ≤ 65535) :
    gL (putV l k s f ++ ys) = l ∧ gK (putV l k s f ++ ys) = k ∧ gS (putV l k s f ++ ys) = s ∧ gF (putV l k s f ++ ys) = f ∧ gE (putV l k s f ++ ys) = 0 := by
  obtain ⟨e1, e2, e3, e4⟩ := form_put l k s h0 h2
  have ho : gOk (putV l k s f ++ ys) = true := by
    show (decide (4 ≤ (putV l k s f ++ ys).length) && formB (firstV l k s) 90) = true
    rw [e4, Bool.and_true]
    simp [putV]
  refine ⟨?_, ?_, ?_, ?_, ?_⟩
  · rw [gL, ho]; exact e1
  · rw [gK, ho]; exact e2
  · rw [gS, ho]; exact e3
  · rw [gF, ho]
    show f / 256 * 256 + f % 256 = f
    omega
  · rw [gE, if_neg (by simp [putV])]
    show (if formB (firstV l k s) 90 = true then (0 : Int) else 1) = 0
    rw [e4]; rfl
theorem putV_bytes (l : Int) (k s : Bool) (f : Int) (h0 : 0 ≤ l) (h2 : l ≤ 2) (hf0 : 0 ≤ f) (hf : f ≤ 65535) : Bytes (putV l k s f) := by
  have := firstV_bd h0 (show l ≤ 3 by omega) k s
  intro x hx
  simp only [putV, List.mem_cons, List.not_mem_nil, or_false] at hx
  omega

theorem form_no (a : Int) (h0 : 0 ≤ a) (h1 : a ≤ 255) (h : formB a 90 = false) : (bits BinOp.and IntKind.u8 a 60 != 0) = true ∨ ((bits BinOp.and IntKind.u8 a 60 != 0) = false ∧ (bits BinOp.and IntKind.u8 a 3 == 3) = true) := by
  have := byte_all (fun a => formB a 90 || (bits BinOp.and IntKind.u8 a 60 != 0) || (bits BinOp.and IntKind.u8 a 3 == 3)) (by decide +kernel) a h0 h1
  simp only [h, Bool.false_or, Bool.or_eq_true] at this
  rcases hb : (bits BinOp.and IntKind.u8 a 60 != 0) with _ | _
  · rw [hb] at this
    exact .inr ⟨rfl, by simpa using this⟩
  · exact .inl rfl

theorem four {a b c d : Int} (h0 : 0 ≤ a ∧ a ≤ 255) (h1 : 0 ≤ b ∧ b ≤ 255) (h2 : 0 ≤ c ∧ c ≤ 255) (h3 : 0 ≤ d ∧ d ≤ 255) : Bytes [a, b, c, d] := by
  intro x hx
  simp only [List.mem_cons, List.not_mem_nil, or_false] at hx
  omega

/-- Four bytes that are none. -/
theorem four_no (a b c d : Int) (hf : formB a b = false) : gL [a, b, c, d] = 0 ∧ gK [a, b, c, d] = false ∧ gS [a, b, c, d] = false ∧ gF [a, b, c, d] = 0 ∧ gE [a, b, c, d] = 1 := by
  have ho : gOk [a, b, c, d] = false := by simp [gOk, hf]
  refine ⟨by rw [gL, ho]; rfl, by rw [gK, ho]; rfl, by rw [gS, ho]; rfl, by rw [gF, ho]; rfl, ?_⟩
  simp [gE, hf]
theorem four_yes (a b c d : Int) (hf : formB a b = true) : gL [a, b, c, d] = a % 4 ∧ gK [a, b, c, d] = keyV a ∧ gS [a, b, c, d] = staV a ∧ gF [a, b, c, d] = c * 256 + d ∧ gE [a, b, c, d] = 0 := by
  have ho : gOk [a, b, c, d] = true := by simp [gOk, hf]
  refine ⟨by rw [gL, ho]; rfl, by rw [gK, ho]; rfl, by rw [gS, ho]; rfl, by rw [gF, ho]; rfl, ?_⟩
  simp [gE, hf]

end Go.Proofs.Ytdnnfoacpjgloaa
