/- The contracts of arena's Slots, Take; of all of them at a nil arena. -/
import Derived.Test.YtachodjpiklpkaaEh
set_option maxRecDepth 100000
namespace Go.Proofs.Ytachodjpiklpkaa.Arn
open Go.RowKit
set_option linter.unusedVariables false

set_option maxHeartbeats 4000000 in
theorem slots_any (w : World) (b g : Nat) (L : List Slt) (hA : Ar w b g L) (hL : L.length ≤ 1024) :
    Calls Try.prog 22 #[.pointer (some ⟨b, 0, none⟩)] w (RetS w L) := by
  have CC : Hid (∀ W, Below w.heap.size w W → Calls Try.prog 28 #[.slice (some ⟨g, 0, none⟩) L.length L.length] W (RetS W L)) := fun W hW => clone_any W g L (hA.bel hW).row hL
  have c := hA.c0
  clear hA
  go_enter Try.func22, Try.ntmps22
  go_wp2_with fail
  refine (CC.out w (Below.refl _ _)).mono ?_
  rintro e w1 ⟨A, c1, rfl, ho, hb⟩
  have H1 := Lib.hid (And.intro ho hb)
  clear ho hb
  go_wp2
  go_ret
  exact ⟨A, c1, rfl, H1.out.1, H1.out.2⟩

def takeH (L : List Slt) : Int × Int := match leastF L with | some k => ((k : Int), (L.getD k (0, 0)).1) | none => (0, 0)
def takeE (L : List Slt) : Int := if (leastF L).isSome then 0 else 6
def takeL (L : List Slt) : List Slt := match leastF L with | some k => L.set k ((L.getD k (0, 0)).1, 1) | none => L
theorem take_cases (L : List Slt) : (leastF L = none ∧ takeH L = (0, 0) ∧ takeE L = 6 ∧ takeL L = L ∧ idxV L = -1) ∨ ∃ (k : Nat) (g : Int), leastF L = some k ∧ L[k]? = some (g, 0) ∧ takeH L = ((k : Int), g) ∧ takeE L = 0 ∧ takeL L = L.set k (g, 1) ∧ idxV L = k := by
  cases h : leastF L with
  | none => exact .inl ⟨rfl, by simp [takeH, h], by simp [takeE, h], by simp [takeL, h], by simp [idxV, h]⟩
  | some k =>
    obtain ⟨g, hg, -⟩ := leastF_some h
    exact .inr ⟨k, g, rfl, hg, by simp [takeH, h, hg], by simp [takeE, h], by simp [takeL, h, hg], by simp [idxV, h]⟩
theorem takeL_len (L : List Slt) : (takeL L).length = L.length := by
  rcases take_cases L with ⟨-, -, -, h, -⟩ | ⟨k, g, -, -, -, -, h, -⟩ <;> rw [h]
  rw [List.length_set]
theorem OkS.take {M : Int} {L : List Slt} (h : OkS M L) (hM : 1 ≤ M) : OkS M (takeL L) := by
  rcases take_cases L with ⟨-, -, -, e, -⟩ | ⟨k, g, -, hk, -, -, e, -⟩ <;> rw [e]
  · exact h
  · exact h.set k _ ⟨(h.at_ hk).1, by show (0 : Int) ≤ 1; decide, hM⟩
/-- A handle at block b. -/
def HBlk (w : World) (b : Nat) (s g : Int) : Prop := w.heap[b]? = some (hnO s g)
section
variable {w w' : World} {b : Nat} {s g : Int}
theorem HBlk.c0 (h : HBlk w b s g) : w.cell? ⟨b, 0, none⟩ = some (.int .i64 s) := by rw [cell_of_row w b 0 _ _ _ h]; rfl
theorem HBlk.c1 (h : HBlk w b s g) : w.cell? ⟨b, 1, none⟩ = some (.int .u32 g) := by rw [cell_of_row w b 1 _ _ _ h]; rfl
theorem HBlk.frozen (h : HBlk w b s g) (i : Nat) : w.frozen? ⟨b, i, none⟩ = false := frozen_of_row w b i _ _ h
theorem HBlk.lt (h : HBlk w b s g) : b < w.heap.size := lt_of_some h
theorem HBlk.new (w : World) (s g : Int) : HBlk (w.alloc (hnO s g)) w.heap.size s g := heap_alloc_new w _
theorem HBlk.bel {B : Nat} (h : HBlk w b s g) (hb : Below B w w') (hB : b < B) : HBlk w' b s g := (hb.block b hB).trans h
theorem HBlk.upd {S : Nat → Prop} (h : HBlk w b s g) (hu : Upd S w w') (hS : ¬ S b) : HBlk w' b s g := hu.keep h hS
theorem HBlk.store (h : HBlk w b s g) (s' g' : Int) : HBlk ((w.setCell ⟨b, 0, none⟩ (.int .i64 s')).setCell ⟨b, 1, none⟩ (.int .u32 g')) b s' g' := by
  have h1 := heap_setCell_same w b 0 _ _ (.int .i64 s') h
  have h2 := heap_setCell_same (w.setCell ⟨b, 0, none⟩ (.int .i64 s')) b 1 _ _ (.int .u32 g') h1
  exact h2
end
theorem retT_at {f : Func} {R : Ending → World → Prop} {W : World} {b : Nat} {s g n : Int} {tmps : Array Value} (hf : f.results = #[.cell 2 31, .tmp 3]) (D : HBlk W b s g) (hR : R (.returned (.tuple #[hnV s g, .int .i64 n])) W)
    (h2 : tmps[2]?.getD undef = .pointer (some ⟨b, 0, none⟩) := by rfl) (h3 : tmps[3]?.getD undef = .int .i64 n := by rfl) : bodyPost Try.prog f R .ret ⟨tmps, []⟩ W := by
  have c0 := D.c0
  have c1 := D.c1
  exact bodyPost_ret (v := .tuple #[hnV s g, .int .i64 n]) (by simp [results, hf, go_sem, h2, h3, c0, c1]) rfl hR

set_option maxHeartbeats 4000000 in
theorem take_nil (w : World) : Calls Try.prog 11 #[.pointer none] w fun e w' => e = .returned (.tuple #[hnV 0 0, .int .i64 6]) ∧ Below w.heap.size w w' := by
  have HB := Lib.hid ((Below.refl w.heap.size w).alloc (Nat.le_refl _) (hnO 0 0))
  have D := HBlk.new w 0 0
  have f0 := D.frozen 0
  have f1 := D.frozen 1
  have d0 := D.c0
  have d1 := D.c1
  go_enter Try.func11, Try.ntmps11
  go_wp2
  exact retT_at Try.results11 D ⟨rfl, HB.out⟩
set_option maxHeartbeats 4000000 in
theorem live_nil (w : World) (s gn : Int) : Calls Try.prog 26 #[.pointer none, hnV s gn] w fun e w' => e = .returned (.pointer none) ∧ Below w.heap.size w w' := by
  have HB := Lib.hid ((Below.refl w.heap.size w).alloc (Nat.le_refl _) (hnO s gn))
  have hS : Below (w.alloc (hnO s gn)).heap.size (w.alloc (hnO s gn)) (w.alloc (hnO s gn)).drew := (Below.refl _ _).drew
  go_enter Try.func26, Try.ntmps26
  go_wp2_with fail
  refine region_seq (Below (w.alloc (hnO s gn)).heap.size (w.alloc (hnO s gn))) [(0, false), (1, false), (2, false), (3, false), (4, false), (5, false), (6, false), (7, false), (8, false), (9, false), (10, false), (11, false), (12, false), (13, false), (14, false), (15, false), (16, false)] (by kernel_rfl) (by kernel_rfl) rfl (by kernel_rfl) ?_
  iterate 3 (refine seq_read (v := _) rfl (fun _ _ _ h => h) hS (Or.inl ⟨by rfl, fun W hW => by go_simp <;> with_reducible rfl⟩) ?_; simp only [Act.put, List.setIfInBounds_toArray, List.set_cons_zero, List.set_cons_succ])
  iterate 3 (refine seq_read (v := undef) rfl (fun _ _ _ h => h) hS (Or.inr ⟨by rfl, rfl⟩) ?_; simp only [Act.put, List.setIfInBounds_toArray, List.set_cons_zero, List.set_cons_succ])
  iterate 2 (refine seq_read (v := _) rfl (fun _ _ _ h => h) hS (Or.inl ⟨by rfl, fun W hW => by go_simp <;> with_reducible rfl⟩) ?_; simp only [Act.put, List.setIfInBounds_toArray, List.set_cons_zero, List.set_cons_succ])
  iterate 8 (refine seq_read (v := undef) rfl (fun _ _ _ h => h) hS (Or.inr ⟨by rfl, rfl⟩) ?_; simp only [Act.put, List.setIfInBounds_toArray, List.set_cons_zero, List.set_cons_succ])
  iterate 1 (refine seq_read (v := _) rfl (fun _ _ _ h => h) hS (Or.inl ⟨by rfl, fun W hW => by go_simp <;> with_reducible rfl⟩) ?_; simp only [Act.put, List.setIfInBounds_toArray, List.set_cons_zero, List.set_cons_succ])
  refine seq_end ?_
  go_wp2_with fail
  go_ret
  exact ⟨rfl, HB.out.drew⟩
set_option maxHeartbeats 4000000 in
theorem keep_nil (w : World) (s gn : Int) : Calls Try.prog 13 #[.pointer none, hnV s gn] w fun e w' => e = .returned (.int .i64 7) ∧ Below w.heap.size w w' := by
  have HB := Lib.hid ((Below.refl w.heap.size w).alloc (Nat.le_refl _) (hnO s gn))
  have d0 := (HBlk.new w s gn).c0
  have d1 := (HBlk.new w s gn).c1
  go_enter Try.func13, Try.ntmps13
  go_wp2_with fail
  refine (live_nil _ s gn).mono ?_
  rintro e w1 ⟨rfl, hb⟩
  have H1 := Lib.hid (HB.out.trans (hb.mono HB.out.size))
  clear hb d0 d1
  go_wp2
  go_ret
  exact ⟨rfl, H1.out⟩
set_option maxHeartbeats 4000000 in
theorem drop_nil (w : World) (s gn : Int) : Calls Try.prog 15 #[.pointer none, hnV s gn] w fun e w' => e = .returned (.int .i64 7) ∧ Below w.heap.size w w' := by
  have HB := Lib.hid ((Below.refl w.heap.size w).alloc (Nat.le_refl _) (hnO s gn))
  have d0 := (HBlk.new w s gn).c0
  have d1 := (HBlk.new w s gn).c1
  go_enter Try.func15, Try.ntmps15
  go_wp2_with fail
  refine (live_nil _ s gn).mono ?_
  rintro e w1 ⟨rfl, hb⟩
  have H1 := Lib.hid (HB.out.trans (hb.mono HB.out.size))
  clear hb d0 d1
  go_wp2
  go_ret
  exact ⟨rfl, H1.out⟩
set_option maxHeartbeats 4000000 in
theorem refs_nil (w : World) (s gn : Int) : Calls Try.prog 17 #[.pointer none, hnV s gn] w fun e w' => e = .returned (.int .i64 0) ∧ Below w.heap.size w w' := by
  have HB := Lib.hid ((Below.refl w.heap.size w).alloc (Nat.le_refl _) (hnO s gn))
  have d0 := (HBlk.new w s gn).c0
  have d1 := (HBlk.new w s gn).c1
  go_enter Try.func17, Try.ntmps17
  go_wp2_with fail
  refine (live_nil _ s gn).mono ?_
  rintro e w1 ⟨rfl, hb⟩
  have H1 := Lib.hid (HB.out.trans (hb.mono HB.out.size))
  clear hb d0 d1
  go_wp2
  go_ret
  exact ⟨rfl, H1.out⟩
theorem free_nil (w : World) : Calls Try.prog 19 #[.pointer none] w fun e w' => e = .returned (.int .i64 0) ∧ w = w' := by
  go_enter Try.func19, Try.ntmps19
  go_wp2
  go_ret
  exact ⟨rfl, rfl⟩
theorem slots_nil (w : World) : Calls Try.prog 22 #[.pointer none] w fun e w' => e = .returned (.slice none 0 0) ∧ w = w' := by
  go_enter Try.func22, Try.ntmps22
  go_wp2
  go_ret
  exact ⟨rfl, rfl⟩

set_option maxHeartbeats 4000000 in
theorem take_any (w : World) (b g : Nat) (L : List Slt) (hA : Ar w b g L) (hL : L.length ≤ 1024) :
    Calls Try.prog 11 #[.pointer (some ⟨b, 0, none⟩)] w fun e w' => e = .returned (.tuple #[hnV (takeH L).1 (takeH L).2, .int .i64 (takeE L)]) ∧ Ar w' b g (takeL L) ∧ Upd (· = g) w w' := by
  have CI : Hid (∀ W, Below w.heap.size w W → Calls Try.prog 24 #[.slice (some ⟨g, 0, none⟩) L.length L.length, .func (.func 25) #[] #[]] W fun e w' => e = .returned (.int .i64 (idxV L)) ∧ Below W.heap.size W w') :=
    fun W hW => index_any W W.heap.size L.length L.length _ L (hA.bel hW).row.rd (Nat.le_refl _) hL
  have HB := Lib.hid ((Below.refl w.heap.size w).alloc (Nat.le_refl _) (hnO 0 0))
  have D : Hid (HBlk (w.alloc (hnO 0 0)) w.heap.size 0 0) := HBlk.new w 0 0
  have c := (hA.bel HB.out).c0
  have HA := Lib.hid hA
  clear hA
  rcases take_cases L with ⟨-, e1, e2, e3, e4⟩ | ⟨k, x, -, hk, e1, e2, e3, e4⟩
  · rw [e1, e2, e3]
    rw [e4] at CI
    clear e1 e2 e3 e4
    go_enter Try.func11, Try.ntmps11
    go_wp2_with fail
    refine (CI.out _ HB.out).mono ?_
    rintro e w1 ⟨rfl, hb⟩
    have H1 := Lib.hid (HB.out.trans (hb.mono HB.out.size))
    have D1 := D.out.bel hb (by simp)
    clear hb D c
    have f0 := D1.frozen 0
    have f1 := D1.frozen 1
    have d0 := D1.c0
    have d1 := D1.c1
    go_wp2_with fail
    have HU := Lib.hid (((Upd.of (S := (· = g)) H1.out).setCell (b := w.heap.size) (i := 0) (.inr (Nat.le_refl _)) (.int .i64 0)).setCell (b := w.heap.size) (i := 1) (.inr (Nat.le_refl _)) (.int .u32 0))
    have hbb : Below w.heap.size w ((w1.setCell ⟨w.heap.size, 0, none⟩ (.int .i64 0)).setCell ⟨w.heap.size, 1, none⟩ (.int .u32 0)) := (H1.out.setCell (p := ⟨w.heap.size, 0, none⟩) (Nat.le_refl _) _).setCell (p := ⟨w.heap.size, 1, none⟩) (Nat.le_refl _) _
    have D2 := D1.store 0 0
    generalize (w1.setCell ⟨w.heap.size, 0, none⟩ (.int .i64 0)).setCell ⟨w.heap.size, 1, none⟩ (.int .u32 0) = w2 at *
    exact retT_at Try.results11 D2 ⟨rfl, HA.out.bel hbb, HU.out⟩
  · rw [e1, e2, e3]
    rw [e4] at CI
    clear e1 e2 e3 e4
    have hkl : k < L.length := (List.getElem?_eq_some_iff.1 hk).1
    go_enter Try.func11, Try.ntmps11
    go_wp2_with fail
    refine (CI.out _ HB.out).mono ?_
    rintro e w1 ⟨rfl, hb⟩
    have H1 := Lib.hid (HB.out.trans (hb.mono HB.out.size))
    have D1 := D.out.bel hb (by simp)
    have A1 := HA.out.bel H1.out
    clear hb D c
    have f0 := D1.frozen 0
    have f1 := D1.frozen 1
    have c0 := A1.c0
    have fz := A1.row.frozen (k * 2 + 1)
    have cr := A1.row.refs hk
    obtain ⟨w2, hw2⟩ : ∃ w2, w1.setCell ⟨g, k * 2 + 1, none⟩ (.int .i64 1) = w2 := ⟨_, rfl⟩
    have hR : SRow w2 g (L.set k (x, 1)) := hw2 ▸ A1.row.setRefs hk 1
    have hK : w2.heap[b]? = w1.heap[b]? := hw2 ▸ Below.heap_setCell w1 ⟨g, k * 2 + 1, none⟩ _ b A1.ne
    have A2 : Ar w2 b g (L.set k (x, 1)) := ⟨by rw [List.length_set]; exact hK.trans A1.blk, hR⟩
    have hk2 : (L.set k (x, 1))[k]? = some (x, 1) := by rw [List.getElem?_set, if_pos rfl, if_pos hkl]
    have hgw : g < w.heap.size := HA.out.lt.2
    have D2 : HBlk w2 w.heap.size 0 0 := by
      refine (show w2.heap[w.heap.size]? = w1.heap[w.heap.size]? from hw2 ▸ Below.heap_setCell w1 ⟨g, k * 2 + 1, none⟩ _ w.heap.size (by show w.heap.size ≠ g; omega)).trans D1
    have hU2 : Upd (· = g) w w2 := hw2 ▸ (Upd.of (S := (· = g)) H1.out).setCell (b := g) (i := k * 2 + 1) (.inl rfl) (.int .i64 1)
    have HU2 := Lib.hid hU2
    have a0 := A2.c0
    rw [List.length_set] at a0
    have a1 := A2.row.gen hk2
    have g0 := D2.frozen 0
    have g1 := D2.frozen 1
    have h0 := D2.c0
    have h1 := D2.c1
    have HA2 := Lib.hid A2
    have HD2 := Lib.hid D2
    clear A2 D2 hU2 A1 hR hK D1
    go_wp2_with fail
    have D3 := HD2.out.store (k : Int) x
    have HU3 := Lib.hid ((HU2.out.setCell (b := w.heap.size) (i := 0) (.inr (Nat.le_refl _)) (.int .i64 (k : Int))).setCell (b := w.heap.size) (i := 1) (.inr (Nat.le_refl _)) (.int .u32 x))
    have A3 : Ar ((w2.setCell ⟨w.heap.size, 0, none⟩ (.int .i64 (k : Int))).setCell ⟨w.heap.size, 1, none⟩ (.int .u32 x)) b g (L.set k (x, 1)) :=
      HA2.out.upd (((Upd.refl (· = w.heap.size) w2).setCell (b := w.heap.size) (i := 0) (.inl rfl) (.int .i64 (k : Int))).setCell (b := w.heap.size) (i := 1) (.inl rfl) (.int .u32 x)) (by show b ≠ w.heap.size; have := HA.out.lt.1; omega) (by show g ≠ w.heap.size; omega)
    generalize (w2.setCell ⟨w.heap.size, 0, none⟩ (.int .i64 (k : Int))).setCell ⟨w.heap.size, 1, none⟩ (.int .u32 x) = w3 at *
    exact retT_at Try.results11 D3 ⟨rfl, A3, HU3.out⟩
end Go.Proofs.Ytachodjpiklpkaa.Arn
