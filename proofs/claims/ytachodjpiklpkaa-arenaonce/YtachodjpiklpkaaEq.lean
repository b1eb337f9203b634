/- The contracts of the reference's Take, Free, SameSlots; of the law's some. -/
import Derived.Test.YtachodjpiklpkaaEm
set_option maxRecDepth 100000
namespace Go.Proofs.Ytachodjpiklpkaa.Arn
open Go.RowKit
set_option linter.unusedVariables false

set_option maxHeartbeats 4000000 in
theorem rtake_any (w : World) (b g c : Nat) (y : Value) (L : List Slt) (hA : St w b g c y L) (hL : L.length ≤ 1024) :
    Calls Try.prog 12 #[.pointer (some ⟨b, 0, none⟩)] w fun e w' => e = .returned (.tuple #[hnV (takeH L).1 (takeH L).2, .int .i64 (takeE L)]) ∧ St w' b g c y (takeL L) ∧ Upd (· = g) w w' := by
  have hB := (Below.refl w.heap.size w).alloc (Nat.le_refl _) (hnO 0 0)
  have hD := HBlk.new w 0 0
  have hA1 := hA.bel hB
  have HL := Lib.hid hA.lt
  obtain ⟨w1, hw1⟩ : ∃ w1, w.alloc (hnO 0 0) = w1 := ⟨_, rfl⟩
  rw [hw1] at hB hD hA1
  have HB := Lib.hid hB
  have HD := Lib.hid hD
  have HA := Lib.hid hA1
  have c0 := hA1.blk.c0
  obtain ⟨n, hn⟩ : ∃ n, L.length = n := ⟨_, rfl⟩
  rw [hn] at hL c0
  have HN := Lib.hid hn
  clear hB hD hA1 hA hn
  go_enter Try.func12, Try.ntmps12
  go_wp2
  go_loopw [10] (fun si wx => ∃ k : Nat, k ≤ n ∧ si = .int .i64 k ∧ Hid (leastF (L.take k) = none) ∧ wx = w1) (fun si _ => n - (intOf si).toNat)
  case atStart => exact ⟨0, by omega, rfl, rfl, rfl⟩
  case round =>
    obtain ⟨k, hk, rfl, hF, rfl⟩ := hrel
    rename World => wx
    by_cases hlt : k < n
    · have hd : decide (k < n) = true := by simp; exact hlt
      obtain ⟨x, hx⟩ : ∃ x, L[k]? = some x := ⟨_, List.getElem?_eq_getElem (by rw [HN.out]; exact hlt)⟩
      have cr := HA.out.row.refs hx
      by_cases h0 : x.2 = 0
      · have q : (x.2 == 0) = true := by simp [h0]
        obtain ⟨x0, x1⟩ := x
        simp only at h0 q cr
        subst h0
        have HE : Hid (takeH L = ((k : Int), x0) ∧ takeE L = 0 ∧ takeL L = L.set k (x0, 1)) := by
          have hl := leastF_here hF.out hx rfl
          rcases take_cases L with ⟨e, -⟩ | ⟨k', g', e, hk', e1, e2, e3, -⟩
          · rw [hl] at e; cases e
          · rw [hl] at e
            cases e
            rw [hx] at hk'
            cases hk'
            exact ⟨e1, e2, e3⟩
        have fz := HA.out.row.frozen (k * 2 + 1)
        obtain ⟨w2, hw2⟩ : ∃ w2, wx.setCell ⟨g, k * 2 + 1, none⟩ (.int .i64 1) = w2 := ⟨_, rfl⟩
        have hu : Upd (· = g) wx w2 := hw2 ▸ (Upd.refl (· = g) wx).setCell (b := g) (i := k * 2 + 1) (.inl rfl) (.int .i64 1)
        have hR : SHead w2 g (L.set k (x0, 1)) := hw2 ▸ HA.out.row.setRefs hx 1
        have A2 : St w2 b g c y (L.set k (x0, 1)) := ⟨by rw [List.length_set]; exact HA.out.blk.upd hu HA.out.ne, hR, by rw [List.length_set]; exact HA.out.cap⟩
        have hk2 : (L.set k (x0, 1))[k]? = some (x0, 1) := by rw [List.getElem?_set, if_pos rfl, if_pos (by rw [HN.out]; exact hlt)]
        have D2 : HBlk w2 w.heap.size 0 0 := HD.out.upd hu (by show _ ≠ _; have := HL.out.2; omega)
        have a0 := A2.blk.c0
        rw [List.length_set, HN.out] at a0
        have a1 := A2.row.gen hk2
        have g0 := D2.frozen 0
        have g1 := D2.frozen 1
        have d0 := D2.c0
        have d1 := D2.c1
        have HU2 := Lib.hid ((Upd.of (S := (· = g)) HB.out).trans hu)
        have HA2 := Lib.hid A2
        have HD2 := Lib.hid D2
        clear A2 D2 hu hR hw1
        go_wp2_with fail
        have D3 := HD2.out.store (k : Int) x0
        have HU3 := Lib.hid ((HU2.out.setCell (b := w.heap.size) (i := 0) (.inr (Nat.le_refl _)) (.int .i64 (k : Int))).setCell (b := w.heap.size) (i := 1) (.inr (Nat.le_refl _)) (.int .u32 x0))
        have A3 : St ((w2.setCell ⟨w.heap.size, 0, none⟩ (.int .i64 (k : Int))).setCell ⟨w.heap.size, 1, none⟩ (.int .u32 x0)) b g c y (L.set k (x0, 1)) :=
          HA2.out.upd (((Upd.refl (· = w.heap.size) w2).setCell (b := w.heap.size) (i := 0) (.inl rfl) (.int .i64 (k : Int))).setCell (b := w.heap.size) (i := 1) (.inl rfl) (.int .u32 x0)) (by show b ≠ w.heap.size; have := HL.out.1; omega) (by show g ≠ w.heap.size; have := HL.out.2; omega)
        generalize (w2.setCell ⟨w.heap.size, 0, none⟩ (.int .i64 (k : Int))).setCell ⟨w.heap.size, 1, none⟩ (.int .u32 x0) = w3 at *
        exact retT_at Try.results12 D3 ⟨by rw [HE.out.1, HE.out.2.1], by rw [HE.out.2.2]; exact A3, HU3.out⟩
      · have q : (x.2 == 0) = false := by simp [h0]
        have HF : Hid (leastF (L.take (k + 1)) = none) := by rw [take_snoc hx]; exact leastF_snoc hF.out h0
        clear h0 hF hx
        go_wp2
        go_roundw
        case rel => exact ⟨k + 1, by omega, by go_num, HF, trivial⟩
        case measure => simp [intOf]; omega
    · obtain rfl : n = k := by omega
      have hd : decide (n < n) = false := by simp
      have HE : Hid (takeH L = (0, 0) ∧ takeE L = 6 ∧ takeL L = L) := by
        have hl := hF.out
        rw [List.take_of_length_le (by rw [HN.out]; exact Nat.le_refl _)] at hl
        rcases take_cases L with ⟨-, e1, e2, e3, -⟩ | ⟨k', g', e, -⟩
        · exact ⟨e1, e2, e3⟩
        · rw [hl] at e; cases e
      have f0 := HD.out.frozen 0
      have f1 := HD.out.frozen 1
      have d0 := HD.out.c0
      have d1 := HD.out.c1
      clear hw1 hF
      go_wp2_with fail
      have HU := Lib.hid (((Upd.of (S := (· = g)) HB.out).setCell (b := w.heap.size) (i := 0) (.inr (Nat.le_refl _)) (.int .i64 0)).setCell (b := w.heap.size) (i := 1) (.inr (Nat.le_refl _)) (.int .u32 0))
      have D2 := HD.out.store 0 0
      have A3 := HA.out.upd (((Upd.refl (· = w.heap.size) wx).setCell (b := w.heap.size) (i := 0) (.inl rfl) (.int .i64 0)).setCell (b := w.heap.size) (i := 1) (.inl rfl) (.int .u32 0)) (by show b ≠ w.heap.size; have := HL.out.1; omega) (by show g ≠ w.heap.size; have := HL.out.2; omega)
      generalize (wx.setCell ⟨w.heap.size, 0, none⟩ (.int .i64 0)).setCell ⟨w.heap.size, 1, none⟩ (.int .u32 0) = w2 at *
      exact retT_at Try.results12 D2 ⟨by rw [HE.out.1, HE.out.2.1], by rw [HE.out.2.2]; exact A3, HU.out⟩

set_option maxHeartbeats 4000000 in
theorem rfree_any (w : World) (b g c : Nat) (y : Value) (L : List Slt) (hA : St w b g c y L) (hL : L.length ≤ 1024) :
    Calls Try.prog 20 #[.pointer (some ⟨b, 0, none⟩)] w fun e w' => e = .returned (.int .i64 (freeN L)) ∧ Below w.heap.size w w' := by
  have HA := Lib.hid hA
  have cc := hA.blk.c0
  obtain ⟨n, hn⟩ : ∃ n, L.length = n := ⟨_, rfl⟩
  rw [hn] at cc hL
  have HN := Lib.hid hn
  clear hA hn
  go_enter Try.func20, Try.ntmps20
  go_wp2
  go_loopw [3, 11] (fun sf si wx => ∃ k : Nat, k ≤ n ∧ si = .int .i64 k ∧ sf = .int .i64 (freeN (L.take k)) ∧ Hid (Below w.heap.size w wx)) (fun _ si _ => n - (intOf si).toNat)
  case atStart => exact ⟨0, by omega, rfl, rfl, Below.refl _ _⟩
  case round =>
    obtain ⟨k, hk, rfl, rfl, hb⟩ := hrel
    rename World => wx
    have hf : freeN (L.take k) ≤ 1024 := by have h1 := freeN_le (L.take k); have h2 := List.length_take_le k L; omega
    by_cases hlt : k < n
    · have A1 := HA.out.bel hb.out
      obtain ⟨x, hx⟩ : ∃ x, L[k]? = some x := ⟨_, List.getElem?_eq_getElem (by rw [HN.out]; exact hlt)⟩
      have c0 := A1.row.gen hx
      have c1 := A1.row.refs hx
      have hB1 := Lib.hid (hb.out.alloc hb.out.size (slO x))
      have d1 : (wx.alloc (slO x)).cell? ⟨wx.heap.size, 1, none⟩ = some (.int .i64 x.2) := cell_of_row _ _ 1 _ _ _ (heap_alloc_new wx _)
      have HF := Lib.hid (show freeN (L.take (k + 1)) = freeN (L.take k) + (if x.2 = 0 then 1 else 0) from by rw [take_snoc hx, freeN_append, freeN, freeN]; omega)
      generalize freeN (L.take k) = f at *
      clear A1 hb hx
      by_cases h0 : x.2 = 0
      · have q : (x.2 == 0) = true := by simp [h0]
        rw [if_pos h0] at HF
        clear h0
        go_wp2
        go_roundw
        case rel => exact ⟨k + 1, by omega, by go_num, by rw [HF.out]; go_num, hB1⟩
        case measure => simp [intOf]; omega
      · have q : (x.2 == 0) = false := by simp [h0]
        rw [if_neg h0] at HF
        clear h0
        go_wp2
        go_roundw
        case rel => exact ⟨k + 1, by omega, by go_num, by rw [HF.out]; rfl, hB1⟩
        case measure => simp [intOf]; omega
    · obtain rfl : n = k := by omega
      have HF := Lib.hid (show freeN (L.take n) = freeN L from by rw [List.take_of_length_le (by rw [HN.out]; exact Nat.le_refl _)])
      go_wp2
      go_ret
      exact ⟨by rw [← HF.out]; rfl, hb.out⟩
theorem eq_slt (x y : Slt) (W : World) : (binOp .neq 53 (slV x) (slV y)).run Try.prog W = .ok (.bool (!(x.1 == y.1 && x.2 == y.2))) W := by
  obtain ⟨s, g⟩ := x
  obtain ⟨s', g'⟩ := y
  by_cases h : s = s'
  · subst h
    by_cases h2 : g = g'
    · subst h2; simp [go_sem]
    · simp [go_sem, h2]
  · simp [go_sem, h]
set_option maxHeartbeats 4000000 in
/-- Two rows of slots that read alike. -/
theorem same_any (w : World) (a a' : Option Addr) (n c c' B B' : Nat) (L : List Slt) (hr : RowRd slotL w B a n L) (hr' : RowRd slotL w B' a' n L) (hn : n ≤ 1024) :
    Calls Try.prog 21 #[.slice a n c, .slice a' n c'] w fun e w' => e = .returned (.bool true) ∧ Below w.heap.size w w' := by
  have HR := Lib.hid hr
  have HR' := Lib.hid hr'
  clear hr hr'
  go_enter Try.func21, Try.ntmps21
  go_wp2
  go_loopw [13] (fun si wx => ∃ k : Nat, k ≤ n ∧ si = .int .i64 k ∧ Hid (Upd (fun _ => False) w wx) ∧ Hid (∀ p, wx.cell? p = w.cell? p) ∧ Hid (Below w.heap.size w wx)) (fun si _ => n - (intOf si).toNat)
  case atStart => exact ⟨0, by omega, rfl, Upd.refl _ _, fun p => rfl, Below.refl _ _⟩
  case round =>
    obtain ⟨k, hk, rfl, hu, hc, hb⟩ := hrel
    rename World => wx
    by_cases hlt : k < n
    · have hd : decide (k < n) = true := by simp; exact hlt
      obtain ⟨b, off, x, rfl, _, hx, c0, c1⟩ := slot_at HR.out hlt
      obtain ⟨b', off', x', rfl, _, hx', e0, e1⟩ := slot_at HR'.out hlt
      rw [hx] at hx'
      obtain rfl := Option.some.inj hx'
      have hS : ∀ p, wx.drew.cell? p = w.cell? p := fun p => hc.out p
      have qn := eq_slt x x
      have qb : (!(x.1 == x.1 && x.2 == x.2)) = false := by simp
      have f0 : ∀ W : World, (∀ p, W.cell? p = w.cell? p) → W.cell? ⟨b, off + k * 2, none⟩ = some (.int .u32 x.1) := fun W h => (h _).trans c0
      have f1 : ∀ W : World, (∀ p, W.cell? p = w.cell? p) → W.cell? ⟨b, off + k * 2 + 1, none⟩ = some (.int .i64 x.2) := fun W h => (h _).trans c1
      have g0 : ∀ W : World, (∀ p, W.cell? p = w.cell? p) → W.cell? ⟨b', off' + k * 2, none⟩ = some (.int .u32 x.1) := fun W h => (h _).trans e0
      have g1 : ∀ W : World, (∀ p, W.cell? p = w.cell? p) → W.cell? ⟨b', off' + k * 2 + 1, none⟩ = some (.int .i64 x.2) := fun W h => (h _).trans e1
      clear c0 c1 e0 e1
      go_wp2_with fail
      refine region_seq (fun W => ∀ p, W.cell? p = w.cell? p) [(0, false), (1, false), (2, false), (3, false), (4, false), (5, false), (6, false), (7, false), (8, false)] (by kernel_rfl) (by kernel_rfl) rfl (by kernel_rfl) ?_
      iterate 9 (refine seq_read (v := _) rfl (fun _ _ _ h => h) hS (Or.inl ⟨by rfl, fun W hW => by go_simp <;> with_reducible rfl⟩) ?_; simp only [Act.put, List.setIfInBounds_toArray, List.set_cons_zero, List.set_cons_succ])
      refine seq_end ?_
      go_wp2_with fail
      go_roundw
      case rel => exact ⟨k + 1, by omega, by go_num, hu.out.drew, hS, hb.out.drew⟩
      case measure => simp [intOf]; omega
    · obtain rfl : n = k := by omega
      have hd : decide (n < n) = false := by simp
      go_wp2
      go_ret
      exact ⟨rfl, hb.out⟩
end Go.Proofs.Ytachodjpiklpkaa.Arn
