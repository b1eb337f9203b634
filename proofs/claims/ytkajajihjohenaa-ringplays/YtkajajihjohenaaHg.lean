/- The reference's ring at its block: the contracts of its NewRing, Push, Pop; of SameCells. -/
import Derived.Test.YtkajajihjohenaaHf
import Derived.Test.YtkajajihjohenaaHe
set_option maxRecDepth 100000
namespace Go.Proofs.Ytkajajihjohenaa.Rng
open Go.RowKit
open Go.Proofs.Ytkajajihjohenaa.Arn
set_option linter.unusedVariables false

theorem eq_same (x : Cl) (W : World) : (binOp .eql 32 (clV x) (clV x)).run Try.prog W = .ok (.bool true) W := by
  obtain ⟨a, b, c, d⟩ := x
  simp [go_sem]
theorem neq_same (x : Cl) (W : World) : (binOp .neq 32 (clV x) (clV x)).run Try.prog W = .ok (.bool false) W := by
  obtain ⟨a, b, c, d⟩ := x
  simp [go_sem]
theorem cell_at {w : World} {B n k : Nat} {a : Option Addr} {xs : List Cl} (h : RowRd celL w B a n xs) (hk : k < n) : ∃ b off x, a = some ⟨b, off, none⟩ ∧ b < B ∧ xs[k]? = some x ∧ w.cell? ⟨b, off + k * 4, none⟩ = some (.int .i64 x.1) ∧ w.cell? ⟨b, off + k * 4 + 1, none⟩ = some (.int .i64 x.2.1) ∧ w.cell? ⟨b, off + k * 4 + 2, none⟩ = some (.int .i64 x.2.2.1) ∧ w.cell? ⟨b, off + k * 4 + 3, none⟩ = some (.int .u32 x.2.2.2) := by
  obtain ⟨b, off, x, e, hlt, hx, hc⟩ := row_at h hk
  exact ⟨b, off, x, e, hlt, hx, hc 0 _ rfl, hc 1 _ rfl, hc 2 _ rfl, hc 3 _ rfl⟩
set_option maxHeartbeats 4000000 in
/-- Two rows of cells that read alike. -/
theorem same_any (w : World) (a a' : Option Addr) (n c c' B B' : Nat) (L : List Cl) (hr : RowRd celL w B a n L) (hr' : RowRd celL w B' a' n L) (hn : n ≤ 1024) :
    Calls Try.prog 17 #[.slice a n c, .slice a' n c'] w fun e w' => e = .returned (.bool true) ∧ Below w.heap.size w w' := by
  have HR := Lib.hid hr
  have HR' := Lib.hid hr'
  clear hr hr'
  go_enter Try.func17, Try.ntmps17
  go_wp2
  go_loopw [13] (fun si wx => ∃ k : Nat, k ≤ n ∧ si = .int .i64 k ∧ Hid (Upd (fun _ => False) w wx) ∧ Hid (∀ p, wx.cell? p = w.cell? p) ∧ Hid (Below w.heap.size w wx)) (fun si _ => n - (intOf si).toNat)
  case atStart => exact ⟨0, by omega, rfl, Upd.refl _ _, fun p => rfl, Below.refl _ _⟩
  case round =>
    obtain ⟨k, hk, rfl, hu, hc, hb⟩ := hrel
    rename World => wx
    by_cases hlt : k < n
    · have hd : decide (k < n) = true := by simp; exact hlt
      obtain ⟨b, off, x, rfl, _, hx, c0, c1, c2, c3⟩ := cell_at HR.out hlt
      obtain ⟨b', off', x', rfl, _, hx', e0, e1, e2, e3⟩ := cell_at HR'.out hlt
      rw [hx] at hx'
      obtain rfl := Option.some.inj hx'
      have hS : ∀ p, wx.drew.cell? p = w.cell? p := fun p => hc.out p
      have qn := neq_same x
      have f0 : ∀ W : World, (∀ p, W.cell? p = w.cell? p) → W.cell? ⟨b, off + k * 4, none⟩ = some (.int .i64 x.1) := fun W h => (h _).trans c0
      have f1 : ∀ W : World, (∀ p, W.cell? p = w.cell? p) → W.cell? ⟨b, off + k * 4 + 1, none⟩ = some (.int .i64 x.2.1) := fun W h => (h _).trans c1
      have f2 : ∀ W : World, (∀ p, W.cell? p = w.cell? p) → W.cell? ⟨b, off + k * 4 + 2, none⟩ = some (.int .i64 x.2.2.1) := fun W h => (h _).trans c2
      have f3 : ∀ W : World, (∀ p, W.cell? p = w.cell? p) → W.cell? ⟨b, off + k * 4 + 3, none⟩ = some (.int .u32 x.2.2.2) := fun W h => (h _).trans c3
      have g0 : ∀ W : World, (∀ p, W.cell? p = w.cell? p) → W.cell? ⟨b', off' + k * 4, none⟩ = some (.int .i64 x.1) := fun W h => (h _).trans e0
      have g1 : ∀ W : World, (∀ p, W.cell? p = w.cell? p) → W.cell? ⟨b', off' + k * 4 + 1, none⟩ = some (.int .i64 x.2.1) := fun W h => (h _).trans e1
      have g2 : ∀ W : World, (∀ p, W.cell? p = w.cell? p) → W.cell? ⟨b', off' + k * 4 + 2, none⟩ = some (.int .i64 x.2.2.1) := fun W h => (h _).trans e2
      have g3 : ∀ W : World, (∀ p, W.cell? p = w.cell? p) → W.cell? ⟨b', off' + k * 4 + 3, none⟩ = some (.int .u32 x.2.2.2) := fun W h => (h _).trans e3
      clear c0 c1 c2 c3 e0 e1 e2 e3
      go_wp2_with fail
      refine region_seq (fun W => ∀ p, W.cell? p = w.cell? p) [(0, false), (1, false), (2, false), (3, false), (4, false), (5, false), (6, false), (7, false), (8, false)] (by kernel_rfl) (by kernel_rfl) rfl (by kernel_rfl) ?_
      iterate 9 (refine seq_read (v := _) rfl (fun _ _ _ h => h) hS (Or.inl ⟨by rfl, fun W hW => by go_simp <;> with_reducible rfl⟩) ?_; simp only [Act.put, List.setIfInBounds_toArray, List.set_cons_zero, List.set_cons_succ])
      refine seq_end ?_
      go_wp2_with fail
      go_roundw
      case rel => exact ⟨k + 1, by omega, by go_num, hu.out.drew, hS, hb.out.drew⟩
      case measure => simp [intOf]; omega
    · obtain rfl : n = k := by omega
      have hd : decide (n < n) = false := by simp
      go_wp2
      go_ret
      exact ⟨rfl, hb.out⟩

/-- The reference's ring at block b: room for N, its cells L in the slice A. -/
structure Rr (w : World) (base b N : Nat) (A : Option Addr) (c : Nat) (L : List Cl) : Prop where
  blk : w.heap[b]? = some (.cells #[.int .i64 N, .slice A L.length c] 40 (0, 0))
  row : RowIn celL w base A L.length c L
  lo : base ≤ b
section
variable {w w' : World} {base b N c : Nat} {A : Option Addr} {L : List Cl} {S : Nat → Prop}
theorem Rr.c0 (h : Rr w base b N A c L) : w.cell? ⟨b, 0, none⟩ = some (.int .i64 N) := by rw [cell_of_row w b 0 _ _ _ h.blk]; rfl
theorem Rr.c1 (h : Rr w base b N A c L) : w.cell? ⟨b, 1, none⟩ = some (.slice A L.length c) := by rw [cell_of_row w b 1 _ _ _ h.blk]; rfl
theorem Rr.lt (h : Rr w base b N A c L) : b < w.heap.size := lt_of_some h.blk
theorem Rr.bel (h : Rr w base b N A c L) (hb : Below w.heap.size w w') : Rr w' base b N A c L := ⟨(hb.block b h.lt).trans h.blk, h.row.bel hb, h.lo⟩
theorem Rr.upd (h : Rr w base b N A c L) (hu : Upd S w w') (hS : ∀ k, base ≤ k → ¬ S k) : Rr w' base b N A c L := ⟨hu.keep h.blk (hS b h.lo), h.row.upd hu hS, h.lo⟩
end
/-- The reference's ring, whichever slice it holds. -/
def RrIn (w : World) (base b N : Nat) (L : List Cl) : Prop := ∃ A c, Rr w base b N A c L
section
variable {w w' : World} {base b N : Nat} {L : List Cl} {S : Nat → Prop}
theorem RrIn.bel (h : RrIn w base b N L) (hb : Below w.heap.size w w') : RrIn w' base b N L := let ⟨A, c, h⟩ := h; ⟨A, c, h.bel hb⟩
theorem RrIn.upd (h : RrIn w base b N L) (hu : Upd S w w') (hS : ∀ k, base ≤ k → ¬ S k) : RrIn w' base b N L := let ⟨A, c, h⟩ := h; ⟨A, c, h.upd hu hS⟩
end
/-- A new ring of the reference's. -/
def RetR (w : World) (n : Int) (e : Ending) (w' : World) : Prop := ∃ b, e = .returned (.pointer (some ⟨b, 0, none⟩)) ∧ RrIn w' w.heap.size b (capN n) [] ∧ Below w.heap.size w w'
set_option maxHeartbeats 4000000 in
theorem rnew_any (w : World) (n : Int) (hw1 : -9223372036854775808 ≤ n) (hw2 : n ≤ 9223372036854775807) : Calls Try.prog 9 #[.int .i64 n] w (RetR w n) := by
  obtain ⟨N, hN⟩ : ∃ N, capN n = N := ⟨_, rfl⟩
  have hN1 : 1 ≤ N := by rw [← hN]; exact (capN_le n).1
  have hN2 : N ≤ 256 := by rw [← hN]; exact (capN_le n).2
  have fin : ∀ M : Int, M = N → Hid (RetR w n (.returned (.pointer (some ⟨w.heap.size, 0, none⟩))) (w.alloc (.cells #[.int .i64 M, .slice none 0 0] 40 (0, 0)))) := by
    rintro M rfl
    refine ⟨w.heap.size, rfl, ?_, (Below.refl _ _).alloc (Nat.le_refl _) _⟩
    rw [hN]
    exact ⟨none, 0, heap_alloc_new w _, RowIn.nil _ _, Nat.le_refl _⟩
  have h3 : n < 1 ∨ (1 ≤ n ∧ n ≤ 256) ∨ 256 < n := by omega
  unfold capN at hN
  rcases h3 with h | ⟨h, h'⟩ | h
  · have fin := fin 1 (by omega)
    go_enter Try.func9, Try.ntmps9
    go_wp2
    go_ret
    exact fin.out
  · have fin := fin n (by omega)
    go_enter Try.func9, Try.ntmps9
    go_wp2
    go_ret
    exact fin.out
  · have fin := fin 256 (by omega)
    go_enter Try.func9, Try.ntmps9
    go_wp2
    go_ret
    exact fin.out

set_option maxHeartbeats 4000000 in
theorem rpush_any (w : World) (base b N : Nat) (L : List Cl) (x : Cl) (hA : RrIn w base b N L) (hN : N ≤ 256) :
    Calls Try.prog 13 #[.pointer (some ⟨b, 0, none⟩), clV x] w fun e w' => e = .returned (.bool (decide (L.length < N))) ∧ RrIn w' base b N (pushL N L x) ∧ Upd (fun k => base ≤ k) w w' := by
  obtain ⟨A, c, hA⟩ := hA
  have hB := Lib.hid ((Below.refl w.heap.size w).alloc (Nat.le_refl _) (clO x))
  have D := Lib.hid (CBlk.new w x)
  have A1 := Lib.hid (hA.bel hB.out)
  have hbs : base ≤ w.heap.size := Nat.le_trans hA.lo (Nat.le_of_lt hA.lt)
  have HB := Lib.hid hbs
  clear hbs
  obtain ⟨w1, hw1⟩ : ∃ w1, w.alloc (clO x) = w1 := ⟨_, rfl⟩
  rw [hw1] at hB D A1
  have hS : Below w1.heap.size w1 w1.drew := (Below.refl _ _).drew
  have HA := Lib.hid hA
  clear hA
  obtain ⟨n, hn⟩ : ∃ n, L.length = n := ⟨_, rfl⟩
  have f0 : ∀ W, Below w1.heap.size w1 W → W.cell? ⟨b, 0, none⟩ = some (.int .i64 N) := fun W hW => (A1.out.bel hW).c0
  have f1 : ∀ W, Below w1.heap.size w1 W → W.cell? ⟨b, 1, none⟩ = some (.slice A n c) := fun W hW => by rw [← hn]; exact (A1.out.bel hW).c1
  by_cases h : L.length < N
  · rw [pushL_yes h, decide_eq_true h]
    have hnN : n < N := by omega
    have hd : decide (N ≤ n) = false := by simp; omega
    have HN := Lib.hid (And.intro hn h)
    clear h
    obtain ⟨q, hq⟩ : ∃ q, w.heap.size = q := ⟨_, rfl⟩
    rw [hq] at D
    go_enter Try.func13, Try.ntmps13
    go_wp2_with fail
    refine region_seq (Below w1.heap.size w1) [(0, false), (1, false), (2, false), (3, false), (4, false), (5, false), (6, false), (7, false), (8, false), (9, false)] (by kernel_rfl) (by kernel_rfl) rfl (by kernel_rfl) ?_
    iterate 10 (refine seq_read (v := _) rfl (fun _ _ _ h => h) hS (Or.inl ⟨by rfl, fun W hW => by go_simp <;> with_reducible rfl⟩) ?_; simp only [Act.put, List.setIfInBounds_toArray, List.set_cons_zero, List.set_cons_succ])
    refine seq_end ?_
    clear f0 f1 hS
    obtain ⟨w2, hw2⟩ : ∃ w2, w1.drew = w2 := ⟨_, rfl⟩
    have hb2 : Below w1.heap.size w1 w2 := by rw [← hw2]; exact (Below.refl _ _).drew
    rw [hw2]
    have H2 := Lib.hid (hB.out.trans (hb2.mono hB.out.size))
    have A2 := Lib.hid (A1.out.bel hb2)
    have D2 := Lib.hid (D.out.bel hb2 D.out.lt)
    clear hB D A1 hb2 hw2
    go_wp2_with fail
    have HQ : Hid (0 < c → ∀ o, A ≠ some ⟨q, o, none⟩) := by rw [← hq]; exact HA.out.row.new (Nat.le_refl _)
    obtain ⟨O, hO⟩ : ∃ O : Obj, Obj.cells #[.int .i64 N, .slice A n c] 40 (0, 0) = O := ⟨_, rfl⟩
    have HO := Lib.hid hO
    obtain ⟨w3, hw3⟩ : ∃ w3, w2.drew = w3 := ⟨_, rfl⟩
    have hb3 : Below w2.heap.size w2 w3 := by rw [← hw3]; exact (Below.refl _ _).drew
    have A3 := A2.out.bel hb3
    have hS : w3.heap[b]? = some O ∧ CBlk w3 q x := ⟨by rw [← hO, ← hn]; exact A3.blk, D2.out.bel hb3 D2.out.lt⟩
    have f1 : ∀ W : World, (W.heap[b]? = some O ∧ CBlk W q x) → W.cell? ⟨b, 1, none⟩ = some (.slice A n c) := fun W h => by rw [cell_of_row W b 1 _ _ _ (h.1.trans (congrArg some HO.out.symm))]; rfl
    have d0 : ∀ W : World, (W.heap[b]? = some O ∧ CBlk W q x) → W.cell? ⟨q, 0, none⟩ = some (.int .i64 x.1) := fun W h => h.2.c0
    have d1 : ∀ W : World, (W.heap[b]? = some O ∧ CBlk W q x) → W.cell? ⟨q, 1, none⟩ = some (.int .i64 x.2.1) := fun W h => h.2.c1
    have d2 : ∀ W : World, (W.heap[b]? = some O ∧ CBlk W q x) → W.cell? ⟨q, 2, none⟩ = some (.int .i64 x.2.2.1) := fun W h => h.2.c2
    have d3 : ∀ W : World, (W.heap[b]? = some O ∧ CBlk W q x) → W.cell? ⟨q, 3, none⟩ = some (.int .u32 x.2.2.2) := fun W h => h.2.c3
    have R3 : Hid (RowIn celL w3 base A n c L) := by rw [← hn]; exact A3.row
    have H3 := Lib.hid (H2.out.trans (hb3.mono H2.out.size))
    have HL := Lib.hid A3.lo
    have hln := Lib.hid (show L.length = n from hn)
    obtain ⟨i0, hi0, hz0, hz1, hz2⟩ := info_parts info_cel
    have HI := Lib.hid (And.intro hi0 (And.intro hz0 (And.intro hz1 hz2)))
    clear hi0 hz0 hz1 hz2 A3 hn hO hb3 A2 D2 H2
    refine region_seqX (fun W => W.heap[b]? = some O ∧ CBlk W q x) 10 [(0, false), (1, false), (2, false), (3, false), (4, false), (5, false), (6, true), (7, true), (8, false), (9, false), (10, true)] (by kernel_rfl) (by kernel_rfl) rfl (by kernel_rfl) ?_
    rw [hw3]
    iterate 6 (refine seqX_read (v := _) rfl (fun _ _ _ h => h) hS (Or.inl ⟨by rfl, fun W hW => by go_simp <;> with_reducible rfl⟩) ?_; simp only [Act.put, List.setIfInBounds_toArray, List.set_cons_zero, List.set_cons_succ])
    refine seqX_do rfl (fun K hK => ?_)
    go_simp
    have hbx : Below w3.heap.size w3 (w3.alloc (clO x)) := (Below.refl _ _).alloc (Nat.le_refl _) _
    have hS4 : (w3.alloc (clO x)).heap[b]? = some O ∧ CBlk (w3.alloc (clO x)) q x := ⟨(hbx.block b (lt_of_some hS.1)).trans hS.1, hS.2.bel hbx hS.2.lt⟩
    have R4 := Lib.hid (R3.out.bel hbx)
    have H4 := Lib.hid (H3.out.trans (hbx.mono H3.out.size))
    have X4 := Lib.hid (one_rec celL w3 x)
    have hbs : Hid (base ≤ (w3.alloc (clO x)).heap.size) := Nat.le_trans HB.out H4.out.size
    refine hK.out _ _ _ (fun W h => h) hS4 ?_
    clear hK K hS R3 H3 hbx
    obtain ⟨p, hp⟩ : ∃ p, w3.heap.size = p := ⟨_, rfl⟩
    obtain ⟨w4, hw4⟩ : ∃ w4, w3.alloc (clO x) = w4 := ⟨_, rfl⟩
    rw [hp] at X4 ⊢
    have X5 : Hid (RowRd celL w4 (p + 1) (some ⟨p, 0, none⟩) 1 [x]) := hw4 ▸ X4
    rw [hw4] at hS4 R4 H4 hbs ⊢
    clear X4 hw3 hp hw4
    refine seqX_do rfl (fun K hK => ?_)
    rw [if_pos (by rfl)]
    refine oper_append_in (L := celL) (N := n + 1) (.tmp 19) (.tmp 21) rfl Try.underlying38 HI.out.1 HI.out.2.1 HI.out.2.2.1 HI.out.2.2.2 rfl (L ++ [x]) rfl rfl rfl rfl R4.out X5.out (by decide) hbs.out (by unfold maxLen; omega) (by omega) ?_
    intro A' c' w5 hr5 hu5 hk5
    have hS5 : w5.heap[b]? = some O ∧ CBlk w5 q x := by
      refine ⟨(hk5 b (lt_of_some hS4.1) ?_).trans hS4.1, (hk5 q hS4.2.lt HQ.out).trans hS4.2⟩
      rw [← HO.out] at hS4
      exact R4.out.off hS4.1 (by decide)
    have H5 := Lib.hid ((Upd.of (S := fun k => base ≤ k) H4.out).trans hu5)
    have R5 := Lib.hid hr5
    refine hK.out _ _ _ (fun W h => h) hS5 ?_
    clear hK K hS4 R4 H4 hu5 hk5 hr5 X5
    have hS := hS5
    iterate 2 (refine seqX_read (v := _) rfl (fun _ _ _ h => h) hS (Or.inl ⟨by rfl, fun W hW => by go_simp <;> with_reducible rfl⟩) ?_; simp only [Act.put, List.setIfInBounds_toArray, List.set_cons_zero, List.set_cons_succ])
    have hblk : w5.heap[b]? = some (.cells #[.int .i64 N, .slice A n c] 40 (0, 0)) := by rw [HO.out]; exact hS5.1
    have c1 : w5.cell? ⟨b, 1, none⟩ = some (.slice A n c) := by rw [cell_of_row w5 b 1 _ _ _ hblk]; rfl
    have fz : w5.frozen? ⟨b, 1, none⟩ = false := frozen_of_row w5 b 1 _ _ hblk
    have HK6 := Lib.hid (heap_setCell_same w5 b 1 _ _ (.slice A' (n + 1) c') hblk)
    have HR6 := Lib.hid (R5.out.set (i := 1) hblk (by decide) (.slice A' (n + 1) c'))
    have HU6 := Lib.hid (H5.out.setCell (b := b) (i := 1) (.inl HL.out) (.slice A' (n + 1) c'))
    clear hblk hS hS5 R5 H5 f1 d0 d1 d2 d3
    refine seqX_last rfl (fun K hK => ?_)
    go_simp
    refine hK.out _ _ ?_
    clear hK K c1 fz
    generalize w5.setCell ⟨b, 1, none⟩ (.slice A' (n + 1) c') = w6 at *
    go_wp2
    go_ret
    refine ⟨rfl, ⟨A', c', ⟨?_, ?_, HL.out⟩⟩, HU6.out⟩
    · rw [HK6.out, List.length_append, hln.out]; rfl
    · rw [List.length_append, hln.out]; exact HR6.out
  · rw [pushL_no h, decide_eq_false h]
    have hd : decide (N ≤ n) = true := by simp; omega
    clear h
    go_enter Try.func13, Try.ntmps13
    go_wp2_with fail
    refine region_seq (Below w1.heap.size w1) [(0, false), (1, false), (2, false), (3, false), (4, false), (5, false), (6, false), (7, false), (8, false), (9, false)] (by kernel_rfl) (by kernel_rfl) rfl (by kernel_rfl) ?_
    iterate 10 (refine seq_read (v := _) rfl (fun _ _ _ h => h) hS (Or.inl ⟨by rfl, fun W hW => by go_simp <;> with_reducible rfl⟩) ?_; simp only [Act.put, List.setIfInBounds_toArray, List.set_cons_zero, List.set_cons_succ])
    refine seq_end ?_
    go_wp2_with fail
    go_ret
    exact ⟨rfl, ⟨A, c, HA.out.bel hB.out.drew⟩, .of hB.out.drew⟩
end Go.Proofs.Ytkajajihjohenaa.Rng
