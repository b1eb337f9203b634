/- The contracts of the reference's read, item (of a report). · The contract of the reference's item: farewells, what is asked for again, pictures. -/
import Derived.Test.YthmmafpmpnhleaaQh
import Derived.Test.YthmmafpmpnhleaaXh
set_option maxRecDepth 100000
namespace Go.Proofs.Ythmmafpmpnhleaa.Fbk
open Go.RowKit
set_option linter.unusedVariables false

set_option maxHeartbeats 400000 in
theorem read_any (a : Option Addr) (len cap B : Nat) (i s : Int) (xs : List Int) (w : World) (hl : len ≤ maxLen) (hlc : len ≤ cap) (hr : Rd w B a len xs) :
    Calls Try.prog 83 #[.slice a len cap, .int .i64 i, .int .i64 s] w fun e w' => e = .returned (.int .u64 (numGet xs i s)) ∧ w = w' := by
  have C := R1.rget_any a len cap B i s xs w hl hlc hr
  generalize numGet xs i s = n at C ⊢
  generalize withinB len i s = k at C
  have HC := Lib.hid C
  clear C
  go_enter Try.func83, Try.ntmps83
  go_wp2_with fail
  refine HC.out.mono ?_
  rintro e w' ⟨rfl, rfl⟩
  go_wp2
  go_ret
  exact ⟨rfl, rfl⟩
theorem read_nb (a : Option Addr) (len cap B : Nat) (i s : Nat) (xs : List Int) (w : World) (hl : len ≤ maxLen) (hlc : len ≤ cap) (hr : Rd w B a len xs) (h1 : 1 ≤ s) (h2 : s ≤ 8) (h3 : i + s ≤ len) (j : Int) (hj : j = i) (t : Int) (ht : t = s) :
    Calls Try.prog 83 #[.slice a len cap, .int .i64 j, .int .i64 t] w fun e w' => e = .returned (.int .u64 (nb xs i s)) ∧ w = w' := by
  subst hj; subst ht
  rw [← numGet_nb xs i s h1 h2 (by rw [hr.1]; exact h3)]
  exact read_any a len cap B i s xs w hl hlc hr
/-- What stands while the reference makes an item: the result at its block, the item at the next. -/
structure TS (w W : World) (v : IV) : Prop where
  below : Below w.heap.size w W
  res : IBlk W w.heap.size ziv
  cur : IBlk W (w.heap.size + 1) v
section
variable {w W W' : World} {v u : IV}
theorem TS.bel (p : TS w W v) (hb : Below W.heap.size W W') : TS w W' v := ⟨p.below.trans (hb.mono p.below.size), p.res.bel hb, p.cur.bel hb⟩
theorem TS.belq (p : TS w W v) (hb : Below (w.heap.size + 2) W W') : TS w W' v := ⟨p.below.trans (hb.mono (by omega)), p.res.below hb (by omega), p.cur.below hb (by omega)⟩
theorem TS.set {j : Nat} {x : Value} (p : TS w W v) (hu : IBlk (W.setCell ⟨w.heap.size + 1, j, none⟩ x) (w.heap.size + 1) u) : TS w (W.setCell ⟨w.heap.size + 1, j, none⟩ x) u :=
  ⟨p.below.setCell (p := ⟨w.heap.size + 1, j, none⟩) (by show w.heap.size ≤ w.heap.size + 1; omega) x, p.res.off (p := ⟨w.heap.size + 1, j, none⟩) (by show w.heap.size + 1 ≠ w.heap.size; omega) x, hu⟩
end
theorem TS.new (w : World) (v : IV) : TS w ((w.alloc (iobj ziv)).alloc (iobj v)) v := by
  have h1 := (Below.refl w.heap.size w).alloc (Nat.le_refl _) (iobj ziv)
  have h2 := (Below.refl (w.alloc (iobj ziv)).heap.size (w.alloc (iobj ziv))).alloc (Nat.le_refl _) (iobj v)
  refine ⟨h1.alloc h1.size _, (IBlk.new w ziv).bel h2, ?_⟩
  have := IBlk.new (w.alloc (iobj ziv)) v
  simpa using this
set_option maxHeartbeats 1000000 in
theorem retT_at {W : World} {b : Nat} {v : IV} {tmps : Array Value} {R : Ending → World → Prop} (D : IBlk W b v) (hR : R (.returned (itm v)) W) (h2 : tmps[6]?.getD undef = .pointer (some ⟨b, 0, none⟩) := by rfl) :
    bodyPost Try.prog Try.f82 R .ret ⟨tmps, []⟩ W := by
  obtain ⟨c0, c1, c2, c3, c4, c5, c6, c7, c8, c9⟩ := D.cells
  exact bodyPost_ret (v := itm v) (by simp [results, Try.results82, go_sem, h2, c0, c1, c2, c3, c4, c5, c6, c7, c8, c9]) rfl hR

set_option maxRecDepth 100000 in
set_option maxHeartbeats 16000000 in
theorem item_get200 (a : Option Addr) (n c m : Nat) (xs : List Int) (w : World) (hr : Rd w w.heap.size a n xs) (hl : n ≤ 1000) (hlc : n ≤ c) (hm : m ≤ 15) (hn : 24 + 24 * m = n) :
    Calls Try.prog 82 #[.int .i64 200, .int .i64 m, .slice a n c] w fun e w' => ∃ A k, e = .returned (itm ⟨200, nb xs 0 4, nb xs 4 8, nb xs 12 4, nb xs 16 4, nb xs 20 4, A, m, k, none, 0, 0, 0, none, 0, 0⟩) ∧ RowOwn bloL w' w.heap.size A m k (blosAt xs 24 m) ∧ Below w.heap.size w w' := by
  obtain ⟨i0, hi0, hz0, hz1, hz2⟩ := info_parts info_blo
  have HI := Lib.hid (show Try.prog.info? 105 = some i0 ∧ i0.zero = some (bloV zblo) ∧ i0.size = 7 ∧ i0.bytes = 28 from ⟨hi0, hz0, hz1, hz2⟩)
  have CR : Hid (∀ W (i s : Nat) (j t : Int), Below w.heap.size w W → 1 ≤ s → s ≤ 8 → i + s ≤ n → j = i → t = s → Calls Try.prog 83 #[.slice a n c, .int .i64 j, .int .i64 t] W fun e w' => e = .returned (.int .u64 (nb xs i s)) ∧ W = w') := fun W i s j t hW h1 h2 h3 hj ht =>
    read_nb a n c w.heap.size i s xs W (by unfold maxLen; omega) hlc (hr.below hW) h1 h2 h3 j hj t ht
  have Q32 := Lib.hid (fun i => wrap_u32 _ (nb32 xs hr.2.1 i))
  have Q8 := Lib.hid (fun i => wrap_u8 (nb xs i 1) (by have := nb_bd xs hr.2.1 i 1; omega))
  have Q24 := Lib.hid (fun i => wrap_u32 (nb xs i 3) ⟨(nb_bd xs hr.2.1 i 3).1, by have := nb_bd xs hr.2.1 i 3; omega⟩)
  have HNN := Lib.hid hn
  have HLL := Lib.hid hl
  have q1 := Q32.out 0
  have q3 := Q32.out 12
  have q4 := Q32.out 16
  have q5 := Q32.out 20
  clear hr hl hlc hn hi0 hz0 hz1 hz2
  go_enter Try.func82, Try.ntmps82

  go_wp2_with fail
  refine (CR.out _ 0 4 0 4 (TS.new w ⟨200, 0, 0, 0, 0, 0, none, 0, 0, none, 0, 0, 0, none, 0, 0⟩).below (by omega) (by omega) (by have := HNN.out; omega) rfl rfl).mono ?_
  rintro e w' ⟨rfl, rfl⟩
  go_wp2_with fail
  refine (CR.out _ 4 8 4 8 (TS.new w ⟨200, nb xs 0 4, 0, 0, 0, 0, none, 0, 0, none, 0, 0, 0, none, 0, 0⟩).below (by omega) (by omega) (by have := HNN.out; omega) rfl rfl).mono ?_
  rintro e w' ⟨rfl, rfl⟩
  go_wp2_with fail
  refine (CR.out _ 12 4 12 4 (TS.new w ⟨200, nb xs 0 4, nb xs 4 8, 0, 0, 0, none, 0, 0, none, 0, 0, 0, none, 0, 0⟩).below (by omega) (by omega) (by have := HNN.out; omega) rfl rfl).mono ?_
  rintro e w' ⟨rfl, rfl⟩
  go_wp2_with fail
  refine (CR.out _ 16 4 16 4 (TS.new w ⟨200, nb xs 0 4, nb xs 4 8, nb xs 12 4, 0, 0, none, 0, 0, none, 0, 0, 0, none, 0, 0⟩).below (by omega) (by omega) (by have := HNN.out; omega) rfl rfl).mono ?_
  rintro e w' ⟨rfl, rfl⟩
  go_wp2_with fail
  refine (CR.out _ 20 4 20 4 (TS.new w ⟨200, nb xs 0 4, nb xs 4 8, nb xs 12 4, nb xs 16 4, 0, none, 0, 0, none, 0, 0, 0, none, 0, 0⟩).below (by omega) (by omega) (by have := HNN.out; omega) rfl rfl).mono ?_
  rintro e w' ⟨rfl, rfl⟩
  go_wp2_with fail
  go_loopw [8, 9] (fun sa sk wx => ∃ (k : Nat) (A : Option Addr) (z : Nat), k ≤ m ∧ sk = .int .i64 k ∧ sa = .int .i64 (24 + 24 * k : Nat) ∧ Hid (TS w wx ⟨200, nb xs 0 4, nb xs 4 8, nb xs 12 4, nb xs 16 4, nb xs 20 4, A, k, z, none, 0, 0, 0, none, 0, 0⟩) ∧ Hid (RowOwn bloL wx (w.heap.size + 2) A k z (blosAt xs 24 k))) (fun _ sk _ => m - (intOf sk).toNat)
  case atStart => exact ⟨0, none, 0, by omega, rfl, rfl, TS.new w ⟨200, nb xs 0 4, nb xs 4 8, nb xs 12 4, nb xs 16 4, nb xs 20 4, none, 0, 0, none, 0, 0, 0, none, 0, 0⟩, RowOwn.nil _ _⟩
  case round =>
    obtain ⟨k, A, z, hk, rfl, rfl, hP, hO⟩ := hrel
    rename World => wx
    by_cases hlt : k < m
    · have hS : Sg (w.heap.size + 1) A k z wx.drew := hP.out.cur.c6
      have c6 : ∀ W, Sg (w.heap.size + 1) A k z W → W.cell? ⟨w.heap.size + 1, 6, none⟩ = some (.slice A k z) := fun W h => h
      have HP0 : Hid (TS w wx.drew ⟨200, nb xs 0 4, nb xs 4 8, nb xs 12 4, nb xs 16 4, nb xs 20 4, A, k, z, none, 0, 0, 0, none, 0, 0⟩) := ⟨hP.out.below.drew, hP.out.res, hP.out.cur⟩
      have HO0 : Hid (RowOwn bloL wx.drew (w.heap.size + 2) A k z (blosAt xs 24 k)) := hO.out
      have HY := Lib.hid (blosAt_snoc xs k 24)
      have HAT : Hid (24 + 24 * (k + 1) = 24 + 24 * k + 24) := by show 24 + 24 * (k + 1) = 24 + 24 * k + 24; omega
      have HLE := Lib.hid (show 24 + 24 * k + 24 ≤ n from by have := HNN.out; omega)
      have hat : 24 + 24 * k ≤ 1000 := by have := HNN.out; omega
      unfold bloAt at HY
      generalize 24 + 24 * k = p at *
      have C0 : Hid (∀ W, Below w.heap.size w W → Calls Try.prog 83 #[.slice a n c, .int .i64 (p : Int), .int .i64 4] W fun e w' => e = .returned (.int .u64 (nb xs p 4)) ∧ W = w') := fun W hW => CR.out W p 4 _ _ hW (by omega) (by omega) (by have := HLE.out; omega) (by omega) rfl
      have q0 := Q32.out p
      have C1 : Hid (∀ W, Below w.heap.size w W → Calls Try.prog 83 #[.slice a n c, .int .i64 ((p : Int) + 4), .int .i64 1] W fun e w' => e = .returned (.int .u64 (nb xs (p + 4) 1)) ∧ W = w') := fun W hW => CR.out W (p + 4) 1 _ _ hW (by omega) (by omega) (by have := HLE.out; omega) (by omega) rfl
      have q1 := Q8.out (p + 4)
      have r1 : IntKind.i64.wrap ((p : Int) + 4) = p + 4 := IntWalk.i64_in _ (by omega)
      have C2 : Hid (∀ W, Below w.heap.size w W → Calls Try.prog 83 #[.slice a n c, .int .i64 ((p : Int) + 5), .int .i64 3] W fun e w' => e = .returned (.int .u64 (nb xs (p + 5) 3)) ∧ W = w') := fun W hW => CR.out W (p + 5) 3 _ _ hW (by omega) (by omega) (by have := HLE.out; omega) (by omega) rfl
      have q2 := Q24.out (p + 5)
      have r2 : IntKind.i64.wrap ((p : Int) + 5) = p + 5 := IntWalk.i64_in _ (by omega)
      have C3 : Hid (∀ W, Below w.heap.size w W → Calls Try.prog 83 #[.slice a n c, .int .i64 ((p : Int) + 8), .int .i64 4] W fun e w' => e = .returned (.int .u64 (nb xs (p + 8) 4)) ∧ W = w') := fun W hW => CR.out W (p + 8) 4 _ _ hW (by omega) (by omega) (by have := HLE.out; omega) (by omega) rfl
      have q3 := Q32.out (p + 8)
      have r3 : IntKind.i64.wrap ((p : Int) + 8) = p + 8 := IntWalk.i64_in _ (by omega)
      have C4 : Hid (∀ W, Below w.heap.size w W → Calls Try.prog 83 #[.slice a n c, .int .i64 ((p : Int) + 12), .int .i64 4] W fun e w' => e = .returned (.int .u64 (nb xs (p + 12) 4)) ∧ W = w') := fun W hW => CR.out W (p + 12) 4 _ _ hW (by omega) (by omega) (by have := HLE.out; omega) (by omega) rfl
      have q4 := Q32.out (p + 12)
      have r4 : IntKind.i64.wrap ((p : Int) + 12) = p + 12 := IntWalk.i64_in _ (by omega)
      have C5 : Hid (∀ W, Below w.heap.size w W → Calls Try.prog 83 #[.slice a n c, .int .i64 ((p : Int) + 16), .int .i64 4] W fun e w' => e = .returned (.int .u64 (nb xs (p + 16) 4)) ∧ W = w') := fun W hW => CR.out W (p + 16) 4 _ _ hW (by omega) (by omega) (by have := HLE.out; omega) (by omega) rfl
      have q5 := Q32.out (p + 16)
      have r5 : IntKind.i64.wrap ((p : Int) + 16) = p + 16 := IntWalk.i64_in _ (by omega)
      have C6 : Hid (∀ W, Below w.heap.size w W → Calls Try.prog 83 #[.slice a n c, .int .i64 ((p : Int) + 20), .int .i64 4] W fun e w' => e = .returned (.int .u64 (nb xs (p + 20) 4)) ∧ W = w') := fun W hW => CR.out W (p + 20) 4 _ _ hW (by omega) (by omega) (by have := HLE.out; omega) (by omega) rfl
      have q6 := Q32.out (p + 20)
      have r6 : IntKind.i64.wrap ((p : Int) + 20) = p + 20 := IntWalk.i64_in _ (by omega)
      generalize nb xs p 4 = y0 at *
      generalize nb xs (p + 4) 1 = y1 at *
      generalize nb xs (p + 5) 3 = y2 at *
      generalize nb xs (p + 8) 4 = y3 at *
      generalize nb xs (p + 12) 4 = y4 at *
      generalize nb xs (p + 16) 4 = y5 at *
      generalize nb xs (p + 20) 4 = y6 at *
      clear hP hO CR
      go_wp2_with fail
      refine region_seqX (Sg (w.heap.size + 1) A k z) 40 [(0, false), (1, false), (2, false), (3, false), (6, false), (7, false), (8, false), (11, false), (12, false), (13, false), (16, false), (17, false), (18, false), (21, false), (22, false), (23, false), (26, false), (27, false), (28, false), (31, false), (32, false), (33, false), (4, true), (5, false), (9, true), (10, false), (14, true), (15, false), (19, true), (20, false), (24, true), (25, false), (29, true), (30, false), (34, true), (35, false), (36, false), (37, true), (38, true), (39, false), (40, true)] (by kernel_rfl) (by kernel_rfl) rfl (by kernel_rfl) ?_
      generalize wx.drew = u0 at *
      iterate 22 (refine seqX_read (v := _) rfl (fun _ _ _ h => h) hS (Or.inl ⟨by rfl, fun W hW => by go_simp <;> with_reducible rfl⟩) ?_; simp only [Act.put, List.setIfInBounds_toArray, List.set_cons_zero, List.set_cons_succ])
      clear c6
      refine seqX_do rfl (fun K hK => ?_)
      go_simp
      refine (C0.out _ HP0.out.below).mono ?_
      rintro e w' ⟨rfl, rfl⟩
      refine hK.out _ _ _ (fun W h => h) hS ?_
      clear hK K C0
      iterate 1 (refine seqX_read (v := _) rfl (fun _ _ _ h => h) hS (Or.inl ⟨by rfl, fun W hW => by go_simp <;> with_reducible rfl⟩) ?_; simp only [Act.put, List.setIfInBounds_toArray, List.set_cons_zero, List.set_cons_succ])
      refine seqX_do rfl (fun K hK => ?_)
      go_simp
      refine (C1.out _ HP0.out.below).mono ?_
      rintro e w' ⟨rfl, rfl⟩
      refine hK.out _ _ _ (fun W h => h) hS ?_
      clear hK K C1
      iterate 1 (refine seqX_read (v := _) rfl (fun _ _ _ h => h) hS (Or.inl ⟨by rfl, fun W hW => by go_simp <;> with_reducible rfl⟩) ?_; simp only [Act.put, List.setIfInBounds_toArray, List.set_cons_zero, List.set_cons_succ])
      refine seqX_do rfl (fun K hK => ?_)
      go_simp
      refine (C2.out _ HP0.out.below).mono ?_
      rintro e w' ⟨rfl, rfl⟩
      refine hK.out _ _ _ (fun W h => h) hS ?_
      clear hK K C2
      iterate 1 (refine seqX_read (v := _) rfl (fun _ _ _ h => h) hS (Or.inl ⟨by rfl, fun W hW => by go_simp <;> with_reducible rfl⟩) ?_; simp only [Act.put, List.setIfInBounds_toArray, List.set_cons_zero, List.set_cons_succ])
      refine seqX_do rfl (fun K hK => ?_)
      go_simp
      refine (C3.out _ HP0.out.below).mono ?_
      rintro e w' ⟨rfl, rfl⟩
      refine hK.out _ _ _ (fun W h => h) hS ?_
      clear hK K C3
      iterate 1 (refine seqX_read (v := _) rfl (fun _ _ _ h => h) hS (Or.inl ⟨by rfl, fun W hW => by go_simp <;> with_reducible rfl⟩) ?_; simp only [Act.put, List.setIfInBounds_toArray, List.set_cons_zero, List.set_cons_succ])
      refine seqX_do rfl (fun K hK => ?_)
      go_simp
      refine (C4.out _ HP0.out.below).mono ?_
      rintro e w' ⟨rfl, rfl⟩
      refine hK.out _ _ _ (fun W h => h) hS ?_
      clear hK K C4
      iterate 1 (refine seqX_read (v := _) rfl (fun _ _ _ h => h) hS (Or.inl ⟨by rfl, fun W hW => by go_simp <;> with_reducible rfl⟩) ?_; simp only [Act.put, List.setIfInBounds_toArray, List.set_cons_zero, List.set_cons_succ])
      refine seqX_do rfl (fun K hK => ?_)
      go_simp
      refine (C5.out _ HP0.out.below).mono ?_
      rintro e w' ⟨rfl, rfl⟩
      refine hK.out _ _ _ (fun W h => h) hS ?_
      clear hK K C5
      iterate 1 (refine seqX_read (v := _) rfl (fun _ _ _ h => h) hS (Or.inl ⟨by rfl, fun W hW => by go_simp <;> with_reducible rfl⟩) ?_; simp only [Act.put, List.setIfInBounds_toArray, List.set_cons_zero, List.set_cons_succ])
      refine seqX_do rfl (fun K hK => ?_)
      go_simp
      refine (C6.out _ HP0.out.below).mono ?_
      rintro e w' ⟨rfl, rfl⟩
      refine hK.out _ _ _ (fun W h => h) hS ?_
      clear hK K C6
      iterate 2 (refine seqX_read (v := _) rfl (fun _ _ _ h => h) hS (Or.inl ⟨by rfl, fun W hW => by go_simp <;> with_reducible rfl⟩) ?_; simp only [Act.put, List.setIfInBounds_toArray, List.set_cons_zero, List.set_cons_succ])
      clear hS q0 q1 q2 q3 q4 q5 q6 r1 r2 r3 r4 r5 r6
      refine seqX_do rfl (fun K hK => ?_)
      have hbA := (Below.refl u0.heap.size u0).alloc (Nat.le_refl _) (.cells #[.int .u32 y0, .int .u8 y1, .int .u32 y2, .int .u32 y3, .int .u32 y4, .int .u32 y5, .int .u32 y6] 105)
      have HWB : Hid (RowRd bloL (u0.alloc (.cells #[.int .u32 y0, .int .u8 y1, .int .u32 y2, .int .u32 y3, .int .u32 y4, .int .u32 y5, .int .u32 y6] 105)) (u0.alloc (.cells #[.int .u32 y0, .int .u8 y1, .int .u32 y2, .int .u32 y3, .int .u32 y4, .int .u32 y5, .int .u32 y6] 105)).heap.size (some ⟨u0.heap.size, 0, none⟩) 1 [⟨y0, y1, y2, y3, y4, y5, y6⟩]) := rowRd_blk (L := bloL) (xs := [⟨y0, y1, y2, y3, y4, y5, y6⟩]) (KBlk.new u0 ⟨y0, y1, y2, y3, y4, y5, y6⟩) rfl
      have HP2 : Hid (TS w (u0.alloc (.cells #[.int .u32 y0, .int .u8 y1, .int .u32 y2, .int .u32 y3, .int .u32 y4, .int .u32 y5, .int .u32 y6] 105)) ⟨200, nb xs 0 4, nb xs 4 8, nb xs 12 4, nb xs 16 4, nb xs 20 4, A, k, z, none, 0, 0, 0, none, 0, 0⟩) := HP0.out.bel hbA
      have HO2 : Hid (RowOwn bloL (u0.alloc (.cells #[.int .u32 y0, .int .u8 y1, .int .u32 y2, .int .u32 y3, .int .u32 y4, .int .u32 y5, .int .u32 y6] 105)) (w.heap.size + 2) A k z (blosAt xs 24 k)) := HO0.out.bel hbA
      clear HP0 HO0 hbA
      go_simp
      refine hK.out _ _ _ (fun W h => h) HP2.out.cur.c6 ?_
      clear hK K
      generalize u0.alloc (.cells #[.int .u32 y0, .int .u8 y1, .int .u32 y2, .int .u32 y3, .int .u32 y4, .int .u32 y5, .int .u32 y6] 105) = u2 at *
      generalize u0.heap.size = qb at *
      refine seqX_do rfl (fun K hK => ?_)
      rw [if_pos (by rfl)]
      refine oper_append_rows (L := bloL) (N := k + 1) (.tmp 52) (.tmp 88) rfl Try.underlying65 HI.out.1 HI.out.2.1 HI.out.2.2.1 HI.out.2.2.2 rfl (blosAt xs 24 (k + 1)) rfl HY.out.symm rfl rfl HO2.out HWB.out HP2.out.cur.lt (by unfold maxLen; omega) (by omega) (fun A2 c2 u3 ho3 hb3 => hK.out _ _ _ (fun W h => h) (HP2.out.belq hb3).cur.c6 ?_)
      have Pc := HP2.out.belq hb3
      have hS : Sg (w.heap.size + 1) A k z u3 := Pc.cur.c6
      have x6 := Pc.cur.c6
      have y6' := Pc.cur.frozen 6
      have HPd : Hid (TS w (u3.setCell ⟨w.heap.size + 1, 6, none⟩ (.slice A2 (k + 1) c2)) ⟨200, nb xs 0 4, nb xs 4 8, nb xs 12 4, nb xs 16 4, nb xs 20 4, A2, (k + 1), c2, none, 0, 0, 0, none, 0, 0⟩) := Pc.set (Pc.cur.set6 A2 (k + 1) c2)
      have HOd : Hid (RowOwn bloL (u3.setCell ⟨w.heap.size + 1, 6, none⟩ (.slice A2 (k + 1) c2)) (w.heap.size + 2) A2 (k + 1) c2 (blosAt xs 24 (k + 1))) := ho3.setOff (by omega) _
      clear hK K HP2 HO2 HWB Pc ho3 hb3
      simp only [Act.put, List.setIfInBounds_toArray, List.set_cons_zero, List.set_cons_succ]
      iterate 1 (refine seqX_read (v := _) rfl (fun _ _ _ h => h) hS (Or.inl ⟨by rfl, fun W hW => by go_simp <;> with_reducible rfl⟩) ?_; simp only [Act.put, List.setIfInBounds_toArray, List.set_cons_zero, List.set_cons_succ])
      refine seqX_last rfl (fun K hK => ?_)
      go_simp
      refine hK.out _ _ ?_
      clear hK K x6 y6' hS
      go_wp2
      go_roundw
      case rel => exact ⟨k + 1, A2, c2, by omega, by go_num, by rw [HAT.out]; go_num, HPd.out, HOd.out⟩
      case measure => simp [intOf]; omega
    · obtain rfl : k = m := by omega
      obtain ⟨v, hv⟩ : ∃ v : IV, v = ⟨200, nb xs 0 4, nb xs 4 8, nb xs 12 4, nb xs 16 4, nb xs 20 4, A, k, z, none, 0, 0, 0, none, 0, 0⟩ := ⟨_, rfl⟩
      have hP' := hP.out
      rw [← hv] at hP'
      have D := hP'.cur
      have E := hP'.res
      have x0 := D.c0
      have z0 := E.c0
      have f0 := E.frozen 0
      have x1 := D.c1
      have z1 := E.c1
      have f1 := E.frozen 1
      have x2 := D.c2
      have z2 := E.c2
      have f2 := E.frozen 2
      have x3 := D.c3
      have z3 := E.c3
      have f3 := E.frozen 3
      have x4 := D.c4
      have z4 := E.c4
      have f4 := E.frozen 4
      have x5 := D.c5
      have z5 := E.c5
      have f5 := E.frozen 5
      have x6 := D.c6
      have z6 := E.c6
      have f6 := E.frozen 6
      have x7 := D.c7
      have z7 := E.c7
      have f7 := E.frozen 7
      have x8 := D.c8
      have z8 := E.c8
      have f8 := E.frozen 8
      have x9 := D.c9
      have z9 := E.c9
      have f9 := E.frozen 9
      have HW := Lib.hid (show IBlk ((((((((((wx.setCell ⟨w.heap.size, 0, none⟩ (.int .i64 v.kind)).setCell ⟨w.heap.size, 1, none⟩ (.int .u32 v.ssrc)).setCell ⟨w.heap.size, 2, none⟩ (.int .u64 v.ntp)).setCell ⟨w.heap.size, 3, none⟩ (.int .u32 v.time)).setCell ⟨w.heap.size, 4, none⟩ (.int .u32 v.pks)).setCell ⟨w.heap.size, 5, none⟩ (.int .u32 v.ocs)).setCell ⟨w.heap.size, 6, none⟩ (.slice v.ba v.bn v.bc)).setCell ⟨w.heap.size, 7, none⟩ (.slice v.ga v.gn v.gc)).setCell ⟨w.heap.size, 8, none⟩ (.int .u32 v.media)).setCell ⟨w.heap.size, 9, none⟩ (.slice v.pa v.pn v.pc)) w.heap.size v ∧ Below w.heap.size w ((((((((((wx.setCell ⟨w.heap.size, 0, none⟩ (.int .i64 v.kind)).setCell ⟨w.heap.size, 1, none⟩ (.int .u32 v.ssrc)).setCell ⟨w.heap.size, 2, none⟩ (.int .u64 v.ntp)).setCell ⟨w.heap.size, 3, none⟩ (.int .u32 v.time)).setCell ⟨w.heap.size, 4, none⟩ (.int .u32 v.pks)).setCell ⟨w.heap.size, 5, none⟩ (.int .u32 v.ocs)).setCell ⟨w.heap.size, 6, none⟩ (.slice v.ba v.bn v.bc)).setCell ⟨w.heap.size, 7, none⟩ (.slice v.ga v.gn v.gc)).setCell ⟨w.heap.size, 8, none⟩ (.int .u32 v.media)).setCell ⟨w.heap.size, 9, none⟩ (.slice v.pa v.pn v.pc)) ∧ RowOwn bloL ((((((((((wx.setCell ⟨w.heap.size, 0, none⟩ (.int .i64 v.kind)).setCell ⟨w.heap.size, 1, none⟩ (.int .u32 v.ssrc)).setCell ⟨w.heap.size, 2, none⟩ (.int .u64 v.ntp)).setCell ⟨w.heap.size, 3, none⟩ (.int .u32 v.time)).setCell ⟨w.heap.size, 4, none⟩ (.int .u32 v.pks)).setCell ⟨w.heap.size, 5, none⟩ (.int .u32 v.ocs)).setCell ⟨w.heap.size, 6, none⟩ (.slice v.ba v.bn v.bc)).setCell ⟨w.heap.size, 7, none⟩ (.slice v.ga v.gn v.gc)).setCell ⟨w.heap.size, 8, none⟩ (.int .u32 v.media)).setCell ⟨w.heap.size, 9, none⟩ (.slice v.pa v.pn v.pc)) w.heap.size A k z (blosAt xs 24 k) from
        ⟨E.store v, below_istore hP'.below (Nat.le_refl _) _ _ _ _ _ _ _ _ _ _, (RowOwn.ist hO.out (by omega) v).lower (by omega)⟩)
      have HV := Lib.hid hv
      clear hP hO hP' D E hv CR
      go_wp2
      generalize ((((((((((wx.setCell ⟨w.heap.size, 0, none⟩ (.int .i64 v.kind)).setCell ⟨w.heap.size, 1, none⟩ (.int .u32 v.ssrc)).setCell ⟨w.heap.size, 2, none⟩ (.int .u64 v.ntp)).setCell ⟨w.heap.size, 3, none⟩ (.int .u32 v.time)).setCell ⟨w.heap.size, 4, none⟩ (.int .u32 v.pks)).setCell ⟨w.heap.size, 5, none⟩ (.int .u32 v.ocs)).setCell ⟨w.heap.size, 6, none⟩ (.slice v.ba v.bn v.bc)).setCell ⟨w.heap.size, 7, none⟩ (.slice v.ga v.gn v.gc)).setCell ⟨w.heap.size, 8, none⟩ (.int .u32 v.media)).setCell ⟨w.heap.size, 9, none⟩ (.slice v.pa v.pn v.pc)) = u1 at *
      refine retT_at HW.out.1 ?_
      rw [HV.out]
      exact ⟨A, z, rfl, HW.out.2.2, HW.out.2.1⟩

set_option maxRecDepth 100000 in
set_option maxHeartbeats 16000000 in
theorem item_get201 (a : Option Addr) (n c m : Nat) (xs : List Int) (w : World) (hr : Rd w w.heap.size a n xs) (hl : n ≤ 1000) (hlc : n ≤ c) (hm : m ≤ 15) (hn : 4 + 24 * m = n) :
    Calls Try.prog 82 #[.int .i64 201, .int .i64 m, .slice a n c] w fun e w' => ∃ A k, e = .returned (itm ⟨201, nb xs 0 4, 0, 0, 0, 0, A, m, k, none, 0, 0, 0, none, 0, 0⟩) ∧ RowOwn bloL w' w.heap.size A m k (blosAt xs 4 m) ∧ Below w.heap.size w w' := by
  obtain ⟨i0, hi0, hz0, hz1, hz2⟩ := info_parts info_blo
  have HI := Lib.hid (show Try.prog.info? 105 = some i0 ∧ i0.zero = some (bloV zblo) ∧ i0.size = 7 ∧ i0.bytes = 28 from ⟨hi0, hz0, hz1, hz2⟩)
  have CR : Hid (∀ W (i s : Nat) (j t : Int), Below w.heap.size w W → 1 ≤ s → s ≤ 8 → i + s ≤ n → j = i → t = s → Calls Try.prog 83 #[.slice a n c, .int .i64 j, .int .i64 t] W fun e w' => e = .returned (.int .u64 (nb xs i s)) ∧ W = w') := fun W i s j t hW h1 h2 h3 hj ht =>
    read_nb a n c w.heap.size i s xs W (by unfold maxLen; omega) hlc (hr.below hW) h1 h2 h3 j hj t ht
  have Q32 := Lib.hid (fun i => wrap_u32 _ (nb32 xs hr.2.1 i))
  have Q8 := Lib.hid (fun i => wrap_u8 (nb xs i 1) (by have := nb_bd xs hr.2.1 i 1; omega))
  have Q24 := Lib.hid (fun i => wrap_u32 (nb xs i 3) ⟨(nb_bd xs hr.2.1 i 3).1, by have := nb_bd xs hr.2.1 i 3; omega⟩)
  have HNN := Lib.hid hn
  have HLL := Lib.hid hl
  have q1 := Q32.out 0
  clear hr hl hlc hn hi0 hz0 hz1 hz2
  go_enter Try.func82, Try.ntmps82

  go_wp2_with fail
  refine (CR.out _ 0 4 0 4 (TS.new w ⟨201, 0, 0, 0, 0, 0, none, 0, 0, none, 0, 0, 0, none, 0, 0⟩).below (by omega) (by omega) (by have := HNN.out; omega) rfl rfl).mono ?_
  rintro e w' ⟨rfl, rfl⟩
  go_wp2_with fail
  go_loopw [8, 9] (fun sa sk wx => ∃ (k : Nat) (A : Option Addr) (z : Nat), k ≤ m ∧ sk = .int .i64 k ∧ sa = .int .i64 (4 + 24 * k : Nat) ∧ Hid (TS w wx ⟨201, nb xs 0 4, 0, 0, 0, 0, A, k, z, none, 0, 0, 0, none, 0, 0⟩) ∧ Hid (RowOwn bloL wx (w.heap.size + 2) A k z (blosAt xs 4 k))) (fun _ sk _ => m - (intOf sk).toNat)
  case atStart => exact ⟨0, none, 0, by omega, rfl, rfl, TS.new w ⟨201, nb xs 0 4, 0, 0, 0, 0, none, 0, 0, none, 0, 0, 0, none, 0, 0⟩, RowOwn.nil _ _⟩
  case round =>
    obtain ⟨k, A, z, hk, rfl, rfl, hP, hO⟩ := hrel
    rename World => wx
    by_cases hlt : k < m
    · have hS : Sg (w.heap.size + 1) A k z wx.drew := hP.out.cur.c6
      have c6 : ∀ W, Sg (w.heap.size + 1) A k z W → W.cell? ⟨w.heap.size + 1, 6, none⟩ = some (.slice A k z) := fun W h => h
      have HP0 : Hid (TS w wx.drew ⟨201, nb xs 0 4, 0, 0, 0, 0, A, k, z, none, 0, 0, 0, none, 0, 0⟩) := ⟨hP.out.below.drew, hP.out.res, hP.out.cur⟩
      have HO0 : Hid (RowOwn bloL wx.drew (w.heap.size + 2) A k z (blosAt xs 4 k)) := hO.out
      have HY := Lib.hid (blosAt_snoc xs k 4)
      have HAT : Hid (4 + 24 * (k + 1) = 4 + 24 * k + 24) := by show 4 + 24 * (k + 1) = 4 + 24 * k + 24; omega
      have HLE := Lib.hid (show 4 + 24 * k + 24 ≤ n from by have := HNN.out; omega)
      have hat : 4 + 24 * k ≤ 1000 := by have := HNN.out; omega
      unfold bloAt at HY
      generalize 4 + 24 * k = p at *
      have C0 : Hid (∀ W, Below w.heap.size w W → Calls Try.prog 83 #[.slice a n c, .int .i64 (p : Int), .int .i64 4] W fun e w' => e = .returned (.int .u64 (nb xs p 4)) ∧ W = w') := fun W hW => CR.out W p 4 _ _ hW (by omega) (by omega) (by have := HLE.out; omega) (by omega) rfl
      have q0 := Q32.out p
      have C1 : Hid (∀ W, Below w.heap.size w W → Calls Try.prog 83 #[.slice a n c, .int .i64 ((p : Int) + 4), .int .i64 1] W fun e w' => e = .returned (.int .u64 (nb xs (p + 4) 1)) ∧ W = w') := fun W hW => CR.out W (p + 4) 1 _ _ hW (by omega) (by omega) (by have := HLE.out; omega) (by omega) rfl
      have q1 := Q8.out (p + 4)
      have r1 : IntKind.i64.wrap ((p : Int) + 4) = p + 4 := IntWalk.i64_in _ (by omega)
      have C2 : Hid (∀ W, Below w.heap.size w W → Calls Try.prog 83 #[.slice a n c, .int .i64 ((p : Int) + 5), .int .i64 3] W fun e w' => e = .returned (.int .u64 (nb xs (p + 5) 3)) ∧ W = w') := fun W hW => CR.out W (p + 5) 3 _ _ hW (by omega) (by omega) (by have := HLE.out; omega) (by omega) rfl
      have q2 := Q24.out (p + 5)
      have r2 : IntKind.i64.wrap ((p : Int) + 5) = p + 5 := IntWalk.i64_in _ (by omega)
      have C3 : Hid (∀ W, Below w.heap.size w W → Calls Try.prog 83 #[.slice a n c, .int .i64 ((p : Int) + 8), .int .i64 4] W fun e w' => e = .returned (.int .u64 (nb xs (p + 8) 4)) ∧ W = w') := fun W hW => CR.out W (p + 8) 4 _ _ hW (by omega) (by omega) (by have := HLE.out; omega) (by omega) rfl
      have q3 := Q32.out (p + 8)
      have r3 : IntKind.i64.wrap ((p : Int) + 8) = p + 8 := IntWalk.i64_in _ (by omega)
      have C4 : Hid (∀ W, Below w.heap.size w W → Calls Try.prog 83 #[.slice a n c, .int .i64 ((p : Int) + 12), .int .i64 4] W fun e w' => e = .returned (.int .u64 (nb xs (p + 12) 4)) ∧ W = w') := fun W hW => CR.out W (p + 12) 4 _ _ hW (by omega) (by omega) (by have := HLE.out; omega) (by omega) rfl
      have q4 := Q32.out (p + 12)
      have r4 : IntKind.i64.wrap ((p : Int) + 12) = p + 12 := IntWalk.i64_in _ (by omega)
      have C5 : Hid (∀ W, Below w.heap.size w W → Calls Try.prog 83 #[.slice a n c, .int .i64 ((p : Int) + 16), .int .i64 4] W fun e w' => e = .returned (.int .u64 (nb xs (p + 16) 4)) ∧ W = w') := fun W hW => CR.out W (p + 16) 4 _ _ hW (by omega) (by omega) (by have := HLE.out; omega) (by omega) rfl
      have q5 := Q32.out (p + 16)
      have r5 : IntKind.i64.wrap ((p : Int) + 16) = p + 16 := IntWalk.i64_in _ (by omega)
      have C6 : Hid (∀ W, Below w.heap.size w W → Calls Try.prog 83 #[.slice a n c, .int .i64 ((p : Int) + 20), .int .i64 4] W fun e w' => e = .returned (.int .u64 (nb xs (p + 20) 4)) ∧ W = w') := fun W hW => CR.out W (p + 20) 4 _ _ hW (by omega) (by omega) (by have := HLE.out; omega) (by omega) rfl
      have q6 := Q32.out (p + 20)
      have r6 : IntKind.i64.wrap ((p : Int) + 20) = p + 20 := IntWalk.i64_in _ (by omega)
      generalize nb xs p 4 = y0 at *
      generalize nb xs (p + 4) 1 = y1 at *
      generalize nb xs (p + 5) 3 = y2 at *
      generalize nb xs (p + 8) 4 = y3 at *
      generalize nb xs (p + 12) 4 = y4 at *
      generalize nb xs (p + 16) 4 = y5 at *
      generalize nb xs (p + 20) 4 = y6 at *
      clear hP hO CR
      go_wp2_with fail
      refine region_seqX (Sg (w.heap.size + 1) A k z) 40 [(0, false), (1, false), (2, false), (3, false), (6, false), (7, false), (8, false), (11, false), (12, false), (13, false), (16, false), (17, false), (18, false), (21, false), (22, false), (23, false), (26, false), (27, false), (28, false), (31, false), (32, false), (33, false), (4, true), (5, false), (9, true), (10, false), (14, true), (15, false), (19, true), (20, false), (24, true), (25, false), (29, true), (30, false), (34, true), (35, false), (36, false), (37, true), (38, true), (39, false), (40, true)] (by kernel_rfl) (by kernel_rfl) rfl (by kernel_rfl) ?_
      generalize wx.drew = u0 at *
      iterate 22 (refine seqX_read (v := _) rfl (fun _ _ _ h => h) hS (Or.inl ⟨by rfl, fun W hW => by go_simp <;> with_reducible rfl⟩) ?_; simp only [Act.put, List.setIfInBounds_toArray, List.set_cons_zero, List.set_cons_succ])
      clear c6
      refine seqX_do rfl (fun K hK => ?_)
      go_simp
      refine (C0.out _ HP0.out.below).mono ?_
      rintro e w' ⟨rfl, rfl⟩
      refine hK.out _ _ _ (fun W h => h) hS ?_
      clear hK K C0
      iterate 1 (refine seqX_read (v := _) rfl (fun _ _ _ h => h) hS (Or.inl ⟨by rfl, fun W hW => by go_simp <;> with_reducible rfl⟩) ?_; simp only [Act.put, List.setIfInBounds_toArray, List.set_cons_zero, List.set_cons_succ])
      refine seqX_do rfl (fun K hK => ?_)
      go_simp
      refine (C1.out _ HP0.out.below).mono ?_
      rintro e w' ⟨rfl, rfl⟩
      refine hK.out _ _ _ (fun W h => h) hS ?_
      clear hK K C1
      iterate 1 (refine seqX_read (v := _) rfl (fun _ _ _ h => h) hS (Or.inl ⟨by rfl, fun W hW => by go_simp <;> with_reducible rfl⟩) ?_; simp only [Act.put, List.setIfInBounds_toArray, List.set_cons_zero, List.set_cons_succ])
      refine seqX_do rfl (fun K hK => ?_)
      go_simp
      refine (C2.out _ HP0.out.below).mono ?_
      rintro e w' ⟨rfl, rfl⟩
      refine hK.out _ _ _ (fun W h => h) hS ?_
      clear hK K C2
      iterate 1 (refine seqX_read (v := _) rfl (fun _ _ _ h => h) hS (Or.inl ⟨by rfl, fun W hW => by go_simp <;> with_reducible rfl⟩) ?_; simp only [Act.put, List.setIfInBounds_toArray, List.set_cons_zero, List.set_cons_succ])
      refine seqX_do rfl (fun K hK => ?_)
      go_simp
      refine (C3.out _ HP0.out.below).mono ?_
      rintro e w' ⟨rfl, rfl⟩
      refine hK.out _ _ _ (fun W h => h) hS ?_
      clear hK K C3
      iterate 1 (refine seqX_read (v := _) rfl (fun _ _ _ h => h) hS (Or.inl ⟨by rfl, fun W hW => by go_simp <;> with_reducible rfl⟩) ?_; simp only [Act.put, List.setIfInBounds_toArray, List.set_cons_zero, List.set_cons_succ])
      refine seqX_do rfl (fun K hK => ?_)
      go_simp
      refine (C4.out _ HP0.out.below).mono ?_
      rintro e w' ⟨rfl, rfl⟩
      refine hK.out _ _ _ (fun W h => h) hS ?_
      clear hK K C4
      iterate 1 (refine seqX_read (v := _) rfl (fun _ _ _ h => h) hS (Or.inl ⟨by rfl, fun W hW => by go_simp <;> with_reducible rfl⟩) ?_; simp only [Act.put, List.setIfInBounds_toArray, List.set_cons_zero, List.set_cons_succ])
      refine seqX_do rfl (fun K hK => ?_)
      go_simp
      refine (C5.out _ HP0.out.below).mono ?_
      rintro e w' ⟨rfl, rfl⟩
      refine hK.out _ _ _ (fun W h => h) hS ?_
      clear hK K C5
      iterate 1 (refine seqX_read (v := _) rfl (fun _ _ _ h => h) hS (Or.inl ⟨by rfl, fun W hW => by go_simp <;> with_reducible rfl⟩) ?_; simp only [Act.put, List.setIfInBounds_toArray, List.set_cons_zero, List.set_cons_succ])
      refine seqX_do rfl (fun K hK => ?_)
      go_simp
      refine (C6.out _ HP0.out.below).mono ?_
      rintro e w' ⟨rfl, rfl⟩
      refine hK.out _ _ _ (fun W h => h) hS ?_
      clear hK K C6
      iterate 2 (refine seqX_read (v := _) rfl (fun _ _ _ h => h) hS (Or.inl ⟨by rfl, fun W hW => by go_simp <;> with_reducible rfl⟩) ?_; simp only [Act.put, List.setIfInBounds_toArray, List.set_cons_zero, List.set_cons_succ])
      clear hS q0 q1 q2 q3 q4 q5 q6 r1 r2 r3 r4 r5 r6
      refine seqX_do rfl (fun K hK => ?_)
      have hbA := (Below.refl u0.heap.size u0).alloc (Nat.le_refl _) (.cells #[.int .u32 y0, .int .u8 y1, .int .u32 y2, .int .u32 y3, .int .u32 y4, .int .u32 y5, .int .u32 y6] 105)
      have HWB : Hid (RowRd bloL (u0.alloc (.cells #[.int .u32 y0, .int .u8 y1, .int .u32 y2, .int .u32 y3, .int .u32 y4, .int .u32 y5, .int .u32 y6] 105)) (u0.alloc (.cells #[.int .u32 y0, .int .u8 y1, .int .u32 y2, .int .u32 y3, .int .u32 y4, .int .u32 y5, .int .u32 y6] 105)).heap.size (some ⟨u0.heap.size, 0, none⟩) 1 [⟨y0, y1, y2, y3, y4, y5, y6⟩]) := rowRd_blk (L := bloL) (xs := [⟨y0, y1, y2, y3, y4, y5, y6⟩]) (KBlk.new u0 ⟨y0, y1, y2, y3, y4, y5, y6⟩) rfl
      have HP2 : Hid (TS w (u0.alloc (.cells #[.int .u32 y0, .int .u8 y1, .int .u32 y2, .int .u32 y3, .int .u32 y4, .int .u32 y5, .int .u32 y6] 105)) ⟨201, nb xs 0 4, 0, 0, 0, 0, A, k, z, none, 0, 0, 0, none, 0, 0⟩) := HP0.out.bel hbA
      have HO2 : Hid (RowOwn bloL (u0.alloc (.cells #[.int .u32 y0, .int .u8 y1, .int .u32 y2, .int .u32 y3, .int .u32 y4, .int .u32 y5, .int .u32 y6] 105)) (w.heap.size + 2) A k z (blosAt xs 4 k)) := HO0.out.bel hbA
      clear HP0 HO0 hbA
      go_simp
      refine hK.out _ _ _ (fun W h => h) HP2.out.cur.c6 ?_
      clear hK K
      generalize u0.alloc (.cells #[.int .u32 y0, .int .u8 y1, .int .u32 y2, .int .u32 y3, .int .u32 y4, .int .u32 y5, .int .u32 y6] 105) = u2 at *
      generalize u0.heap.size = qb at *
      refine seqX_do rfl (fun K hK => ?_)
      rw [if_pos (by rfl)]
      refine oper_append_rows (L := bloL) (N := k + 1) (.tmp 52) (.tmp 88) rfl Try.underlying65 HI.out.1 HI.out.2.1 HI.out.2.2.1 HI.out.2.2.2 rfl (blosAt xs 4 (k + 1)) rfl HY.out.symm rfl rfl HO2.out HWB.out HP2.out.cur.lt (by unfold maxLen; omega) (by omega) (fun A2 c2 u3 ho3 hb3 => hK.out _ _ _ (fun W h => h) (HP2.out.belq hb3).cur.c6 ?_)
      have Pc := HP2.out.belq hb3
      have hS : Sg (w.heap.size + 1) A k z u3 := Pc.cur.c6
      have x6 := Pc.cur.c6
      have y6' := Pc.cur.frozen 6
      have HPd : Hid (TS w (u3.setCell ⟨w.heap.size + 1, 6, none⟩ (.slice A2 (k + 1) c2)) ⟨201, nb xs 0 4, 0, 0, 0, 0, A2, (k + 1), c2, none, 0, 0, 0, none, 0, 0⟩) := Pc.set (Pc.cur.set6 A2 (k + 1) c2)
      have HOd : Hid (RowOwn bloL (u3.setCell ⟨w.heap.size + 1, 6, none⟩ (.slice A2 (k + 1) c2)) (w.heap.size + 2) A2 (k + 1) c2 (blosAt xs 4 (k + 1))) := ho3.setOff (by omega) _
      clear hK K HP2 HO2 HWB Pc ho3 hb3
      simp only [Act.put, List.setIfInBounds_toArray, List.set_cons_zero, List.set_cons_succ]
      iterate 1 (refine seqX_read (v := _) rfl (fun _ _ _ h => h) hS (Or.inl ⟨by rfl, fun W hW => by go_simp <;> with_reducible rfl⟩) ?_; simp only [Act.put, List.setIfInBounds_toArray, List.set_cons_zero, List.set_cons_succ])
      refine seqX_last rfl (fun K hK => ?_)
      go_simp
      refine hK.out _ _ ?_
      clear hK K x6 y6' hS
      go_wp2
      go_roundw
      case rel => exact ⟨k + 1, A2, c2, by omega, by go_num, by rw [HAT.out]; go_num, HPd.out, HOd.out⟩
      case measure => simp [intOf]; omega
    · obtain rfl : k = m := by omega
      obtain ⟨v, hv⟩ : ∃ v : IV, v = ⟨201, nb xs 0 4, 0, 0, 0, 0, A, k, z, none, 0, 0, 0, none, 0, 0⟩ := ⟨_, rfl⟩
      have hP' := hP.out
      rw [← hv] at hP'
      have D := hP'.cur
      have E := hP'.res
      have x0 := D.c0
      have z0 := E.c0
      have f0 := E.frozen 0
      have x1 := D.c1
      have z1 := E.c1
      have f1 := E.frozen 1
      have x2 := D.c2
      have z2 := E.c2
      have f2 := E.frozen 2
      have x3 := D.c3
      have z3 := E.c3
      have f3 := E.frozen 3
      have x4 := D.c4
      have z4 := E.c4
      have f4 := E.frozen 4
      have x5 := D.c5
      have z5 := E.c5
      have f5 := E.frozen 5
      have x6 := D.c6
      have z6 := E.c6
      have f6 := E.frozen 6
      have x7 := D.c7
      have z7 := E.c7
      have f7 := E.frozen 7
      have x8 := D.c8
      have z8 := E.c8
      have f8 := E.frozen 8
      have x9 := D.c9
      have z9 := E.c9
      have f9 := E.frozen 9
      have HW := Lib.hid (show IBlk ((((((((((wx.setCell ⟨w.heap.size, 0, none⟩ (.int .i64 v.kind)).setCell ⟨w.heap.size, 1, none⟩ (.int .u32 v.ssrc)).setCell ⟨w.heap.size, 2, none⟩ (.int .u64 v.ntp)).setCell ⟨w.heap.size, 3, none⟩ (.int .u32 v.time)).setCell ⟨w.heap.size, 4, none⟩ (.int .u32 v.pks)).setCell ⟨w.heap.size, 5, none⟩ (.int .u32 v.ocs)).setCell ⟨w.heap.size, 6, none⟩ (.slice v.ba v.bn v.bc)).setCell ⟨w.heap.size, 7, none⟩ (.slice v.ga v.gn v.gc)).setCell ⟨w.heap.size, 8, none⟩ (.int .u32 v.media)).setCell ⟨w.heap.size, 9, none⟩ (.slice v.pa v.pn v.pc)) w.heap.size v ∧ Below w.heap.size w ((((((((((wx.setCell ⟨w.heap.size, 0, none⟩ (.int .i64 v.kind)).setCell ⟨w.heap.size, 1, none⟩ (.int .u32 v.ssrc)).setCell ⟨w.heap.size, 2, none⟩ (.int .u64 v.ntp)).setCell ⟨w.heap.size, 3, none⟩ (.int .u32 v.time)).setCell ⟨w.heap.size, 4, none⟩ (.int .u32 v.pks)).setCell ⟨w.heap.size, 5, none⟩ (.int .u32 v.ocs)).setCell ⟨w.heap.size, 6, none⟩ (.slice v.ba v.bn v.bc)).setCell ⟨w.heap.size, 7, none⟩ (.slice v.ga v.gn v.gc)).setCell ⟨w.heap.size, 8, none⟩ (.int .u32 v.media)).setCell ⟨w.heap.size, 9, none⟩ (.slice v.pa v.pn v.pc)) ∧ RowOwn bloL ((((((((((wx.setCell ⟨w.heap.size, 0, none⟩ (.int .i64 v.kind)).setCell ⟨w.heap.size, 1, none⟩ (.int .u32 v.ssrc)).setCell ⟨w.heap.size, 2, none⟩ (.int .u64 v.ntp)).setCell ⟨w.heap.size, 3, none⟩ (.int .u32 v.time)).setCell ⟨w.heap.size, 4, none⟩ (.int .u32 v.pks)).setCell ⟨w.heap.size, 5, none⟩ (.int .u32 v.ocs)).setCell ⟨w.heap.size, 6, none⟩ (.slice v.ba v.bn v.bc)).setCell ⟨w.heap.size, 7, none⟩ (.slice v.ga v.gn v.gc)).setCell ⟨w.heap.size, 8, none⟩ (.int .u32 v.media)).setCell ⟨w.heap.size, 9, none⟩ (.slice v.pa v.pn v.pc)) w.heap.size A k z (blosAt xs 4 k) from
        ⟨E.store v, below_istore hP'.below (Nat.le_refl _) _ _ _ _ _ _ _ _ _ _, (RowOwn.ist hO.out (by omega) v).lower (by omega)⟩)
      have HV := Lib.hid hv
      clear hP hO hP' D E hv CR
      go_wp2
      generalize ((((((((((wx.setCell ⟨w.heap.size, 0, none⟩ (.int .i64 v.kind)).setCell ⟨w.heap.size, 1, none⟩ (.int .u32 v.ssrc)).setCell ⟨w.heap.size, 2, none⟩ (.int .u64 v.ntp)).setCell ⟨w.heap.size, 3, none⟩ (.int .u32 v.time)).setCell ⟨w.heap.size, 4, none⟩ (.int .u32 v.pks)).setCell ⟨w.heap.size, 5, none⟩ (.int .u32 v.ocs)).setCell ⟨w.heap.size, 6, none⟩ (.slice v.ba v.bn v.bc)).setCell ⟨w.heap.size, 7, none⟩ (.slice v.ga v.gn v.gc)).setCell ⟨w.heap.size, 8, none⟩ (.int .u32 v.media)).setCell ⟨w.heap.size, 9, none⟩ (.slice v.pa v.pn v.pc)) = u1 at *
      refine retT_at HW.out.1 ?_
      rw [HV.out]
      exact ⟨A, z, rfl, HW.out.2.2, HW.out.2.1⟩

end Go.Proofs.Ythmmafpmpnhleaa.Fbk

namespace Go.Proofs.Ythmmafpmpnhleaa.Fbk
open Go.RowKit
set_option linter.unusedVariables false

set_option maxRecDepth 100000 in
set_option maxHeartbeats 16000000 in
theorem item_get203 (a : Option Addr) (n c m : Nat) (xs : List Int) (w : World) (hr : Rd w w.heap.size a n xs) (hl : n ≤ 1000) (hlc : n ≤ c) (hm : m ≤ 15) (hn : 0 + 4 * m = n) :
    Calls Try.prog 82 #[.int .i64 203, .int .i64 m, .slice a n c] w fun e w' => ∃ A k, e = .returned (itm ⟨203, 0, 0, 0, 0, 0, none, 0, 0, A, m, k, 0, none, 0, 0⟩) ∧ RowOwn w32L w' w.heap.size A m k (wordsAt xs 0 m) ∧ Below w.heap.size w w' := by
  obtain ⟨i0, hi0, hz0, hz1, hz2⟩ := info_parts info_w32
  have HI := Lib.hid (show Try.prog.info? 30 = some i0 ∧ i0.zero = some (.int .u32 0) ∧ i0.size = 1 ∧ i0.bytes = 4 from ⟨hi0, hz0, hz1, hz2⟩)
  have CR : Hid (∀ W (i s : Nat) (j t : Int), Below w.heap.size w W → 1 ≤ s → s ≤ 8 → i + s ≤ n → j = i → t = s → Calls Try.prog 83 #[.slice a n c, .int .i64 j, .int .i64 t] W fun e w' => e = .returned (.int .u64 (nb xs i s)) ∧ W = w') := fun W i s j t hW h1 h2 h3 hj ht =>
    read_nb a n c w.heap.size i s xs W (by unfold maxLen; omega) hlc (hr.below hW) h1 h2 h3 j hj t ht
  have Q32 := Lib.hid (fun i => wrap_u32 _ (nb32 xs hr.2.1 i))
  have Q16 := Lib.hid (fun i => wrap_u16' _ (nb16 xs hr.2.1 i))
  have HNN := Lib.hid hn
  have HLL := Lib.hid hl
  clear hr hl hlc hn hi0 hz0 hz1 hz2
  go_enter Try.func82, Try.ntmps82
  go_wp2_with fail
  go_loopw [8, 9] (fun sa sk wx => ∃ (k : Nat) (A : Option Addr) (z : Nat), k ≤ m ∧ sk = .int .i64 k ∧ sa = .int .i64 (0 + 4 * k : Nat) ∧ Hid (TS w wx ⟨203, 0, 0, 0, 0, 0, none, 0, 0, A, k, z, 0, none, 0, 0⟩) ∧ Hid (RowOwn w32L wx (w.heap.size + 2) A k z (wordsAt xs 0 k))) (fun _ sk _ => m - (intOf sk).toNat)
  case atStart => exact ⟨0, none, 0, by omega, rfl, rfl, TS.new w ⟨203, 0, 0, 0, 0, 0, none, 0, 0, none, 0, 0, 0, none, 0, 0⟩, RowOwn.nil _ _⟩
  case round =>
    obtain ⟨k, A, z, hk, rfl, rfl, hP, hO⟩ := hrel
    rename World => wx
    by_cases hlt : k < m
    · have hS : Sgc (w.heap.size + 1) 7 A k z wx.drew := hP.out.cur.c7
      have cc : ∀ W, Sgc (w.heap.size + 1) 7 A k z W → W.cell? ⟨w.heap.size + 1, 7, none⟩ = some (.slice A k z) := fun W h => h
      have HP0 : Hid (TS w wx.drew ⟨203, 0, 0, 0, 0, 0, none, 0, 0, A, k, z, 0, none, 0, 0⟩) := ⟨hP.out.below.drew, hP.out.res, hP.out.cur⟩
      have HO0 : Hid (RowOwn w32L wx.drew (w.heap.size + 2) A k z (wordsAt xs 0 k)) := hO.out
      have HY := Lib.hid (wordsAt_snoc xs 0 k)
      have HAT : Hid (0 + 4 * (k + 1) = 0 + 4 * k + 4) := by show 0 + 4 * (k + 1) = 0 + 4 * k + 4; omega
      have HLE := Lib.hid (show 0 + 4 * k + 4 ≤ n from by have := HNN.out; omega)
      have hat : 0 + 4 * k ≤ 1000 := by have := HNN.out; omega
      generalize 0 + 4 * k = p at *
      have C0 : Hid (∀ W, Below w.heap.size w W → Calls Try.prog 83 #[.slice a n c, .int .i64 (p : Int), .int .i64 4] W fun e w' => e = .returned (.int .u64 (nb xs p 4)) ∧ W = w') := fun W hW => CR.out W p 4 _ _ hW (by omega) (by omega) (by have := HLE.out; omega) (by omega) rfl
      have q0' := Q32.out p
      generalize nb xs p 4 = y0 at *
      clear hP hO CR
      go_wp2_with fail
      refine region_seqX (Sgc (w.heap.size + 1) 7 A k z) 9 [(0, false), (1, false), (2, false), (3, false), (4, true), (5, false), (6, true), (7, true), (8, false), (9, true)] (by kernel_rfl) (by kernel_rfl) rfl (by kernel_rfl) ?_
      generalize wx.drew = u0 at *
      iterate 4 (refine seqX_read (v := _) rfl (fun _ _ _ h => h) hS (Or.inl ⟨by rfl, fun W hW => by go_simp <;> with_reducible rfl⟩) ?_; simp only [Act.put, List.setIfInBounds_toArray, List.set_cons_zero, List.set_cons_succ])
      clear cc
      refine seqX_do rfl (fun K hK => ?_)
      go_simp
      refine (C0.out _ HP0.out.below).mono ?_
      rintro e w' ⟨rfl, rfl⟩
      refine hK.out _ _ _ (fun W h => h) hS ?_
      clear hK K C0
      iterate 1 (refine seqX_read (v := _) rfl (fun _ _ _ h => h) hS (Or.inl ⟨by rfl, fun W hW => by go_simp <;> with_reducible rfl⟩) ?_; simp only [Act.put, List.setIfInBounds_toArray, List.set_cons_zero, List.set_cons_succ])
      clear hS
      refine seqX_do rfl (fun K hK => ?_)
      have hbA := (Below.refl u0.heap.size u0).alloc (Nat.le_refl _) (.cells #[.int .u32 y0] 30)
      have HWB : Hid (RowRd w32L (u0.alloc (.cells #[.int .u32 y0] 30)) (u0.alloc (.cells #[.int .u32 y0] 30)).heap.size (some ⟨u0.heap.size, 0, none⟩) 1 [y0]) := rowRd_blk (L := w32L) (xs := [y0]) (heap_alloc_new u0 _) rfl
      have HP2 : Hid (TS w (u0.alloc (.cells #[.int .u32 y0] 30)) ⟨203, 0, 0, 0, 0, 0, none, 0, 0, A, k, z, 0, none, 0, 0⟩) := HP0.out.bel hbA
      have HO2 : Hid (RowOwn w32L (u0.alloc (.cells #[.int .u32 y0] 30)) (w.heap.size + 2) A k z (wordsAt xs 0 k)) := HO0.out.bel hbA
      clear HP0 HO0 hbA
      go_simp
      refine hK.out _ _ _ (fun W h => h) HP2.out.cur.c7 ?_
      clear hK K
      generalize u0.alloc (.cells #[.int .u32 y0] 30) = u2 at *
      generalize u0.heap.size = qb at *
      refine seqX_do rfl (fun K hK => ?_)
      rw [if_pos (by rfl)]
      refine oper_append_rows (L := w32L) (N := k + 1) (.tmp 96) (.tmp 101) rfl Try.underlying31 HI.out.1 HI.out.2.1 HI.out.2.2.1 HI.out.2.2.2 rfl (wordsAt xs 0 (k + 1)) rfl HY.out.symm rfl rfl HO2.out HWB.out HP2.out.cur.lt (by unfold maxLen; omega) (by omega) (fun A2 c2 u3 ho3 hb3 => hK.out _ _ _ (fun W h => h) (HP2.out.belq hb3).cur.c7 ?_)
      have Pc := HP2.out.belq hb3
      have hS : Sgc (w.heap.size + 1) 7 A k z u3 := Pc.cur.c7
      have x6 := Pc.cur.c7
      have y6' := Pc.cur.frozen 7
      have HPd : Hid (TS w (u3.setCell ⟨w.heap.size + 1, 7, none⟩ (.slice A2 (k + 1) c2)) ⟨203, 0, 0, 0, 0, 0, none, 0, 0, A2, (k + 1), c2, 0, none, 0, 0⟩) := Pc.set (Pc.cur.set7 A2 (k + 1) c2)
      have HOd : Hid (RowOwn w32L (u3.setCell ⟨w.heap.size + 1, 7, none⟩ (.slice A2 (k + 1) c2)) (w.heap.size + 2) A2 (k + 1) c2 (wordsAt xs 0 (k + 1))) := ho3.setOff (by omega) _
      clear hK K HP2 HO2 HWB Pc ho3 hb3
      simp only [Act.put, List.setIfInBounds_toArray, List.set_cons_zero, List.set_cons_succ]
      iterate 1 (refine seqX_read (v := _) rfl (fun _ _ _ h => h) hS (Or.inl ⟨by rfl, fun W hW => by go_simp <;> with_reducible rfl⟩) ?_; simp only [Act.put, List.setIfInBounds_toArray, List.set_cons_zero, List.set_cons_succ])
      refine seqX_last rfl (fun K hK => ?_)
      go_simp
      refine hK.out _ _ ?_
      clear hK K x6 y6' hS
      go_wp2
      go_roundw
      case rel => exact ⟨k + 1, A2, c2, by omega, by go_num, by rw [HAT.out]; go_num, HPd.out, HOd.out⟩
      case measure => simp [intOf]; omega
    · obtain rfl : k = m := by omega
      obtain ⟨v, hv⟩ : ∃ v : IV, v = ⟨203, 0, 0, 0, 0, 0, none, 0, 0, A, k, z, 0, none, 0, 0⟩ := ⟨_, rfl⟩
      have hP' := hP.out
      rw [← hv] at hP'
      have D := hP'.cur
      have E := hP'.res
      have x0 := D.c0
      have z0 := E.c0
      have f0 := E.frozen 0
      have x1 := D.c1
      have z1 := E.c1
      have f1 := E.frozen 1
      have x2 := D.c2
      have z2 := E.c2
      have f2 := E.frozen 2
      have x3 := D.c3
      have z3 := E.c3
      have f3 := E.frozen 3
      have x4 := D.c4
      have z4 := E.c4
      have f4 := E.frozen 4
      have x5 := D.c5
      have z5 := E.c5
      have f5 := E.frozen 5
      have x6 := D.c6
      have z6 := E.c6
      have f6 := E.frozen 6
      have x7 := D.c7
      have z7 := E.c7
      have f7 := E.frozen 7
      have x8 := D.c8
      have z8 := E.c8
      have f8 := E.frozen 8
      have x9 := D.c9
      have z9 := E.c9
      have f9 := E.frozen 9
      have HW := Lib.hid (show IBlk ((((((((((wx.setCell ⟨w.heap.size, 0, none⟩ (.int .i64 v.kind)).setCell ⟨w.heap.size, 1, none⟩ (.int .u32 v.ssrc)).setCell ⟨w.heap.size, 2, none⟩ (.int .u64 v.ntp)).setCell ⟨w.heap.size, 3, none⟩ (.int .u32 v.time)).setCell ⟨w.heap.size, 4, none⟩ (.int .u32 v.pks)).setCell ⟨w.heap.size, 5, none⟩ (.int .u32 v.ocs)).setCell ⟨w.heap.size, 6, none⟩ (.slice v.ba v.bn v.bc)).setCell ⟨w.heap.size, 7, none⟩ (.slice v.ga v.gn v.gc)).setCell ⟨w.heap.size, 8, none⟩ (.int .u32 v.media)).setCell ⟨w.heap.size, 9, none⟩ (.slice v.pa v.pn v.pc)) w.heap.size v ∧ Below w.heap.size w ((((((((((wx.setCell ⟨w.heap.size, 0, none⟩ (.int .i64 v.kind)).setCell ⟨w.heap.size, 1, none⟩ (.int .u32 v.ssrc)).setCell ⟨w.heap.size, 2, none⟩ (.int .u64 v.ntp)).setCell ⟨w.heap.size, 3, none⟩ (.int .u32 v.time)).setCell ⟨w.heap.size, 4, none⟩ (.int .u32 v.pks)).setCell ⟨w.heap.size, 5, none⟩ (.int .u32 v.ocs)).setCell ⟨w.heap.size, 6, none⟩ (.slice v.ba v.bn v.bc)).setCell ⟨w.heap.size, 7, none⟩ (.slice v.ga v.gn v.gc)).setCell ⟨w.heap.size, 8, none⟩ (.int .u32 v.media)).setCell ⟨w.heap.size, 9, none⟩ (.slice v.pa v.pn v.pc)) ∧ RowOwn w32L ((((((((((wx.setCell ⟨w.heap.size, 0, none⟩ (.int .i64 v.kind)).setCell ⟨w.heap.size, 1, none⟩ (.int .u32 v.ssrc)).setCell ⟨w.heap.size, 2, none⟩ (.int .u64 v.ntp)).setCell ⟨w.heap.size, 3, none⟩ (.int .u32 v.time)).setCell ⟨w.heap.size, 4, none⟩ (.int .u32 v.pks)).setCell ⟨w.heap.size, 5, none⟩ (.int .u32 v.ocs)).setCell ⟨w.heap.size, 6, none⟩ (.slice v.ba v.bn v.bc)).setCell ⟨w.heap.size, 7, none⟩ (.slice v.ga v.gn v.gc)).setCell ⟨w.heap.size, 8, none⟩ (.int .u32 v.media)).setCell ⟨w.heap.size, 9, none⟩ (.slice v.pa v.pn v.pc)) w.heap.size A k z (wordsAt xs 0 k) from
        ⟨E.store v, below_istore hP'.below (Nat.le_refl _) _ _ _ _ _ _ _ _ _ _, (RowOwn.ist hO.out (by omega) v).lower (by omega)⟩)
      have HV := Lib.hid hv
      clear hP hO hP' D E hv CR
      go_wp2
      generalize ((((((((((wx.setCell ⟨w.heap.size, 0, none⟩ (.int .i64 v.kind)).setCell ⟨w.heap.size, 1, none⟩ (.int .u32 v.ssrc)).setCell ⟨w.heap.size, 2, none⟩ (.int .u64 v.ntp)).setCell ⟨w.heap.size, 3, none⟩ (.int .u32 v.time)).setCell ⟨w.heap.size, 4, none⟩ (.int .u32 v.pks)).setCell ⟨w.heap.size, 5, none⟩ (.int .u32 v.ocs)).setCell ⟨w.heap.size, 6, none⟩ (.slice v.ba v.bn v.bc)).setCell ⟨w.heap.size, 7, none⟩ (.slice v.ga v.gn v.gc)).setCell ⟨w.heap.size, 8, none⟩ (.int .u32 v.media)).setCell ⟨w.heap.size, 9, none⟩ (.slice v.pa v.pn v.pc)) = u1 at *
      refine retT_at HW.out.1 ?_
      rw [HV.out]
      exact ⟨A, z, rfl, HW.out.2.2, HW.out.2.1⟩

set_option maxRecDepth 100000 in
set_option maxHeartbeats 16000000 in
theorem item_get205 (a : Option Addr) (n c m : Nat) (xs : List Int) (w : World) (hr : Rd w w.heap.size a n xs) (hl : n ≤ 1000) (hlc : n ≤ c) (hm : m ≤ 16) (hn : 8 + 4 * m = n) :
    Calls Try.prog 82 #[.int .i64 205, .int .i64 m, .slice a n c] w fun e w' => ∃ A k, e = .returned (itm ⟨205, nb xs 0 4, 0, 0, 0, 0, none, 0, 0, none, 0, 0, nb xs 4 4, A, m, k⟩) ∧ RowOwn pairL w' w.heap.size A m k (pairsAt xs 8 m) ∧ Below w.heap.size w w' := by
  obtain ⟨i0, hi0, hz0, hz1, hz2⟩ := info_parts info_pair
  have HI := Lib.hid (show Try.prog.info? 108 = some i0 ∧ i0.zero = some (.agg #[.int .u16 0, .int .u16 0]) ∧ i0.size = 2 ∧ i0.bytes = 4 from ⟨hi0, hz0, hz1, hz2⟩)
  have CR : Hid (∀ W (i s : Nat) (j t : Int), Below w.heap.size w W → 1 ≤ s → s ≤ 8 → i + s ≤ n → j = i → t = s → Calls Try.prog 83 #[.slice a n c, .int .i64 j, .int .i64 t] W fun e w' => e = .returned (.int .u64 (nb xs i s)) ∧ W = w') := fun W i s j t hW h1 h2 h3 hj ht =>
    read_nb a n c w.heap.size i s xs W (by unfold maxLen; omega) hlc (hr.below hW) h1 h2 h3 j hj t ht
  have Q32 := Lib.hid (fun i => wrap_u32 _ (nb32 xs hr.2.1 i))
  have Q16 := Lib.hid (fun i => wrap_u16' _ (nb16 xs hr.2.1 i))
  have HNN := Lib.hid hn
  have HLL := Lib.hid hl
  have q1 := Q32.out 0
  have q8 := Q32.out 4
  clear hr hl hlc hn hi0 hz0 hz1 hz2
  go_enter Try.func82, Try.ntmps82
  go_wp2_with fail
  refine (CR.out _ 0 4 0 4 (TS.new w ⟨205, 0, 0, 0, 0, 0, none, 0, 0, none, 0, 0, 0, none, 0, 0⟩).below (by omega) (by omega) (by have := HNN.out; omega) rfl rfl).mono ?_
  rintro e w' ⟨rfl, rfl⟩
  go_wp2_with fail
  refine (CR.out _ 4 4 4 4 (TS.new w ⟨205, nb xs 0 4, 0, 0, 0, 0, none, 0, 0, none, 0, 0, 0, none, 0, 0⟩).below (by omega) (by omega) (by have := HNN.out; omega) rfl rfl).mono ?_
  rintro e w' ⟨rfl, rfl⟩
  go_wp2_with fail
  go_loopw [8, 9] (fun sa sk wx => ∃ (k : Nat) (A : Option Addr) (z : Nat), k ≤ m ∧ sk = .int .i64 k ∧ sa = .int .i64 (8 + 4 * k : Nat) ∧ Hid (TS w wx ⟨205, nb xs 0 4, 0, 0, 0, 0, none, 0, 0, none, 0, 0, nb xs 4 4, A, k, z⟩) ∧ Hid (RowOwn pairL wx (w.heap.size + 2) A k z (pairsAt xs 8 k))) (fun _ sk _ => m - (intOf sk).toNat)
  case atStart => exact ⟨0, none, 0, by omega, rfl, rfl, TS.new w ⟨205, nb xs 0 4, 0, 0, 0, 0, none, 0, 0, none, 0, 0, nb xs 4 4, none, 0, 0⟩, RowOwn.nil _ _⟩
  case round =>
    obtain ⟨k, A, z, hk, rfl, rfl, hP, hO⟩ := hrel
    rename World => wx
    by_cases hlt : k < m
    · have hS : Sgc (w.heap.size + 1) 9 A k z wx.drew := hP.out.cur.c9
      have cc : ∀ W, Sgc (w.heap.size + 1) 9 A k z W → W.cell? ⟨w.heap.size + 1, 9, none⟩ = some (.slice A k z) := fun W h => h
      have HP0 : Hid (TS w wx.drew ⟨205, nb xs 0 4, 0, 0, 0, 0, none, 0, 0, none, 0, 0, nb xs 4 4, A, k, z⟩) := ⟨hP.out.below.drew, hP.out.res, hP.out.cur⟩
      have HO0 : Hid (RowOwn pairL wx.drew (w.heap.size + 2) A k z (pairsAt xs 8 k)) := hO.out
      have HY := Lib.hid (pairsAt_snoc xs k 8)
      have HAT : Hid (8 + 4 * (k + 1) = 8 + 4 * k + 4) := by show 8 + 4 * (k + 1) = 8 + 4 * k + 4; omega
      have HLE := Lib.hid (show 8 + 4 * k + 4 ≤ n from by have := HNN.out; omega)
      have hat : 8 + 4 * k ≤ 1000 := by have := HNN.out; omega
      generalize 8 + 4 * k = p at *
      have C0 : Hid (∀ W, Below w.heap.size w W → Calls Try.prog 83 #[.slice a n c, .int .i64 (p : Int), .int .i64 2] W fun e w' => e = .returned (.int .u64 (nb xs p 2)) ∧ W = w') := fun W hW => CR.out W p 2 _ _ hW (by omega) (by omega) (by have := HLE.out; omega) (by omega) rfl
      have q0' := Q16.out p
      have C1 : Hid (∀ W, Below w.heap.size w W → Calls Try.prog 83 #[.slice a n c, .int .i64 ((p : Int) + 2), .int .i64 2] W fun e w' => e = .returned (.int .u64 (nb xs (p + 2) 2)) ∧ W = w') := fun W hW => CR.out W (p + 2) 2 _ _ hW (by omega) (by omega) (by have := HLE.out; omega) (by omega) rfl
      have q1' := Q16.out (p + 2)
      have r1 : IntKind.i64.wrap ((p : Int) + 2) = p + 2 := IntWalk.i64_in _ (by omega)
      generalize nb xs p 2 = y0 at *
      generalize nb xs (p + 2) 2 = y1 at *
      clear hP hO CR
      go_wp2_with fail
      refine region_seqX (Sgc (w.heap.size + 1) 9 A k z) 15 [(0, false), (1, false), (2, false), (3, false), (6, false), (7, false), (8, false), (4, true), (5, false), (9, true), (10, false), (11, false), (12, true), (13, true), (14, false), (15, true)] (by kernel_rfl) (by kernel_rfl) rfl (by kernel_rfl) ?_
      generalize wx.drew = u0 at *
      iterate 7 (refine seqX_read (v := _) rfl (fun _ _ _ h => h) hS (Or.inl ⟨by rfl, fun W hW => by go_simp <;> with_reducible rfl⟩) ?_; simp only [Act.put, List.setIfInBounds_toArray, List.set_cons_zero, List.set_cons_succ])
      clear cc
      refine seqX_do rfl (fun K hK => ?_)
      go_simp
      refine (C0.out _ HP0.out.below).mono ?_
      rintro e w' ⟨rfl, rfl⟩
      refine hK.out _ _ _ (fun W h => h) hS ?_
      clear hK K C0
      iterate 1 (refine seqX_read (v := _) rfl (fun _ _ _ h => h) hS (Or.inl ⟨by rfl, fun W hW => by go_simp <;> with_reducible rfl⟩) ?_; simp only [Act.put, List.setIfInBounds_toArray, List.set_cons_zero, List.set_cons_succ])
      refine seqX_do rfl (fun K hK => ?_)
      go_simp
      refine (C1.out _ HP0.out.below).mono ?_
      rintro e w' ⟨rfl, rfl⟩
      refine hK.out _ _ _ (fun W h => h) hS ?_
      clear hK K C1
      iterate 2 (refine seqX_read (v := _) rfl (fun _ _ _ h => h) hS (Or.inl ⟨by rfl, fun W hW => by go_simp <;> with_reducible rfl⟩) ?_; simp only [Act.put, List.setIfInBounds_toArray, List.set_cons_zero, List.set_cons_succ])
      clear hS
      refine seqX_do rfl (fun K hK => ?_)
      have hbA := (Below.refl u0.heap.size u0).alloc (Nat.le_refl _) (.cells #[.int .u16 y0, .int .u16 y1] 108)
      have HWB : Hid (RowRd pairL (u0.alloc (.cells #[.int .u16 y0, .int .u16 y1] 108)) (u0.alloc (.cells #[.int .u16 y0, .int .u16 y1] 108)).heap.size (some ⟨u0.heap.size, 0, none⟩) 1 [(y0, y1)]) := rowRd_blk (L := pairL) (xs := [(y0, y1)]) (PrBlk.new u0 (y0, y1)) rfl
      have HP2 : Hid (TS w (u0.alloc (.cells #[.int .u16 y0, .int .u16 y1] 108)) ⟨205, nb xs 0 4, 0, 0, 0, 0, none, 0, 0, none, 0, 0, nb xs 4 4, A, k, z⟩) := HP0.out.bel hbA
      have HO2 : Hid (RowOwn pairL (u0.alloc (.cells #[.int .u16 y0, .int .u16 y1] 108)) (w.heap.size + 2) A k z (pairsAt xs 8 k)) := HO0.out.bel hbA
      clear HP0 HO0 hbA
      go_simp
      refine hK.out _ _ _ (fun W h => h) HP2.out.cur.c9 ?_
      clear hK K
      generalize u0.alloc (.cells #[.int .u16 y0, .int .u16 y1] 108) = u2 at *
      generalize u0.heap.size = qb at *
      refine seqX_do rfl (fun K hK => ?_)
      rw [if_pos (by rfl)]
      refine oper_append_rows (L := pairL) (N := k + 1) (.tmp 109) (.tmp 120) rfl Try.underlying66 HI.out.1 HI.out.2.1 HI.out.2.2.1 HI.out.2.2.2 rfl (pairsAt xs 8 (k + 1)) rfl HY.out.symm rfl rfl HO2.out HWB.out HP2.out.cur.lt (by unfold maxLen; omega) (by omega) (fun A2 c2 u3 ho3 hb3 => hK.out _ _ _ (fun W h => h) (HP2.out.belq hb3).cur.c9 ?_)
      have Pc := HP2.out.belq hb3
      have hS : Sgc (w.heap.size + 1) 9 A k z u3 := Pc.cur.c9
      have x6 := Pc.cur.c9
      have y6' := Pc.cur.frozen 9
      have HPd : Hid (TS w (u3.setCell ⟨w.heap.size + 1, 9, none⟩ (.slice A2 (k + 1) c2)) ⟨205, nb xs 0 4, 0, 0, 0, 0, none, 0, 0, none, 0, 0, nb xs 4 4, A2, (k + 1), c2⟩) := Pc.set (Pc.cur.set9 A2 (k + 1) c2)
      have HOd : Hid (RowOwn pairL (u3.setCell ⟨w.heap.size + 1, 9, none⟩ (.slice A2 (k + 1) c2)) (w.heap.size + 2) A2 (k + 1) c2 (pairsAt xs 8 (k + 1))) := ho3.setOff (by omega) _
      clear hK K HP2 HO2 HWB Pc ho3 hb3
      simp only [Act.put, List.setIfInBounds_toArray, List.set_cons_zero, List.set_cons_succ]
      iterate 1 (refine seqX_read (v := _) rfl (fun _ _ _ h => h) hS (Or.inl ⟨by rfl, fun W hW => by go_simp <;> with_reducible rfl⟩) ?_; simp only [Act.put, List.setIfInBounds_toArray, List.set_cons_zero, List.set_cons_succ])
      refine seqX_last rfl (fun K hK => ?_)
      go_simp
      refine hK.out _ _ ?_
      clear hK K x6 y6' hS
      go_wp2
      go_roundw
      case rel => exact ⟨k + 1, A2, c2, by omega, by go_num, by rw [HAT.out]; go_num, HPd.out, HOd.out⟩
      case measure => simp [intOf]; omega
    · obtain rfl : k = m := by omega
      obtain ⟨v, hv⟩ : ∃ v : IV, v = ⟨205, nb xs 0 4, 0, 0, 0, 0, none, 0, 0, none, 0, 0, nb xs 4 4, A, k, z⟩ := ⟨_, rfl⟩
      have hP' := hP.out
      rw [← hv] at hP'
      have D := hP'.cur
      have E := hP'.res
      have x0 := D.c0
      have z0 := E.c0
      have f0 := E.frozen 0
      have x1 := D.c1
      have z1 := E.c1
      have f1 := E.frozen 1
      have x2 := D.c2
      have z2 := E.c2
      have f2 := E.frozen 2
      have x3 := D.c3
      have z3 := E.c3
      have f3 := E.frozen 3
      have x4 := D.c4
      have z4 := E.c4
      have f4 := E.frozen 4
      have x5 := D.c5
      have z5 := E.c5
      have f5 := E.frozen 5
      have x6 := D.c6
      have z6 := E.c6
      have f6 := E.frozen 6
      have x7 := D.c7
      have z7 := E.c7
      have f7 := E.frozen 7
      have x8 := D.c8
      have z8 := E.c8
      have f8 := E.frozen 8
      have x9 := D.c9
      have z9 := E.c9
      have f9 := E.frozen 9
      have HW := Lib.hid (show IBlk ((((((((((wx.setCell ⟨w.heap.size, 0, none⟩ (.int .i64 v.kind)).setCell ⟨w.heap.size, 1, none⟩ (.int .u32 v.ssrc)).setCell ⟨w.heap.size, 2, none⟩ (.int .u64 v.ntp)).setCell ⟨w.heap.size, 3, none⟩ (.int .u32 v.time)).setCell ⟨w.heap.size, 4, none⟩ (.int .u32 v.pks)).setCell ⟨w.heap.size, 5, none⟩ (.int .u32 v.ocs)).setCell ⟨w.heap.size, 6, none⟩ (.slice v.ba v.bn v.bc)).setCell ⟨w.heap.size, 7, none⟩ (.slice v.ga v.gn v.gc)).setCell ⟨w.heap.size, 8, none⟩ (.int .u32 v.media)).setCell ⟨w.heap.size, 9, none⟩ (.slice v.pa v.pn v.pc)) w.heap.size v ∧ Below w.heap.size w ((((((((((wx.setCell ⟨w.heap.size, 0, none⟩ (.int .i64 v.kind)).setCell ⟨w.heap.size, 1, none⟩ (.int .u32 v.ssrc)).setCell ⟨w.heap.size, 2, none⟩ (.int .u64 v.ntp)).setCell ⟨w.heap.size, 3, none⟩ (.int .u32 v.time)).setCell ⟨w.heap.size, 4, none⟩ (.int .u32 v.pks)).setCell ⟨w.heap.size, 5, none⟩ (.int .u32 v.ocs)).setCell ⟨w.heap.size, 6, none⟩ (.slice v.ba v.bn v.bc)).setCell ⟨w.heap.size, 7, none⟩ (.slice v.ga v.gn v.gc)).setCell ⟨w.heap.size, 8, none⟩ (.int .u32 v.media)).setCell ⟨w.heap.size, 9, none⟩ (.slice v.pa v.pn v.pc)) ∧ RowOwn pairL ((((((((((wx.setCell ⟨w.heap.size, 0, none⟩ (.int .i64 v.kind)).setCell ⟨w.heap.size, 1, none⟩ (.int .u32 v.ssrc)).setCell ⟨w.heap.size, 2, none⟩ (.int .u64 v.ntp)).setCell ⟨w.heap.size, 3, none⟩ (.int .u32 v.time)).setCell ⟨w.heap.size, 4, none⟩ (.int .u32 v.pks)).setCell ⟨w.heap.size, 5, none⟩ (.int .u32 v.ocs)).setCell ⟨w.heap.size, 6, none⟩ (.slice v.ba v.bn v.bc)).setCell ⟨w.heap.size, 7, none⟩ (.slice v.ga v.gn v.gc)).setCell ⟨w.heap.size, 8, none⟩ (.int .u32 v.media)).setCell ⟨w.heap.size, 9, none⟩ (.slice v.pa v.pn v.pc)) w.heap.size A k z (pairsAt xs 8 k) from
        ⟨E.store v, below_istore hP'.below (Nat.le_refl _) _ _ _ _ _ _ _ _ _ _, (RowOwn.ist hO.out (by omega) v).lower (by omega)⟩)
      have HV := Lib.hid hv
      clear hP hO hP' D E hv CR
      go_wp2
      generalize ((((((((((wx.setCell ⟨w.heap.size, 0, none⟩ (.int .i64 v.kind)).setCell ⟨w.heap.size, 1, none⟩ (.int .u32 v.ssrc)).setCell ⟨w.heap.size, 2, none⟩ (.int .u64 v.ntp)).setCell ⟨w.heap.size, 3, none⟩ (.int .u32 v.time)).setCell ⟨w.heap.size, 4, none⟩ (.int .u32 v.pks)).setCell ⟨w.heap.size, 5, none⟩ (.int .u32 v.ocs)).setCell ⟨w.heap.size, 6, none⟩ (.slice v.ba v.bn v.bc)).setCell ⟨w.heap.size, 7, none⟩ (.slice v.ga v.gn v.gc)).setCell ⟨w.heap.size, 8, none⟩ (.int .u32 v.media)).setCell ⟨w.heap.size, 9, none⟩ (.slice v.pa v.pn v.pc)) = u1 at *
      refine retT_at HW.out.1 ?_
      rw [HV.out]
      exact ⟨A, z, rfl, HW.out.2.2, HW.out.2.1⟩

set_option maxRecDepth 100000 in
set_option maxHeartbeats 16000000 in
theorem item_get206 (a : Option Addr) (n c m : Nat) (xs : List Int) (w : World) (hr : Rd w w.heap.size a n xs) (hl : n ≤ 1000) (hlc : n ≤ c) (hm : m ≤ 0) (hn : 8 + 4 * m = n) :
    Calls Try.prog 82 #[.int .i64 206, .int .i64 m, .slice a n c] w fun e w' => ∃ A k, e = .returned (itm ⟨206, nb xs 0 4, 0, 0, 0, 0, none, 0, 0, none, 0, 0, nb xs 4 4, A, m, k⟩) ∧ RowOwn pairL w' w.heap.size A m k (pairsAt xs 8 m) ∧ Below w.heap.size w w' := by
  obtain ⟨i0, hi0, hz0, hz1, hz2⟩ := info_parts info_pair
  have HI := Lib.hid (show Try.prog.info? 108 = some i0 ∧ i0.zero = some (.agg #[.int .u16 0, .int .u16 0]) ∧ i0.size = 2 ∧ i0.bytes = 4 from ⟨hi0, hz0, hz1, hz2⟩)
  have CR : Hid (∀ W (i s : Nat) (j t : Int), Below w.heap.size w W → 1 ≤ s → s ≤ 8 → i + s ≤ n → j = i → t = s → Calls Try.prog 83 #[.slice a n c, .int .i64 j, .int .i64 t] W fun e w' => e = .returned (.int .u64 (nb xs i s)) ∧ W = w') := fun W i s j t hW h1 h2 h3 hj ht =>
    read_nb a n c w.heap.size i s xs W (by unfold maxLen; omega) hlc (hr.below hW) h1 h2 h3 j hj t ht
  have Q32 := Lib.hid (fun i => wrap_u32 _ (nb32 xs hr.2.1 i))
  have Q16 := Lib.hid (fun i => wrap_u16' _ (nb16 xs hr.2.1 i))
  have HNN := Lib.hid hn
  have HLL := Lib.hid hl
  have q1 := Q32.out 0
  have q8 := Q32.out 4
  clear hr hl hlc hn hi0 hz0 hz1 hz2
  go_enter Try.func82, Try.ntmps82
  go_wp2_with fail
  refine (CR.out _ 0 4 0 4 (TS.new w ⟨206, 0, 0, 0, 0, 0, none, 0, 0, none, 0, 0, 0, none, 0, 0⟩).below (by omega) (by omega) (by have := HNN.out; omega) rfl rfl).mono ?_
  rintro e w' ⟨rfl, rfl⟩
  go_wp2_with fail
  refine (CR.out _ 4 4 4 4 (TS.new w ⟨206, nb xs 0 4, 0, 0, 0, 0, none, 0, 0, none, 0, 0, 0, none, 0, 0⟩).below (by omega) (by omega) (by have := HNN.out; omega) rfl rfl).mono ?_
  rintro e w' ⟨rfl, rfl⟩
  go_wp2_with fail
  go_loopw [8, 9] (fun sa sk wx => ∃ (k : Nat) (A : Option Addr) (z : Nat), k ≤ m ∧ sk = .int .i64 k ∧ sa = .int .i64 (8 + 4 * k : Nat) ∧ Hid (TS w wx ⟨206, nb xs 0 4, 0, 0, 0, 0, none, 0, 0, none, 0, 0, nb xs 4 4, A, k, z⟩) ∧ Hid (RowOwn pairL wx (w.heap.size + 2) A k z (pairsAt xs 8 k))) (fun _ sk _ => m - (intOf sk).toNat)
  case atStart => exact ⟨0, none, 0, by omega, rfl, rfl, TS.new w ⟨206, nb xs 0 4, 0, 0, 0, 0, none, 0, 0, none, 0, 0, nb xs 4 4, none, 0, 0⟩, RowOwn.nil _ _⟩
  case round =>
    obtain ⟨k, A, z, hk, rfl, rfl, hP, hO⟩ := hrel
    rename World => wx
    by_cases hlt : k < m
    · omega
    · obtain rfl : k = m := by omega
      obtain ⟨v, hv⟩ : ∃ v : IV, v = ⟨206, nb xs 0 4, 0, 0, 0, 0, none, 0, 0, none, 0, 0, nb xs 4 4, A, k, z⟩ := ⟨_, rfl⟩
      have hP' := hP.out
      rw [← hv] at hP'
      have D := hP'.cur
      have E := hP'.res
      have x0 := D.c0
      have z0 := E.c0
      have f0 := E.frozen 0
      have x1 := D.c1
      have z1 := E.c1
      have f1 := E.frozen 1
      have x2 := D.c2
      have z2 := E.c2
      have f2 := E.frozen 2
      have x3 := D.c3
      have z3 := E.c3
      have f3 := E.frozen 3
      have x4 := D.c4
      have z4 := E.c4
      have f4 := E.frozen 4
      have x5 := D.c5
      have z5 := E.c5
      have f5 := E.frozen 5
      have x6 := D.c6
      have z6 := E.c6
      have f6 := E.frozen 6
      have x7 := D.c7
      have z7 := E.c7
      have f7 := E.frozen 7
      have x8 := D.c8
      have z8 := E.c8
      have f8 := E.frozen 8
      have x9 := D.c9
      have z9 := E.c9
      have f9 := E.frozen 9
      have HW := Lib.hid (show IBlk ((((((((((wx.setCell ⟨w.heap.size, 0, none⟩ (.int .i64 v.kind)).setCell ⟨w.heap.size, 1, none⟩ (.int .u32 v.ssrc)).setCell ⟨w.heap.size, 2, none⟩ (.int .u64 v.ntp)).setCell ⟨w.heap.size, 3, none⟩ (.int .u32 v.time)).setCell ⟨w.heap.size, 4, none⟩ (.int .u32 v.pks)).setCell ⟨w.heap.size, 5, none⟩ (.int .u32 v.ocs)).setCell ⟨w.heap.size, 6, none⟩ (.slice v.ba v.bn v.bc)).setCell ⟨w.heap.size, 7, none⟩ (.slice v.ga v.gn v.gc)).setCell ⟨w.heap.size, 8, none⟩ (.int .u32 v.media)).setCell ⟨w.heap.size, 9, none⟩ (.slice v.pa v.pn v.pc)) w.heap.size v ∧ Below w.heap.size w ((((((((((wx.setCell ⟨w.heap.size, 0, none⟩ (.int .i64 v.kind)).setCell ⟨w.heap.size, 1, none⟩ (.int .u32 v.ssrc)).setCell ⟨w.heap.size, 2, none⟩ (.int .u64 v.ntp)).setCell ⟨w.heap.size, 3, none⟩ (.int .u32 v.time)).setCell ⟨w.heap.size, 4, none⟩ (.int .u32 v.pks)).setCell ⟨w.heap.size, 5, none⟩ (.int .u32 v.ocs)).setCell ⟨w.heap.size, 6, none⟩ (.slice v.ba v.bn v.bc)).setCell ⟨w.heap.size, 7, none⟩ (.slice v.ga v.gn v.gc)).setCell ⟨w.heap.size, 8, none⟩ (.int .u32 v.media)).setCell ⟨w.heap.size, 9, none⟩ (.slice v.pa v.pn v.pc)) ∧ RowOwn pairL ((((((((((wx.setCell ⟨w.heap.size, 0, none⟩ (.int .i64 v.kind)).setCell ⟨w.heap.size, 1, none⟩ (.int .u32 v.ssrc)).setCell ⟨w.heap.size, 2, none⟩ (.int .u64 v.ntp)).setCell ⟨w.heap.size, 3, none⟩ (.int .u32 v.time)).setCell ⟨w.heap.size, 4, none⟩ (.int .u32 v.pks)).setCell ⟨w.heap.size, 5, none⟩ (.int .u32 v.ocs)).setCell ⟨w.heap.size, 6, none⟩ (.slice v.ba v.bn v.bc)).setCell ⟨w.heap.size, 7, none⟩ (.slice v.ga v.gn v.gc)).setCell ⟨w.heap.size, 8, none⟩ (.int .u32 v.media)).setCell ⟨w.heap.size, 9, none⟩ (.slice v.pa v.pn v.pc)) w.heap.size A k z (pairsAt xs 8 k) from
        ⟨E.store v, below_istore hP'.below (Nat.le_refl _) _ _ _ _ _ _ _ _ _ _, (RowOwn.ist hO.out (by omega) v).lower (by omega)⟩)
      have HV := Lib.hid hv
      clear hP hO hP' D E hv CR
      go_wp2
      generalize ((((((((((wx.setCell ⟨w.heap.size, 0, none⟩ (.int .i64 v.kind)).setCell ⟨w.heap.size, 1, none⟩ (.int .u32 v.ssrc)).setCell ⟨w.heap.size, 2, none⟩ (.int .u64 v.ntp)).setCell ⟨w.heap.size, 3, none⟩ (.int .u32 v.time)).setCell ⟨w.heap.size, 4, none⟩ (.int .u32 v.pks)).setCell ⟨w.heap.size, 5, none⟩ (.int .u32 v.ocs)).setCell ⟨w.heap.size, 6, none⟩ (.slice v.ba v.bn v.bc)).setCell ⟨w.heap.size, 7, none⟩ (.slice v.ga v.gn v.gc)).setCell ⟨w.heap.size, 8, none⟩ (.int .u32 v.media)).setCell ⟨w.heap.size, 9, none⟩ (.slice v.pa v.pn v.pc)) = u1 at *
      refine retT_at HW.out.1 ?_
      rw [HV.out]
      exact ⟨A, z, rfl, HW.out.2.2, HW.out.2.1⟩

end Go.Proofs.Ythmmafpmpnhleaa.Fbk
