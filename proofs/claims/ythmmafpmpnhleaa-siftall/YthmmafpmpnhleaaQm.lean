/- The contracts of the reference's words, GetItem (of reports), GetReport. · The contract of the reference's GetItem: every kind. -/
import Derived.Test.YthmmafpmpnhleaaQl
import Derived.Test.YthmmafpmpnhleaaQh
import Derived.Test.YthmmafpmpnhleaaQi
set_option maxRecDepth 100000
namespace Go.Proofs.Ythmmafpmpnhleaa.Fbk
open Go.RowKit
set_option linter.unusedVariables false

set_option maxHeartbeats 400000 in
theorem words_200 (n : Int) (w : World) (h : 0 ≤ n ∧ n ≤ 31) : Calls Try.prog 81 #[.int .i64 200, .int .i64 n] w fun e w' => e = .returned (.int .i64 (6 + 6 * n)) ∧ w = w' := by
  obtain ⟨h1, h2⟩ := h
  go_enter Try.func81, Try.ntmps81
  go_wp2
  go_ret
  exact ⟨rfl, rfl⟩
set_option maxHeartbeats 400000 in
theorem words_201 (n : Int) (w : World) (h : 0 ≤ n ∧ n ≤ 31) : Calls Try.prog 81 #[.int .i64 201, .int .i64 n] w fun e w' => e = .returned (.int .i64 (1 + 6 * n)) ∧ w = w' := by
  obtain ⟨h1, h2⟩ := h
  go_enter Try.func81, Try.ntmps81
  go_wp2
  go_ret
  exact ⟨rfl, rfl⟩
/-- x[lo:hi] of bytes, without a way for each capacity. -/
theorem cut_run (b off len cap lo hi : Nat) (l h : Int) (hl : l = lo) (hh : h = hi) (h1 : lo ≤ hi) (h2 : hi ≤ cap) :
    ∃ X, (cap ≠ lo → X = some ⟨b, off + lo, none⟩) ∧ ∀ W, (Instr.slice 22 (.slice (some ⟨b, off, none⟩) len cap) (some (.int .i64 l)) (some (.int .i64 h)) none).run Try.prog W = .ok (.slice X (hi - lo) (cap - lo)) W := by
  subst hl; subst hh
  refine ⟨if cap = lo then some ⟨b, off, none⟩ else some ⟨b, off + lo, none⟩, fun hne => if_neg hne, fun W => ?_⟩
  obtain ⟨i0, hi0, hz0, hz1, hz2⟩ := info_parts info5
  have e := run_slice_lh (P := Try.prog) (w := W) (t := 22) (a := some ⟨b, off, none⟩) (len := len) (cap := cap) (ht := Try.underlying22) .i64 .i64 (lo : Int) (hi : Int) (by omega) (by omega) (by omega)
  rw [e, show Try.prog.elem 22 = 5 from rfl]
  by_cases hc : cap = lo
  · simp [sizeOf, typeInfo, hi0, sliced, hc]
  · simp [sizeOf, typeInfo, hi0, hz1, sliced, hc, plain_add]
theorem rd_mid {w : World} {B b off n cap lo hi : Nat} {X : Option Addr} {xs : List Int} (h : Rd w B (some ⟨b, off, none⟩) n xs) (h1 : lo ≤ hi) (h2 : hi ≤ n) (h3 : n ≤ cap) (hX : cap ≠ lo → X = some ⟨b, off + lo, none⟩) :
    Rd w B X (hi - lo) ((xs.drop lo).take (hi - lo)) := by
  by_cases hc : cap = lo
  · obtain h0 : hi - lo = 0 := by omega
    rw [h0, List.take_zero]
    exact Rd.none_ X rfl
  · rw [hX hc]
    exact (h.drop (k := lo) (by omega)).take (by omega)
theorem nb_cut (xs : List Int) (k i s : Nat) (h : i + s ≤ k) : nb ((xs.drop 4).take k) i s = nb xs (4 + i) s := by
  rw [nb_take _ _ _ _ h, nb, nb, List.drop_drop]
theorem blosAt_cut (xs : List Int) (k : Nat) : ∀ (m i : Nat), i + 24 * m ≤ k → blosAt ((xs.drop 4).take k) i m = blosAt xs (4 + i) m
  | 0, _, _ => rfl
  | m + 1, i, h => by
    rw [blosAt, blosAt, blosAt_cut xs k m (i + 24) (by omega)]
    rw [nb_cut xs k i 4 (by omega), nb_cut xs k (i + 4) 1 (by omega), nb_cut xs k (i + 5) 3 (by omega), nb_cut xs k (i + 8) 4 (by omega), nb_cut xs k (i + 12) 4 (by omega), nb_cut xs k (i + 16) 4 (by omega), nb_cut xs k (i + 20) 4 (by omega)]
    simp only [← Nat.add_assoc]

set_option maxHeartbeats 1000000 in
theorem retG_at {W : World} {b : Nat} {v : IV} {m n : Int} {tmps : Array Value} {R : Ending → World → Prop} (D : IBlk W b v) (hR : R (.returned (.tuple #[itm v, .int .i64 m, .int .i64 n])) W)
    (h2 : tmps[2]?.getD undef = .pointer (some ⟨b, 0, none⟩) := by rfl) (h3 : tmps[3]?.getD undef = .int .i64 m := by rfl) (h4 : tmps[4]?.getD undef = .int .i64 n := by rfl) :
    bodyPost Try.prog Try.f54 R .ret ⟨tmps, []⟩ W := by
  obtain ⟨c0, c1, c2, c3, c4, c5, c6, c7, c8, c9⟩ := D.cells
  exact bodyPost_ret (v := .tuple #[itm v, .int .i64 m, .int .i64 n]) (by simp [results, Try.results54, go_sem, h2, h3, h4, c0, c1, c2, c3, c4, c5, c6, c7, c8, c9]) rfl hR
abbrev zz (w : World) : World := (w.alloc (iobj ziv)).alloc (iobj ziv)
theorem zz_below (w : World) : Below w.heap.size w (zz w) := by
  have h1 := (Below.refl w.heap.size w).alloc (Nat.le_refl _) (iobj ziv)
  exact h1.alloc h1.size _
theorem zz_blk (w : World) : IBlk (zz w) w.heap.size ziv := (IBlk.new w ziv).bel ((Below.refl _ _).alloc (Nat.le_refl _) _)
set_option maxHeartbeats 1000000 in
theorem gi_short (a : Option Addr) (n c : Nat) (w : World) (h : n < 4) : Calls Try.prog 54 #[.slice a n c] w (IRetA w zeroItm 0 2) := by
  have h' : (n : Int) < 4 := by omega
  have HB := Lib.hid (zz_below w)
  have HD := Lib.hid (zz_blk w)
  go_enter Try.func54, Try.ntmps54
  go_wp2
  exact retG_at HD.out (IRetA.none_ HB.out)
set_option maxHeartbeats 1000000 in
theorem gi_form (b off n c : Nat) (x0 : Int) (w : World) (h : 4 ≤ n) (hb : b < w.heap.size) (hx0 : 0 ≤ x0 ∧ x0 ≤ 255) (hx : x0 / 32 ≠ 4) (d0 : w.cell? ⟨b, off, none⟩ = some (.int .u8 x0)) : Calls Try.prog 54 #[.slice (some ⟨b, off, none⟩) n c] w (IRetA w zeroItm 0 1) := by
  have h' : ¬ (n : Int) < 4 := by omega
  have h0 : 0 < n := by omega
  have HB := Lib.hid (zz_below w)
  have HD := Lib.hid (zz_blk w)
  have e0 : (zz w).cell? ⟨b, off, none⟩ = some (.int .u8 x0) := (HB.out.cell (p := ⟨b, off, none⟩) hb).trans d0
  have q1 : x0.tdiv 32 = x0 / 32 := Int.tdiv_eq_ediv_of_nonneg hx0.1
  have q2 : (x0 / 32 != 4) = true := by simpa using hx
  clear hx
  go_enter Try.func54, Try.ntmps54
  go_wp2
  exact retG_at HD.out (IRetA.none_ HB.out)
def Fth (b off : Nat) (x2 x3 : Int) (W : World) : Prop := W.cell? ⟨b, off + 2, none⟩ = some (.int .u8 x2) ∧ W.cell? ⟨b, off + 3, none⟩ = some (.int .u8 x3)

set_option maxRecDepth 100000 in
set_option maxHeartbeats 4000000 in
theorem gi_many200 (b off n c : Nat) (x0 x2 x3 m g : Int) (w : World) (h : 4 ≤ n) (hb : b < w.heap.size) (hx0 : 0 ≤ x0 ∧ x0 ≤ 255) (hx2 : 0 ≤ x2 ∧ x2 ≤ 255) (hx3 : 0 ≤ x3 ∧ x3 ≤ 255) (hx : x0 / 32 = 4) (hm : x0 % 32 = m) (hg : x2 * 256 + x3 = g) (d0 : w.cell? ⟨b, off, none⟩ = some (.int .u8 x0)) (d1 : w.cell? ⟨b, off + 1, none⟩ = some (.int .u8 200)) (d2 : w.cell? ⟨b, off + 2, none⟩ = some (.int .u8 x2)) (d3 : w.cell? ⟨b, off + 3, none⟩ = some (.int .u8 x3)) (hbad : 15 < m) :
    Calls Try.prog 54 #[.slice (some ⟨b, off, none⟩) n c] w (IRetA w zeroItm 0 1) := by
  have h' : ¬ (n : Int) < 4 := by omega
  have h0 : 0 < n := by omega
  have hp1 : 1 < n := by omega
  have hp2 : 2 < n := by omega
  have hp3 : 3 < n := by omega
  have hi1 : (1 : Int) < n := by omega
  have hi2 : (2 : Int) < n := by omega
  have hi3 : (3 : Int) < n := by omega
  have HB := Lib.hid (zz_below w)
  have HD := Lib.hid (zz_blk w)
  have e0 : (zz w).cell? ⟨b, off, none⟩ = some (.int .u8 x0) := (HB.out.cell (p := ⟨b, off, none⟩) hb).trans d0
  have e1 : (zz w).cell? ⟨b, off + 1, none⟩ = some (.int .u8 200) := (HB.out.cell (p := ⟨b, off + 1, none⟩) hb).trans d1
  have e2 : (zz w).cell? ⟨b, off + 2, none⟩ = some (.int .u8 x2) := (HB.out.cell (p := ⟨b, off + 2, none⟩) hb).trans d2
  have e3 : (zz w).cell? ⟨b, off + 3, none⟩ = some (.int .u8 x3) := (HB.out.cell (p := ⟨b, off + 3, none⟩) hb).trans d3
  have q1 : x0.tdiv 32 = 4 := by rw [Int.tdiv_eq_ediv_of_nonneg hx0.1]; exact hx
  have q2 : x0.tmod 32 = m := by rw [Int.tmod_eq_emod_of_nonneg hx0.1]; exact hm
  have q3 : IntKind.i64.wrap m = m := IntWalk.i64_in _ (by omega)
  have q4 : IntKind.i64.wrap x2 = x2 := IntWalk.i64_in _ (by omega)
  have q5 : IntKind.i64.wrap x3 = x3 := IntWalk.i64_in _ (by omega)
  have q6 : IntKind.i64.wrap (x2 * 256) = x2 * 256 := IntWalk.i64_in _ (by omega)
  have q7 : IntKind.i64.wrap (x2 * 256 + x3) = g := by rw [IntWalk.i64_in _ (by omega)]; exact hg
  have hS : Fth b off x2 x3 (zz w).drew := ⟨e2, e3⟩
  have f2 : ∀ W, Fth b off x2 x3 W → W.cell? ⟨b, off + 2, none⟩ = some (.int .u8 x2) := fun W h => h.1
  have f3 : ∀ W, Fth b off x2 x3 W → W.cell? ⟨b, off + 3, none⟩ = some (.int .u8 x3) := fun W h => h.2
  have CW : Hid (∀ W, Calls Try.prog 81 #[.int .i64 200, .int .i64 m] W fun e w' => e = .returned (.int .i64 (6 + 6 * m)) ∧ W = w') := fun W => words_200 m W ⟨by omega, by omega⟩
  have hgb : 0 ≤ g ∧ g ≤ 65535 := ⟨by omega, by omega⟩
  have hmb : 0 ≤ m ∧ m ≤ 31 := ⟨by omega, by omega⟩
  clear e2 e3 hg hm hx hx0 hx2 hx3 d0 d1 d2 d3
  go_enter Try.func54, Try.ntmps54
  go_wp2_with fail
  refine region_seq (Fth b off x2 x3) [(0, false), (1, false), (2, false), (3, false), (4, false), (5, false), (6, false), (7, false), (8, false), (9, false), (10, false)] (by kernel_rfl) (by kernel_rfl) rfl (by kernel_rfl) ?_
  iterate 11 (refine seq_read (v := _) rfl (fun _ _ _ h => h) hS (Or.inl ⟨by rfl, fun W hW => by go_simp <;> with_reducible rfl⟩) ?_; simp only [Act.put, List.setIfInBounds_toArray, List.set_cons_zero, List.set_cons_succ])
  refine seq_end ?_
  clear hS f2 f3 q1 q2 q3 q4 q5 q6 q7 e0 e1
  go_wp2
  exact retG_at HD.out (IRetA.none_ HB.out.drew)
set_option maxRecDepth 100000 in
set_option maxHeartbeats 4000000 in
theorem gi_words200 (b off n c : Nat) (x0 x2 x3 m g : Int) (w : World) (h : 4 ≤ n) (hb : b < w.heap.size) (hx0 : 0 ≤ x0 ∧ x0 ≤ 255) (hx2 : 0 ≤ x2 ∧ x2 ≤ 255) (hx3 : 0 ≤ x3 ∧ x3 ≤ 255) (hx : x0 / 32 = 4) (hm : x0 % 32 = m) (hg : x2 * 256 + x3 = g) (d0 : w.cell? ⟨b, off, none⟩ = some (.int .u8 x0)) (d1 : w.cell? ⟨b, off + 1, none⟩ = some (.int .u8 200)) (d2 : w.cell? ⟨b, off + 2, none⟩ = some (.int .u8 x2)) (d3 : w.cell? ⟨b, off + 3, none⟩ = some (.int .u8 x3)) (h15 : ¬ 15 < m) (hbad : (g != 6 + 6 * m) = true) :
    Calls Try.prog 54 #[.slice (some ⟨b, off, none⟩) n c] w (IRetA w zeroItm 0 1) := by
  have h' : ¬ (n : Int) < 4 := by omega
  have h0 : 0 < n := by omega
  have hp1 : 1 < n := by omega
  have hp2 : 2 < n := by omega
  have hp3 : 3 < n := by omega
  have hi1 : (1 : Int) < n := by omega
  have hi2 : (2 : Int) < n := by omega
  have hi3 : (3 : Int) < n := by omega
  have HB := Lib.hid (zz_below w)
  have HD := Lib.hid (zz_blk w)
  have e0 : (zz w).cell? ⟨b, off, none⟩ = some (.int .u8 x0) := (HB.out.cell (p := ⟨b, off, none⟩) hb).trans d0
  have e1 : (zz w).cell? ⟨b, off + 1, none⟩ = some (.int .u8 200) := (HB.out.cell (p := ⟨b, off + 1, none⟩) hb).trans d1
  have e2 : (zz w).cell? ⟨b, off + 2, none⟩ = some (.int .u8 x2) := (HB.out.cell (p := ⟨b, off + 2, none⟩) hb).trans d2
  have e3 : (zz w).cell? ⟨b, off + 3, none⟩ = some (.int .u8 x3) := (HB.out.cell (p := ⟨b, off + 3, none⟩) hb).trans d3
  have q1 : x0.tdiv 32 = 4 := by rw [Int.tdiv_eq_ediv_of_nonneg hx0.1]; exact hx
  have q2 : x0.tmod 32 = m := by rw [Int.tmod_eq_emod_of_nonneg hx0.1]; exact hm
  have q3 : IntKind.i64.wrap m = m := IntWalk.i64_in _ (by omega)
  have q4 : IntKind.i64.wrap x2 = x2 := IntWalk.i64_in _ (by omega)
  have q5 : IntKind.i64.wrap x3 = x3 := IntWalk.i64_in _ (by omega)
  have q6 : IntKind.i64.wrap (x2 * 256) = x2 * 256 := IntWalk.i64_in _ (by omega)
  have q7 : IntKind.i64.wrap (x2 * 256 + x3) = g := by rw [IntWalk.i64_in _ (by omega)]; exact hg
  have hS : Fth b off x2 x3 (zz w).drew := ⟨e2, e3⟩
  have f2 : ∀ W, Fth b off x2 x3 W → W.cell? ⟨b, off + 2, none⟩ = some (.int .u8 x2) := fun W h => h.1
  have f3 : ∀ W, Fth b off x2 x3 W → W.cell? ⟨b, off + 3, none⟩ = some (.int .u8 x3) := fun W h => h.2
  have CW : Hid (∀ W, Calls Try.prog 81 #[.int .i64 200, .int .i64 m] W fun e w' => e = .returned (.int .i64 (6 + 6 * m)) ∧ W = w') := fun W => words_200 m W ⟨by omega, by omega⟩
  have hgb : 0 ≤ g ∧ g ≤ 65535 := ⟨by omega, by omega⟩
  have hmb : 0 ≤ m ∧ m ≤ 31 := ⟨by omega, by omega⟩
  clear e2 e3 hg hm hx hx0 hx2 hx3 d0 d1 d2 d3
  go_enter Try.func54, Try.ntmps54
  go_wp2_with fail
  refine region_seq (Fth b off x2 x3) [(0, false), (1, false), (2, false), (3, false), (4, false), (5, false), (6, false), (7, false), (8, false), (9, false), (10, false)] (by kernel_rfl) (by kernel_rfl) rfl (by kernel_rfl) ?_
  iterate 11 (refine seq_read (v := _) rfl (fun _ _ _ h => h) hS (Or.inl ⟨by rfl, fun W hW => by go_simp <;> with_reducible rfl⟩) ?_; simp only [Act.put, List.setIfInBounds_toArray, List.set_cons_zero, List.set_cons_succ])
  refine seq_end ?_
  clear hS f2 f3 q1 q2 q3 q4 q5 q6 q7 e0 e1
  go_wp2_with fail
  refine (CW.out _).mono ?_
  rintro e w' ⟨rfl, rfl⟩
  go_wp2
  exact retG_at HD.out (IRetA.none_ HB.out.drew)
set_option maxRecDepth 100000 in
set_option maxHeartbeats 4000000 in
theorem gi_cut200 (b off n c : Nat) (x0 x2 x3 m g : Int) (w : World) (h : 4 ≤ n) (hb : b < w.heap.size) (hx0 : 0 ≤ x0 ∧ x0 ≤ 255) (hx2 : 0 ≤ x2 ∧ x2 ≤ 255) (hx3 : 0 ≤ x3 ∧ x3 ≤ 255) (hx : x0 / 32 = 4) (hm : x0 % 32 = m) (hg : x2 * 256 + x3 = g) (d0 : w.cell? ⟨b, off, none⟩ = some (.int .u8 x0)) (d1 : w.cell? ⟨b, off + 1, none⟩ = some (.int .u8 200)) (d2 : w.cell? ⟨b, off + 2, none⟩ = some (.int .u8 x2)) (d3 : w.cell? ⟨b, off + 3, none⟩ = some (.int .u8 x3)) (h15 : ¬ 15 < m) (hwd : g = 6 + 6 * m) (hbad : (n : Int) < 4 + 4 * g) :
    Calls Try.prog 54 #[.slice (some ⟨b, off, none⟩) n c] w (IRetA w zeroItm 0 2) := by
  have h' : ¬ (n : Int) < 4 := by omega
  have h0 : 0 < n := by omega
  have hp1 : 1 < n := by omega
  have hp2 : 2 < n := by omega
  have hp3 : 3 < n := by omega
  have hi1 : (1 : Int) < n := by omega
  have hi2 : (2 : Int) < n := by omega
  have hi3 : (3 : Int) < n := by omega
  have HB := Lib.hid (zz_below w)
  have HD := Lib.hid (zz_blk w)
  have e0 : (zz w).cell? ⟨b, off, none⟩ = some (.int .u8 x0) := (HB.out.cell (p := ⟨b, off, none⟩) hb).trans d0
  have e1 : (zz w).cell? ⟨b, off + 1, none⟩ = some (.int .u8 200) := (HB.out.cell (p := ⟨b, off + 1, none⟩) hb).trans d1
  have e2 : (zz w).cell? ⟨b, off + 2, none⟩ = some (.int .u8 x2) := (HB.out.cell (p := ⟨b, off + 2, none⟩) hb).trans d2
  have e3 : (zz w).cell? ⟨b, off + 3, none⟩ = some (.int .u8 x3) := (HB.out.cell (p := ⟨b, off + 3, none⟩) hb).trans d3
  have q1 : x0.tdiv 32 = 4 := by rw [Int.tdiv_eq_ediv_of_nonneg hx0.1]; exact hx
  have q2 : x0.tmod 32 = m := by rw [Int.tmod_eq_emod_of_nonneg hx0.1]; exact hm
  have q3 : IntKind.i64.wrap m = m := IntWalk.i64_in _ (by omega)
  have q4 : IntKind.i64.wrap x2 = x2 := IntWalk.i64_in _ (by omega)
  have q5 : IntKind.i64.wrap x3 = x3 := IntWalk.i64_in _ (by omega)
  have q6 : IntKind.i64.wrap (x2 * 256) = x2 * 256 := IntWalk.i64_in _ (by omega)
  have q7 : IntKind.i64.wrap (x2 * 256 + x3) = g := by rw [IntWalk.i64_in _ (by omega)]; exact hg
  have hS : Fth b off x2 x3 (zz w).drew := ⟨e2, e3⟩
  have f2 : ∀ W, Fth b off x2 x3 W → W.cell? ⟨b, off + 2, none⟩ = some (.int .u8 x2) := fun W h => h.1
  have f3 : ∀ W, Fth b off x2 x3 W → W.cell? ⟨b, off + 3, none⟩ = some (.int .u8 x3) := fun W h => h.2
  have CW : Hid (∀ W, Calls Try.prog 81 #[.int .i64 200, .int .i64 m] W fun e w' => e = .returned (.int .i64 (6 + 6 * m)) ∧ W = w') := fun W => words_200 m W ⟨by omega, by omega⟩
  have hgb : 0 ≤ g ∧ g ≤ 65535 := ⟨by omega, by omega⟩
  have hmb : 0 ≤ m ∧ m ≤ 31 := ⟨by omega, by omega⟩
  have hwd2 : (g != 6 + 6 * m) = false := by simpa using hwd
  have hbad2 : (n : Int) < 4 + 4 * g := hbad
  clear hbad hwd
  clear e2 e3 hg hm hx hx0 hx2 hx3 d0 d1 d2 d3
  go_enter Try.func54, Try.ntmps54
  go_wp2_with fail
  refine region_seq (Fth b off x2 x3) [(0, false), (1, false), (2, false), (3, false), (4, false), (5, false), (6, false), (7, false), (8, false), (9, false), (10, false)] (by kernel_rfl) (by kernel_rfl) rfl (by kernel_rfl) ?_
  iterate 11 (refine seq_read (v := _) rfl (fun _ _ _ h => h) hS (Or.inl ⟨by rfl, fun W hW => by go_simp <;> with_reducible rfl⟩) ?_; simp only [Act.put, List.setIfInBounds_toArray, List.set_cons_zero, List.set_cons_succ])
  refine seq_end ?_
  clear hS f2 f3 q1 q2 q3 q4 q5 q6 q7 e0 e1
  go_wp2_with fail
  refine (CW.out _).mono ?_
  rintro e w' ⟨rfl, rfl⟩
  go_wp2
  exact retG_at HD.out (IRetA.none_ HB.out.drew)
set_option maxRecDepth 100000 in
set_option maxHeartbeats 4000000 in
theorem gi_ok200 (b off n c : Nat) (x0 x2 x3 m g : Int) (w : World) (h : 4 ≤ n) (hb : b < w.heap.size) (hx0 : 0 ≤ x0 ∧ x0 ≤ 255) (hx2 : 0 ≤ x2 ∧ x2 ≤ 255) (hx3 : 0 ≤ x3 ∧ x3 ≤ 255) (hx : x0 / 32 = 4) (hm : x0 % 32 = m) (hg : x2 * 256 + x3 = g) (d0 : w.cell? ⟨b, off, none⟩ = some (.int .u8 x0)) (d1 : w.cell? ⟨b, off + 1, none⟩ = some (.int .u8 200)) (d2 : w.cell? ⟨b, off + 2, none⟩ = some (.int .u8 x2)) (d3 : w.cell? ⟨b, off + 3, none⟩ = some (.int .u8 x3)) (h15 : ¬ 15 < m) (hwd : g = 6 + 6 * m) (k N : Nat) (hN : 4 + 4 * g = N) (hn : N ≤ n) (hk : m = k) (ys : List Int) (CI : Hid (∀ W X, Below w.heap.size w W → (c ≠ 4 → X = some ⟨b, off + 4, none⟩) → Calls Try.prog 82 #[.int .i64 200, .int .i64 k, .slice X (N - 4) (c - 4)] W fun e w' => ∃ A z, e = .returned (itm ⟨200, nb ys 0 4, nb ys 4 8, nb ys 12 4, nb ys 16 4, nb ys 20 4, A, k, z, none, 0, 0, 0, none, 0, 0⟩) ∧ RowOwn bloL w' W.heap.size A k z (blosAt ys 24 k) ∧ Below W.heap.size W w')) (hnc : n ≤ c) :
    Calls Try.prog 54 #[.slice (some ⟨b, off, none⟩) n c] w (fun e w' => ∃ A z, e = .returned (.tuple #[itm ⟨200, nb ys 0 4, nb ys 4 8, nb ys 12 4, nb ys 16 4, nb ys 20 4, A, k, z, none, 0, 0, 0, none, 0, 0⟩, .int .i64 N, .int .i64 0]) ∧ RowOwn bloL w' w.heap.size A k z (blosAt ys 24 k) ∧ Below w.heap.size w w') := by
  have h' : ¬ (n : Int) < 4 := by omega
  have h0 : 0 < n := by omega
  have hp1 : 1 < n := by omega
  have hp2 : 2 < n := by omega
  have hp3 : 3 < n := by omega
  have hi1 : (1 : Int) < n := by omega
  have hi2 : (2 : Int) < n := by omega
  have hi3 : (3 : Int) < n := by omega
  have HB := Lib.hid (zz_below w)
  have HD := Lib.hid (zz_blk w)
  have e0 : (zz w).cell? ⟨b, off, none⟩ = some (.int .u8 x0) := (HB.out.cell (p := ⟨b, off, none⟩) hb).trans d0
  have e1 : (zz w).cell? ⟨b, off + 1, none⟩ = some (.int .u8 200) := (HB.out.cell (p := ⟨b, off + 1, none⟩) hb).trans d1
  have e2 : (zz w).cell? ⟨b, off + 2, none⟩ = some (.int .u8 x2) := (HB.out.cell (p := ⟨b, off + 2, none⟩) hb).trans d2
  have e3 : (zz w).cell? ⟨b, off + 3, none⟩ = some (.int .u8 x3) := (HB.out.cell (p := ⟨b, off + 3, none⟩) hb).trans d3
  have q1 : x0.tdiv 32 = 4 := by rw [Int.tdiv_eq_ediv_of_nonneg hx0.1]; exact hx
  have q2 : x0.tmod 32 = m := by rw [Int.tmod_eq_emod_of_nonneg hx0.1]; exact hm
  have q3 : IntKind.i64.wrap m = m := IntWalk.i64_in _ (by omega)
  have q4 : IntKind.i64.wrap x2 = x2 := IntWalk.i64_in _ (by omega)
  have q5 : IntKind.i64.wrap x3 = x3 := IntWalk.i64_in _ (by omega)
  have q6 : IntKind.i64.wrap (x2 * 256) = x2 * 256 := IntWalk.i64_in _ (by omega)
  have q7 : IntKind.i64.wrap (x2 * 256 + x3) = g := by rw [IntWalk.i64_in _ (by omega)]; exact hg
  have hS : Fth b off x2 x3 (zz w).drew := ⟨e2, e3⟩
  have f2 : ∀ W, Fth b off x2 x3 W → W.cell? ⟨b, off + 2, none⟩ = some (.int .u8 x2) := fun W h => h.1
  have f3 : ∀ W, Fth b off x2 x3 W → W.cell? ⟨b, off + 3, none⟩ = some (.int .u8 x3) := fun W h => h.2
  have CW : Hid (∀ W, Calls Try.prog 81 #[.int .i64 200, .int .i64 m] W fun e w' => e = .returned (.int .i64 (6 + 6 * m)) ∧ W = w') := fun W => words_200 m W ⟨by omega, by omega⟩
  have hgb : 0 ≤ g ∧ g ≤ 65535 := ⟨by omega, by omega⟩
  have hmb : 0 ≤ m ∧ m ≤ 31 := ⟨by omega, by omega⟩
  obtain ⟨X, hX, sX⟩ := cut_run b off n c 4 N 4 N rfl rfl (by omega) (by omega)
  have HX := Lib.hid hX
  have hwd2 : (g != 6 + 6 * m) = false := by simpa using hwd
  have hn2 : ¬ (n : Int) < N := by omega
  have w1 : IntKind.i64.wrap (4 * g) = 4 * g := IntWalk.i64_in _ (by omega)
  have w2 : IntKind.i64.wrap (4 + 4 * g) = N := by rw [IntWalk.i64_in _ (by omega)]; exact hN
  have hN4 : 4 ≤ N := by omega
  subst hk
  clear hX hwd hN
  clear e2 e3 hg hm hx hx0 hx2 hx3 d0 d1 d2 d3
  go_enter Try.func54, Try.ntmps54
  go_wp2_with fail
  refine region_seq (Fth b off x2 x3) [(0, false), (1, false), (2, false), (3, false), (4, false), (5, false), (6, false), (7, false), (8, false), (9, false), (10, false)] (by kernel_rfl) (by kernel_rfl) rfl (by kernel_rfl) ?_
  iterate 11 (refine seq_read (v := _) rfl (fun _ _ _ h => h) hS (Or.inl ⟨by rfl, fun W hW => by go_simp <;> with_reducible rfl⟩) ?_; simp only [Act.put, List.setIfInBounds_toArray, List.set_cons_zero, List.set_cons_succ])
  refine seq_end ?_
  clear hS f2 f3 q1 q2 q3 q4 q5 q6 q7 e0 e1
  go_wp2_with fail
  refine (CW.out _).mono ?_
  rintro e w' ⟨rfl, rfl⟩
  go_wp2_with fail
  refine (CI.out _ X HB.out.drew HX.out).mono ?_
  rintro e u0 ⟨A, z, rfl, ho, hb1⟩
  obtain ⟨v, hv⟩ : ∃ v : IV, v = ⟨200, nb ys 0 4, nb ys 4 8, nb ys 12 4, nb ys 16 4, nb ys 20 4, A, k, z, none, 0, 0, 0, none, 0, 0⟩ := ⟨_, rfl⟩
  rw [← hv]
  have D : IBlk u0 w.heap.size ziv := (show IBlk (zz w).drew w.heap.size ziv from HD.out).bel hb1
  have hlt : w.heap.size < (zz w).drew.heap.size := HD.out.lt
  obtain ⟨z0, f0, z1, f1, z2, f2, z3, f3, z4, f4, z5, f5, z6, f6, z7, f7, z8, f8, z9, f9⟩ := D.cf
  have HW := Lib.hid (show IBlk ((((((((((u0.setCell ⟨w.heap.size, 0, none⟩ (.int .i64 v.kind)).setCell ⟨w.heap.size, 1, none⟩ (.int .u32 v.ssrc)).setCell ⟨w.heap.size, 2, none⟩ (.int .u64 v.ntp)).setCell ⟨w.heap.size, 3, none⟩ (.int .u32 v.time)).setCell ⟨w.heap.size, 4, none⟩ (.int .u32 v.pks)).setCell ⟨w.heap.size, 5, none⟩ (.int .u32 v.ocs)).setCell ⟨w.heap.size, 6, none⟩ (.slice v.ba v.bn v.bc)).setCell ⟨w.heap.size, 7, none⟩ (.slice v.ga v.gn v.gc)).setCell ⟨w.heap.size, 8, none⟩ (.int .u32 v.media)).setCell ⟨w.heap.size, 9, none⟩ (.slice v.pa v.pn v.pc)) w.heap.size v ∧ Below w.heap.size w ((((((((((u0.setCell ⟨w.heap.size, 0, none⟩ (.int .i64 v.kind)).setCell ⟨w.heap.size, 1, none⟩ (.int .u32 v.ssrc)).setCell ⟨w.heap.size, 2, none⟩ (.int .u64 v.ntp)).setCell ⟨w.heap.size, 3, none⟩ (.int .u32 v.time)).setCell ⟨w.heap.size, 4, none⟩ (.int .u32 v.pks)).setCell ⟨w.heap.size, 5, none⟩ (.int .u32 v.ocs)).setCell ⟨w.heap.size, 6, none⟩ (.slice v.ba v.bn v.bc)).setCell ⟨w.heap.size, 7, none⟩ (.slice v.ga v.gn v.gc)).setCell ⟨w.heap.size, 8, none⟩ (.int .u32 v.media)).setCell ⟨w.heap.size, 9, none⟩ (.slice v.pa v.pn v.pc)) ∧ RowOwn bloL ((((((((((u0.setCell ⟨w.heap.size, 0, none⟩ (.int .i64 v.kind)).setCell ⟨w.heap.size, 1, none⟩ (.int .u32 v.ssrc)).setCell ⟨w.heap.size, 2, none⟩ (.int .u64 v.ntp)).setCell ⟨w.heap.size, 3, none⟩ (.int .u32 v.time)).setCell ⟨w.heap.size, 4, none⟩ (.int .u32 v.pks)).setCell ⟨w.heap.size, 5, none⟩ (.int .u32 v.ocs)).setCell ⟨w.heap.size, 6, none⟩ (.slice v.ba v.bn v.bc)).setCell ⟨w.heap.size, 7, none⟩ (.slice v.ga v.gn v.gc)).setCell ⟨w.heap.size, 8, none⟩ (.int .u32 v.media)).setCell ⟨w.heap.size, 9, none⟩ (.slice v.pa v.pn v.pc)) w.heap.size A k z (blosAt ys 24 k) from
    ⟨D.store v, below_istore (HB.out.drew.trans (hb1.mono (Nat.le_of_lt hlt))) (Nat.le_refl _) _ _ _ _ _ _ _ _ _ _, (RowOwn.ist ho hlt v).lower (Nat.le_of_lt hlt)⟩)
  have HV := Lib.hid hv
  clear D hlt ho hb1 hv CI CW HX sX
  go_wp2
  generalize ((((((((((u0.setCell ⟨w.heap.size, 0, none⟩ (.int .i64 v.kind)).setCell ⟨w.heap.size, 1, none⟩ (.int .u32 v.ssrc)).setCell ⟨w.heap.size, 2, none⟩ (.int .u64 v.ntp)).setCell ⟨w.heap.size, 3, none⟩ (.int .u32 v.time)).setCell ⟨w.heap.size, 4, none⟩ (.int .u32 v.pks)).setCell ⟨w.heap.size, 5, none⟩ (.int .u32 v.ocs)).setCell ⟨w.heap.size, 6, none⟩ (.slice v.ba v.bn v.bc)).setCell ⟨w.heap.size, 7, none⟩ (.slice v.ga v.gn v.gc)).setCell ⟨w.heap.size, 8, none⟩ (.int .u32 v.media)).setCell ⟨w.heap.size, 9, none⟩ (.slice v.pa v.pn v.pc)) = u1 at *
  refine retG_at HW.out.1 ?_
  rw [HV.out]
  exact ⟨A, z, rfl, HW.out.2.2, HW.out.2.1⟩
set_option maxRecDepth 100000 in
set_option maxHeartbeats 4000000 in
theorem gi_many201 (b off n c : Nat) (x0 x2 x3 m g : Int) (w : World) (h : 4 ≤ n) (hb : b < w.heap.size) (hx0 : 0 ≤ x0 ∧ x0 ≤ 255) (hx2 : 0 ≤ x2 ∧ x2 ≤ 255) (hx3 : 0 ≤ x3 ∧ x3 ≤ 255) (hx : x0 / 32 = 4) (hm : x0 % 32 = m) (hg : x2 * 256 + x3 = g) (d0 : w.cell? ⟨b, off, none⟩ = some (.int .u8 x0)) (d1 : w.cell? ⟨b, off + 1, none⟩ = some (.int .u8 201)) (d2 : w.cell? ⟨b, off + 2, none⟩ = some (.int .u8 x2)) (d3 : w.cell? ⟨b, off + 3, none⟩ = some (.int .u8 x3)) (hbad : 15 < m) :
    Calls Try.prog 54 #[.slice (some ⟨b, off, none⟩) n c] w (IRetA w zeroItm 0 1) := by
  have h' : ¬ (n : Int) < 4 := by omega
  have h0 : 0 < n := by omega
  have hp1 : 1 < n := by omega
  have hp2 : 2 < n := by omega
  have hp3 : 3 < n := by omega
  have hi1 : (1 : Int) < n := by omega
  have hi2 : (2 : Int) < n := by omega
  have hi3 : (3 : Int) < n := by omega
  have HB := Lib.hid (zz_below w)
  have HD := Lib.hid (zz_blk w)
  have e0 : (zz w).cell? ⟨b, off, none⟩ = some (.int .u8 x0) := (HB.out.cell (p := ⟨b, off, none⟩) hb).trans d0
  have e1 : (zz w).cell? ⟨b, off + 1, none⟩ = some (.int .u8 201) := (HB.out.cell (p := ⟨b, off + 1, none⟩) hb).trans d1
  have e2 : (zz w).cell? ⟨b, off + 2, none⟩ = some (.int .u8 x2) := (HB.out.cell (p := ⟨b, off + 2, none⟩) hb).trans d2
  have e3 : (zz w).cell? ⟨b, off + 3, none⟩ = some (.int .u8 x3) := (HB.out.cell (p := ⟨b, off + 3, none⟩) hb).trans d3
  have q1 : x0.tdiv 32 = 4 := by rw [Int.tdiv_eq_ediv_of_nonneg hx0.1]; exact hx
  have q2 : x0.tmod 32 = m := by rw [Int.tmod_eq_emod_of_nonneg hx0.1]; exact hm
  have q3 : IntKind.i64.wrap m = m := IntWalk.i64_in _ (by omega)
  have q4 : IntKind.i64.wrap x2 = x2 := IntWalk.i64_in _ (by omega)
  have q5 : IntKind.i64.wrap x3 = x3 := IntWalk.i64_in _ (by omega)
  have q6 : IntKind.i64.wrap (x2 * 256) = x2 * 256 := IntWalk.i64_in _ (by omega)
  have q7 : IntKind.i64.wrap (x2 * 256 + x3) = g := by rw [IntWalk.i64_in _ (by omega)]; exact hg
  have hS : Fth b off x2 x3 (zz w).drew := ⟨e2, e3⟩
  have f2 : ∀ W, Fth b off x2 x3 W → W.cell? ⟨b, off + 2, none⟩ = some (.int .u8 x2) := fun W h => h.1
  have f3 : ∀ W, Fth b off x2 x3 W → W.cell? ⟨b, off + 3, none⟩ = some (.int .u8 x3) := fun W h => h.2
  have CW : Hid (∀ W, Calls Try.prog 81 #[.int .i64 201, .int .i64 m] W fun e w' => e = .returned (.int .i64 (1 + 6 * m)) ∧ W = w') := fun W => words_201 m W ⟨by omega, by omega⟩
  have hgb : 0 ≤ g ∧ g ≤ 65535 := ⟨by omega, by omega⟩
  have hmb : 0 ≤ m ∧ m ≤ 31 := ⟨by omega, by omega⟩
  clear e2 e3 hg hm hx hx0 hx2 hx3 d0 d1 d2 d3
  go_enter Try.func54, Try.ntmps54
  go_wp2_with fail
  refine region_seq (Fth b off x2 x3) [(0, false), (1, false), (2, false), (3, false), (4, false), (5, false), (6, false), (7, false), (8, false), (9, false), (10, false)] (by kernel_rfl) (by kernel_rfl) rfl (by kernel_rfl) ?_
  iterate 11 (refine seq_read (v := _) rfl (fun _ _ _ h => h) hS (Or.inl ⟨by rfl, fun W hW => by go_simp <;> with_reducible rfl⟩) ?_; simp only [Act.put, List.setIfInBounds_toArray, List.set_cons_zero, List.set_cons_succ])
  refine seq_end ?_
  clear hS f2 f3 q1 q2 q3 q4 q5 q6 q7 e0 e1
  go_wp2
  exact retG_at HD.out (IRetA.none_ HB.out.drew)
set_option maxRecDepth 100000 in
set_option maxHeartbeats 4000000 in
theorem gi_words201 (b off n c : Nat) (x0 x2 x3 m g : Int) (w : World) (h : 4 ≤ n) (hb : b < w.heap.size) (hx0 : 0 ≤ x0 ∧ x0 ≤ 255) (hx2 : 0 ≤ x2 ∧ x2 ≤ 255) (hx3 : 0 ≤ x3 ∧ x3 ≤ 255) (hx : x0 / 32 = 4) (hm : x0 % 32 = m) (hg : x2 * 256 + x3 = g) (d0 : w.cell? ⟨b, off, none⟩ = some (.int .u8 x0)) (d1 : w.cell? ⟨b, off + 1, none⟩ = some (.int .u8 201)) (d2 : w.cell? ⟨b, off + 2, none⟩ = some (.int .u8 x2)) (d3 : w.cell? ⟨b, off + 3, none⟩ = some (.int .u8 x3)) (h15 : ¬ 15 < m) (hbad : (g != 1 + 6 * m) = true) :
    Calls Try.prog 54 #[.slice (some ⟨b, off, none⟩) n c] w (IRetA w zeroItm 0 1) := by
  have h' : ¬ (n : Int) < 4 := by omega
  have h0 : 0 < n := by omega
  have hp1 : 1 < n := by omega
  have hp2 : 2 < n := by omega
  have hp3 : 3 < n := by omega
  have hi1 : (1 : Int) < n := by omega
  have hi2 : (2 : Int) < n := by omega
  have hi3 : (3 : Int) < n := by omega
  have HB := Lib.hid (zz_below w)
  have HD := Lib.hid (zz_blk w)
  have e0 : (zz w).cell? ⟨b, off, none⟩ = some (.int .u8 x0) := (HB.out.cell (p := ⟨b, off, none⟩) hb).trans d0
  have e1 : (zz w).cell? ⟨b, off + 1, none⟩ = some (.int .u8 201) := (HB.out.cell (p := ⟨b, off + 1, none⟩) hb).trans d1
  have e2 : (zz w).cell? ⟨b, off + 2, none⟩ = some (.int .u8 x2) := (HB.out.cell (p := ⟨b, off + 2, none⟩) hb).trans d2
  have e3 : (zz w).cell? ⟨b, off + 3, none⟩ = some (.int .u8 x3) := (HB.out.cell (p := ⟨b, off + 3, none⟩) hb).trans d3
  have q1 : x0.tdiv 32 = 4 := by rw [Int.tdiv_eq_ediv_of_nonneg hx0.1]; exact hx
  have q2 : x0.tmod 32 = m := by rw [Int.tmod_eq_emod_of_nonneg hx0.1]; exact hm
  have q3 : IntKind.i64.wrap m = m := IntWalk.i64_in _ (by omega)
  have q4 : IntKind.i64.wrap x2 = x2 := IntWalk.i64_in _ (by omega)
  have q5 : IntKind.i64.wrap x3 = x3 := IntWalk.i64_in _ (by omega)
  have q6 : IntKind.i64.wrap (x2 * 256) = x2 * 256 := IntWalk.i64_in _ (by omega)
  have q7 : IntKind.i64.wrap (x2 * 256 + x3) = g := by rw [IntWalk.i64_in _ (by omega)]; exact hg
  have hS : Fth b off x2 x3 (zz w).drew := ⟨e2, e3⟩
  have f2 : ∀ W, Fth b off x2 x3 W → W.cell? ⟨b, off + 2, none⟩ = some (.int .u8 x2) := fun W h => h.1
  have f3 : ∀ W, Fth b off x2 x3 W → W.cell? ⟨b, off + 3, none⟩ = some (.int .u8 x3) := fun W h => h.2
  have CW : Hid (∀ W, Calls Try.prog 81 #[.int .i64 201, .int .i64 m] W fun e w' => e = .returned (.int .i64 (1 + 6 * m)) ∧ W = w') := fun W => words_201 m W ⟨by omega, by omega⟩
  have hgb : 0 ≤ g ∧ g ≤ 65535 := ⟨by omega, by omega⟩
  have hmb : 0 ≤ m ∧ m ≤ 31 := ⟨by omega, by omega⟩
  clear e2 e3 hg hm hx hx0 hx2 hx3 d0 d1 d2 d3
  go_enter Try.func54, Try.ntmps54
  go_wp2_with fail
  refine region_seq (Fth b off x2 x3) [(0, false), (1, false), (2, false), (3, false), (4, false), (5, false), (6, false), (7, false), (8, false), (9, false), (10, false)] (by kernel_rfl) (by kernel_rfl) rfl (by kernel_rfl) ?_
  iterate 11 (refine seq_read (v := _) rfl (fun _ _ _ h => h) hS (Or.inl ⟨by rfl, fun W hW => by go_simp <;> with_reducible rfl⟩) ?_; simp only [Act.put, List.setIfInBounds_toArray, List.set_cons_zero, List.set_cons_succ])
  refine seq_end ?_
  clear hS f2 f3 q1 q2 q3 q4 q5 q6 q7 e0 e1
  go_wp2_with fail
  refine (CW.out _).mono ?_
  rintro e w' ⟨rfl, rfl⟩
  go_wp2
  exact retG_at HD.out (IRetA.none_ HB.out.drew)
set_option maxRecDepth 100000 in
set_option maxHeartbeats 4000000 in
theorem gi_cut201 (b off n c : Nat) (x0 x2 x3 m g : Int) (w : World) (h : 4 ≤ n) (hb : b < w.heap.size) (hx0 : 0 ≤ x0 ∧ x0 ≤ 255) (hx2 : 0 ≤ x2 ∧ x2 ≤ 255) (hx3 : 0 ≤ x3 ∧ x3 ≤ 255) (hx : x0 / 32 = 4) (hm : x0 % 32 = m) (hg : x2 * 256 + x3 = g) (d0 : w.cell? ⟨b, off, none⟩ = some (.int .u8 x0)) (d1 : w.cell? ⟨b, off + 1, none⟩ = some (.int .u8 201)) (d2 : w.cell? ⟨b, off + 2, none⟩ = some (.int .u8 x2)) (d3 : w.cell? ⟨b, off + 3, none⟩ = some (.int .u8 x3)) (h15 : ¬ 15 < m) (hwd : g = 1 + 6 * m) (hbad : (n : Int) < 4 + 4 * g) :
    Calls Try.prog 54 #[.slice (some ⟨b, off, none⟩) n c] w (IRetA w zeroItm 0 2) := by
  have h' : ¬ (n : Int) < 4 := by omega
  have h0 : 0 < n := by omega
  have hp1 : 1 < n := by omega
  have hp2 : 2 < n := by omega
  have hp3 : 3 < n := by omega
  have hi1 : (1 : Int) < n := by omega
  have hi2 : (2 : Int) < n := by omega
  have hi3 : (3 : Int) < n := by omega
  have HB := Lib.hid (zz_below w)
  have HD := Lib.hid (zz_blk w)
  have e0 : (zz w).cell? ⟨b, off, none⟩ = some (.int .u8 x0) := (HB.out.cell (p := ⟨b, off, none⟩) hb).trans d0
  have e1 : (zz w).cell? ⟨b, off + 1, none⟩ = some (.int .u8 201) := (HB.out.cell (p := ⟨b, off + 1, none⟩) hb).trans d1
  have e2 : (zz w).cell? ⟨b, off + 2, none⟩ = some (.int .u8 x2) := (HB.out.cell (p := ⟨b, off + 2, none⟩) hb).trans d2
  have e3 : (zz w).cell? ⟨b, off + 3, none⟩ = some (.int .u8 x3) := (HB.out.cell (p := ⟨b, off + 3, none⟩) hb).trans d3
  have q1 : x0.tdiv 32 = 4 := by rw [Int.tdiv_eq_ediv_of_nonneg hx0.1]; exact hx
  have q2 : x0.tmod 32 = m := by rw [Int.tmod_eq_emod_of_nonneg hx0.1]; exact hm
  have q3 : IntKind.i64.wrap m = m := IntWalk.i64_in _ (by omega)
  have q4 : IntKind.i64.wrap x2 = x2 := IntWalk.i64_in _ (by omega)
  have q5 : IntKind.i64.wrap x3 = x3 := IntWalk.i64_in _ (by omega)
  have q6 : IntKind.i64.wrap (x2 * 256) = x2 * 256 := IntWalk.i64_in _ (by omega)
  have q7 : IntKind.i64.wrap (x2 * 256 + x3) = g := by rw [IntWalk.i64_in _ (by omega)]; exact hg
  have hS : Fth b off x2 x3 (zz w).drew := ⟨e2, e3⟩
  have f2 : ∀ W, Fth b off x2 x3 W → W.cell? ⟨b, off + 2, none⟩ = some (.int .u8 x2) := fun W h => h.1
  have f3 : ∀ W, Fth b off x2 x3 W → W.cell? ⟨b, off + 3, none⟩ = some (.int .u8 x3) := fun W h => h.2
  have CW : Hid (∀ W, Calls Try.prog 81 #[.int .i64 201, .int .i64 m] W fun e w' => e = .returned (.int .i64 (1 + 6 * m)) ∧ W = w') := fun W => words_201 m W ⟨by omega, by omega⟩
  have hgb : 0 ≤ g ∧ g ≤ 65535 := ⟨by omega, by omega⟩
  have hmb : 0 ≤ m ∧ m ≤ 31 := ⟨by omega, by omega⟩
  have hwd2 : (g != 1 + 6 * m) = false := by simpa using hwd
  have hbad2 : (n : Int) < 4 + 4 * g := hbad
  clear hbad hwd
  clear e2 e3 hg hm hx hx0 hx2 hx3 d0 d1 d2 d3
  go_enter Try.func54, Try.ntmps54
  go_wp2_with fail
  refine region_seq (Fth b off x2 x3) [(0, false), (1, false), (2, false), (3, false), (4, false), (5, false), (6, false), (7, false), (8, false), (9, false), (10, false)] (by kernel_rfl) (by kernel_rfl) rfl (by kernel_rfl) ?_
  iterate 11 (refine seq_read (v := _) rfl (fun _ _ _ h => h) hS (Or.inl ⟨by rfl, fun W hW => by go_simp <;> with_reducible rfl⟩) ?_; simp only [Act.put, List.setIfInBounds_toArray, List.set_cons_zero, List.set_cons_succ])
  refine seq_end ?_
  clear hS f2 f3 q1 q2 q3 q4 q5 q6 q7 e0 e1
  go_wp2_with fail
  refine (CW.out _).mono ?_
  rintro e w' ⟨rfl, rfl⟩
  go_wp2
  exact retG_at HD.out (IRetA.none_ HB.out.drew)
set_option maxRecDepth 100000 in
set_option maxHeartbeats 4000000 in
theorem gi_ok201 (b off n c : Nat) (x0 x2 x3 m g : Int) (w : World) (h : 4 ≤ n) (hb : b < w.heap.size) (hx0 : 0 ≤ x0 ∧ x0 ≤ 255) (hx2 : 0 ≤ x2 ∧ x2 ≤ 255) (hx3 : 0 ≤ x3 ∧ x3 ≤ 255) (hx : x0 / 32 = 4) (hm : x0 % 32 = m) (hg : x2 * 256 + x3 = g) (d0 : w.cell? ⟨b, off, none⟩ = some (.int .u8 x0)) (d1 : w.cell? ⟨b, off + 1, none⟩ = some (.int .u8 201)) (d2 : w.cell? ⟨b, off + 2, none⟩ = some (.int .u8 x2)) (d3 : w.cell? ⟨b, off + 3, none⟩ = some (.int .u8 x3)) (h15 : ¬ 15 < m) (hwd : g = 1 + 6 * m) (k N : Nat) (hN : 4 + 4 * g = N) (hn : N ≤ n) (hk : m = k) (ys : List Int) (CI : Hid (∀ W X, Below w.heap.size w W → (c ≠ 4 → X = some ⟨b, off + 4, none⟩) → Calls Try.prog 82 #[.int .i64 201, .int .i64 k, .slice X (N - 4) (c - 4)] W fun e w' => ∃ A z, e = .returned (itm ⟨201, nb ys 0 4, 0, 0, 0, 0, A, k, z, none, 0, 0, 0, none, 0, 0⟩) ∧ RowOwn bloL w' W.heap.size A k z (blosAt ys 4 k) ∧ Below W.heap.size W w')) (hnc : n ≤ c) :
    Calls Try.prog 54 #[.slice (some ⟨b, off, none⟩) n c] w (fun e w' => ∃ A z, e = .returned (.tuple #[itm ⟨201, nb ys 0 4, 0, 0, 0, 0, A, k, z, none, 0, 0, 0, none, 0, 0⟩, .int .i64 N, .int .i64 0]) ∧ RowOwn bloL w' w.heap.size A k z (blosAt ys 4 k) ∧ Below w.heap.size w w') := by
  have h' : ¬ (n : Int) < 4 := by omega
  have h0 : 0 < n := by omega
  have hp1 : 1 < n := by omega
  have hp2 : 2 < n := by omega
  have hp3 : 3 < n := by omega
  have hi1 : (1 : Int) < n := by omega
  have hi2 : (2 : Int) < n := by omega
  have hi3 : (3 : Int) < n := by omega
  have HB := Lib.hid (zz_below w)
  have HD := Lib.hid (zz_blk w)
  have e0 : (zz w).cell? ⟨b, off, none⟩ = some (.int .u8 x0) := (HB.out.cell (p := ⟨b, off, none⟩) hb).trans d0
  have e1 : (zz w).cell? ⟨b, off + 1, none⟩ = some (.int .u8 201) := (HB.out.cell (p := ⟨b, off + 1, none⟩) hb).trans d1
  have e2 : (zz w).cell? ⟨b, off + 2, none⟩ = some (.int .u8 x2) := (HB.out.cell (p := ⟨b, off + 2, none⟩) hb).trans d2
  have e3 : (zz w).cell? ⟨b, off + 3, none⟩ = some (.int .u8 x3) := (HB.out.cell (p := ⟨b, off + 3, none⟩) hb).trans d3
  have q1 : x0.tdiv 32 = 4 := by rw [Int.tdiv_eq_ediv_of_nonneg hx0.1]; exact hx
  have q2 : x0.tmod 32 = m := by rw [Int.tmod_eq_emod_of_nonneg hx0.1]; exact hm
  have q3 : IntKind.i64.wrap m = m := IntWalk.i64_in _ (by omega)
  have q4 : IntKind.i64.wrap x2 = x2 := IntWalk.i64_in _ (by omega)
  have q5 : IntKind.i64.wrap x3 = x3 := IntWalk.i64_in _ (by omega)
  have q6 : IntKind.i64.wrap (x2 * 256) = x2 * 256 := IntWalk.i64_in _ (by omega)
  have q7 : IntKind.i64.wrap (x2 * 256 + x3) = g := by rw [IntWalk.i64_in _ (by omega)]; exact hg
  have hS : Fth b off x2 x3 (zz w).drew := ⟨e2, e3⟩
  have f2 : ∀ W, Fth b off x2 x3 W → W.cell? ⟨b, off + 2, none⟩ = some (.int .u8 x2) := fun W h => h.1
  have f3 : ∀ W, Fth b off x2 x3 W → W.cell? ⟨b, off + 3, none⟩ = some (.int .u8 x3) := fun W h => h.2
  have CW : Hid (∀ W, Calls Try.prog 81 #[.int .i64 201, .int .i64 m] W fun e w' => e = .returned (.int .i64 (1 + 6 * m)) ∧ W = w') := fun W => words_201 m W ⟨by omega, by omega⟩
  have hgb : 0 ≤ g ∧ g ≤ 65535 := ⟨by omega, by omega⟩
  have hmb : 0 ≤ m ∧ m ≤ 31 := ⟨by omega, by omega⟩
  obtain ⟨X, hX, sX⟩ := cut_run b off n c 4 N 4 N rfl rfl (by omega) (by omega)
  have HX := Lib.hid hX
  have hwd2 : (g != 1 + 6 * m) = false := by simpa using hwd
  have hn2 : ¬ (n : Int) < N := by omega
  have w1 : IntKind.i64.wrap (4 * g) = 4 * g := IntWalk.i64_in _ (by omega)
  have w2 : IntKind.i64.wrap (4 + 4 * g) = N := by rw [IntWalk.i64_in _ (by omega)]; exact hN
  have hN4 : 4 ≤ N := by omega
  subst hk
  clear hX hwd hN
  clear e2 e3 hg hm hx hx0 hx2 hx3 d0 d1 d2 d3
  go_enter Try.func54, Try.ntmps54
  go_wp2_with fail
  refine region_seq (Fth b off x2 x3) [(0, false), (1, false), (2, false), (3, false), (4, false), (5, false), (6, false), (7, false), (8, false), (9, false), (10, false)] (by kernel_rfl) (by kernel_rfl) rfl (by kernel_rfl) ?_
  iterate 11 (refine seq_read (v := _) rfl (fun _ _ _ h => h) hS (Or.inl ⟨by rfl, fun W hW => by go_simp <;> with_reducible rfl⟩) ?_; simp only [Act.put, List.setIfInBounds_toArray, List.set_cons_zero, List.set_cons_succ])
  refine seq_end ?_
  clear hS f2 f3 q1 q2 q3 q4 q5 q6 q7 e0 e1
  go_wp2_with fail
  refine (CW.out _).mono ?_
  rintro e w' ⟨rfl, rfl⟩
  go_wp2_with fail
  refine (CI.out _ X HB.out.drew HX.out).mono ?_
  rintro e u0 ⟨A, z, rfl, ho, hb1⟩
  obtain ⟨v, hv⟩ : ∃ v : IV, v = ⟨201, nb ys 0 4, 0, 0, 0, 0, A, k, z, none, 0, 0, 0, none, 0, 0⟩ := ⟨_, rfl⟩
  rw [← hv]
  have D : IBlk u0 w.heap.size ziv := (show IBlk (zz w).drew w.heap.size ziv from HD.out).bel hb1
  have hlt : w.heap.size < (zz w).drew.heap.size := HD.out.lt
  obtain ⟨z0, f0, z1, f1, z2, f2, z3, f3, z4, f4, z5, f5, z6, f6, z7, f7, z8, f8, z9, f9⟩ := D.cf
  have HW := Lib.hid (show IBlk ((((((((((u0.setCell ⟨w.heap.size, 0, none⟩ (.int .i64 v.kind)).setCell ⟨w.heap.size, 1, none⟩ (.int .u32 v.ssrc)).setCell ⟨w.heap.size, 2, none⟩ (.int .u64 v.ntp)).setCell ⟨w.heap.size, 3, none⟩ (.int .u32 v.time)).setCell ⟨w.heap.size, 4, none⟩ (.int .u32 v.pks)).setCell ⟨w.heap.size, 5, none⟩ (.int .u32 v.ocs)).setCell ⟨w.heap.size, 6, none⟩ (.slice v.ba v.bn v.bc)).setCell ⟨w.heap.size, 7, none⟩ (.slice v.ga v.gn v.gc)).setCell ⟨w.heap.size, 8, none⟩ (.int .u32 v.media)).setCell ⟨w.heap.size, 9, none⟩ (.slice v.pa v.pn v.pc)) w.heap.size v ∧ Below w.heap.size w ((((((((((u0.setCell ⟨w.heap.size, 0, none⟩ (.int .i64 v.kind)).setCell ⟨w.heap.size, 1, none⟩ (.int .u32 v.ssrc)).setCell ⟨w.heap.size, 2, none⟩ (.int .u64 v.ntp)).setCell ⟨w.heap.size, 3, none⟩ (.int .u32 v.time)).setCell ⟨w.heap.size, 4, none⟩ (.int .u32 v.pks)).setCell ⟨w.heap.size, 5, none⟩ (.int .u32 v.ocs)).setCell ⟨w.heap.size, 6, none⟩ (.slice v.ba v.bn v.bc)).setCell ⟨w.heap.size, 7, none⟩ (.slice v.ga v.gn v.gc)).setCell ⟨w.heap.size, 8, none⟩ (.int .u32 v.media)).setCell ⟨w.heap.size, 9, none⟩ (.slice v.pa v.pn v.pc)) ∧ RowOwn bloL ((((((((((u0.setCell ⟨w.heap.size, 0, none⟩ (.int .i64 v.kind)).setCell ⟨w.heap.size, 1, none⟩ (.int .u32 v.ssrc)).setCell ⟨w.heap.size, 2, none⟩ (.int .u64 v.ntp)).setCell ⟨w.heap.size, 3, none⟩ (.int .u32 v.time)).setCell ⟨w.heap.size, 4, none⟩ (.int .u32 v.pks)).setCell ⟨w.heap.size, 5, none⟩ (.int .u32 v.ocs)).setCell ⟨w.heap.size, 6, none⟩ (.slice v.ba v.bn v.bc)).setCell ⟨w.heap.size, 7, none⟩ (.slice v.ga v.gn v.gc)).setCell ⟨w.heap.size, 8, none⟩ (.int .u32 v.media)).setCell ⟨w.heap.size, 9, none⟩ (.slice v.pa v.pn v.pc)) w.heap.size A k z (blosAt ys 4 k) from
    ⟨D.store v, below_istore (HB.out.drew.trans (hb1.mono (Nat.le_of_lt hlt))) (Nat.le_refl _) _ _ _ _ _ _ _ _ _ _, (RowOwn.ist ho hlt v).lower (Nat.le_of_lt hlt)⟩)
  have HV := Lib.hid hv
  clear D hlt ho hb1 hv CI CW HX sX
  go_wp2
  generalize ((((((((((u0.setCell ⟨w.heap.size, 0, none⟩ (.int .i64 v.kind)).setCell ⟨w.heap.size, 1, none⟩ (.int .u32 v.ssrc)).setCell ⟨w.heap.size, 2, none⟩ (.int .u64 v.ntp)).setCell ⟨w.heap.size, 3, none⟩ (.int .u32 v.time)).setCell ⟨w.heap.size, 4, none⟩ (.int .u32 v.pks)).setCell ⟨w.heap.size, 5, none⟩ (.int .u32 v.ocs)).setCell ⟨w.heap.size, 6, none⟩ (.slice v.ba v.bn v.bc)).setCell ⟨w.heap.size, 7, none⟩ (.slice v.ga v.gn v.gc)).setCell ⟨w.heap.size, 8, none⟩ (.int .u32 v.media)).setCell ⟨w.heap.size, 9, none⟩ (.slice v.pa v.pn v.pc)) = u1 at *
  refine retG_at HW.out.1 ?_
  rw [HV.out]
  exact ⟨A, z, rfl, HW.out.2.2, HW.out.2.1⟩

/-- GetItem of bytes that are a report's, or too short, or of no form. -/
theorem gi_rep (a : Option Addr) (n c B : Nat) (xs : List Int) (w : World) (hl : n ≤ maxLen) (hlc : n ≤ c) (hr : Rd w B a n xs) (hB : B ≤ w.heap.size) (hh : n < 4 ∨ xs.getD 0 0 / 32 ≠ 4 ∨ isRep (xs.getD 1 0) = true) :
    Calls Try.prog 54 #[.slice a n c] w (IRetA w (gRV xs) (gRN xs) (rE xs)) := by
  have hx := hr.1
  have hb := hr.2.1
  by_cases h4 : n < 4
  · have e1 : rE xs = 2 := by rw [rE, if_pos (by omega)]
    rw [gRV, gRN, e1, if_neg (by decide), if_neg (by decide)]
    exact gi_short a n c w h4
  · obtain ⟨b, off, rfl, hbB, hc⟩ := hr.2.2 (by omega)
    have b0 := hb.getD 0
    have b1 := hb.getD 1
    have b2 := hb.getD 2
    have b3 := hb.getD 3
    have c0 := hc 0 (by omega)
    have c1 := hc 1 (by omega)
    have c2 := hc 2 (by omega)
    have c3 := hc 3 (by omega)
    rw [Nat.add_zero] at c0
    have hbw : b < w.heap.size := by omega
    by_cases h0 : xs.getD 0 0 / 32 ≠ 4
    · have e1 : rE xs = 1 := by rw [rE, if_neg (by omega), if_pos h0]
      rw [gRV, gRN, e1, if_neg (by decide), if_neg (by decide)]
      exact gi_form b off n c _ w (by omega) hbw b0 h0 c0
    · have hkt : isRep (xs.getD 1 0) = true := (hh.resolve_left h4).resolve_left h0
      have h0' : xs.getD 0 0 / 32 = 4 := by omega
      have e : rE xs = iE xs := by rw [rE, if_neg (by omega), if_neg h0, if_neg (by rw [hkt]; decide)]
      have hei : iE xs = if hE (xs.getD 1 0) (cI xs) (gI xs) ≠ 0 then hE (xs.getD 1 0) (cI xs) (gI xs) else if (xs.length : Int) < 4 + 4 * gI xs then 2 else 0 := by rw [iE, if_neg (by omega), if_neg h0]
      have hcI : 0 ≤ cI xs ∧ cI xs ≤ 31 := by unfold cI; omega
      have hgI : 0 ≤ gI xs := by unfold gI; omega
      obtain ⟨k, hk⟩ : ∃ k : Nat, cI xs = k := ⟨(cI xs).toNat, by omega⟩
      obtain ⟨N, hN⟩ : ∃ N : Nat, 4 + 4 * gI xs = N := ⟨(4 + 4 * gI xs).toNat, by omega⟩
      have hiN : iN xs = N := by unfold iN; omega
      simp only [isRep, Bool.or_eq_true, decide_eq_true_eq] at hkt
      rw [hx] at hei
      rcases hkt with hkd | hkd

      · have hek : hE 200 (cI xs) (gI xs) = if 15 < cI xs ∨ gI xs ≠ 6 + 6 * cI xs then 1 else 0 := by unfold hE; rw [if_pos rfl]
        rw [hkd] at hei c1
        rw [hek] at hei
        by_cases h15 : 15 < cI xs
        · have e1 : rE xs = 1 := by rw [e, hei, if_pos (show 15 < cI xs ∨ gI xs ≠ 6 + 6 * cI xs from .inl h15)]; rfl
          rw [gRV, gRN, e1, if_neg (by decide), if_neg (by decide)]
          exact gi_many200 b off n c _ _ _ (cI xs) (gI xs) w (by omega) hbw b0 b2 b3 h0' rfl rfl c0 c1 c2 c3 h15
        · by_cases hgw : gI xs = 6 + 6 * cI xs
          · rw [if_neg (show ¬ (15 < cI xs ∨ gI xs ≠ 6 + 6 * cI xs) from by omega)] at hei
            simp only [ne_eq, not_true, if_false] at hei
            by_cases hcut : (n : Int) < 4 + 4 * gI xs
            · have e1 : rE xs = 2 := by rw [e, hei, if_pos hcut]
              rw [gRV, gRN, e1, if_neg (by decide), if_neg (by decide)]
              exact gi_cut200 b off n c _ _ _ (cI xs) (gI xs) w (by omega) hbw b0 b2 b3 h0' rfl rfl c0 c1 c2 c3 h15 hgw hcut
            · have e1 : rE xs = 0 := by rw [e, hei, if_neg hcut]
              have hV : iV xs = ⟨200, nb xs 4 4, nb xs 8 8, nb xs 16 4, nb xs 20 4, nb xs 24 4, blosAt xs 28 k, [], 0, []⟩ := by unfold iV; rw [if_pos hkd, hk, Int.toNat_natCast]
              rw [gRV, gRN, e1, if_pos rfl, if_pos rfl, hV, hiN]
              have hr' := hr.more hB
              refine (gi_ok200 b off n c _ _ _ (cI xs) (gI xs) w (by omega) hbw b0 b2 b3 h0' rfl rfl c0 c1 c2 c3 h15 hgw k N hN (by omega) hk ((xs.drop 4).take (N - 4)) (fun W X hW hX => ?_) hlc).mono ?_
              · have hrm := rd_mid (hr'.below hW) (show 4 ≤ N from by omega) (show N ≤ n from by omega) hlc hX
                exact item_get200 X (N - 4) (c - 4) k _ W (hrm.more hW.size) (by omega) (by omega) (by omega) (by omega)
              · rintro e' w' ⟨A, z, rfl, ho, hbl⟩
                rw [blosAt_cut xs (N - 4) k 24 (by omega)] at ho
                rw [nb_cut xs (N - 4) 0 4 (by omega), nb_cut xs (N - 4) 4 8 (by omega), nb_cut xs (N - 4) 12 4 (by omega), nb_cut xs (N - 4) 16 4 (by omega), nb_cut xs (N - 4) 20 4 (by omega)]
                have hlen := blosAt_length xs k 28
                refine ⟨⟨A, z, none, 0, none, 0⟩, ?_, ⟨?_, Wd.none_ _ rfl, RowRd.none_ _ rfl, by simp only [hlen]; omega, Nat.zero_le _, Nat.zero_le _, by simp only [hlen]; exact ho.2.1, Nat.le_refl _, Nat.le_refl _⟩, ⟨fun b' o' h => own_ge ho h, (fun _ _ h => by cases h), (fun _ _ h => by cases h)⟩, hbl⟩
                · simp only [ivOf, hlen, List.length_nil]
                · simp only [hlen]; exact ho.rd
          · have e1 : rE xs = 1 := by rw [e, hei, if_pos (show 15 < cI xs ∨ gI xs ≠ 6 + 6 * cI xs from .inr hgw)]; rfl
            rw [gRV, gRN, e1, if_neg (by decide), if_neg (by decide)]
            exact gi_words200 b off n c _ _ _ (cI xs) (gI xs) w (by omega) hbw b0 b2 b3 h0' rfl rfl c0 c1 c2 c3 h15 (by simpa using hgw)
      · have hek : hE 201 (cI xs) (gI xs) = if 15 < cI xs ∨ gI xs ≠ 1 + 6 * cI xs then 1 else 0 := by unfold hE; rw [if_neg (by decide), if_pos rfl]
        rw [hkd] at hei c1
        rw [hek] at hei
        by_cases h15 : 15 < cI xs
        · have e1 : rE xs = 1 := by rw [e, hei, if_pos (show 15 < cI xs ∨ gI xs ≠ 1 + 6 * cI xs from .inl h15)]; rfl
          rw [gRV, gRN, e1, if_neg (by decide), if_neg (by decide)]
          exact gi_many201 b off n c _ _ _ (cI xs) (gI xs) w (by omega) hbw b0 b2 b3 h0' rfl rfl c0 c1 c2 c3 h15
        · by_cases hgw : gI xs = 1 + 6 * cI xs
          · rw [if_neg (show ¬ (15 < cI xs ∨ gI xs ≠ 1 + 6 * cI xs) from by omega)] at hei
            simp only [ne_eq, not_true, if_false] at hei
            by_cases hcut : (n : Int) < 4 + 4 * gI xs
            · have e1 : rE xs = 2 := by rw [e, hei, if_pos hcut]
              rw [gRV, gRN, e1, if_neg (by decide), if_neg (by decide)]
              exact gi_cut201 b off n c _ _ _ (cI xs) (gI xs) w (by omega) hbw b0 b2 b3 h0' rfl rfl c0 c1 c2 c3 h15 hgw hcut
            · have e1 : rE xs = 0 := by rw [e, hei, if_neg hcut]
              have hV : iV xs = ⟨201, nb xs 4 4, 0, 0, 0, 0, blosAt xs 8 k, [], 0, []⟩ := by unfold iV; rw [if_neg (by omega), if_pos hkd, hk, Int.toNat_natCast]
              rw [gRV, gRN, e1, if_pos rfl, if_pos rfl, hV, hiN]
              have hr' := hr.more hB
              refine (gi_ok201 b off n c _ _ _ (cI xs) (gI xs) w (by omega) hbw b0 b2 b3 h0' rfl rfl c0 c1 c2 c3 h15 hgw k N hN (by omega) hk ((xs.drop 4).take (N - 4)) (fun W X hW hX => ?_) hlc).mono ?_
              · have hrm := rd_mid (hr'.below hW) (show 4 ≤ N from by omega) (show N ≤ n from by omega) hlc hX
                exact item_get201 X (N - 4) (c - 4) k _ W (hrm.more hW.size) (by omega) (by omega) (by omega) (by omega)
              · rintro e' w' ⟨A, z, rfl, ho, hbl⟩
                rw [blosAt_cut xs (N - 4) k 4 (by omega)] at ho
                rw [nb_cut xs (N - 4) 0 4 (by omega)]
                have hlen := blosAt_length xs k 8
                refine ⟨⟨A, z, none, 0, none, 0⟩, ?_, ⟨?_, Wd.none_ _ rfl, RowRd.none_ _ rfl, by simp only [hlen]; omega, Nat.zero_le _, Nat.zero_le _, by simp only [hlen]; exact ho.2.1, Nat.le_refl _, Nat.le_refl _⟩, ⟨fun b' o' h => own_ge ho h, (fun _ _ h => by cases h), (fun _ _ h => by cases h)⟩, hbl⟩
                · simp only [ivOf, hlen, List.length_nil]
                · simp only [hlen]; exact ho.rd
          · have e1 : rE xs = 1 := by rw [e, hei, if_pos (show 15 < cI xs ∨ gI xs ≠ 1 + 6 * cI xs from .inr hgw)]; rfl
            rw [gRV, gRN, e1, if_neg (by decide), if_neg (by decide)]
            exact gi_words201 b off n c _ _ _ (cI xs) (gI xs) w (by omega) hbw b0 b2 b3 h0' rfl rfl c0 c1 c2 c3 h15 (by simpa using hgw)

end Go.Proofs.Ythmmafpmpnhleaa.Fbk

namespace Go.Proofs.Ythmmafpmpnhleaa.Fbk
open Go.RowKit
set_option linter.unusedVariables false

set_option maxHeartbeats 400000 in
theorem words_203 (n : Int) (w : World) (h : 0 ≤ n ∧ n ≤ 31) : Calls Try.prog 81 #[.int .i64 203, .int .i64 n] w fun e w' => e = .returned (.int .i64 (n)) ∧ w = w' := by
  obtain ⟨h1, h2⟩ := h
  go_enter Try.func81, Try.ntmps81
  go_wp2
  go_ret
  exact ⟨rfl, rfl⟩
set_option maxHeartbeats 400000 in
theorem words_205 (n : Int) (w : World) (h : 0 ≤ n ∧ n ≤ 31) : Calls Try.prog 81 #[.int .i64 205, .int .i64 n] w fun e w' => e = .returned (.int .i64 (2 + n)) ∧ w = w' := by
  obtain ⟨h1, h2⟩ := h
  go_enter Try.func81, Try.ntmps81
  go_wp2
  go_ret
  exact ⟨rfl, rfl⟩
set_option maxHeartbeats 400000 in
theorem words_206 (n : Int) (w : World) (h : 0 ≤ n ∧ n ≤ 31) : Calls Try.prog 81 #[.int .i64 206, .int .i64 n] w fun e w' => e = .returned (.int .i64 (2)) ∧ w = w' := by
  obtain ⟨h1, h2⟩ := h
  go_enter Try.func81, Try.ntmps81
  go_wp2
  go_ret
  exact ⟨rfl, rfl⟩
end Go.Proofs.Ythmmafpmpnhleaa.Fbk
