/- The contracts of report's first and of its reader: take, word, block. · The contracts of report's reader: take, word, block; of report.Get. -/
import Derived.Test.YthmmafpmpnhleaaQe
set_option maxRecDepth 100000
namespace Go.Proofs.Ythmmafpmpnhleaa.Fbk
open Go.RowKit
set_option linter.unusedVariables false

theorem numGet_nb (xs : List Int) (i s : Nat) (h1 : 1 ≤ s) (h2 : s ≤ 8) (h3 : i + s ≤ xs.length) : numGet xs i s = nb xs i s := by
  have hw : withinB xs.length i s = true := by simp [withinB]; omega
  rw [numGet, hw, if_pos rfl]; rfl
theorem byte_all (p : Int → Bool) (h : (List.range 256).all (fun n => p n) = true) (x : Int) (h0 : 0 ≤ x) (h1 : x ≤ 255) : p x = true := by
  obtain ⟨n, rfl⟩ := Int.eq_ofNat_of_zero_le h0
  exact List.all_eq_true.1 h n (List.mem_range.2 (by omega))
theorem and_224 (x : Int) (h0 : 0 ≤ x) (h1 : x ≤ 255) : (bits BinOp.and IntKind.u8 x 224 != 128) = decide (x / 32 ≠ 4) :=
  of_decide_eq_true (byte_all (fun x => decide ((bits BinOp.and IntKind.u8 x 224 != 128) = decide (x / 32 ≠ 4))) (by decide +kernel) x h0 h1)
theorem and_31 (x : Int) (h0 : 0 ≤ x) (h1 : x ≤ 255) : bits BinOp.and IntKind.u8 x 31 = x % 32 :=
  of_decide_eq_true (byte_all (fun x => decide (bits BinOp.and IntKind.u8 x 31 = x % 32)) (by decide +kernel) x h0 h1)
theorem nb_two (xs : List Int) (h : 4 ≤ xs.length) : nb xs 2 2 = gI xs := by
  obtain ⟨x0, x1, x2, x3, r, rfl⟩ : ∃ x0 x1 x2 x3 r, xs = x0 :: x1 :: x2 :: x3 :: r := by
    match xs, h with
    | x0 :: x1 :: x2 :: x3 :: r, _ => exact ⟨_, _, _, _, _, rfl⟩
  simp [nb, gI, num]

/-- What a report's reader tells is wrong. -/
def rE (b : List Int) : Int := if b.length < 4 then 2 else if b.getD 0 0 / 32 ≠ 4 then 1 else if isRep (b.getD 1 0) = false then 4 else iE b
def RetF (w : World) (k c n : Int) (e : Ending) (w' : World) : Prop := e = .returned (.tuple #[.int .i64 k, .int .i64 c, .int .i64 n]) ∧ Below w.heap.size w w'

set_option maxHeartbeats 1000000 in
theorem first_short (a : Option Addr) (n c : Nat) (w : World) (h : n < 4) : Calls Try.prog 86 #[.slice a n c] w (RetF w 0 0 2) := by
  have h' : (n : Int) < 4 := by omega
  go_enter Try.func86, Try.ntmps86
  go_wp2
  go_ret3
  exact ⟨rfl, Below.refl _ _⟩
set_option maxHeartbeats 1000000 in
theorem first_form (b off n c : Nat) (x0 : Int) (w : World) (h : 4 ≤ n) (hx : (bits BinOp.and IntKind.u8 x0 224 != 128) = true) (c0 : w.cell? ⟨b, off, none⟩ = some (.int .u8 x0)) : Calls Try.prog 86 #[.slice (some ⟨b, off, none⟩) n c] w (RetF w 0 0 1) := by
  have h' : ¬ (n : Int) < 4 := by omega
  have h0 : 0 < n := by omega
  go_enter Try.func86, Try.ntmps86
  go_wp2
  go_ret3
  exact ⟨rfl, Below.refl _ _⟩
def Fst (x0 x1 : Int) (b off : Nat) (W : World) : Prop := W.cell? ⟨b, off, none⟩ = some (.int .u8 x0) ∧ W.cell? ⟨b, off + 1, none⟩ = some (.int .u8 x1)
set_option maxHeartbeats 1000000 in
theorem first_kind (b off n c : Nat) (x0 x1 y : Int) (w : World) (h : 4 ≤ n) (hx : (bits BinOp.and IntKind.u8 x0 224 != 128) = false) (hy : bits BinOp.and IntKind.u8 x0 31 = y) (hy1 : 0 ≤ y ∧ y ≤ 31) (hx1 : 0 ≤ x1 ∧ x1 ≤ 255) (c0 : w.cell? ⟨b, off, none⟩ = some (.int .u8 x0)) (c1 : w.cell? ⟨b, off + 1, none⟩ = some (.int .u8 x1)) (hk : isRep x1 = false) : Calls Try.prog 86 #[.slice (some ⟨b, off, none⟩) n c] w (RetF w 0 0 4) := by
  have h' : ¬ (n : Int) < 4 := by omega
  have h0 : 0 < n := by omega
  have hp1 : 1 < n := by omega
  have hi1 : (1 : Int) < n := by omega
  have q1 : IntKind.i64.wrap x1 = x1 := IntWalk.i64_in _ (by omega)
  have q2 : IntKind.i64.wrap y = y := IntWalk.i64_in _ (by omega)
  have CK : Hid (∀ W, Calls Try.prog 99 #[.int .i64 x1] W fun e w' => e = .returned (.bool false) ∧ W = w') := fun W => hk ▸ kindMay_any x1 W
  have hS : Fst x0 x1 b off w.drew := ⟨c0, c1⟩
  have C0 : ∀ W, Fst x0 x1 b off W → W.cell? ⟨b, off, none⟩ = some (.int .u8 x0) := fun W h => h.1
  have C1 : ∀ W, Fst x0 x1 b off W → W.cell? ⟨b, off + 1, none⟩ = some (.int .u8 x1) := fun W h => h.2
  clear hk
  go_enter Try.func86, Try.ntmps86
  go_wp2_with fail
  refine region_seq (Fst x0 x1 b off) [(0, false), (1, false), (2, false), (3, false), (4, false), (5, false), (6, false), (7, false), (8, false), (9, false), (10, false)] (by kernel_rfl) (by kernel_rfl) rfl (by kernel_rfl) ?_
  iterate 11 (refine seq_read (v := _) rfl (fun _ _ _ h => h) hS (Or.inl ⟨by rfl, fun W hW => by go_simp <;> with_reducible rfl⟩) ?_; simp only [Act.put, List.setIfInBounds_toArray, List.set_cons_zero, List.set_cons_succ])
  refine seq_end ?_
  clear hS C0 C1
  go_wp2_with fail
  refine (CK.out _).mono ?_
  rintro e w' ⟨rfl, rfl⟩
  go_wp2
  go_ret3
  exact ⟨rfl, (Below.refl _ _).drew⟩
set_option maxHeartbeats 4000000 in
/-- Behind the kind: m the count, g the words, s what so many blocks make. -/
theorem first_rest (b off n c : Nat) (x0 x1 m g s : Int) (w : World) (h : 4 ≤ n) (hx : (bits BinOp.and IntKind.u8 x0 224 != 128) = false) (hy : bits BinOp.and IntKind.u8 x0 31 = m) (hy1 : 0 ≤ m ∧ m ≤ 31) (hx1 : 0 ≤ x1 ∧ x1 ≤ 255) (hg : 0 ≤ g ∧ g ≤ 65535) (c0 : w.cell? ⟨b, off, none⟩ = some (.int .u8 x0)) (c1 : w.cell? ⟨b, off + 1, none⟩ = some (.int .u8 x1)) (hk : isRep x1 = true)
    (hs : s = 8 + 24 * m + (if x1 = 200 then 20 else 0)) (hs1 : 0 ≤ s ∧ s ≤ 1000) (k0 m0 e0 : Int) (hR : Hid ((15 < m → k0 = 0 ∧ m0 = 0 ∧ e0 = 1) ∧ (¬ 15 < m → 4 * (g + 1) ≠ s → k0 = 0 ∧ m0 = 0 ∧ e0 = 1) ∧ (¬ 15 < m → 4 * (g + 1) = s → (n : Int) < s → k0 = 0 ∧ m0 = 0 ∧ e0 = 2) ∧ (¬ 15 < m → 4 * (g + 1) = s → ¬ (n : Int) < s → k0 = x1 ∧ m0 = m ∧ e0 = 0)))
    (CG : Hid (∀ W, Below w.heap.size w W → Calls Try.prog 69 #[.slice (some ⟨b, off, none⟩) n c, .int .i64 2, .int .i64 2] W fun e w' => e = .returned (.tuple #[.int .u64 g, .bool true]) ∧ W = w')) :
    Calls Try.prog 86 #[.slice (some ⟨b, off, none⟩) n c] w (RetF w k0 m0 e0) := by
  have h' : ¬ (n : Int) < 4 := by omega
  have h0 : 0 < n := by omega
  have hp1 : 1 < n := by omega
  have hi1 : (1 : Int) < n := by omega
  have q1 : IntKind.i64.wrap x1 = x1 := IntWalk.i64_in _ (by omega)
  have q2 : IntKind.i64.wrap m = m := IntWalk.i64_in _ (by omega)
  have q3 : IntKind.i64.wrap g = g := IntWalk.i64_in _ (by omega)
  have CK : Hid (∀ W, Calls Try.prog 99 #[.int .i64 x1] W fun e w' => e = .returned (.bool true) ∧ W = w') := fun W => hk ▸ kindMay_any x1 W
  have CS : Hid (∀ W, Calls Try.prog 100 #[.int .i64 x1, .int .i64 m] W fun e w' => e = .returned (.int .i64 s) ∧ W = w') := fun W => hs ▸ sizeOf_any x1 m W (by omega) (by omega)
  have hS : Fst x0 x1 b off w.drew := ⟨c0, c1⟩
  have C0 : ∀ W, Fst x0 x1 b off W → W.cell? ⟨b, off, none⟩ = some (.int .u8 x0) := fun W h => h.1
  have C1 : ∀ W, Fst x0 x1 b off W → W.cell? ⟨b, off + 1, none⟩ = some (.int .u8 x1) := fun W h => h.2
  clear hk hs
  go_enter Try.func86, Try.ntmps86
  go_wp2_with fail
  refine region_seq (Fst x0 x1 b off) [(0, false), (1, false), (2, false), (3, false), (4, false), (5, false), (6, false), (7, false), (8, false), (9, false), (10, false)] (by kernel_rfl) (by kernel_rfl) rfl (by kernel_rfl) ?_
  iterate 11 (refine seq_read (v := _) rfl (fun _ _ _ h => h) hS (Or.inl ⟨by rfl, fun W hW => by go_simp <;> with_reducible rfl⟩) ?_; simp only [Act.put, List.setIfInBounds_toArray, List.set_cons_zero, List.set_cons_succ])
  refine seq_end ?_
  clear hS C0 C1
  go_wp2_with fail
  refine (CK.out _).mono ?_
  rintro e w' ⟨rfl, rfl⟩
  go_wp2_with fail
  refine (CG.out _ (Below.refl _ _).drew).mono ?_
  rintro e w' ⟨rfl, rfl⟩
  go_wp2_with fail
  refine (CS.out _).mono ?_
  rintro e w' ⟨rfl, rfl⟩
  by_cases h15 : 15 < m
  · obtain ⟨rfl, rfl, rfl⟩ := hR.out.1 h15
    go_wp2
    go_ret3
    exact ⟨rfl, (Below.refl _ _).drew⟩
  · by_cases hgs : 4 * (g + 1) = s
    · by_cases hl : (n : Int) < s
      · obtain ⟨rfl, rfl, rfl⟩ := hR.out.2.2.1 (by omega) hgs (by omega)
        go_wp2
        go_ret3
        exact ⟨rfl, (Below.refl _ _).drew⟩
      · obtain ⟨rfl, rfl, rfl⟩ := hR.out.2.2.2 (by omega) hgs (by omega)
        go_wp2
        go_ret3
        exact ⟨rfl, (Below.refl _ _).drew⟩
    · obtain ⟨rfl, rfl, rfl⟩ := hR.out.2.1 (by omega) hgs
      have hgs' : (4 * (g + 1) != s) = true := by simpa using hgs
      clear hR hgs
      go_wp2
      go_ret3
      exact ⟨rfl, (Below.refl _ _).drew⟩
/-- What first tells: the kind, the count, the error. -/
theorem first_any (a : Option Addr) (n c B : Nat) (xs : List Int) (w : World) (hl : n ≤ maxLen) (hlc : n ≤ c) (hr : Rd w B a n xs) (hB : B ≤ w.heap.size) :
    Calls Try.prog 86 #[.slice a n c] w (RetF w (if rE xs = 0 then xs.getD 1 0 else 0) (if rE xs = 0 then cI xs else 0) (rE xs)) := by
  have hx := hr.1
  have hb := hr.2.1
  by_cases h4 : n < 4
  · rw [show rE xs = 2 from by rw [rE, if_pos (by omega)]]
    exact first_short a n c w h4
  · obtain ⟨b, off, rfl, hbB, hc⟩ := hr.2.2 (by omega)
    have b0 := hb.getD 0
    have b1 := hb.getD 1
    have b2 := hb.getD 2
    have b3 := hb.getD 3
    have c0 := hc 0 (by omega)
    have c1 := hc 1 (by omega)
    rw [Nat.add_zero] at c0
    have hand := and_224 _ b0.1 b0.2
    by_cases h0 : xs.getD 0 0 / 32 ≠ 4
    · rw [show rE xs = 1 from by rw [rE, if_neg (by omega), if_pos h0]]
      exact first_form b off n c _ w (by omega) (by rw [hand]; exact decide_eq_true h0) c0
    · have hand' := hand.trans (decide_eq_false h0)
      have h31 := and_31 _ b0.1 b0.2
      have hcI : 0 ≤ cI xs ∧ cI xs ≤ 31 := by unfold cI; omega
      by_cases hk : isRep (xs.getD 1 0) = false
      · rw [show rE xs = 4 from by rw [rE, if_neg (by omega), if_neg h0, if_pos hk]]
        exact first_kind b off n c _ _ (cI xs) w (by omega) hand' h31 hcI b1 c0 c1 hk
      · have hkt : isRep (xs.getD 1 0) = true := by simpa using hk
        have hg : 0 ≤ gI xs ∧ gI xs ≤ 65535 := by unfold gI; omega
        have e : rE xs = iE xs := by rw [rE, if_neg (by omega), if_neg h0, if_neg hk]
        have hei : iE xs = if hE (xs.getD 1 0) (cI xs) (gI xs) ≠ 0 then hE (xs.getD 1 0) (cI xs) (gI xs) else if (xs.length : Int) < 4 + 4 * gI xs then 2 else 0 := by rw [iE, if_neg (by omega), if_neg h0]
        have hh : ∀ s : Int, s = 8 + 24 * cI xs + (if xs.getD 1 0 = 200 then 20 else 0) → hE (xs.getD 1 0) (cI xs) (gI xs) = if 15 < cI xs ∨ 4 * (gI xs + 1) ≠ s then 1 else 0 := by
          rintro s rfl
          simp only [isRep, Bool.or_eq_true, decide_eq_true_eq] at hkt
          unfold hE
          rcases hkt with hk2 | hk2
          · rw [hk2, if_pos rfl, if_pos rfl]
            by_cases hq : 15 < cI xs ∨ gI xs ≠ 6 + 6 * cI xs
            · rw [if_pos hq, if_pos (by omega)]
            · rw [if_neg hq, if_neg (by omega)]
          · rw [hk2, if_neg (show ¬ (201 : Int) = 200 from by decide), if_pos rfl, if_neg (show ¬ (201 : Int) = 200 from by decide)]
            by_cases hq : 15 < cI xs ∨ gI xs ≠ 1 + 6 * cI xs
            · rw [if_pos hq, if_pos (by omega)]
            · rw [if_neg hq, if_neg (by omega)]
        have CG : Hid (∀ W, Below w.heap.size w W → Calls Try.prog 69 #[.slice (some ⟨b, off, none⟩) n c, .int .i64 2, .int .i64 2] W fun e w' => e = .returned (.tuple #[.int .u64 (gI xs), .bool true]) ∧ W = w') := fun W hW => by
          have := Fld.get_any (some ⟨b, off, none⟩) n c B 2 2 xs W hl hlc (hr.below (hW.mono hB))
          rwa [show numGet xs 2 2 = gI xs from (numGet_nb xs 2 2 (by omega) (by omega) (by omega)).trans (nb_two xs (by omega)), show withinB n 2 2 = true from by simp [withinB]; omega] at this
        obtain ⟨s, hs⟩ : ∃ s : Int, s = 8 + 24 * cI xs + (if xs.getD 1 0 = 200 then 20 else 0) := ⟨_, rfl⟩
        have hs1 : 0 ≤ s ∧ s ≤ 1000 := by rw [hs]; split <;> omega
        refine first_rest b off n c _ _ (cI xs) (gI xs) s w (by omega) hand' h31 hcI b1 hg c0 c1 hkt hs hs1 _ _ _ ?_ CG
        have hh' := hh s hs
        rw [e, hei, hh', hx]
        refine ⟨fun h15 => ?_, fun h15 hgs => ?_, fun h15 hgs hn => ?_, fun h15 hgs hn => ?_⟩
        · rw [if_pos (show 15 < cI xs ∨ 4 * (gI xs + 1) ≠ s from .inl h15)]; simp
        · rw [if_pos (show 15 < cI xs ∨ 4 * (gI xs + 1) ≠ s from .inr hgs)]; simp
        · rw [if_neg (show ¬ (15 < cI xs ∨ 4 * (gI xs + 1) ≠ s) from by omega)]; simp only [ne_eq, not_true, if_false]; rw [if_pos (show (n : Int) < 4 + 4 * gI xs from by omega)]; simp
        · rw [if_neg (show ¬ (15 < cI xs ∨ 4 * (gI xs + 1) ≠ s) from by omega)]; simp only [ne_eq, not_true, if_false]; rw [if_neg (show ¬ (n : Int) < 4 + 4 * gI xs from by omega)]; simp
end Go.Proofs.Ythmmafpmpnhleaa.Fbk

namespace Go.Proofs.Ythmmafpmpnhleaa.Fbk
open Go.RowKit
set_option linter.unusedVariables false

/-- A reader at q that stands at i. -/
abbrev RB (w : World) (q : Nat) (A : Option Addr) (n c i : Nat) : Prop := RWBlk 133 w q A n c i
set_option maxHeartbeats 1000000 in
theorem take_any (w : World) (q n c B i s : Nat) (A : Option Addr) (xs : List Int) (R : RB w q A n c i) (hr : Rd w B A n xs) (hl : n ≤ maxLen) (hlc : n ≤ c) (h1 : 1 ≤ s) (h2 : s ≤ 8) (h3 : i + s ≤ n) :
    Calls Try.prog 88 #[.pointer (some ⟨q, 0, none⟩), .int .i64 s] w fun e w' => e = .returned (.int .u64 (nb xs i s)) ∧ RB w' q A n c (i + s) ∧ Kp q q w w' := by
  have CG : Hid (∀ W, (∀ k : Nat, W.heap[k]? = w.heap[k]?) → Calls Try.prog 69 #[.slice A n c, .int .i64 i, .int .i64 s] W fun e w' => e = .returned (.tuple #[.int .u64 (nb xs i s), .bool true]) ∧ W = w') := fun W hW => by
    have hr' : Rd W B A n xs := ⟨hr.1, hr.2.1, fun hn => by
      obtain ⟨b, off, e, hlt, hc⟩ := hr.2.2 hn
      exact ⟨b, off, e, hlt, fun j hj => by rw [← hc j hj]; simp only [World.cell?, hW]⟩⟩
    have := Fld.get_any A n c B i s xs W hl hlc hr'
    rwa [numGet_nb xs i s h1 h2 (by rw [hr.1]; exact h3), show withinB n i s = true from by simp [withinB]; omega] at this
  have HR := Lib.hid R
  have hle : (i : Int) + s ≤ 9223372036854775807 := by unfold maxLen at hl; omega
  have hS : Srw 133 q A n c i w.drew := R
  have c0 : ∀ W, Srw 133 q A n c i W → W.cell? ⟨q, 0, none⟩ = some (.slice A n c) := fun W h => h.c0
  have c1 : ∀ W, Srw 133 q A n c i W → W.cell? ⟨q, 1, none⟩ = some (.int .i64 i) := fun W h => h.c1
  generalize nb xs i s = x at CG ⊢
  clear R hr hl
  go_enter Try.func88, Try.ntmps88
  go_wp2_with fail
  refine region_seq (Srw 133 q A n c i) [(0, false), (1, false), (2, false), (3, false), (4, false), (5, false), (6, false), (7, false), (8, false), (9, true), (10, false), (11, false), (12, false), (13, false), (14, false)] (by kernel_rfl) (by kernel_rfl) rfl (by kernel_rfl) ?_
  iterate 9 (refine seq_read (v := _) rfl (fun _ _ _ h => h) hS (Or.inl ⟨by rfl, fun W hW => by go_simp <;> with_reducible rfl⟩) ?_; simp only [Act.put, List.setIfInBounds_toArray, List.set_cons_zero, List.set_cons_succ])
  clear c0 c1
  refine seq_do rfl (fun K hK => ?_)
  go_simp
  refine (CG.out w.drew (fun _ => rfl)).mono ?_
  rintro e w' ⟨rfl, rfl⟩
  refine hK.out _ _ _ (fun W h => h) hS ?_
  clear hK K
  iterate 5 (refine seq_read (v := _) rfl (fun _ _ _ h => h) hS (Or.inl ⟨by rfl, fun W hW => by go_simp <;> with_reducible rfl⟩) ?_; simp only [Act.put, List.setIfInBounds_toArray, List.set_cons_zero, List.set_cons_succ])
  refine seq_end ?_
  have hw1 : RB w.drew q A n c i := HR.out
  have d1 := hw1.c1
  have d2 := hw1.frozen 1
  clear hw1 hS
  go_wp2
  go_ret
  refine ⟨rfl, HR.out.set1 (w := w.drew) _, ?_, ?_⟩
  · intro B h1 h2
    exact (Below.refl B w).drew.setCell (p := ⟨q, 1, none⟩) h2 _
  · intro k hi hg hq
    exact Below.heap_setCell w.drew ⟨q, 1, none⟩ _ k hq
set_option maxHeartbeats 1000000 in
theorem word_any (w : World) (q n c B i : Nat) (A : Option Addr) (xs : List Int) (R : RB w q A n c i) (hr : Rd w B A n xs) (hl : n ≤ maxLen) (hlc : n ≤ c) (h3 : i + 4 ≤ n) :
    Calls Try.prog 87 #[.pointer (some ⟨q, 0, none⟩)] w fun e w' => e = .returned (.int .u32 (nb xs i 4)) ∧ RB w' q A n c (i + 4) ∧ Kp q q w w' := by
  have CT := Lib.hid (take_any w q n c B i 4 A xs R hr hl hlc (by omega) (by omega) h3)
  have q1 := wrap_u32 _ (nb32 xs hr.2.1 i)
  generalize nb xs i 4 = x at CT q1 ⊢
  clear R hr
  go_enter Try.func87, Try.ntmps87
  go_wp2_with fail
  refine CT.out.mono ?_
  rintro e w' ⟨rfl, R', K'⟩
  have HR := Lib.hid R'
  have HK := Lib.hid K'
  clear R' K'
  go_wp2
  go_ret
  exact ⟨rfl, HR.out, HK.out⟩
/-- The block that stands at i. -/
def bloAt (xs : List Int) (i : Nat) : Blo := ⟨nb xs i 4, nb xs (i + 4) 1, nb xs (i + 5) 3, nb xs (i + 8) 4, nb xs (i + 12) 4, nb xs (i + 16) 4, nb xs (i + 20) 4⟩
set_option maxHeartbeats 1000000 in
theorem retK_at {W : World} {b : Nat} {x : Blo} {tmps : Array Value} {R : Ending → World → Prop} (D : KBlk W b x) (hR : R (.returned (bloV x)) W) (h2 : tmps[2]?.getD undef = .pointer (some ⟨b, 0, none⟩) := by rfl) :
    bodyPost Try.prog Try.f89 R .ret ⟨tmps, []⟩ W := by
  obtain ⟨c0, c1, c2, c3, c4, c5, c6⟩ := D.cells
  exact bodyPost_ret (v := bloV x) (by simp [results, Try.results89, go_sem, h2, c0, c1, c2, c3, c4, c5, c6]) rfl hR
theorem KBlk.store {w : World} {b : Nat} {x : Blo} (h : KBlk w b x) (u : Blo) :
    KBlk (((((((w.setCell ⟨b, 0, none⟩ (.int .u32 u.ssrc)).setCell ⟨b, 1, none⟩ (.int .u8 u.lost)).setCell ⟨b, 2, none⟩ (.int .u32 u.total)).setCell ⟨b, 3, none⟩ (.int .u32 u.high)).setCell ⟨b, 4, none⟩ (.int .u32 u.jit)).setCell ⟨b, 5, none⟩ (.int .u32 u.last)).setCell ⟨b, 6, none⟩ (.int .u32 u.delay)) b u :=
  ((((((h.set0 u.ssrc).set1 u.lost).set2 u.total).set3 u.high).set4 u.jit).set5 u.last).set6 u.delay
theorem Kp.setNew {q b k : Nat} {w w' : World} (h : Kp q q w w') (hb : w.heap.size ≤ b) (hq : q < w.heap.size) (u : Value) : Kp q q w (w'.setCell ⟨b, k, none⟩ u) :=
  ⟨fun B h1 h2 => (h.below B h1 h2).setCell (p := ⟨b, k, none⟩) (by show B ≤ b; omega) u, fun i hi h1 h2 => (Below.heap_setCell w' ⟨b, k, none⟩ u i (by show i ≠ b; omega)).trans (h.keep i hi h1 h2)⟩
abbrev kst (w : World) (b : Nat) (u : Blo) : World := ((((((w.setCell ⟨b, 0, none⟩ (.int .u32 u.ssrc)).setCell ⟨b, 1, none⟩ (.int .u8 u.lost)).setCell ⟨b, 2, none⟩ (.int .u32 u.total)).setCell ⟨b, 3, none⟩ (.int .u32 u.high)).setCell ⟨b, 4, none⟩ (.int .u32 u.jit)).setCell ⟨b, 5, none⟩ (.int .u32 u.last)).setCell ⟨b, 6, none⟩ (.int .u32 u.delay)
theorem Kp.kst {q b : Nat} {w w' : World} (h : Kp q q w w') (hb : w.heap.size ≤ b) (hq : q < w.heap.size) (u : Blo) : Kp q q w (kst w' b u) :=
  ((((((h.setNew hb hq _).setNew hb hq _).setNew hb hq _).setNew hb hq _).setNew hb hq _).setNew hb hq _).setNew hb hq _
theorem RWBlk.kst {t : TypeId} {w : World} {q n c b : Nat} {A : Option Addr} {i : Int} (h : RWBlk t w q A n c i) (hp : b ≠ q) (u : Blo) : RWBlk t (kst w b u) q A n c i :=
  ((((((h.off (p := ⟨b, 0, none⟩) hp _).off (p := ⟨b, 1, none⟩) hp _).off (p := ⟨b, 2, none⟩) hp _).off (p := ⟨b, 3, none⟩) hp _).off (p := ⟨b, 4, none⟩) hp _).off (p := ⟨b, 5, none⟩) hp _).off (p := ⟨b, 6, none⟩) hp _

set_option maxHeartbeats 8000000 in
theorem block_any (w : World) (q n c B i : Nat) (A : Option Addr) (xs : List Int) (R : RB w q A n c i) (hr : Rd w B A n xs) (hB : B ≤ q) (hl : n ≤ maxLen) (hlc : n ≤ c) (h3 : i + 24 ≤ n) :
    Calls Try.prog 89 #[.pointer (some ⟨q, 0, none⟩)] w fun e w' => e = .returned (bloV (bloAt xs i)) ∧ RB w' q A n c (i + 24) ∧ Kp q q w w' := by
  have hqw := R.lt
  have HQ := Lib.hid hqw
  have C0 : Hid (∀ W, Kp q q w W → RB W q A n c (i) → Calls Try.prog 87 #[.pointer (some ⟨q, 0, none⟩)] W fun e w' => e = .returned (.int .u32 (nb xs (i) 4)) ∧ RB w' q A n c (i + 4) ∧ Kp q q W w') := fun W hW hR => word_any W q n c B (i) A xs hR (hr.below (hW.below B hB hB)) hl hlc (by omega)
  have C1 : Hid (∀ W, Kp q q w W → RB W q A n c (i + 4) → Calls Try.prog 88 #[.pointer (some ⟨q, 0, none⟩), .int .i64 1] W fun e w' => e = .returned (.int .u64 (nb xs (i + 4) 1)) ∧ RB w' q A n c (i + 4 + 1) ∧ Kp q q W w') := fun W hW hR => take_any W q n c B (i + 4) 1 A xs hR (hr.below (hW.below B hB hB)) hl hlc (by omega) (by omega) (by omega)
  have C2 : Hid (∀ W, Kp q q w W → RB W q A n c (i + 5) → Calls Try.prog 88 #[.pointer (some ⟨q, 0, none⟩), .int .i64 3] W fun e w' => e = .returned (.int .u64 (nb xs (i + 5) 3)) ∧ RB w' q A n c (i + 5 + 3) ∧ Kp q q W w') := fun W hW hR => take_any W q n c B (i + 5) 3 A xs hR (hr.below (hW.below B hB hB)) hl hlc (by omega) (by omega) (by omega)
  have C3 : Hid (∀ W, Kp q q w W → RB W q A n c (i + 8) → Calls Try.prog 87 #[.pointer (some ⟨q, 0, none⟩)] W fun e w' => e = .returned (.int .u32 (nb xs (i + 8) 4)) ∧ RB w' q A n c (i + 8 + 4) ∧ Kp q q W w') := fun W hW hR => word_any W q n c B (i + 8) A xs hR (hr.below (hW.below B hB hB)) hl hlc (by omega)
  have C4 : Hid (∀ W, Kp q q w W → RB W q A n c (i + 12) → Calls Try.prog 87 #[.pointer (some ⟨q, 0, none⟩)] W fun e w' => e = .returned (.int .u32 (nb xs (i + 12) 4)) ∧ RB w' q A n c (i + 12 + 4) ∧ Kp q q W w') := fun W hW hR => word_any W q n c B (i + 12) A xs hR (hr.below (hW.below B hB hB)) hl hlc (by omega)
  have C5 : Hid (∀ W, Kp q q w W → RB W q A n c (i + 16) → Calls Try.prog 87 #[.pointer (some ⟨q, 0, none⟩)] W fun e w' => e = .returned (.int .u32 (nb xs (i + 16) 4)) ∧ RB w' q A n c (i + 16 + 4) ∧ Kp q q W w') := fun W hW hR => word_any W q n c B (i + 16) A xs hR (hr.below (hW.below B hB hB)) hl hlc (by omega)
  have C6 : Hid (∀ W, Kp q q w W → RB W q A n c (i + 20) → Calls Try.prog 87 #[.pointer (some ⟨q, 0, none⟩)] W fun e w' => e = .returned (.int .u32 (nb xs (i + 20) 4)) ∧ RB w' q A n c (i + 20 + 4) ∧ Kp q q W w') := fun W hW hR => word_any W q n c B (i + 20) A xs hR (hr.below (hW.below B hB hB)) hl hlc (by omega)
  have q1 := wrap_u8 (nb xs (i + 4) 1) (by have := nb_bd xs hr.2.1 (i + 4) 1; omega)
  have q2 := wrap_u32 (nb xs (i + 5) 3) ⟨(nb_bd xs hr.2.1 (i + 5) 3).1, by have := nb_bd xs hr.2.1 (i + 5) 3; omega⟩
  unfold bloAt
  generalize nb xs (i) 4 = y0 at *
  generalize nb xs (i + 4) 1 = y1 at *
  generalize nb xs (i + 5) 3 = y2 at *
  generalize nb xs (i + 8) 4 = y3 at *
  generalize nb xs (i + 12) 4 = y4 at *
  generalize nb xs (i + 16) 4 = y5 at *
  generalize nb xs (i + 20) 4 = y6 at *
  have A1 := (Below.refl w.heap.size w).alloc (Nat.le_refl _) (bloO zblo)
  have A2 := A1.alloc A1.size (bloO zblo)
  have HK0 : Hid (Kp q q w ((w.alloc (bloO zblo)).alloc (bloO zblo))) := (Kp.refl q q w).bel A2 hqw hqw
  have HR0 : Hid (RB ((w.alloc (bloO zblo)).alloc (bloO zblo)) q A n c i) := R.bel A2
  have HZ0 : Hid (KBlk ((w.alloc (bloO zblo)).alloc (bloO zblo)) w.heap.size zblo) := (KBlk.new w zblo).bel ((Below.refl _ _).alloc (Nat.le_refl _) (bloO zblo))
  have HD0 : Hid (KBlk ((w.alloc (bloO zblo)).alloc (bloO zblo)) (w.heap.size + 1) zblo) := by
    have := KBlk.new (w.alloc (bloO zblo)) zblo
    exact (by simpa using this : KBlk ((w.alloc (bloO zblo)).alloc (bloO zblo)) (w.heap.size + 1) zblo)
  have hn1 : w.heap.size ≠ q := by omega
  have hn2 : w.heap.size + 1 ≠ q := by omega
  clear R hr hqw A1 A2 hl
  go_enter Try.func89, Try.ntmps89
  go_wp2_with fail
  refine (C0.out _ HK0.out HR0.out).mono ?_
  rintro e w1 ⟨rfl, R1, K1⟩
  have Z1 := K1.kblk HZ0.out hn1 hn1
  have D1 := K1.kblk HD0.out hn2 hn2
  have d0 := D1.c0
  have f0 := D1.frozen 0
  have HK1 : Hid (Kp q q w (w1.setCell ⟨w.heap.size + 1, 0, none⟩ (.int .u32 y0))) := (HK0.out.trans K1).setNew (by omega) HQ.out _
  have HR1 : Hid (RB (w1.setCell ⟨w.heap.size + 1, 0, none⟩ (.int .u32 y0)) q A n c (i + 4)) := R1.off (p := ⟨w.heap.size + 1, 0, none⟩) hn2 _
  have HZ1 : Hid (KBlk (w1.setCell ⟨w.heap.size + 1, 0, none⟩ (.int .u32 y0)) w.heap.size zblo) := Z1.off (p := ⟨w.heap.size + 1, 0, none⟩) (by simp) _
  have HD1 : Hid (KBlk (w1.setCell ⟨w.heap.size + 1, 0, none⟩ (.int .u32 y0)) (w.heap.size + 1) ⟨y0, 0, 0, 0, 0, 0, 0⟩) := D1.set0 y0
  clear R1 K1 Z1 D1 HK0 HR0 HZ0 HD0 C0
  go_wp2_with fail
  refine (C1.out _ HK1.out HR1.out).mono ?_
  rintro e w2 ⟨rfl, R2, K2⟩
  have Z2 := K2.kblk HZ1.out hn1 hn1
  have D2 := K2.kblk HD1.out hn2 hn2
  have d1 := D2.c1
  have f1 := D2.frozen 1
  have HK2 : Hid (Kp q q w (w2.setCell ⟨w.heap.size + 1, 1, none⟩ (.int .u8 y1))) := (HK1.out.trans K2).setNew (by omega) HQ.out _
  have HR2 : Hid (RB (w2.setCell ⟨w.heap.size + 1, 1, none⟩ (.int .u8 y1)) q A n c (i + 5)) := R2.off (p := ⟨w.heap.size + 1, 1, none⟩) hn2 _
  have HZ2 : Hid (KBlk (w2.setCell ⟨w.heap.size + 1, 1, none⟩ (.int .u8 y1)) w.heap.size zblo) := Z2.off (p := ⟨w.heap.size + 1, 1, none⟩) (by simp) _
  have HD2 : Hid (KBlk (w2.setCell ⟨w.heap.size + 1, 1, none⟩ (.int .u8 y1)) (w.heap.size + 1) ⟨y0, y1, 0, 0, 0, 0, 0⟩) := D2.set1 y1
  clear R2 K2 Z2 D2 HK1 HR1 HZ1 HD1 C1
  clear f0 d0
  go_wp2_with fail
  refine (C2.out _ HK2.out HR2.out).mono ?_
  rintro e w3 ⟨rfl, R3, K3⟩
  have Z3 := K3.kblk HZ2.out hn1 hn1
  have D3 := K3.kblk HD2.out hn2 hn2
  have d2 := D3.c2
  have f2 := D3.frozen 2
  have HK3 : Hid (Kp q q w (w3.setCell ⟨w.heap.size + 1, 2, none⟩ (.int .u32 y2))) := (HK2.out.trans K3).setNew (by omega) HQ.out _
  have HR3 : Hid (RB (w3.setCell ⟨w.heap.size + 1, 2, none⟩ (.int .u32 y2)) q A n c (i + 8)) := R3.off (p := ⟨w.heap.size + 1, 2, none⟩) hn2 _
  have HZ3 : Hid (KBlk (w3.setCell ⟨w.heap.size + 1, 2, none⟩ (.int .u32 y2)) w.heap.size zblo) := Z3.off (p := ⟨w.heap.size + 1, 2, none⟩) (by simp) _
  have HD3 : Hid (KBlk (w3.setCell ⟨w.heap.size + 1, 2, none⟩ (.int .u32 y2)) (w.heap.size + 1) ⟨y0, y1, y2, 0, 0, 0, 0⟩) := D3.set2 y2
  clear R3 K3 Z3 D3 HK2 HR2 HZ2 HD2 C2
  clear f1 d1
  go_wp2_with fail
  refine (C3.out _ HK3.out HR3.out).mono ?_
  rintro e w4 ⟨rfl, R4, K4⟩
  have Z4 := K4.kblk HZ3.out hn1 hn1
  have D4 := K4.kblk HD3.out hn2 hn2
  have d3 := D4.c3
  have f3 := D4.frozen 3
  have HK4 : Hid (Kp q q w (w4.setCell ⟨w.heap.size + 1, 3, none⟩ (.int .u32 y3))) := (HK3.out.trans K4).setNew (by omega) HQ.out _
  have HR4 : Hid (RB (w4.setCell ⟨w.heap.size + 1, 3, none⟩ (.int .u32 y3)) q A n c (i + 12)) := R4.off (p := ⟨w.heap.size + 1, 3, none⟩) hn2 _
  have HZ4 : Hid (KBlk (w4.setCell ⟨w.heap.size + 1, 3, none⟩ (.int .u32 y3)) w.heap.size zblo) := Z4.off (p := ⟨w.heap.size + 1, 3, none⟩) (by simp) _
  have HD4 : Hid (KBlk (w4.setCell ⟨w.heap.size + 1, 3, none⟩ (.int .u32 y3)) (w.heap.size + 1) ⟨y0, y1, y2, y3, 0, 0, 0⟩) := D4.set3 y3
  clear R4 K4 Z4 D4 HK3 HR3 HZ3 HD3 C3
  clear f2 d2
  go_wp2_with fail
  refine (C4.out _ HK4.out HR4.out).mono ?_
  rintro e w5 ⟨rfl, R5, K5⟩
  have Z5 := K5.kblk HZ4.out hn1 hn1
  have D5 := K5.kblk HD4.out hn2 hn2
  have d4 := D5.c4
  have f4 := D5.frozen 4
  have HK5 : Hid (Kp q q w (w5.setCell ⟨w.heap.size + 1, 4, none⟩ (.int .u32 y4))) := (HK4.out.trans K5).setNew (by omega) HQ.out _
  have HR5 : Hid (RB (w5.setCell ⟨w.heap.size + 1, 4, none⟩ (.int .u32 y4)) q A n c (i + 16)) := R5.off (p := ⟨w.heap.size + 1, 4, none⟩) hn2 _
  have HZ5 : Hid (KBlk (w5.setCell ⟨w.heap.size + 1, 4, none⟩ (.int .u32 y4)) w.heap.size zblo) := Z5.off (p := ⟨w.heap.size + 1, 4, none⟩) (by simp) _
  have HD5 : Hid (KBlk (w5.setCell ⟨w.heap.size + 1, 4, none⟩ (.int .u32 y4)) (w.heap.size + 1) ⟨y0, y1, y2, y3, y4, 0, 0⟩) := D5.set4 y4
  clear R5 K5 Z5 D5 HK4 HR4 HZ4 HD4 C4
  clear f3 d3
  go_wp2_with fail
  refine (C5.out _ HK5.out HR5.out).mono ?_
  rintro e w6 ⟨rfl, R6, K6⟩
  have Z6 := K6.kblk HZ5.out hn1 hn1
  have D6 := K6.kblk HD5.out hn2 hn2
  have d5 := D6.c5
  have f5 := D6.frozen 5
  have HK6 : Hid (Kp q q w (w6.setCell ⟨w.heap.size + 1, 5, none⟩ (.int .u32 y5))) := (HK5.out.trans K6).setNew (by omega) HQ.out _
  have HR6 : Hid (RB (w6.setCell ⟨w.heap.size + 1, 5, none⟩ (.int .u32 y5)) q A n c (i + 20)) := R6.off (p := ⟨w.heap.size + 1, 5, none⟩) hn2 _
  have HZ6 : Hid (KBlk (w6.setCell ⟨w.heap.size + 1, 5, none⟩ (.int .u32 y5)) w.heap.size zblo) := Z6.off (p := ⟨w.heap.size + 1, 5, none⟩) (by simp) _
  have HD6 : Hid (KBlk (w6.setCell ⟨w.heap.size + 1, 5, none⟩ (.int .u32 y5)) (w.heap.size + 1) ⟨y0, y1, y2, y3, y4, y5, 0⟩) := D6.set5 y5
  clear R6 K6 Z6 D6 HK5 HR5 HZ5 HD5 C5
  clear f4 d4
  go_wp2_with fail
  refine (C6.out _ HK6.out HR6.out).mono ?_
  rintro e w7 ⟨rfl, R7, K7⟩
  have Z7 := K7.kblk HZ6.out hn1 hn1
  have D7 := K7.kblk HD6.out hn2 hn2
  have d6 := D7.c6
  have f6 := D7.frozen 6
  have HK7 : Hid (Kp q q w (w7.setCell ⟨w.heap.size + 1, 6, none⟩ (.int .u32 y6))) := (HK6.out.trans K7).setNew (by omega) HQ.out _
  have HR7 : Hid (RB (w7.setCell ⟨w.heap.size + 1, 6, none⟩ (.int .u32 y6)) q A n c (i + 24)) := R7.off (p := ⟨w.heap.size + 1, 6, none⟩) hn2 _
  have HZ7 : Hid (KBlk (w7.setCell ⟨w.heap.size + 1, 6, none⟩ (.int .u32 y6)) w.heap.size zblo) := Z7.off (p := ⟨w.heap.size + 1, 6, none⟩) (by simp) _
  have d0 := D7.c0
  have d1 := D7.c1
  have d2 := D7.c2
  have d3 := D7.c3
  have d4 := D7.c4
  have d5 := D7.c5
  have z0 := Z7.c0
  have y0f := Z7.frozen 0
  have z1 := Z7.c1
  have y1f := Z7.frozen 1
  have z2 := Z7.c2
  have y2f := Z7.frozen 2
  have z3 := Z7.c3
  have y3f := Z7.frozen 3
  have z4 := Z7.c4
  have y4f := Z7.frozen 4
  have z5 := Z7.c5
  have y5f := Z7.frozen 5
  have z6 := Z7.c6
  have y6f := Z7.frozen 6
  have HD7 : Hid (KBlk (w7.setCell ⟨w.heap.size + 1, 6, none⟩ (.int .u32 y6)) (w.heap.size + 1) ⟨y0, y1, y2, y3, y4, y5, y6⟩) := D7.set6 y6
  clear R7 K7 Z7 D7 HK6 HR6 HZ6 HD6 C6
  clear f5
  go_wp2
  exact retK_at (HZ7.out.store ⟨y0, y1, y2, y3, y4, y5, y6⟩) ⟨rfl, HR7.out.kst hn1 ⟨y0, y1, y2, y3, y4, y5, y6⟩, HK7.out.kst (Nat.le_refl _) HQ.out ⟨y0, y1, y2, y3, y4, y5, y6⟩⟩

end Go.Proofs.Ythmmafpmpnhleaa.Fbk
