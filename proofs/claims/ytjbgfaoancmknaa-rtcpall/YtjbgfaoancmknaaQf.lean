/- The contracts of report's first and of its reader: take, word, block. -/
import Derived.Test.YtjbgfaoancmknaaQd
namespace Go.Proofs.Ytjbgfaoancmknaa.Fbk
open Go.RowKit
set_option linter.unusedVariables false

theorem numGet_nb (xs : List Int) (i s : Nat) (h1 : 1 ≤ s) (h2 : s ≤ 8) (h3 : i + s ≤ xs.length) : numGet xs i s = nb xs i s := by
  have hw : withinB xs.length i s = true := by simp [withinB]; omega
  rw [numGet, hw, if_pos rfl]; rfl
theorem byte_all (p : Int → Bool) (h : (List.range 256).all (fun n => p n) = true) (x : Int) (h0 : 0 ≤ x) (h1 : x ≤ 255) : p x = true := by
  obtain ⟨n, rfl⟩ := Int.eq_ofNat_of_zero_le h0
  exact List.all_eq_true.1 h n (List.mem_range.2 (by omega))
theorem and_224 (x : Int) (h0 : 0 ≤ x) (h1 : x ≤ 255) : (bits BinOp.and IntKind.u8 x 224 != 128) = decide (x / 32 ≠ 4) :=
  of_decide_eq_true (byte_all (fun x => decide ((bits BinOp.and IntKind.u8 x 224 != 128) = decide (x / 32 ≠ 4))) (by decide +kernel) x h0 h1)
theorem and_31 (x : Int) (h0 : 0 ≤ x) (h1 : x ≤ 255) : bits BinOp.and IntKind.u8 x 31 = x % 32 :=
  of_decide_eq_true (byte_all (fun x => decide (bits BinOp.and IntKind.u8 x 31 = x % 32)) (by decide +kernel) x h0 h1)
theorem nb_two (xs : List Int) (h : 4 ≤ xs.length) : nb xs 2 2 = gI xs := by
  obtain ⟨x0, x1, x2, x3, r, rfl⟩ : ∃ x0 x1 x2 x3 r, xs = x0 :: x1 :: x2 :: x3 :: r := by
    match xs, h with
    | x0 :: x1 :: x2 :: x3 :: r, _ => exact ⟨_, _, _, _, _, rfl⟩
  simp [nb, gI, num]

/-- What a report's reader tells is wrong. -/
def rE (b : List Int) : Int := if b.length < 4 then 2 else if b.getD 0 0 / 32 ≠ 4 then 1 else if isRep (b.getD 1 0) = false then 4 else iE b
def RetF (w : World) (k c n : Int) (e : Ending) (w' : World) : Prop := e = .returned (.tuple #[.int .i64 k, .int .i64 c, .int .i64 n]) ∧ Below w.heap.size w w'

set_option maxHeartbeats 1000000 in
theorem first_short (a : Option Addr) (n c : Nat) (w : World) (h : n < 4) : Calls Try.prog 49 #[.slice a n c] w (RetF w 0 0 2) := by
  have h' : (n : Int) < 4 := by omega
  go_enter Try.func49, Try.ntmps49
  go_wp2
  go_ret3
  exact ⟨rfl, Below.refl _ _⟩
set_option maxHeartbeats 1000000 in
theorem first_form (b off n c : Nat) (x0 : Int) (w : World) (h : 4 ≤ n) (hx : (bits BinOp.and IntKind.u8 x0 224 != 128) = true) (c0 : w.cell? ⟨b, off, none⟩ = some (.int .u8 x0)) : Calls Try.prog 49 #[.slice (some ⟨b, off, none⟩) n c] w (RetF w 0 0 1) := by
  have h' : ¬ (n : Int) < 4 := by omega
  have h0 : 0 < n := by omega
  go_enter Try.func49, Try.ntmps49
  go_wp2
  go_ret3
  exact ⟨rfl, Below.refl _ _⟩
def Fst (x0 x1 : Int) (b off : Nat) (W : World) : Prop := W.cell? ⟨b, off, none⟩ = some (.int .u8 x0) ∧ W.cell? ⟨b, off + 1, none⟩ = some (.int .u8 x1)
set_option maxHeartbeats 1000000 in
theorem first_kind (b off n c : Nat) (x0 x1 y : Int) (w : World) (h : 4 ≤ n) (hx : (bits BinOp.and IntKind.u8 x0 224 != 128) = false) (hy : bits BinOp.and IntKind.u8 x0 31 = y) (hy1 : 0 ≤ y ∧ y ≤ 31) (hx1 : 0 ≤ x1 ∧ x1 ≤ 255) (c0 : w.cell? ⟨b, off, none⟩ = some (.int .u8 x0)) (c1 : w.cell? ⟨b, off + 1, none⟩ = some (.int .u8 x1)) (hk : isRep x1 = false) : Calls Try.prog 49 #[.slice (some ⟨b, off, none⟩) n c] w (RetF w 0 0 4) := by
  have h' : ¬ (n : Int) < 4 := by omega
  have h0 : 0 < n := by omega
  have hp1 : 1 < n := by omega
  have hi1 : (1 : Int) < n := by omega
  have q1 : IntKind.i64.wrap x1 = x1 := IntWalk.i64_in _ (by omega)
  have q2 : IntKind.i64.wrap y = y := IntWalk.i64_in _ (by omega)
  have CK : Hid (∀ W, Calls Try.prog 33 #[.int .i64 x1] W fun e w' => e = .returned (.bool false) ∧ W = w') := fun W => hk ▸ kindMay_any x1 W
  have hS : Fst x0 x1 b off w.drew := ⟨c0, c1⟩
  have C0 : ∀ W, Fst x0 x1 b off W → W.cell? ⟨b, off, none⟩ = some (.int .u8 x0) := fun W h => h.1
  have C1 : ∀ W, Fst x0 x1 b off W → W.cell? ⟨b, off + 1, none⟩ = some (.int .u8 x1) := fun W h => h.2
  clear hk
  go_enter Try.func49, Try.ntmps49
  go_wp2_with fail
  refine region_seq (Fst x0 x1 b off) [(0, false), (1, false), (2, false), (3, false), (4, false), (5, false), (6, false), (7, false), (8, false), (9, false), (10, false)] (by kernel_rfl) (by kernel_rfl) rfl (by kernel_rfl) ?_
  iterate 11 (refine seq_read (v := _) rfl (fun _ _ _ h => h) hS (Or.inl ⟨by rfl, fun W hW => by go_simp <;> with_reducible rfl⟩) ?_; simp only [Act.put, List.setIfInBounds_toArray, List.set_cons_zero, List.set_cons_succ])
  refine seq_end ?_
  clear hS C0 C1
  go_wp2_with fail
  refine (CK.out _).mono ?_
  rintro e w' ⟨rfl, rfl⟩
  go_wp2
  go_ret3
  exact ⟨rfl, (Below.refl _ _).drew⟩
set_option maxHeartbeats 4000000 in
/-- Behind the kind: m the count, g the words, s what so many blocks make. -/
theorem first_rest (b off n c : Nat) (x0 x1 m g s : Int) (w : World) (h : 4 ≤ n) (hx : (bits BinOp.and IntKind.u8 x0 224 != 128) = false) (hy : bits BinOp.and IntKind.u8 x0 31 = m) (hy1 : 0 ≤ m ∧ m ≤ 31) (hx1 : 0 ≤ x1 ∧ x1 ≤ 255) (hg : 0 ≤ g ∧ g ≤ 65535) (c0 : w.cell? ⟨b, off, none⟩ = some (.int .u8 x0)) (c1 : w.cell? ⟨b, off + 1, none⟩ = some (.int .u8 x1)) (hk : isRep x1 = true)
    (hs : s = 8 + 24 * m + (if x1 = 200 then 20 else 0)) (hs1 : 0 ≤ s ∧ s ≤ 1000) (k0 m0 e0 : Int) (hR : Hid ((15 < m → k0 = 0 ∧ m0 = 0 ∧ e0 = 1) ∧ (¬ 15 < m → 4 * (g + 1) ≠ s → k0 = 0 ∧ m0 = 0 ∧ e0 = 1) ∧ (¬ 15 < m → 4 * (g + 1) = s → (n : Int) < s → k0 = 0 ∧ m0 = 0 ∧ e0 = 2) ∧ (¬ 15 < m → 4 * (g + 1) = s → ¬ (n : Int) < s → k0 = x1 ∧ m0 = m ∧ e0 = 0)))
    (CG : Hid (∀ W, Below w.heap.size w W → Calls Try.prog 38 #[.slice (some ⟨b, off, none⟩) n c, .int .i64 2, .int .i64 2] W fun e w' => e = .returned (.tuple #[.int .u64 g, .bool true]) ∧ W = w')) :
    Calls Try.prog 49 #[.slice (some ⟨b, off, none⟩) n c] w (RetF w k0 m0 e0) := by
  have h' : ¬ (n : Int) < 4 := by omega
  have h0 : 0 < n := by omega
  have hp1 : 1 < n := by omega
  have hi1 : (1 : Int) < n := by omega
  have q1 : IntKind.i64.wrap x1 = x1 := IntWalk.i64_in _ (by omega)
  have q2 : IntKind.i64.wrap m = m := IntWalk.i64_in _ (by omega)
  have q3 : IntKind.i64.wrap g = g := IntWalk.i64_in _ (by omega)
  have CK : Hid (∀ W, Calls Try.prog 33 #[.int .i64 x1] W fun e w' => e = .returned (.bool true) ∧ W = w') := fun W => hk ▸ kindMay_any x1 W
  have CS : Hid (∀ W, Calls Try.prog 45 #[.int .i64 x1, .int .i64 m] W fun e w' => e = .returned (.int .i64 s) ∧ W = w') := fun W => hs ▸ sizeOf_any x1 m W (by omega) (by omega)
  have hS : Fst x0 x1 b off w.drew := ⟨c0, c1⟩
  have C0 : ∀ W, Fst x0 x1 b off W → W.cell? ⟨b, off, none⟩ = some (.int .u8 x0) := fun W h => h.1
  have C1 : ∀ W, Fst x0 x1 b off W → W.cell? ⟨b, off + 1, none⟩ = some (.int .u8 x1) := fun W h => h.2
  clear hk hs
  go_enter Try.func49, Try.ntmps49
  go_wp2_with fail
  refine region_seq (Fst x0 x1 b off) [(0, false), (1, false), (2, false), (3, false), (4, false), (5, false), (6, false), (7, false), (8, false), (9, false), (10, false)] (by kernel_rfl) (by kernel_rfl) rfl (by kernel_rfl) ?_
  iterate 11 (refine seq_read (v := _) rfl (fun _ _ _ h => h) hS (Or.inl ⟨by rfl, fun W hW => by go_simp <;> with_reducible rfl⟩) ?_; simp only [Act.put, List.setIfInBounds_toArray, List.set_cons_zero, List.set_cons_succ])
  refine seq_end ?_
  clear hS C0 C1
  go_wp2_with fail
  refine (CK.out _).mono ?_
  rintro e w' ⟨rfl, rfl⟩
  go_wp2_with fail
  refine (CG.out _ (Below.refl _ _).drew).mono ?_
  rintro e w' ⟨rfl, rfl⟩
  go_wp2_with fail
  refine (CS.out _).mono ?_
  rintro e w' ⟨rfl, rfl⟩
  by_cases h15 : 15 < m
  · obtain ⟨rfl, rfl, rfl⟩ := hR.out.1 h15
    go_wp2
    go_ret3
    exact ⟨rfl, (Below.refl _ _).drew⟩
  · by_cases hgs : 4 * (g + 1) = s
    · by_cases hl : (n : Int) < s
      · obtain ⟨rfl, rfl, rfl⟩ := hR.out.2.2.1 (by omega) hgs (by omega)
        go_wp2
        go_ret3
        exact ⟨rfl, (Below.refl _ _).drew⟩
      · obtain ⟨rfl, rfl, rfl⟩ := hR.out.2.2.2 (by omega) hgs (by omega)
        go_wp2
        go_ret3
        exact ⟨rfl, (Below.refl _ _).drew⟩
    · obtain ⟨rfl, rfl, rfl⟩ := hR.out.2.1 (by omega) hgs
      have hgs' : (4 * (g + 1) != s) = true := by simpa using hgs
      clear hR hgs
      go_wp2
      go_ret3
      exact ⟨rfl, (Below.refl _ _).drew⟩
/-- What first tells: the kind, the count, the error. -/
theorem first_any (a : Option Addr) (n c B : Nat) (xs : List Int) (w : World) (hl : n ≤ maxLen) (hlc : n ≤ c) (hr : Rd w B a n xs) (hB : B ≤ w.heap.size) :
    Calls Try.prog 49 #[.slice a n c] w (RetF w (if rE xs = 0 then xs.getD 1 0 else 0) (if rE xs = 0 then cI xs else 0) (rE xs)) := by
  have hx := hr.1
  have hb := hr.2.1
  by_cases h4 : n < 4
  · rw [show rE xs = 2 from by rw [rE, if_pos (by omega)]]
    exact first_short a n c w h4
  · obtain ⟨b, off, rfl, hbB, hc⟩ := hr.2.2 (by omega)
    have b0 := hb.getD 0
    have b1 := hb.getD 1
    have b2 := hb.getD 2
    have b3 := hb.getD 3
    have c0 := hc 0 (by omega)
    have c1 := hc 1 (by omega)
    rw [Nat.add_zero] at c0
    have hand := and_224 _ b0.1 b0.2
    by_cases h0 : xs.getD 0 0 / 32 ≠ 4
    · rw [show rE xs = 1 from by rw [rE, if_neg (by omega), if_pos h0]]
      exact first_form b off n c _ w (by omega) (by rw [hand]; exact decide_eq_true h0) c0
    · have hand' := hand.trans (decide_eq_false h0)
      have h31 := and_31 _ b0.1 b0.2
      have hcI : 0 ≤ cI xs ∧ cI xs ≤ 31 := by unfold cI; omega
      by_cases hk : isRep (xs.getD 1 0) = false
      · rw [show rE xs = 4 from by rw [rE, if_neg (by omega), if_neg h0, if_pos hk]]
        exact first_kind b off n c _ _ (cI xs) w (by omega) hand' h31 hcI b1 c0 c1 hk
      · have hkt : isRep (xs.getD 1 0) = true := by simpa using hk
        have hg : 0 ≤ gI xs ∧ gI xs ≤ 65535 := by unfold gI; omega
        have e : rE xs = iE xs := by rw [rE, if_neg (by omega), if_neg h0, if_neg hk]
        have hei : iE xs = if hE (xs.getD 1 0) (cI xs) (gI xs) ≠ 0 then hE (xs.getD 1 0) (cI xs) (gI xs) else if (xs.length : Int) < 4 + 4 * gI xs then 2 else 0 := by rw [iE, if_neg (by omega), if_neg h0]
        have hh : ∀ s : Int, s = 8 + 24 * cI xs + (if xs.getD 1 0 = 200 then 20 else 0) → hE (xs.getD 1 0) (cI xs) (gI xs) = if 15 < cI xs ∨ 4 * (gI xs + 1) ≠ s then 1 else 0 := by
          rintro s rfl
          simp only [isRep, Bool.or_eq_true, decide_eq_true_eq] at hkt
          unfold hE
          rcases hkt with hk2 | hk2
          · rw [hk2, if_pos rfl, if_pos rfl]
            by_cases hq : 15 < cI xs ∨ gI xs ≠ 6 + 6 * cI xs
            · rw [if_pos hq, if_pos (by omega)]
            · rw [if_neg hq, if_neg (by omega)]
          · rw [hk2, if_neg (show ¬ (201 : Int) = 200 from by decide), if_pos rfl, if_neg (show ¬ (201 : Int) = 200 from by decide)]
            by_cases hq : 15 < cI xs ∨ gI xs ≠ 1 + 6 * cI xs
            · rw [if_pos hq, if_pos (by omega)]
            · rw [if_neg hq, if_neg (by omega)]
        have CG : Hid (∀ W, Below w.heap.size w W → Calls Try.prog 38 #[.slice (some ⟨b, off, none⟩) n c, .int .i64 2, .int .i64 2] W fun e w' => e = .returned (.tuple #[.int .u64 (gI xs), .bool true]) ∧ W = w') := fun W hW => by
          have := Fld.get_any (some ⟨b, off, none⟩) n c B 2 2 xs W hl hlc (hr.below (hW.mono hB))
          rwa [show numGet xs 2 2 = gI xs from (numGet_nb xs 2 2 (by omega) (by omega) (by omega)).trans (nb_two xs (by omega)), show withinB n 2 2 = true from by simp [withinB]; omega] at this
        obtain ⟨s, hs⟩ : ∃ s : Int, s = 8 + 24 * cI xs + (if xs.getD 1 0 = 200 then 20 else 0) := ⟨_, rfl⟩
        have hs1 : 0 ≤ s ∧ s ≤ 1000 := by rw [hs]; split <;> omega
        refine first_rest b off n c _ _ (cI xs) (gI xs) s w (by omega) hand' h31 hcI b1 hg c0 c1 hkt hs hs1 _ _ _ ?_ CG
        have hh' := hh s hs
        rw [e, hei, hh', hx]
        refine ⟨fun h15 => ?_, fun h15 hgs => ?_, fun h15 hgs hn => ?_, fun h15 hgs hn => ?_⟩
        · rw [if_pos (show 15 < cI xs ∨ 4 * (gI xs + 1) ≠ s from .inl h15)]; simp
        · rw [if_pos (show 15 < cI xs ∨ 4 * (gI xs + 1) ≠ s from .inr hgs)]; simp
        · rw [if_neg (show ¬ (15 < cI xs ∨ 4 * (gI xs + 1) ≠ s) from by omega)]; simp only [ne_eq, not_true, if_false]; rw [if_pos (show (n : Int) < 4 + 4 * gI xs from by omega)]; simp
        · rw [if_neg (show ¬ (15 < cI xs ∨ 4 * (gI xs + 1) ≠ s) from by omega)]; simp only [ne_eq, not_true, if_false]; rw [if_neg (show ¬ (n : Int) < 4 + 4 * gI xs from by omega)]; simp
end Go.Proofs.Ytjbgfaoancmknaa.Fbk
