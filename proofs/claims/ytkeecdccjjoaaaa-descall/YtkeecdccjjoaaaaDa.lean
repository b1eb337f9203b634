/- The contracts of desc.May, desc.first, desc.Put. -/
import Derived.Test.YtkeecdccjjoaaaaXr
import Derived.Test.YtkeecdccjjoaaaaSeq
namespace Go.Proofs.Ytkeecdccjjoaaaa
open Go.RowKit
set_option linter.unusedVariables false

/-- A descriptor, as a value. -/
abbrev dsc (l : Int) (k s : Bool) (f : Int) : Value := .agg #[.int .i64 l, .bool k, .bool s, .int .u16 f]
def mayB (l : Int) : Bool := decide (0 ≤ l ∧ l ≤ 2)
def firstV (l : Int) : Bool → Bool → Int
  | false, false => l
  | false, true => l + 64
  | true, false => l + 128
  | true, true => l + 192

theorem ret_int {k : IntKind} {a b : Int} (h : a = b) : Ending.returned (.int k a) = .returned (.int k b) := by rw [h]
theorem mayB_t {l : Int} (h : mayB l = true) : 0 ≤ l ∧ l ≤ 2 := by simpa [mayB] using h
theorem firstV_bd {l : Int} (h0 : 0 ≤ l) (h2 : l ≤ 3) (k s : Bool) : 0 ≤ firstV l k s ∧ firstV l k s ≤ 255 := by cases k <;> cases s <;> simp only [firstV] <;> omega

set_option maxHeartbeats 400000 in
theorem may_any (l : Int) (k s : Bool) (f : Int) (w : World) :
    Calls Try.prog 10 #[dsc l k s f] w fun e w' => e = .returned (.bool (mayB l)) ∧ Below w.heap.size w w' := by
  by_cases h0 : 0 ≤ l
  · go_enter Try.func10, Try.ntmps10
    go_wp2
    go_ret
    exact ⟨ret_bool (by rw [Bool.eq_iff_iff]; simp [mayB]; omega), (Below.refl _ _).alloc (Nat.le_refl _) _⟩
  · go_enter Try.func10, Try.ntmps10
    go_wp2
    go_ret
    exact ⟨ret_bool (by simp [mayB]; omega), (Below.refl _ _).alloc (Nat.le_refl _) _⟩

theorem or_128 : ∀ l : Int, 0 ≤ l → l ≤ 3 → bits BinOp.or IntKind.u8 l 128 = l + 128 := by
  intro l h0 h3
  obtain rfl | rfl | rfl | rfl : l = 0 ∨ l = 1 ∨ l = 2 ∨ l = 3 := by omega
  all_goals decide +kernel
theorem or_64 : ∀ l : Int, 0 ≤ l → l ≤ 3 → bits BinOp.or IntKind.u8 l 64 = l + 64 := by
  intro l h0 h3
  obtain rfl | rfl | rfl | rfl : l = 0 ∨ l = 1 ∨ l = 2 ∨ l = 3 := by omega
  all_goals decide +kernel
theorem or_192 : ∀ l : Int, 0 ≤ l → l ≤ 3 → bits BinOp.or IntKind.u8 (l + 128) 64 = l + 192 := by
  intro l h0 h3
  obtain rfl | rfl | rfl | rfl : l = 0 ∨ l = 1 ∨ l = 2 ∨ l = 3 := by omega
  all_goals decide +kernel

set_option maxHeartbeats 400000 in
theorem first_any (l : Int) (k s : Bool) (f : Int) (w : World) (h0 : 0 ≤ l) (h3 : l ≤ 3) :
    Calls Try.prog 15 #[dsc l k s f] w fun e w' => e = .returned (.int .u8 (firstV l k s)) ∧ Below w.heap.size w w' := by
  have e1 := or_128 l h0 h3
  have e2 := or_64 l h0 h3
  have e3 := or_192 l h0 h3
  have e4 : IntKind.u8.wrap l = l := by
    obtain rfl | rfl | rfl | rfl : l = 0 ∨ l = 1 ∨ l = 2 ∨ l = 3 := by omega
    all_goals decide +kernel
  cases k <;> cases s
  · clear e1 e2 e3
    go_enter Try.func15, Try.ntmps15
    go_wp2
    go_ret
    exact ⟨rfl, (Below.refl _ _).alloc (Nat.le_refl _) _⟩
  · clear e1 e3
    go_enter Try.func15, Try.ntmps15
    go_wp2
    go_ret
    exact ⟨rfl, (Below.refl _ _).alloc (Nat.le_refl _) _⟩
  · clear e2 e3
    go_enter Try.func15, Try.ntmps15
    go_wp2
    go_ret
    exact ⟨rfl, (Below.refl _ _).alloc (Nat.le_refl _) _⟩
  · clear e2
    go_enter Try.func15, Try.ntmps15
    go_wp2
    go_ret
    exact ⟨rfl, (Below.refl _ _).alloc (Nat.le_refl _) _⟩

/-- Nothing is put. -/
theorem put_no (l : Int) (k s : Bool) (f : Int) (w : World) (hm : mayB l = false) :
    Calls Try.prog 12 #[dsc l k s f] w fun e w' => e = .returned (.slice none 0 0) ∧ Below w.heap.size w w' := by
  have C := fun W => (hm ▸ may_any l k s f W : Calls Try.prog 10 #[dsc l k s f] W fun e w' => e = .returned (.bool false) ∧ Below W.heap.size W w')
  have HC := Lib.hid C
  clear C hm
  go_enter Try.func12, Try.ntmps12
  go_wp2_with fail
  refine (HC.out _).mono ?_
  rintro e w1 ⟨rfl, hb1⟩
  go_wp2
  go_ret
  exact ⟨rfl, ((Below.refl w.heap.size w).alloc (Nat.le_refl _) _).trans (hb1.mono (by simp))⟩
end Go.Proofs.Ytkeecdccjjoaaaa
