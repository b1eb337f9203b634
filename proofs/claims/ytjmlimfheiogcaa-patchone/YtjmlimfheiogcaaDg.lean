/- The walk of DescShort. · The walk of DescTurn. · The walk of DescBack. -/
import Derived.Test.YtjmlimfheiogcaaDd
namespace Go.Proofs.Ytjmlimfheiogcaa
open Go.RowKit
set_option linter.unusedVariables false

theorem box (w : World) (l : Int) (k s : Bool) (f : Int) : Below w.heap.size w (w.alloc (.cells #[.int .i64 l, .bool k, .bool s, .int .u16 f] 52)) := (Below.refl _ _).alloc (Nat.le_refl _) _

end Go.Proofs.Ytjmlimfheiogcaa

namespace Go.Proofs.Ytjmlimfheiogcaa
open Go.RowKit
set_option linter.unusedVariables false

theorem form_put (l : Int) (k s : Bool) (h0 : 0 ≤ l) (h2 : l ≤ 2) : firstV l k s % 4 = l ∧ keyV (firstV l k s) = k ∧ staV (firstV l k s) = s ∧ formB (firstV l k s) 90 = true := by
  obtain rfl | rfl | rfl : l = 0 ∨ l = 1 ∨ l = 2 := by omega
  all_goals (cases k <;> cases s <;> decide +kernel)
/-- What is put is read, whatever is behind it. -/
theorem put_get (l : Int) (k s : Bool) (f : Int) (ys : List Int) (h0 : 0 ≤ l) (h2 : l ≤ 2) (hf0 : 0 ≤ f) (hf : f ≤ 65535) :
    gL (putV l k s f ++ ys) = l ∧ gK (putV l k s f ++ ys) = k ∧ gS (putV l k s f ++ ys) = s ∧ gF (putV l k s f ++ ys) = f ∧ gE (putV l k s f ++ ys) = 0 := by
  obtain ⟨e1, e2, e3, e4⟩ := form_put l k s h0 h2
  have ho : gOk (putV l k s f ++ ys) = true := by
    show (decide (4 ≤ (putV l k s f ++ ys).length) && formB (firstV l k s) 90) = true
    rw [e4, Bool.and_true]
    simp [putV]
  refine ⟨?_, ?_, ?_, ?_, ?_⟩
  · rw [gL, ho]; exact e1
  · rw [gK, ho]; exact e2
  · rw [gS, ho]; exact e3
  · rw [gF, ho]
    show f / 256 * 256 + f % 256 = f
    omega
  · rw [gE, if_neg (by simp [putV])]
    show (if formB (firstV l k s) 90 = true then (0 : Int) else 1) = 0
    rw [e4]; rfl
theorem putV_bytes (l : Int) (k s : Bool) (f : Int) (h0 : 0 ≤ l) (h2 : l ≤ 2) (hf0 : 0 ≤ f) (hf : f ≤ 65535) : Bytes (putV l k s f) := by
  have := firstV_bd h0 (show l ≤ 3 by omega) k s
  intro x hx
  simp only [putV, List.mem_cons, List.not_mem_nil, or_false] at hx
  omega

end Go.Proofs.Ytjmlimfheiogcaa

namespace Go.Proofs.Ytjmlimfheiogcaa
open Go.RowKit
set_option linter.unusedVariables false

theorem form_no (a : Int) (h0 : 0 ≤ a) (h1 : a ≤ 255) (h : formB a 90 = false) : (bits BinOp.and IntKind.u8 a 60 != 0) = true ∨ ((bits BinOp.and IntKind.u8 a 60 != 0) = false ∧ (bits BinOp.and IntKind.u8 a 3 == 3) = true) := by
  have := byte_all (fun a => formB a 90 || (bits BinOp.and IntKind.u8 a 60 != 0) || (bits BinOp.and IntKind.u8 a 3 == 3)) (by decide +kernel) a h0 h1
  simp only [h, Bool.false_or, Bool.or_eq_true] at this
  rcases hb : (bits BinOp.and IntKind.u8 a 60 != 0) with _ | _
  · rw [hb] at this
    exact .inr ⟨rfl, by simpa using this⟩
  · exact .inl rfl

theorem four {a b c d : Int} (h0 : 0 ≤ a ∧ a ≤ 255) (h1 : 0 ≤ b ∧ b ≤ 255) (h2 : 0 ≤ c ∧ c ≤ 255) (h3 : 0 ≤ d ∧ d ≤ 255) : Bytes [a, b, c, d] := by
  intro x hx
  simp only [List.mem_cons, List.not_mem_nil, or_false] at hx
  omega

/-- Four bytes that are none. -/
theorem four_no (a b c d : Int) (hf : formB a b = false) : gL [a, b, c, d] = 0 ∧ gK [a, b, c, d] = false ∧ gS [a, b, c, d] = false ∧ gF [a, b, c, d] = 0 ∧ gE [a, b, c, d] = 1 := by
  have ho : gOk [a, b, c, d] = false := by simp [gOk, hf]
  refine ⟨by rw [gL, ho]; rfl, by rw [gK, ho]; rfl, by rw [gS, ho]; rfl, by rw [gF, ho]; rfl, ?_⟩
  simp [gE, hf]
theorem four_yes (a b c d : Int) (hf : formB a b = true) : gL [a, b, c, d] = a % 4 ∧ gK [a, b, c, d] = keyV a ∧ gS [a, b, c, d] = staV a ∧ gF [a, b, c, d] = c * 256 + d ∧ gE [a, b, c, d] = 0 := by
  have ho : gOk [a, b, c, d] = true := by simp [gOk, hf]
  refine ⟨by rw [gL, ho]; rfl, by rw [gK, ho]; rfl, by rw [gS, ho]; rfl, by rw [gF, ho]; rfl, ?_⟩
  simp [gE, hf]

end Go.Proofs.Ytjmlimfheiogcaa
