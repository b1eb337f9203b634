/- Numbers that go round, plain: how far apart two are, and which number it is near another one. -/
import Derived.Test.YtolobojidnomfaaRows
import Derived.WalkKit
set_option maxRecDepth 100000
namespace Go.Proofs.Ytolobojidnomfaa
open Go.RowKit
set_option linter.unusedVariables false

def d16 (a b : Int) : Int := (a - b + 32768) % 65536 - 32768
def d32 (a b : Int) : Int := (a - b + 2147483648) % 4294967296 - 2147483648
def ah16 (a b : Int) : Bool := decide (0 < d16 a b)
def ah32 (a b : Int) : Bool := decide (0 < d32 a b)
/-- Last, held from 0 to 2^40. -/
def held (l : Int) : Int := if l < 0 then 0 else if 1099511627776 < l then 1099511627776 else l
def extAt (l s : Int) : Int :=
  if d16 s (l % 65536) = -32768 ∨ l + d16 s (l % 65536) < 0 then l + d16 s (l % 65536) + 65536 else l + d16 s (l % 65536)
def ext (last s : Int) : Int := extAt (held last) s

theorem extAt_or (l s : Int) : (d16 s (l % 65536) = -32768 ∨ l + d16 s (l % 65536) < 0) ∧ extAt l s = l + d16 s (l % 65536) + 65536 ∨ ¬ (d16 s (l % 65536) = -32768 ∨ l + d16 s (l % 65536) < 0) ∧ extAt l s = l + d16 s (l % 65536) := by
  unfold extAt
  by_cases h : d16 s (l % 65536) = -32768 ∨ l + d16 s (l % 65536) < 0
  · exact .inl ⟨h, by rw [if_pos h]⟩
  · exact .inr ⟨h, by rw [if_neg h]⟩
theorem held_bd (l : Int) : 0 ≤ held l ∧ held l ≤ 1099511627776 := by
  unfold held; split
  · omega
  · split <;> omega
theorem d16_bd (a b : Int) : -32768 ≤ d16 a b ∧ d16 a b ≤ 32767 := by unfold d16; omega
theorem d32_bd (a b : Int) : -2147483648 ≤ d32 a b ∧ d32 a b ≤ 2147483647 := by unfold d32; omega
theorem ext_bd (l s : Int) : 0 ≤ ext l s ∧ ext l s ≤ 1099511693312 := by
  have h := held_bd l
  unfold ext extAt
  have := d16_bd s (held l % 65536)
  split <;> omega

theorem wrap_d16 (a b : Int) : wrap64 (IntKind.i16.wrap (IntKind.u16.wrap (a - b))) = d16 a b := by
  simp only [IntKind.wrap, IntKind.bits, IntKind.signed, wrap64, d16]
  simp
  omega
theorem wrap_d32 (a b : Int) : wrap64 (wrap32 ((a - b) % 4294967296)) = d32 a b := by
  simp only [wrap64, wrap32, d32]
  omega
end Go.Proofs.Ytolobojidnomfaa
