/- Numbers in bytes: when one may be read, written, appended; what comes of it. No function of the program. -/
import Derived.Test.YtiamdaeodkiccaaXr
namespace Go.Proofs.Ytiamdaeodkiccaa
open Go.RowKit
set_option linter.unusedVariables false

def sizeB (s : Int) : Bool := decide (1 ≤ s ∧ s ≤ 8)
def withinB (len : Nat) (at_ s : Int) : Bool := decide (1 ≤ s ∧ s ≤ 8 ∧ 0 ≤ at_ ∧ at_ ≤ (len : Int) - s)
def fitsB (s n : Int) : Bool := decide (n < 256 ^ s.toNat)

theorem pow_two_eight (s : Int) (h1 : 0 ≤ s) : (2 : Int) ^ (8 * s).toNat = 256 ^ s.toNat := by
  rw [show (8 * s).toNat = 8 * s.toNat from by omega, Int.pow_mul]; rfl
theorem div_zero_iff (n m : Int) (hn : 0 ≤ n) (hm : 0 < m) : (n / m == 0) = decide (n < m) := by
  rw [Bool.eq_iff_iff, beq_iff_eq, decide_eq_true_iff]
  constructor
  · intro h
    have := Int.lt_ediv_add_one_mul_self n hm
    rw [h] at this
    simpa using this
  · intro h; exact Int.ediv_eq_zero_of_lt hn h
/-- What comes of bytes by Append. -/
def numApp (xs : List Int) (s n : Int) : List Int := if sizeB s && fitsB s n then xs ++ be s.toNat n else xs

theorem written_end (xs : List Int) (s : Nat) (n : Int) : written (splice (List.replicate (xs.length + s) 0) 0 xs) xs.length s 0 n = xs ++ be s n := by
  unfold written splice
  rw [List.take_zero, List.nil_append, Nat.zero_add, Nat.add_zero, Nat.sub_zero, List.take_append_of_le_length (Nat.le_refl _), List.take_of_length_le (Nat.le_refl _),
    List.drop_of_length_le (by simp), List.append_nil]

theorem written_none (xs : List Int) (n : Int) : written (splice (List.replicate xs.length 0) 0 xs) xs.length 0 0 n = xs := by
  have := written_end xs 0 n
  simpa [be] using this

theorem written_bytes {xs : List Int} (h : Bytes xs) (off s : Nat) (n : Int) : Bytes (written xs off s 0 n) := ((h.take _).append (be_bytes _ _)).append (h.drop _)
/-- What comes of bytes by Put. -/
def numPut (xs : List Int) (i s n : Int) : List Int := if withinB xs.length i s && fitsB s n then written xs i.toNat s.toNat 0 n else xs

theorem numApp_bytes {xs : List Int} (h : Bytes xs) (s n : Int) : Bytes (numApp xs s n) := by
  unfold numApp; split
  · exact h.append (be_bytes _ _)
  · exact h
theorem numApp_le (xs : List Int) (s n : Int) : (numApp xs s n).length ≤ xs.length + 8 := by
  unfold numApp; split
  · rename_i h
    rw [Bool.and_eq_true] at h
    have := h.1
    simp only [sizeB, decide_eq_true_eq] at this
    simp [be_length]; omega
  · omega
/-- A new row of bytes. -/
def NewRow (w : World) (ys : List Int) (e : Ending) (w' : World) : Prop := ∃ A c, e = .returned (.slice A ys.length c) ∧ Own w' w.heap.size A ys.length c ys ∧ Below w.heap.size w w'

theorem fitsB_most (s : Nat) (n : Int) : decide ((256 : Int) ^ s - 1 < n) = !fitsB s n := by
  unfold fitsB
  rw [Int.toNat_natCast, Bool.eq_iff_iff]
  simp
  omega
theorem most_step (k : Nat) : (256 : Int) ^ (k + 1) - 1 = (256 ^ k - 1) * 256 + 255 := by rw [pow_succ]; omega
/-- What the reference's Put leaves. -/
def PairRow (w : World) (ys : List Int) (b : Bool) (e : Ending) (w' : World) : Prop :=
  ∃ A c, e = .returned (.tuple #[.slice A ys.length c, .bool b]) ∧ Own w' w.heap.size A ys.length c ys ∧ Below w.heap.size w w'

theorem splice_be (xs : List Int) (i s : Nat) (n : Int) : splice xs i (be s n) = written xs i s 0 n := by
  unfold splice written
  rw [be_length, Nat.add_zero, Nat.sub_zero, List.append_assoc]

/-- The two readers, whatever stands there. -/
def numGet (xs : List Int) (i s : Int) : Int := if withinB xs.length i s then num ((xs.drop i.toNat).take s.toNat) else 0
end Go.Proofs.Ytiamdaeodkiccaa
