/- The reference's Put of a packet that may be and is not too long. -/
import Derived.Test.YtjmlimfheiogcaaKz
import Derived.Test.YtjmlimfheiogcaaXh
namespace Go.Proofs.Ytjmlimfheiogcaa.Rtp
open Go.RowKit
set_option linter.unusedVariables false

/-- What an Append leaves: a row of M bytes in a block from w's second new one on. -/
def AppR (w W : World) (M : Nat) (zs : List Int) (e : Ending) (w' : World) : Prop := ∃ A c, e = .returned (.slice A M c) ∧ Own w' (w.heap.size + 1) A M c zs ∧ Below W.heap.size W w'
theorem app_any (w W : World) (A : Option Addr) (m M c s : Nat) (x : Int) (ys zs : List Int) (ho : Own W (w.heap.size + 1) A m c ys) (hW : w.heap.size + 1 ≤ W.heap.size) (hM : m + s = M) (hz : ys ++ be s x = zs) (hm : m ≤ 4096) (h1 : 1 ≤ s) (h2 : s ≤ 8) (hx : 0 ≤ x) (hx2 : x < 256 ^ s) :
    Calls Try.prog 34 #[.slice A m c, .int .i64 s, .int .u64 x] W (AppR w W M zs) := by
  subst hM; subst hz
  have hp := pow_le8 s h2
  have h := R1.rappend_any A m c W.heap.size (s : Int) x ys W (by omega) ho.rd (Nat.le_refl _) hx (by omega)
  have e : numApp ys s x = ys ++ be s x := by
    have e1 : sizeB s = true := by simp [sizeB]; omega
    have e2 : fitsB s x = true := by simp [fitsB]; exact hx2
    rw [numApp, e1, e2]; simp
  rw [e] at h
  have hl : (ys ++ be s x).length = m + s := by rw [List.length_append, be_length, ho.len]
  refine h.mono ?_
  rintro e w' ⟨A', c', rfl, ho', hb⟩
  rw [hl] at ho'
  exact ⟨A', c', by rw [hl], ho'.lower hW, hb⟩
theorem own_new (w W : World) (x y : Int) (hW : w.heap.size + 1 ≤ W.heap.size) (h0 : 0 ≤ x ∧ x ≤ 255) (h1 : 0 ≤ y ∧ y ≤ 255) : Own (W.alloc (.cells #[.int .u8 x, .int .u8 y] 5)) (w.heap.size + 1) (some ⟨W.heap.size, 0, none⟩) 2 2 [x, y] :=
  Own.of_blk (alloc_blk W [x, y]) hW (by intro z hz; simp only [List.mem_cons, List.not_mem_nil, or_false] at hz; omega) rfl (by unfold maxLen; omega)
theorem bes_snoc (l : List Int) (x : Int) : bes (l ++ [x]) = bes l ++ be 4 x := by
  induction l with
  | nil => simp [bes]
  | cons y l ih => simp only [List.cons_append, bes, ih, List.append_assoc]
theorem rep_snoc (n : Nat) : List.replicate (n + 1) (0 : Int) = List.replicate n 0 ++ [0] := List.replicate_succ'

end Go.Proofs.Ytjmlimfheiogcaa.Rtp
