/- The contract of 'shown'. -/
import Derived.Test.YtklodmbccmomoaaWg
import Derived.Laws.BytesArg
namespace Go.Proofs.Ytklodmbccmomoaa
open Go.RowKit
set_option linter.unusedVariables false

theorem alloc_blk (w : World) (L : List Int) : Blk (w.alloc (.cells (bcells L).toArray 5)) w.heap.size L [] := by
  unfold Blk; rw [List.append_nil]; exact heap_alloc_new w _
theorem alloc1 (w : World) (x : Int) : Blk (w.alloc (.cells #[.int .u8 x] 5)) w.heap.size [x] [] := alloc_blk w [x]
theorem alloc3 (w : World) (x y z : Int) : Blk (w.alloc (.cells #[.int .u8 x, .int .u8 y, .int .u8 z] 5)) w.heap.size [x, y, z] [] := alloc_blk w [x, y, z]

/-- string(b): its bytes. -/
theorem str_run {w : World} {B n c : Nat} {a : Option Addr} {xs : List Int} (h : Rd w B a n xs) : (convert 22 9 (.slice a n c)).run Try.prog w = .ok (.string (strOfNums xs)) w := by
  rcases Nat.eq_zero_or_pos n with h0 | h0
  · subst h0
    obtain rfl : xs = [] := List.eq_nil_of_length_eq_zero h.1
    rcases a with _ | ad
    · rw [run_convert_bytes_nil w 22 5 Try.underlying22 Try.underlying5 0 c 9 Try.underlying9]; rfl
    · rw [run_convert_bytes_string w 22 9 5 _ 0 c Try.underlying22 Try.underlying5 Try.underlying9,
        run_bytesToString w ad 0 c [] (by simpa using run_loadCells_list (P := Try.prog) w ad [] (by simp))]
      rfl
  · obtain ⟨b, off, rfl, _, hc⟩ := h.2.2 h0
    exact run_convert_bytes_arg w 22 5 Try.underlying22 Try.underlying5 b off n c xs h.1 hc 9 Try.underlying9

set_option maxHeartbeats 400000 in
theorem shown_any (w : World) : Calls Try.prog 8 #[] w fun e w' => e = .returned (.bool true) ∧ Below w.heap.size w w' := by
  go_enter Try.func8, Try.ntmps8
  go_wp2_with fail
  refine (get_yes _ _ _ _ 1 2 [9, 1, 2] _ (by decide) (by decide) ((alloc3 w 9 1 2).rd (by intro x hx; simp at hx; omega) rfl) (by decide) (by decide) (by decide)).mono ?_
  rintro e w1 ⟨rfl, hw1⟩
  have hb1 : Below w.heap.size w w1 := by rw [← hw1]; exact (Below.refl _ _).alloc (Nat.le_refl _) _
  clear hw1
  rw [show num ((List.drop 1 [9, 1, 2]).take 2) = 258 from by decide]
  go_wp2_with fail
  have hap := append_any (some ⟨w1.heap.size, 0, none⟩) 1 1 _ 2 258 [7] _ (by decide) ((alloc1 w1 7).rd (by intro x hx; simp at hx; omega) rfl) (Nat.le_refl _) (by decide) (by decide)
  rw [show appV [7] 2 258 = [7, 1, 2] from by decide] at hap
  refine hap.mono ?_
  clear hap
  rintro e w2 ⟨A, c, rfl, ho, hb2⟩
  have hb2' : Below w.heap.size w w2 := hb1.trans (((Below.refl w1.heap.size w1).alloc (Nat.le_refl _) _).trans (hb2.mono (by simp)) |>.mono hb1.size)
  clear hb1 hb2
  have hcv := str_run (c := c) (ho.rd.below ((Below.refl w2.heap.size w2).alloc (Nat.le_refl _) (.cells #[.int .u8 0, .int .u8 0, .int .u8 0] 5)))
  rw [show strOfNums [7, 1, 2] = ⟨#[7, 1, 2]⟩ from rfl] at hcv
  simp only [List.length_cons, List.length_nil] at hcv
  go_wp2_with fail
  refine (put_yes w2.heap.size 0 3 3 1 1 5 [0, 0, 0] [] _ (by decide) (by decide) (by decide) (by decide) (by decide) (alloc3 w2 0 0 0) (by decide) (by decide) (by decide) (by decide)).mono ?_
  rintro e w3 ⟨rfl, hk3, hg3⟩
  have hb3 : Below w.heap.size w w3 := (hb2'.alloc hb2'.size _).grown hg3 (by simp; have := hb2'.size; omega) (by rintro k h; injection h with h; have := hb2'.size; omega)
  clear hg3 hb2' hcv ho
  have hc5 : w3.cell? ⟨w2.heap.size, 1, none⟩ = some (.int .u8 5) := hk3.cell 1 (by decide)
  clear hk3
  go_wp2_with fail
  refine (put_no _ 3 3 2 2 1 w3 (by decide) (by decide) (by decide) (by decide)).mono ?_
  rintro e w4 ⟨rfl, rfl⟩
  go_wp2
  go_ret
  exact ⟨rfl, hb3⟩
end Go.Proofs.Ytklodmbccmomoaa
