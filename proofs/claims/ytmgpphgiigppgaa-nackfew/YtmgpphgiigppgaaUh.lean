/- The contract of the laws' 'shown'. -/
import Derived.Test.YtmgpphgiigppgaaUf
namespace Go.Proofs.Ytmgpphgiigppgaa.Nck
open Go.RowKit Go.Proofs.Ytmgpphgiigppgaa.Fbk
set_option linter.unusedVariables false

theorem ex_shown : expand [(65535, 32769)] = [65535, 0, 15] := by decide +kernel
theorem pk_shown : pk [7, 8, 23, 24] = [(7, 32769), (24, 0)] := by decide +kernel
/-- A row of pairs just allocated. -/
theorem rows_pair (w : World) (xs : List (Int × Int)) (n : Nat) (hn : xs.length = n) : RowRd pairL (w.alloc (.cells (flat pairL xs).toArray 31 (0, 0))) (w.heap.size + 1) (some ⟨w.heap.size, 0, none⟩) n xs := by
  have := rowRd_blk (L := pairL) (w := w.alloc (.cells (flat pairL xs).toArray 31 (0, 0))) (g := w.heap.size) (xs := xs) (n := n) (heap_alloc_new w _) hn
  simpa using this
theorem rows16 (w : World) (xs : List Int) (n : Nat) (hn : xs.length = n) : RowRd w16L (w.alloc (.cells (flat w16L xs).toArray 24 (0, 0))) (w.heap.size + 1) (some ⟨w.heap.size, 0, none⟩) n xs := by
  have := rowRd_blk (L := w16L) (w := w.alloc (.cells (flat w16L xs).toArray 24 (0, 0))) (g := w.heap.size) (xs := xs) (n := n) (heap_alloc_new w _) hn
  simpa using this
set_option maxHeartbeats 4000000 in
theorem shown_any (w : World) : Calls Try.prog 8 #[] w fun e w' => e = .returned (.bool true) ∧ Below w.heap.size w w' := by
  have C1 : Hid (Calls Try.prog 9 #[.slice (some ⟨w.heap.size, 0, none⟩) 1 1] (w.alloc (.cells #[.int .u16 65535, .int .u16 32769] 31 (0, 0))) fun e w' => New16 (w.alloc (.cells #[.int .u16 65535, .int .u16 32769] 31 (0, 0))) [65535, 0, 15] e w') := by
    have := expand_any (some ⟨w.heap.size, 0, none⟩) 1 (w.heap.size + 1) [(65535, 32769)] (w.alloc (.cells #[.int .u16 65535, .int .u16 32769] 31 (0, 0))) (by decide) (rows_pair w [(65535, 32769)] 1 rfl) (by simp) (by intro x hx; simp at hx; subst hx; exact ⟨⟨by decide, by decide⟩, ⟨by decide, by decide⟩⟩)
    rw [ex_shown] at this
    exact this
  have HA := Lib.hid ((Below.refl w.heap.size w).alloc (Nat.le_refl _) (.cells #[.int .u16 65535, .int .u16 32769] 31 (0, 0)))
  go_enter Try.func8, Try.ntmps8
  go_wp2_with fail
  refine C1.out.mono ?_
  rintro e w1 ⟨A1, c1, rfl, ho1, hb1⟩
  have HO1 := Lib.hid ho1
  have HB1 := Lib.hid (HA.out.trans (hb1.mono HA.out.size))
  clear ho1 hb1 C1 HA
  have C2 : Hid (Calls Try.prog 11 #[.slice (some ⟨w1.heap.size, 0, none⟩) 4 4] (w1.alloc (.cells #[.int .u16 7, .int .u16 8, .int .u16 23, .int .u16 24] 24 (0, 0))) fun e w' => NewP (w1.alloc (.cells #[.int .u16 7, .int .u16 8, .int .u16 23, .int .u16 24] 24 (0, 0))) [(7, 32769), (24, 0)] e w') := by
    have := pack_any (some ⟨w1.heap.size, 0, none⟩) 4 (w1.heap.size + 1) [7, 8, 23, 24] (w1.alloc (.cells #[.int .u16 7, .int .u16 8, .int .u16 23, .int .u16 24] 24 (0, 0))) (by decide) (rows16 w1 [7, 8, 23, 24] 4 rfl) (by simp) (by intro x hx; simp at hx; rcases hx with rfl | rfl | rfl | rfl <;> exact ⟨by decide, by decide⟩)
    rw [pk_shown] at this
    exact this
  have hbA := Lib.hid ((Below.refl w1.heap.size w1).alloc (Nat.le_refl _) (.cells #[.int .u16 7, .int .u16 8, .int .u16 23, .int .u16 24] 24 (0, 0)))
  go_wp2_with fail
  refine C2.out.mono ?_
  rintro e w2 ⟨A2, c2, rfl, ho2, hb2⟩
  have hb12 : Below w1.heap.size w1 w2 := hbA.out.trans (hb2.mono hbA.out.size)
  have HB2 := Lib.hid (HB1.out.trans (hb12.mono HB1.out.size))
  have R1 := Lib.hid (HO1.out.bel hb12).rd
  have R2 := Lib.hid ho2.rd
  clear hbA C2 hb2 ho2 hb12 HO1 HB1
  obtain ⟨b, o, x, rfl, _, hx, a0⟩ := u16_at R1.out (show 0 < 3 by decide)
  obtain ⟨b', o', y, e1, _, hy, a1⟩ := u16_at R1.out (show 1 < 3 by decide)
  obtain ⟨b'', o'', z, e2, _, hz, a2⟩ := u16_at R1.out (show 2 < 3 by decide)
  simp only [Option.some.injEq, Addr.mk.injEq, and_true, List.getElem?_cons_zero, List.getElem?_cons_succ] at e1 e2 hx hy hz
  obtain ⟨rfl, rfl⟩ := e1
  obtain ⟨rfl, rfl⟩ := e2
  subst hx; subst hy; subst hz
  obtain ⟨g, h, p, rfl, _, hp, b0, b1⟩ := pair_at R2.out (show 0 < 2 by decide)
  obtain ⟨g', h', r, e3, _, hr, b2, b3⟩ := pair_at R2.out (show 1 < 2 by decide)
  simp only [Option.some.injEq, Addr.mk.injEq, and_true, List.getElem?_cons_zero, List.getElem?_cons_succ] at e3 hp hr
  obtain ⟨rfl, rfl⟩ := e3
  subst hp; subst hr
  clear R1 R2
  simp only [Nat.add_zero, Nat.zero_mul, Nat.one_mul] at a0 a1 a2 b0 b1 b2 b3
  go_wp2_with fail
  go_ret
  exact ⟨rfl, HB2⟩
end Go.Proofs.Ytmgpphgiigppgaa.Nck
