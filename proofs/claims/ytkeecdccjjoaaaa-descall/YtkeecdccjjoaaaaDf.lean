/- The contract of desc.Get, whatever the bytes; the contract of 'shown'. -/
import Derived.Test.YtkeecdccjjoaaaaDe
namespace Go.Proofs.Ytkeecdccjjoaaaa
open Go.RowKit
set_option linter.unusedVariables false

def gOk (xs : List Int) : Bool := decide (4 ≤ xs.length) && formB (xs.getD 0 0) (xs.getD 1 0)
def gE (xs : List Int) : Int := if xs.length < 4 then 2 else if formB (xs.getD 0 0) (xs.getD 1 0) then 0 else 1
def gL (xs : List Int) : Int := if gOk xs then xs.getD 0 0 % 4 else 0
def gK (xs : List Int) : Bool := gOk xs && keyV (xs.getD 0 0)
def gS (xs : List Int) : Bool := gOk xs && staV (xs.getD 0 0)
def gF (xs : List Int) : Int := if gOk xs then xs.getD 2 0 * 256 + xs.getD 3 0 else 0

theorem get_any (a : Option Addr) (len cap B : Nat) (xs : List Int) (w : World) (hl : len ≤ maxLen) (hr : Rd w B a len xs) (hB : B ≤ w.heap.size) :
    Calls Try.prog 8 #[.slice a len cap] w (RetG w (gL xs) (gK xs) (gS xs) (gF xs) (gE xs)) := by
  have hx := hr.1
  rcases Nat.lt_or_ge len 4 with h4 | h4
  · have ho : gOk xs = false := by simp [gOk]; omega
    have he : gE xs = 2 := by rw [gE, if_pos (by omega)]
    rw [gL, gK, gS, gF, ho, he]
    exact get_short a len cap w h4
  · obtain ⟨b, off, rfl, hb, hc⟩ := hr.2.2 (by omega)
    have hb' : b < w.heap.size := by omega
    have b0 := hr.2.1.getD 0
    have b1 := hr.2.1.getD 1
    have b2 := hr.2.1.getD 2
    have b3 := hr.2.1.getD 3
    have h0 := hc 0 (by omega)
    have h1 := hc 1 (by omega)
    have h2 := hc 2 (by omega)
    have h3 := hc 3 (by omega)
    rw [Nat.add_zero] at h0
    have ho : gOk xs = formB (xs.getD 0 0) (xs.getD 1 0) := by rw [gOk, decide_eq_true (by omega), Bool.true_and]
    have he : gE xs = if formB (xs.getD 0 0) (xs.getD 1 0) then 0 else 1 := by rw [gE, if_neg (by omega)]
    rw [gL, gK, gS, gF, ho, he]
    clear ho he hc
    generalize xs.getD 0 0 = x0 at *
    generalize xs.getD 1 0 = x1 at *
    generalize xs.getD 2 0 = x2 at *
    generalize xs.getD 3 0 = x3 at *
    have C0 : Hid (∀ W, Below w.heap.size w W → W.cell? ⟨b, off, none⟩ = some (.int .u8 x0)) := fun W hW => (hW.cell (p := ⟨b, off, none⟩) hb').trans h0
    have C1 : Hid (∀ W, Below w.heap.size w W → W.cell? ⟨b, off + 1, none⟩ = some (.int .u8 x1)) := fun W hW => (hW.cell (p := ⟨b, off + 1, none⟩) hb').trans h1
    have CR : Hid (∀ W, Below w.heap.size w W → Calls Try.prog 14 #[.slice (some ⟨b, off, none⟩) len cap] W (RetD W (x0 % 4) (keyV x0) (staV x0) (x2 * 256 + x3))) := fun W hW =>
      read_any b off len cap x0 x1 x2 x3 W hl h4 (Nat.lt_of_lt_of_le hb' hW.size) ((hW.cell (p := ⟨b, off, none⟩) hb').trans h0) ((hW.cell (p := ⟨b, off + 2, none⟩) hb').trans h2) ((hW.cell (p := ⟨b, off + 3, none⟩) hb').trans h3) b0 b2 b3
    have CM : ∀ W, Calls Try.prog 10 #[dsc (x0 % 4) (keyV x0) (staV x0) (x2 * 256 + x3)] W fun e w' => e = .returned (.bool (mayB (x0 % 4))) ∧ Below W.heap.size W w' := fun W => may_any _ _ _ _ W
    have CF : Hid (∀ W, Calls Try.prog 15 #[dsc (x0 % 4) (keyV x0) (staV x0) (x2 * 256 + x3)] W fun e w' => e = .returned (.int .u8 (firstV (x0 % 4) (keyV x0) (staV x0))) ∧ Below W.heap.size W w') := fun W => first_any _ _ _ _ W (by omega) (by omega)
    rcases hm : mayB (x0 % 4) with _ | _
    · have hf : formB x0 x1 = false := by simp [formB, hm]
      rw [hf]
      rw [hm] at CM
      exact get_layer b off len cap x0 x1 _ _ _ _ w hl h4 hb' C0 C1 CR CM
    · rw [hm] at CM
      rcases hy : (firstV (x0 % 4) (keyV x0) (staV x0) != x0) with _ | _
      · rcases hx1 : (x1 != 90) with _ | _
        · have hf : formB x0 x1 = true := by
            rw [formB, hm, Bool.true_and, Bool.and_eq_true]
            simp only [bne_eq_false_iff_eq] at hy hx1
            exact ⟨by rw [hy, beq_self_eq_true], by rw [hx1]; rfl⟩
          rw [hf]
          exact get_all b off len cap x0 x1 _ _ _ _ w hl h4 hb' C0 C1 CR CM _ CF hy hx1
        · have hf : formB x0 x1 = false := by
            rw [formB]
            rw [bne, Bool.not_eq_true'] at hx1
            rw [hx1, Bool.and_false]
          rw [hf]
          exact get_mark b off len cap x0 x1 _ _ _ _ w hl h4 hb' C0 C1 CR CM _ CF hy hx1
      · have hf : formB x0 x1 = false := by
          rw [formB]
          have hy' := hy
          rw [bne, Bool.not_eq_true'] at hy'
          rw [hy', Bool.and_false, Bool.false_and]
        rw [hf]
        exact get_bits b off len cap x0 x1 _ _ _ _ w hl h4 hb' C0 C1 CR CM _ CF hy

theorem alloc4 (w : World) (x y z u : Int) : Blk (w.alloc (.cells #[.int .u8 x, .int .u8 y, .int .u8 z, .int .u8 u] 5)) w.heap.size [x, y, z, u] [] := alloc_blk w [x, y, z, u]
theorem alloc5 (w : World) (x y z u v : Int) : Blk (w.alloc (.cells #[.int .u8 x, .int .u8 y, .int .u8 z, .int .u8 u, .int .u8 v] 5)) w.heap.size [x, y, z, u, v] [] := alloc_blk w [x, y, z, u, v]

set_option maxHeartbeats 1000000 in
theorem shown_any (w : World) : Calls Try.prog 7 #[] w fun e w' => e = .returned (.bool true) ∧ Below w.heap.size w w' := by
  go_enter Try.func7, Try.ntmps7
  go_wp2_with fail
  refine (put_yes 2 true false 258 w (by decide) (by decide) (by decide) (by decide)).mono ?_
  rw [show putV 2 true false 258 = [130, 90, 1, 2] from by decide]
  rintro e w1 ⟨g, rfl, hg, hk1, hb1⟩
  have hgl := hk1.lt
  have R1 : Rd w1 w1.heap.size (some ⟨g, 0, none⟩) 4 [130, 90, 1, 2] := hk1.rd (by intro x hx; simp at hx; omega) rfl
  clear hk1
  go_wp2_with fail
  refine (get_any _ 5 _ _ [64, 90, 0, 7, 1] _ (by decide) ((alloc5 w1 64 90 0 7 1).rd (by intro x hx; simp at hx; omega) rfl) (Nat.le_refl _)).mono ?_
  rw [show gL [64, 90, 0, 7, 1] = 0 from by decide, show gK [64, 90, 0, 7, 1] = false from by decide, show gS [64, 90, 0, 7, 1] = true from by decide, show gF [64, 90, 0, 7, 1] = 7 from by decide, show gE [64, 90, 0, 7, 1] = 0 from by decide]
  rintro e w2 ⟨rfl, hb2⟩
  have hb12 : Below w1.heap.size w1 w2 := ((Below.refl w1.heap.size w1).alloc (Nat.le_refl _) _).trans (hb2.mono (by simp))
  have H2 : Hid (Below w.heap.size w w2) := hb1.trans (hb12.mono hb1.size)
  have R2 := (R1.below hb12).more hb12.size
  clear hb1 hb2 hb12 R1 hg hgl
  have s1 : (convert 25 9 (.slice (some ⟨g, 0, none⟩) 4 4)).run Try.prog (w2.alloc (.cells #[.int .i64 0, .bool false, .bool true, .int .u16 7] 24)) = .ok (.string ⟨#[130, 90, 1, 2]⟩) (w2.alloc (.cells #[.int .i64 0, .bool false, .bool true, .int .u16 7] 24)) :=
    str_run (R2.below ((Below.refl w2.heap.size w2).alloc (Nat.le_refl _) _))
  go_wp2_with fail
  have CM := may_any 3 false false 0 (w2.alloc (.cells #[.int .i64 0, .bool false, .bool true, .int .u16 7] 24))
  rw [show mayB 3 = false from by decide] at CM
  refine CM.mono ?_
  clear CM s1
  rintro e w3 ⟨rfl, hb3⟩
  go_wp2
  go_ret
  have hb23 : Below w2.heap.size w2 w3 := ((Below.refl w2.heap.size w2).alloc (Nat.le_refl _) _).trans (hb3.mono (by simp))
  exact ⟨rfl, H2.out.trans (hb23.mono H2.out.size)⟩
end Go.Proofs.Ytkeecdccjjoaaaa
