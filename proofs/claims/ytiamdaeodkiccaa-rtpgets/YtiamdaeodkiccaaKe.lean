/- The contracts of rtp.lay, Offset. -/
import Derived.Test.YtiamdaeodkiccaaKd
namespace Go.Proofs.Ytiamdaeodkiccaa.Rtp
open Go.RowKit
set_option linter.unusedVariables false

abbrev L0 : Obj := .cells #[.int .i64 0, .int .i64 0, .int .i64 0, .int .i64 0] 51
set_option maxHeartbeats 1000000 in
theorem lay_head (a : Option Addr) (len cap : Nat) (n : Int) (w : World) (hn : (n != 0) = true)
    (CH : Hid (∀ W, Below w.heap.size w W → Calls Try.prog 35 #[.slice a len cap] W fun e w' => e = .returned (.int .i64 n) ∧ Below W.heap.size W w')) :
    Calls Try.prog 27 #[.slice a len cap] w (RetL w 0 0 0 0 n) := by
  go_enter Try.func27, Try.ntmps27
  go_wp2_with fail
  have hb0 := (Below.refl w.heap.size w).alloc (Nat.le_refl _) L0
  refine (CH.out _ hb0).mono ?_
  rintro e w1 ⟨rfl, hb1⟩
  have D1 : LBlk w1 w.heap.size 0 0 0 0 := (LBlk.new w 0 0 0 0).below hb1 (by simp)
  have hb : Below w.heap.size w w1 := hb0.trans (hb1.mono (by simp))
  clear hb1 hb0 CH
  have f0 := D1.c0
  have f1 := D1.c1
  have f2 := D1.c2
  have f3 := D1.c3
  have g0 := D1.frozen 0
  have g1 := D1.frozen 1
  have g2 := D1.frozen 2
  have g3 := D1.frozen 3
  go_wp2
  exact retL_at (D1.store 0 0 0 0) (below_store hb (Nat.le_refl _) _ _ _ _)

set_option maxHeartbeats 1000000 in
theorem lay_short (a : Option Addr) (len cap : Nat) (c x f : Int) (w : World)
    (CH : Hid (∀ W, Below w.heap.size w W → Calls Try.prog 35 #[.slice a len cap] W fun e w' => e = .returned (.int .i64 0) ∧ Below W.heap.size W w'))
    (CU : Hid (∀ W, Below w.heap.size w W → Calls Try.prog 36 #[.slice a len cap] W (RetU W c x f 0 false))) :
    Calls Try.prog 27 #[.slice a len cap] w (RetL w 0 0 0 0 2) := by
  go_enter Try.func27, Try.ntmps27
  go_wp2_with fail
  have hb0 := (Below.refl w.heap.size w).alloc (Nat.le_refl _) L0
  refine (CH.out _ hb0).mono ?_
  rintro e w1 ⟨rfl, hb1⟩
  have D1 : LBlk w1 w.heap.size 0 0 0 0 := (LBlk.new w 0 0 0 0).below hb1 (by simp)
  have hb : Below w.heap.size w w1 := hb0.trans (hb1.mono (by simp))
  clear hb1 hb0 CH
  go_wp2_with fail
  refine (CU.out _ hb).mono ?_
  rintro e w2 ⟨rfl, hb2⟩
  have D2 : LBlk w2 w.heap.size 0 0 0 0 := D1.below hb2 D1.lt
  have hbb : Below w.heap.size w w2 := hb.trans (hb2.mono hb.size)
  clear hb hb2 D1 CU
  have D3 := D2.below ((Below.refl w2.heap.size w2).alloc (Nat.le_refl _) (.cells #[.int .i64 c, .int .i64 x, .int .i64 f, .int .i64 0] 51)) D2.lt
  have f0 := D3.c0
  have f1 := D3.c1
  have f2 := D3.c2
  have f3 := D3.c3
  have g0 := D3.frozen 0
  have g1 := D3.frozen 1
  have g2 := D3.frozen 2
  have g3 := D3.frozen 3
  go_wp2
  exact retL_at (D3.store 0 0 0 0) (below_store (hbb.alloc hbb.size _) (Nat.le_refl _) _ _ _ _)

set_option maxHeartbeats 1000000 in
theorem lay_plain (b off len cap : Nat) (x0 c x f : Int) (w : World) (hp0 : 0 < len) (hl : len ≤ 512) (hx : (bits BinOp.and IntKind.u8 x0 32 != 0) = false)
    (C0 : Hid (∀ W, Below w.heap.size w W → W.cell? ⟨b, off, none⟩ = some (.int .u8 x0)))
    (CH : Hid (∀ W, Below w.heap.size w W → Calls Try.prog 35 #[.slice (some ⟨b, off, none⟩) len cap] W fun e w' => e = .returned (.int .i64 0) ∧ Below W.heap.size W w'))
    (CU : Hid (∀ W, Below w.heap.size w W → Calls Try.prog 36 #[.slice (some ⟨b, off, none⟩) len cap] W (RetU W c x f 0 true))) :
    Calls Try.prog 27 #[.slice (some ⟨b, off, none⟩) len cap] w (RetL w c x f len 0) := by
  go_enter Try.func27, Try.ntmps27
  go_wp2_with fail
  have hb0 := (Below.refl w.heap.size w).alloc (Nat.le_refl _) L0
  refine (CH.out _ hb0).mono ?_
  rintro e w1 ⟨rfl, hb1⟩
  have D1 : LBlk w1 w.heap.size 0 0 0 0 := (LBlk.new w 0 0 0 0).below hb1 (by simp)
  have hb : Below w.heap.size w w1 := hb0.trans (hb1.mono (by simp))
  clear hb1 hb0 CH
  go_wp2_with fail
  refine (CU.out _ hb).mono ?_
  rintro e w2 ⟨rfl, hb2⟩
  have D2 : LBlk w2 w.heap.size 0 0 0 0 := D1.below hb2 D1.lt
  have hbb : Below w.heap.size w w2 := hb.trans (hb2.mono hb.size)
  clear hb hb2 D1 CU
  have hne : w2.heap.size ≠ w.heap.size := Nat.ne_of_gt D2.lt
  have D3 := D2.below ((Below.refl w2.heap.size w2).alloc (Nat.le_refl _) (.cells #[.int .i64 c, .int .i64 x, .int .i64 f, .int .i64 len] 51)) D2.lt
  have E3 := LBlk.new w2 c x f len
  have hb3 := hbb.alloc hbb.size (.cells #[.int .i64 c, .int .i64 x, .int .i64 f, .int .i64 len] 51)
  have hqq := hbb.size
  have k0 := C0.out _ hb3
  have k1 := E3.c0
  have k2 := E3.c1
  have k3 := E3.c2
  have k4 := E3.c3
  have f0 := D3.c0
  have f1 := D3.c1
  have f2 := D3.c2
  have f3 := D3.c3
  have g0 := D3.frozen 0
  have g1 := D3.frozen 1
  have g2 := D3.frozen 2
  have g3 := D3.frozen 3
  clear C0
  go_wp2
  exact retL_at (D3.store c x f len) (below_store hb3 (Nat.le_refl _) _ _ _ _)

set_option maxHeartbeats 1000000 in
theorem lay_pad (b off len cap : Nat) (x0 c x : Int) (f : Nat) (w : World) (hp0 : 0 < len) (hl : len ≤ 512) (hlc : len ≤ cap) (hf : f ≤ len) (hx : (bits BinOp.and IntKind.u8 x0 32 != 0) = true)
    (C0 : Hid (∀ W, Below w.heap.size w W → W.cell? ⟨b, off, none⟩ = some (.int .u8 x0)))
    (CH : Hid (∀ W, Below w.heap.size w W → Calls Try.prog 35 #[.slice (some ⟨b, off, none⟩) len cap] W fun e w' => e = .returned (.int .i64 0) ∧ Below W.heap.size W w'))
    (CU : Hid (∀ W, Below w.heap.size w W → Calls Try.prog 36 #[.slice (some ⟨b, off, none⟩) len cap] W (RetU W c x f 0 true))) (p : Int) (ok : Bool) (hpd : 0 ≤ p ∧ p ≤ 512)
    (CP : Hid (∀ W X, Below w.heap.size w W → (cap ≠ f → X = some ⟨b, off + f, none⟩) → Calls Try.prog 37 #[.slice X (len - f) (cap - f)] W fun e w' => e = .returned (.tuple #[.int .i64 p, .bool ok]) ∧ W = w')) :
    Calls Try.prog 27 #[.slice (some ⟨b, off, none⟩) len cap] w (if ok then RetL w c x f (len - p) 0 else RetL w 0 0 0 0 1) := by
  by_cases hcf : cap = f
  case' pos => have hcf' := eq_true hcf
  case' neg => have hcf' := eq_false hcf
  all_goals
    have HCF := Lib.hid hcf
    clear hcf
    rcases ok with _ | _
    case' false => rw [if_neg (by decide)]
    case' true => rw [if_pos rfl]
    all_goals
      go_enter Try.func27, Try.ntmps27
      go_wp2_with fail
      have hb0 := (Below.refl w.heap.size w).alloc (Nat.le_refl _) L0
      refine (CH.out _ hb0).mono ?_
      rintro e w1 ⟨rfl, hb1⟩
      have D1 : LBlk w1 w.heap.size 0 0 0 0 := (LBlk.new w 0 0 0 0).below hb1 (by simp)
      have hb : Below w.heap.size w w1 := hb0.trans (hb1.mono (by simp))
      clear hb1 hb0 CH
      go_wp2_with fail
      refine (CU.out _ hb).mono ?_
      rintro e w2 ⟨rfl, hb2⟩
      have D2 : LBlk w2 w.heap.size 0 0 0 0 := D1.below hb2 D1.lt
      have hbb : Below w.heap.size w w2 := hb.trans (hb2.mono hb.size)
      clear hb hb2 D1 CU
      have hne : w2.heap.size ≠ w.heap.size := Nat.ne_of_gt D2.lt
      have D3 := D2.below ((Below.refl w2.heap.size w2).alloc (Nat.le_refl _) (.cells #[.int .i64 c, .int .i64 x, .int .i64 f, .int .i64 len] 51)) D2.lt
      have E3 := LBlk.new w2 c x f len
      have hb3 := hbb.alloc hbb.size (.cells #[.int .i64 c, .int .i64 x, .int .i64 f, .int .i64 len] 51)
      have hqq := hbb.size
      have k0 := C0.out _ hb3
      have k3 := E3.c2
      have k4 := E3.c3
      clear C0
      go_wp2_with fail
      clear k0 k3 k4
      generalize w2.alloc (.cells #[.int .i64 c, .int .i64 x, .int .i64 f, .int .i64 len] 51) = w3 at *
      generalize w2.heap.size = q at *
      refine (CP.out _ _ hb3 ?_).mono ?_
      · intro h
        first
          | exact absurd HCF.out h
          | rfl
      rintro e w' ⟨rfl, rfl⟩
      clear CP
      first
        | (have f0 := D3.c0
           have f1 := D3.c1
           have f2 := D3.c2
           have f3 := D3.c3
           have g0 := D3.frozen 0
           have g1 := D3.frozen 1
           have g2 := D3.frozen 2
           have g3 := D3.frozen 3
           go_wp2
           exact retL_at (D3.store 0 0 0 0) (below_store hb3 (Nat.le_refl _) _ _ _ _))
        | (have k3 := E3.c3
           have j3 := E3.frozen 3
           have E4 := E3.set3 (len - p)
           have D4 := D3.off (p := ⟨q, 3, none⟩) hne (.int .i64 (len - p))
           have hb4 := hb3.setCell (p := ⟨q, 3, none⟩) hqq (.int .i64 (len - p))
           have k1 := E4.c0
           have k2 := E4.c1
           have k3' := E4.c2
           have k4 := E4.c3
           have f0 := D4.c0
           have f1 := D4.c1
           have f2 := D4.c2
           have f3 := D4.c3
           have g0 := D4.frozen 0
           have g1 := D4.frozen 1
           have g2 := D4.frozen 2
           have g3 := D4.frozen 3
           go_wp2
           exact retL_at (D4.store c x f (len - p)) (below_store hb4 (Nat.le_refl _) _ _ _ _))
end Go.Proofs.Ytiamdaeodkiccaa.Rtp
