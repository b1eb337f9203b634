/- A row of acts that came in, opened; the law's some. -/
import Derived.Test.YtdnnfoacpjgloaaEl
import Derived.Test.YtdnnfoacpjgloaaEd
import Derived.Test.YtdnnfoacpjgloaaFh
import Derived.Test.YtdnnfoacpjgloaaAg
set_option maxRecDepth 100000
namespace Go.Proofs.Ytdnnfoacpjgloaa.Arn
open Go.RowKit
set_option linter.unusedVariables false

set_option maxHeartbeats 4000000 in
theorem some_any (w : World) (T : List (Int × Int)) (a : Option Addr) (m c B : Nat) (n : Int) (hr : RowRd hndL w B a m T) (hB : B ≤ w.heap.size) (hm : m ≤ 1048576) (hn : -9223372036854775808 ≤ n ∧ n ≤ 9223372036854775807) :
    Calls Try.prog 10 #[.slice a m c, .int .i64 n] w fun e w' => e = .returned (hnV (someH T n).1 (someH T n).2) ∧ Below w.heap.size w w' := by
  have hB0 := (Below.refl w.heap.size w).alloc (Nat.le_refl _) (hnO 0 0)
  rcases Nat.eq_zero_or_pos m with h0 | h0
  · subst h0
    have hs : someH T n = (0, 0) := by unfold someH; rw [if_pos hr.1]
    rw [hs]
    have D := HBlk.new w 0 0
    have f0 := D.frozen 0
    have f1 := D.frozen 1
    have d0 := D.c0
    have d1 := D.c1
    have HB := Lib.hid hB0
    clear hB0 hr
    go_enter Try.func10, Try.ntmps10
    go_wp2
    exact retH_at Try.results10 D ⟨rfl, HB.out⟩
  · obtain ⟨g1, g2, g3, g4⟩ := someI_lt n m h0
    obtain ⟨b, off, x, rfl, hb, hx, c0, c1⟩ := hnd_at hr g1
    have hs : someH T n = x := by unfold someH; rw [if_neg (by rw [hr.1]; omega), hr.1, List.getD_eq_getElem?_getD, hx]; rfl
    rw [hs]
    have e0 : (w.alloc (hnO 0 0)).cell? ⟨b, off + someI n m * 2, none⟩ = some (.int .i64 x.1) := (hB0.cell (p := ⟨b, off + someI n m * 2, none⟩) (by show b < _; omega)).trans c0
    have e1 : (w.alloc (hnO 0 0)).cell? ⟨b, off + someI n m * 2 + 1, none⟩ = some (.int .u32 x.2) := (hB0.cell (p := ⟨b, off + someI n m * 2 + 1, none⟩) (by show b < _; omega)).trans c1
    generalize someI n m = k at *
    have q1 : IntKind.i64.wrap (n.tmod m) = n.tmod m := IntWalk.i64_in _ (by omega)
    have q2 : IntKind.i64.wrap (n.tmod m + m) = n.tmod m + m := IntWalk.i64_in _ (by omega)
    have q3 : IntKind.i64.wrap ((n.tmod m + m).tmod m) = (k : Int) := by rw [g2]; exact IntWalk.i64_in _ (by omega)
    have hm0 : ((m : Int) == 0) = false := by simp; omega
    have hm1 : ¬ (m : Int) = 0 := by omega
    have D := HBlk.new w 0 0
    have f0 := D.frozen 0
    have f1 := D.frozen 1
    have d0 := D.c0
    have d1 := D.c1
    have HD := Lib.hid (HBlk.new w x.1 x.2)
    have HB := Lib.hid ((Below.refl w.heap.size w).alloc (Nat.le_refl _) (hnO x.1 x.2))
    clear hB0 hr c0 c1 hs hx
    go_enter Try.func10, Try.ntmps10
    go_wp2
    exact retH_at Try.results10 HD.out ⟨rfl, HB.out⟩
end Go.Proofs.Ytdnnfoacpjgloaa.Arn
