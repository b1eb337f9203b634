/- The contracts of rtcp.sizeOf, rtcp.Size. -/
import Derived.Test.YtjbgfaoancmknaaVc
import Derived.Test.YtjbgfaoancmknaaVb
import Derived.Test.YtjbgfaoancmknaaVa
import Derived.Test.YtjbgfaoancmknaaQe
import Derived.Handy
namespace Go.Proofs.Ytjbgfaoancmknaa.Fbk
open Go.RowKit
set_option linter.unusedVariables false

set_option maxHeartbeats 1000000 in
theorem size_203 (ssrc ntp time pks ocs : Int) (ba : Option Addr) (bn bc : Nat) (ga : Option Addr) (gn gc : Nat) (media : Int) (pa : Option Addr) (pn pc : Nat) (w : World) (h : gn ≤ 140737488351232) :
    Calls Try.prog 25 #[itm ⟨203, ssrc, ntp, time, pks, ocs, ba, bn, bc, ga, gn, gc, media, pa, pn, pc⟩] w (RetI w (4 + 4 * (gn : Int))) := by
  have HB := Lib.hid ((Below.refl w.heap.size w).alloc (Nat.le_refl _) (iobj ⟨203, ssrc, ntp, time, pks, ocs, ba, bn, bc, ga, gn, gc, media, pa, pn, pc⟩))
  have D := IBlk.new w ⟨203, ssrc, ntp, time, pks, ocs, ba, bn, bc, ga, gn, gc, media, pa, pn, pc⟩
  have c0 := D.c0
  have c7 := D.c7
  clear D
  go_enter Try.func25, Try.ntmps25
  go_wp2
  go_ret
  exact ⟨rfl, HB.out⟩
set_option maxHeartbeats 1000000 in
theorem size_205 (v : IV) (w : World) (hk : v.kind = 205 ∨ v.kind = 206) (h : v.pn ≤ 140737488351232) :
    Calls Try.prog 25 #[itm v] w (RetI w (4 + 4 * (2 + (v.pn : Int)))) := by
  have HB := Lib.hid ((Below.refl w.heap.size w).alloc (Nat.le_refl _) (iobj v))
  have D := IBlk.new w v
  have c0 := D.c0
  have c9 := D.c9
  clear D
  rcases hk with hk | hk
  all_goals
    rw [hk] at c0
    clear hk
    go_enter Try.func25, Try.ntmps25
    go_wp2
    go_ret
    exact ⟨rfl, HB.out⟩
set_option maxHeartbeats 1000000 in
theorem size_rest (v : IV) (ys : List Int) (n : Int) (w : World) (k2 : ¬ v.kind = 203) (k3 : ¬ v.kind = 205) (k4 : ¬ v.kind = 206) (CM : Hid (∀ W, Below w.heap.size w W → Calls Try.prog 31 #[itm v] W (RetR W ys n))) :
    Calls Try.prog 25 #[itm v] w (RetI w ys.length) := by
  have b2 : (v.kind == 203) = false := by simpa using k2
  have b3 : (v.kind == 205) = false := by simpa using k3
  have b4 : (v.kind == 206) = false := by simpa using k4
  have HB := Lib.hid ((Below.refl w.heap.size w).alloc (Nat.le_refl _) (iobj v))
  have D := IBlk.new w v
  have c0 := D.c0
  have c1 := D.c1
  have c2 := D.c2
  have c3 := D.c3
  have c4 := D.c4
  have c5 := D.c5
  have c6 := D.c6
  have c7 := D.c7
  have c8 := D.c8
  have c9 := D.c9
  clear D
  go_enter Try.func25, Try.ntmps25
  go_wp2_with fail
  refine (CM.out _ HB.out).mono ?_
  rintro e w2 ⟨A, c, rfl, ho, hb2⟩
  have HB2 := Lib.hid (HB.out.trans (hb2.mono HB.out.size))
  clear hb2 ho c0 c1 c2 c3 c4 c5 c6 c7 c8 c9
  go_wp2
  go_ret
  exact ⟨rfl, HB2.out⟩
theorem encI_203 (i : Itm) (h : i.kind = 203) (hM : MayI i) : (encI i).length = 4 + 4 * i.gone.length := by
  rcases hM with ⟨k, _⟩ | ⟨k, _⟩ | ⟨k, s, b, p, m, z, r1, r2⟩ | ⟨k, _⟩ | ⟨k, _⟩
  all_goals (try (rw [h] at k; exact absurd k (by decide)))
  rw [encI_length]; simp [bodyI, h, b, p, bes_length, blosB, pairsB]
theorem encI_205 (i : Itm) (h : i.kind = 205 ∨ i.kind = 206) (hM : MayI i) : (encI i).length = 4 + 4 * (2 + i.pairs.length) := by
  have h3 : ¬ i.kind = 203 := by omega
  have h0 : ¬ i.kind = 200 := by omega
  rcases hM with ⟨k, _⟩ | ⟨k, _⟩ | ⟨k, _⟩ | ⟨k, s, b, g, _⟩ | ⟨k, s, b, g, _⟩
  all_goals (try (exfalso; omega))
  all_goals
    rw [encI_length]; simp [bodyI, k, b, g, bes, blosB, pairsB_length, be_length]; omega
theorem rc_size (w : World) (i : Itm) (l : ILoc) (B : Nat) (ho : i.Ok) (h : IRd w B i l) (hB : B ≤ w.heap.size) (hM : MayI i) : Calls Try.prog 25 #[itm (ivOf i l)] w (RetI w (encI i).length) := by
  by_cases k2 : i.kind = 203
  · have e := encI_203 i k2 hM
    have := size_203 i.ssrc i.ntp i.time i.pks i.ocs l.ba i.blocks.length l.bc l.ga i.gone.length l.gc i.media l.pa i.pairs.length l.pc w h.gn
    rw [e, ivOf, k2]
    simpa using this
  by_cases k3 : i.kind = 205 ∨ i.kind = 206
  · have e := encI_205 i k3 hM
    have := size_205 (ivOf i l) w k3 h.pn
    rw [e]
    simpa [ivOf] using this
  have e : putRB i = encI i := by
    have hr : isRep i.kind = true := by
      rcases hM with ⟨k, _⟩ | ⟨k, _⟩ | ⟨k, _⟩ | ⟨k, _⟩ | ⟨k, _⟩ <;> simp [isRep, k] <;> omega
    rw [putRB, putRE, hr, (mayI_iff i).2 hM]; rfl
  rw [← e]
  exact size_rest (ivOf i l) (putRB i) (putRE i) w k2 (fun h => k3 (.inl h)) (fun h => k3 (.inr h)) (fun W hW => put_itm W i l B ho (h.below (hW.mono hB)) (Nat.le_trans hB hW.size))
end Go.Proofs.Ytjbgfaoancmknaa.Fbk
