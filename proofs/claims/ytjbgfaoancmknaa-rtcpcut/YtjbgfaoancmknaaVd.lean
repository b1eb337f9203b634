/- The contracts of rtcp.sizeOf, rtcp.Size. · The contract of rtcp.Size. -/
import Derived.Test.YtjbgfaoancmknaaVc
import Derived.Test.YtjbgfaoancmknaaVb
import Derived.Test.YtjbgfaoancmknaaVa
import Derived.Test.YtjbgfaoancmknaaQe
import Derived.Handy
namespace Go.Proofs.Ytjbgfaoancmknaa.Fbk
open Go.RowKit
set_option linter.unusedVariables false

set_option maxHeartbeats 1000000 in
theorem size_203 (ssrc ntp time pks ocs : Int) (ba : Option Addr) (bn bc : Nat) (ga : Option Addr) (gn gc : Nat) (media : Int) (pa : Option Addr) (pn pc : Nat) (w : World) (h : gn ≤ 140737488351232) :
    Calls Try.prog 25 #[itm ⟨203, ssrc, ntp, time, pks, ocs, ba, bn, bc, ga, gn, gc, media, pa, pn, pc⟩] w (RetI w (4 + 4 * (gn : Int))) := by
  have HB := Lib.hid ((Below.refl w.heap.size w).alloc (Nat.le_refl _) (iobj ⟨203, ssrc, ntp, time, pks, ocs, ba, bn, bc, ga, gn, gc, media, pa, pn, pc⟩))
  have D := IBlk.new w ⟨203, ssrc, ntp, time, pks, ocs, ba, bn, bc, ga, gn, gc, media, pa, pn, pc⟩
  have c0 := D.c0
  have c7 := D.c7
  clear D
  go_enter Try.func25, Try.ntmps25
  go_wp2
  go_ret
  exact ⟨rfl, HB.out⟩
set_option maxHeartbeats 1000000 in
theorem size_205 (v : IV) (w : World) (hk : v.kind = 205 ∨ v.kind = 206) (h : v.pn ≤ 140737488351232) :
    Calls Try.prog 25 #[itm v] w (RetI w (4 + 4 * (2 + (v.pn : Int)))) := by
  have HB := Lib.hid ((Below.refl w.heap.size w).alloc (Nat.le_refl _) (iobj v))
  have D := IBlk.new w v
  have c0 := D.c0
  have c9 := D.c9
  clear D
  rcases hk with hk | hk
  all_goals
    rw [hk] at c0
    clear hk
    go_enter Try.func25, Try.ntmps25
    go_wp2
    go_ret
    exact ⟨rfl, HB.out⟩
set_option maxHeartbeats 1000000 in
theorem size_rest (v : IV) (ys : List Int) (n : Int) (w : World) (k2 : ¬ v.kind = 203) (k3 : ¬ v.kind = 205) (k4 : ¬ v.kind = 206) (CM : Hid (∀ W, Below w.heap.size w W → Calls Try.prog 31 #[itm v] W (RetR W ys n))) :
    Calls Try.prog 25 #[itm v] w (RetI w ys.length) := by
  have b2 : (v.kind == 203) = false := by simpa using k2
  have b3 : (v.kind == 205) = false := by simpa using k3
  have b4 : (v.kind == 206) = false := by simpa using k4
  have HB := Lib.hid ((Below.refl w.heap.size w).alloc (Nat.le_refl _) (iobj v))
  have D := IBlk.new w v
  have c0 := D.c0
  have c1 := D.c1
  have c2 := D.c2
  have c3 := D.c3
  have c4 := D.c4
  have c5 := D.c5
  have c6 := D.c6
  have c7 := D.c7
  have c8 := D.c8
  have c9 := D.c9
  clear D
  go_enter Try.func25, Try.ntmps25
  go_wp2_with fail
  refine (CM.out _ HB.out).mono ?_
  rintro e w2 ⟨A, c, rfl, ho, hb2⟩
  have HB2 := Lib.hid (HB.out.trans (hb2.mono HB.out.size))
  clear hb2 ho c0 c1 c2 c3 c4 c5 c6 c7 c8 c9
  go_wp2
  go_ret
  exact ⟨rfl, HB2.out⟩
theorem encI_203 (i : Itm) (h : i.kind = 203) (hM : MayI i) : (encI i).length = 4 + 4 * i.gone.length := by
  rcases hM with ⟨k, _⟩ | ⟨k, _⟩ | ⟨k, s, b, p, m, z, r1, r2⟩ | ⟨k, _⟩ | ⟨k, _⟩
  all_goals (try (rw [h] at k; exact absurd k (by decide)))
  rw [encI_length]; simp [bodyI, h, b, p, bes_length, blosB, pairsB]
theorem encI_205 (i : Itm) (h : i.kind = 205 ∨ i.kind = 206) (hM : MayI i) : (encI i).length = 4 + 4 * (2 + i.pairs.length) := by
  have h3 : ¬ i.kind = 203 := by omega
  have h0 : ¬ i.kind = 200 := by omega
  rcases hM with ⟨k, _⟩ | ⟨k, _⟩ | ⟨k, _⟩ | ⟨k, s, b, g, _⟩ | ⟨k, s, b, g, _⟩
  all_goals (try (exfalso; omega))
  all_goals
    rw [encI_length]; simp [bodyI, k, b, g, bes, blosB, pairsB_length, be_length]; omega
theorem rc_size (w : World) (i : Itm) (l : ILoc) (B : Nat) (ho : i.Ok) (h : IRd w B i l) (hB : B ≤ w.heap.size) (hM : MayI i) : Calls Try.prog 25 #[itm (ivOf i l)] w (RetI w (encI i).length) := by
  by_cases k2 : i.kind = 203
  · have e := encI_203 i k2 hM
    have := size_203 i.ssrc i.ntp i.time i.pks i.ocs l.ba i.blocks.length l.bc l.ga i.gone.length l.gc i.media l.pa i.pairs.length l.pc w h.gn
    rw [e, ivOf, k2]
    simpa using this
  by_cases k3 : i.kind = 205 ∨ i.kind = 206
  · have e := encI_205 i k3 hM
    have := size_205 (ivOf i l) w k3 h.pn
    rw [e]
    simpa [ivOf] using this
  have e : putRB i = encI i := by
    have hr : isRep i.kind = true := by
      rcases hM with ⟨k, _⟩ | ⟨k, _⟩ | ⟨k, _⟩ | ⟨k, _⟩ | ⟨k, _⟩ <;> simp [isRep, k] <;> omega
    rw [putRB, putRE, hr, (mayI_iff i).2 hM]; rfl
  rw [← e]
  exact size_rest (ivOf i l) (putRB i) (putRE i) w k2 (fun h => k3 (.inl h)) (fun h => k3 (.inr h)) (fun W hW => put_itm W i l B ho (h.below (hW.mono hB)) (Nat.le_trans hB hW.size))
end Go.Proofs.Ytjbgfaoancmknaa.Fbk

namespace Go.Proofs.Ytjbgfaoancmknaa.Fbk
open Go.RowKit
set_option linter.unusedVariables false

theorem mayL_snoc (l : List Itm) (i : Itm) : mayL (l ++ [i]) = (mayL l && mayI i) := by simp [mayL]
theorem encL_snoc (l : List Itm) (i : Itm) : encL (l ++ [i]) = encL l ++ encI i := by rw [encL_append]; simp [encL]
theorem its_len (ps : List (Itm × ILoc)) : (its ps).length = ps.length := by simp [its]
theorem sizeL_no {ps : List (Itm × ILoc)} {p : Itm × ILoc} (h : p ∈ ps) (hm : mayI p.1 = false) : sizeL (its ps) = 0 := by
  have : ¬ mayL (its ps) = true := by
    rw [mayL_iff]
    intro hM
    have := hM p.1 (List.mem_map.2 ⟨p, h, rfl⟩)
    rw [← mayI_iff, hm] at this
    cases this
  rw [sizeL, if_neg this]
set_option maxHeartbeats 4000000 in
theorem rc_sizes (a : Option Addr) (n c B : Nat) (ps : List (Itm × ILoc)) (w : World) (hl : n ≤ 140737488351232) (hr : ItsRd w B a n ps) (hB : B ≤ w.heap.size) (hok : OkL (its ps)) :
    Calls Try.prog 14 #[.slice a n c] w (RetI w (sizeL (its ps))) := by
  have HR := Lib.hid hr
  have HO := Lib.hid hok
  clear hr hok
  go_enter Try.func14, Try.ntmps14
  go_wp2
  go_loopw [3, 8] (fun sn sk wx => ∃ k N : Nat, k ≤ n ∧ N ≤ 388 * k ∧ sk = .int .i64 k ∧ sn = .int .i64 N ∧ Hid (mayL (its (ps.take k)) = true ∧ (encL (its (ps.take k))).length = N) ∧ Hid (Below w.heap.size w wx)) (fun _ sk _ => n - (intOf sk).toNat)
  case atStart => exact ⟨0, 0, by omega, by omega, rfl, rfl, ⟨rfl, rfl⟩, Below.refl _ _⟩
  case round =>
    obtain ⟨k, N, hk, hN, rfl, rfl, hq, hb⟩ := hrel
    rename World => wx
    by_cases hlt : k < n
    · obtain ⟨b, off, p, v, rfl, hbB, hx, hm, hv, hi, d0, d1, d2, d3, d4, d5, d6, d7, d8, d9⟩ := its_at (HR.out.below (hb.out.mono hB)) hlt
      have hoi := HO.out p.1 (List.mem_map.2 ⟨p, hm, rfl⟩)
      have hBx : B ≤ wx.heap.size := Nat.le_trans hB hb.out.size
      have CM : Hid (∀ W, Below wx.heap.size wx W → Calls Try.prog 12 #[itm v] W (RetB W (mayI p.1))) := fun W hW => hv ▸ rc_may W p.1 p.2 B (hi.below (hW.mono hBx)) (Nat.le_trans hBx hW.size)
      have HD := Lib.hid (IBlk.new wx v)
      have c0 := HD.out.c0
      have c1 := HD.out.c1
      have c2 := HD.out.c2
      have c3 := HD.out.c3
      have c4 := HD.out.c4
      have c5 := HD.out.c5
      have c6 := HD.out.c6
      have c7 := HD.out.c7
      have c8 := HD.out.c8
      have c9 := HD.out.c9
      have HX : Hid (Below wx.heap.size wx (wx.alloc (iobj v))) := (Below.refl _ _).alloc (Nat.le_refl _) _
      rcases hmi : mayI p.1 with _ | _
      · have HZ := Lib.hid (sizeL_no hm hmi)
        rw [hmi] at CM
        clear hv hi hx hm hoi hmi
        go_wp2_with fail
        refine (CM.out _ HX.out).mono ?_
        rintro e w1 ⟨rfl, hb1⟩
        have HB1 := Lib.hid (hb.out.trans ((HX.out.trans (hb1.mono HX.out.size)).mono hb.out.size))
        clear hb1 c0 c1 c2 c3 c4 c5 c6 c7 c8 c9
        go_wp2
        go_ret
        exact ⟨by rw [HZ.out]; rfl, HB1.out⟩
      · have hMI := (mayI_iff p.1).1 hmi
        obtain ⟨M, hM⟩ : ∃ M, (encI p.1).length = M := ⟨_, rfl⟩
        have hM8 : M ≤ 388 := by rw [← hM]; exact encI_max p.1 hMI
        have CS : Hid (∀ W, Below wx.heap.size wx W → Calls Try.prog 25 #[itm v] W (RetI W (M : Nat))) := fun W hW => by
          have := rc_size W p.1 p.2 B hoi (hi.below (hW.mono hBx)) (Nat.le_trans hBx hW.size) hMI
          rwa [← hv, hM] at this
        have HQ : Hid (mayL (its (ps.take (k + 1))) = true ∧ (encL (its (ps.take (k + 1)))).length = N + M) := by
          show mayL (its (ps.take (k + 1))) = true ∧ (encL (its (ps.take (k + 1)))).length = N + M
          rw [its_take_succ hx, mayL_snoc, encL_snoc, hq.out.1, hmi, List.length_append, hq.out.2, hM]
          exact ⟨rfl, rfl⟩
        rw [hmi] at CM
        clear hv hi hx hm hoi hmi hM hMI
        go_wp2_with fail
        refine (CM.out _ HX.out).mono ?_
        rintro e w1 ⟨rfl, hb1⟩
        have HX1 := Lib.hid (HX.out.trans (hb1.mono HX.out.size))
        have HD1 := Lib.hid (HD.out.bel hb1)
        clear hb1 c0 c1 c2 c3 c4 c5 c6 c7 c8 c9 HX HD
        have c0 := HD1.out.c0
        have c1 := HD1.out.c1
        have c2 := HD1.out.c2
        have c3 := HD1.out.c3
        have c4 := HD1.out.c4
        have c5 := HD1.out.c5
        have c6 := HD1.out.c6
        have c7 := HD1.out.c7
        have c8 := HD1.out.c8
        have c9 := HD1.out.c9
        go_wp2_with fail
        refine (CS.out _ HX1.out).mono ?_
        rintro e w2 ⟨rfl, hb2⟩
        have HB2 := Lib.hid (hb.out.trans ((HX1.out.trans (hb2.mono HX1.out.size)).mono hb.out.size))
        clear hb2 c0 c1 c2 c3 c4 c5 c6 c7 c8 c9
        go_wp2
        go_roundw
        case rel => exact ⟨k + 1, N + M, by omega, by omega, by go_num, by go_num, HQ, HB2⟩
        case measure => simp [intOf]; omega
    · obtain rfl : k = n := by omega
      have HZ : Hid (sizeL (its ps) = N) := by
        show sizeL (its ps) = N
        have hq := hq.out
        rw [List.take_of_length_le (by rw [HR.out.len]; exact Nat.le_refl _)] at hq
        rw [sizeL, if_pos hq.1, hq.2]
      go_wp2
      go_ret
      exact ⟨by rw [HZ.out]; rfl, hb.out⟩
end Go.Proofs.Ytjbgfaoancmknaa.Fbk
