/- The contract of rtcp.Size. -/
import Derived.Test.YtjbgfaoancmknaaVd
namespace Go.Proofs.Ytjbgfaoancmknaa.Fbk
open Go.RowKit
set_option linter.unusedVariables false

theorem mayL_snoc (l : List Itm) (i : Itm) : mayL (l ++ [i]) = (mayL l && mayI i) := by simp [mayL]
theorem encL_snoc (l : List Itm) (i : Itm) : encL (l ++ [i]) = encL l ++ encI i := by rw [encL_append]; simp [encL]
theorem its_len (ps : List (Itm × ILoc)) : (its ps).length = ps.length := by simp [its]
theorem sizeL_no {ps : List (Itm × ILoc)} {p : Itm × ILoc} (h : p ∈ ps) (hm : mayI p.1 = false) : sizeL (its ps) = 0 := by
  have : ¬ mayL (its ps) = true := by
    rw [mayL_iff]
    intro hM
    have := hM p.1 (List.mem_map.2 ⟨p, h, rfl⟩)
    rw [← mayI_iff, hm] at this
    cases this
  rw [sizeL, if_neg this]
set_option maxHeartbeats 4000000 in
theorem rc_sizes (a : Option Addr) (n c B : Nat) (ps : List (Itm × ILoc)) (w : World) (hl : n ≤ 140737488351232) (hr : ItsRd w B a n ps) (hB : B ≤ w.heap.size) (hok : OkL (its ps)) :
    Calls Try.prog 14 #[.slice a n c] w (RetI w (sizeL (its ps))) := by
  have HR := Lib.hid hr
  have HO := Lib.hid hok
  clear hr hok
  go_enter Try.func14, Try.ntmps14
  go_wp2
  go_loopw [3, 8] (fun sn sk wx => ∃ k N : Nat, k ≤ n ∧ N ≤ 388 * k ∧ sk = .int .i64 k ∧ sn = .int .i64 N ∧ Hid (mayL (its (ps.take k)) = true ∧ (encL (its (ps.take k))).length = N) ∧ Hid (Below w.heap.size w wx)) (fun _ sk _ => n - (intOf sk).toNat)
  case atStart => exact ⟨0, 0, by omega, by omega, rfl, rfl, ⟨rfl, rfl⟩, Below.refl _ _⟩
  case round =>
    obtain ⟨k, N, hk, hN, rfl, rfl, hq, hb⟩ := hrel
    rename World => wx
    by_cases hlt : k < n
    · obtain ⟨b, off, p, v, rfl, hbB, hx, hm, hv, hi, d0, d1, d2, d3, d4, d5, d6, d7, d8, d9⟩ := its_at (HR.out.below (hb.out.mono hB)) hlt
      have hoi := HO.out p.1 (List.mem_map.2 ⟨p, hm, rfl⟩)
      have hBx : B ≤ wx.heap.size := Nat.le_trans hB hb.out.size
      have CM : Hid (∀ W, Below wx.heap.size wx W → Calls Try.prog 12 #[itm v] W (RetB W (mayI p.1))) := fun W hW => hv ▸ rc_may W p.1 p.2 B (hi.below (hW.mono hBx)) (Nat.le_trans hBx hW.size)
      have HD := Lib.hid (IBlk.new wx v)
      have c0 := HD.out.c0
      have c1 := HD.out.c1
      have c2 := HD.out.c2
      have c3 := HD.out.c3
      have c4 := HD.out.c4
      have c5 := HD.out.c5
      have c6 := HD.out.c6
      have c7 := HD.out.c7
      have c8 := HD.out.c8
      have c9 := HD.out.c9
      have HX : Hid (Below wx.heap.size wx (wx.alloc (iobj v))) := (Below.refl _ _).alloc (Nat.le_refl _) _
      rcases hmi : mayI p.1 with _ | _
      · have HZ := Lib.hid (sizeL_no hm hmi)
        rw [hmi] at CM
        clear hv hi hx hm hoi hmi
        go_wp2_with fail
        refine (CM.out _ HX.out).mono ?_
        rintro e w1 ⟨rfl, hb1⟩
        have HB1 := Lib.hid (hb.out.trans ((HX.out.trans (hb1.mono HX.out.size)).mono hb.out.size))
        clear hb1 c0 c1 c2 c3 c4 c5 c6 c7 c8 c9
        go_wp2
        go_ret
        exact ⟨by rw [HZ.out]; rfl, HB1.out⟩
      · have hMI := (mayI_iff p.1).1 hmi
        obtain ⟨M, hM⟩ : ∃ M, (encI p.1).length = M := ⟨_, rfl⟩
        have hM8 : M ≤ 388 := by rw [← hM]; exact encI_max p.1 hMI
        have CS : Hid (∀ W, Below wx.heap.size wx W → Calls Try.prog 25 #[itm v] W (RetI W (M : Nat))) := fun W hW => by
          have := rc_size W p.1 p.2 B hoi (hi.below (hW.mono hBx)) (Nat.le_trans hBx hW.size) hMI
          rwa [← hv, hM] at this
        have HQ : Hid (mayL (its (ps.take (k + 1))) = true ∧ (encL (its (ps.take (k + 1)))).length = N + M) := by
          show mayL (its (ps.take (k + 1))) = true ∧ (encL (its (ps.take (k + 1)))).length = N + M
          rw [its_take_succ hx, mayL_snoc, encL_snoc, hq.out.1, hmi, List.length_append, hq.out.2, hM]
          exact ⟨rfl, rfl⟩
        rw [hmi] at CM
        clear hv hi hx hm hoi hmi hM hMI
        go_wp2_with fail
        refine (CM.out _ HX.out).mono ?_
        rintro e w1 ⟨rfl, hb1⟩
        have HX1 := Lib.hid (HX.out.trans (hb1.mono HX.out.size))
        have HD1 := Lib.hid (HD.out.bel hb1)
        clear hb1 c0 c1 c2 c3 c4 c5 c6 c7 c8 c9 HX HD
        have c0 := HD1.out.c0
        have c1 := HD1.out.c1
        have c2 := HD1.out.c2
        have c3 := HD1.out.c3
        have c4 := HD1.out.c4
        have c5 := HD1.out.c5
        have c6 := HD1.out.c6
        have c7 := HD1.out.c7
        have c8 := HD1.out.c8
        have c9 := HD1.out.c9
        go_wp2_with fail
        refine (CS.out _ HX1.out).mono ?_
        rintro e w2 ⟨rfl, hb2⟩
        have HB2 := Lib.hid (hb.out.trans ((HX1.out.trans (hb2.mono HX1.out.size)).mono hb.out.size))
        clear hb2 c0 c1 c2 c3 c4 c5 c6 c7 c8 c9
        go_wp2
        go_roundw
        case rel => exact ⟨k + 1, N + M, by omega, by omega, by go_num, by go_num, HQ, HB2⟩
        case measure => simp [intOf]; omega
    · obtain rfl : k = n := by omega
      have HZ : Hid (sizeL (its ps) = N) := by
        show sizeL (its ps) = N
        have hq := hq.out
        rw [List.take_of_length_le (by rw [HR.out.len]; exact Nat.le_refl _)] at hq
        rw [sizeL, if_pos hq.1, hq.2]
      go_wp2
      go_ret
      exact ⟨by rw [HZ.out]; rfl, hb.out⟩
end Go.Proofs.Ytjbgfaoancmknaa.Fbk
