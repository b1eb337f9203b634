/- The contracts of the reference's SizeItems, PutItems. -/
import Derived.Test.YthmmafpmpnhleaaVd
import Derived.Test.YthmmafpmpnhleaaQk
set_option maxRecDepth 100000
namespace Go.Proofs.Ythmmafpmpnhleaa.Fbk
open Go.RowKit
set_option linter.unusedVariables false

set_option maxHeartbeats 1000000 in
theorem rputl_count (a : Option Addr) (n c : Nat) (w : World) (h : ¬ (1 ≤ n ∧ n ≤ 8)) : Calls Try.prog 18 #[.slice a n c] w (RetR w [] 1) := by
  by_cases h1 : n < 1
  · have h1' : (n : Int) < 1 := by omega
    clear h
    go_enter Try.func18, Try.ntmps18
    go_wp2
    go_ret2
    exact ⟨none, 0, rfl, Own.nil _ _, Below.refl _ _⟩
  · have h1' : ¬ (n : Int) < 1 := by omega
    have h8 : (8 : Int) < n := by omega
    clear h
    go_enter Try.func18, Try.ntmps18
    go_wp2
    go_ret2
    exact ⟨none, 0, rfl, Own.nil _ _, Below.refl _ _⟩
set_option maxRecDepth 100000 in
set_option maxHeartbeats 8000000 in
theorem rputl_some (a : Option Addr) (n c B : Nat) (ps : List (Itm × ILoc)) (w : World) (h1 : 1 ≤ n) (h8 : n ≤ 8) (hr : ItsRd w B a n ps) (hB : B ≤ w.heap.size) (hok : OkL (its ps)) :
    Calls Try.prog 18 #[.slice a n c] w (RetR w (putLB (its ps)) (putLE (its ps))) := by
  have hi1 : ¬ (n : Int) < 1 := by omega
  have hi8 : ¬ (8 : Int) < n := by omega
  have HR := Lib.hid hr
  have HO := Lib.hid hok
  have HLn := Lib.hid (show (its ps).length = n from by rw [its_len, hr.len])
  have H18 := Lib.hid (And.intro h1 h8)
  clear hr hok
  go_enter Try.func18, Try.ntmps18
  go_wp2
  go_loopw [4, 17] (fun sl sk wx => ∃ (k M : Nat) (A : Option Addr) (c : Nat), k ≤ n ∧ M ≤ 388 * k ∧ sk = .int .i64 k ∧ sl = .slice A M c ∧ Hid (mayL (its (ps.take k)) = true) ∧ Hid (Own wx w.heap.size A M c (encL (its (ps.take k)))) ∧ Hid (Below w.heap.size w wx)) (fun _ sk _ => n - (intOf sk).toNat)
  case atStart => exact ⟨0, 0, none, 0, by omega, by omega, rfl, rfl, rfl, Own.nil _ _, Below.refl _ _⟩
  case round =>
    obtain ⟨k, M, A, cc, hk, hM388, rfl, rfl, hq, ho, hb⟩ := hrel
    rename World => wx
    by_cases hlt : k < n
    · obtain ⟨b, off, p, v, rfl, hbB, hx, hm, hv, hi, d0, d1, d2, d3, d4, d5, d6, d7, d8, d9⟩ := its_at (HR.out.below (hb.out.mono hB)) hlt
      have hoi := HO.out p.1 (List.mem_map.2 ⟨p, hm, rfl⟩)
      have hBx : B ≤ wx.heap.size := Nat.le_trans hB hb.out.size
      have CM : Hid (∀ W, Below wx.heap.size wx W → Calls Try.prog 37 #[itm v] W (RetB W (mayI p.1))) := fun W hW => hv ▸ rmay_all W p.1 p.2 B (hi.below (hW.mono hBx)) (Nat.le_trans hBx hW.size)
      have HD := Lib.hid (IBlk.new wx v)
      obtain ⟨c0, c1, c2, c3, c4, c5, c6, c7, c8, c9⟩ := HD.out.cells
      have HX : Hid (Below wx.heap.size wx (wx.alloc (iobj v))) := (Below.refl _ _).alloc (Nat.le_refl _) _
      rcases hmi : mayI p.1 with _ | _
      · have HZ : Hid (putLE (its ps) = 1 ∧ putLB (its ps) = []) := by
          have : ¬ mayL (its ps) = true := by
            rw [mayL_iff]
            intro hM
            have := hM p.1 (List.mem_map.2 ⟨p, hm, rfl⟩)
            rw [← mayI_iff, hmi] at this
            cases this
          have e : putLE (its ps) = 1 := by rw [putLE, if_neg (fun h => this h.2.2)]
          exact ⟨e, putLB_no (by rw [e]; decide)⟩
        rw [hmi] at CM
        clear hv hi hx hm hoi hmi
        go_wp2_with fail
        refine (CM.out _ HX.out).mono ?_
        rintro e w1 ⟨rfl, hb1⟩
        have HB1 := Lib.hid (hb.out.trans ((HX.out.trans (hb1.mono HX.out.size)).mono hb.out.size))
        clear hb1 c0 c1 c2 c3 c4 c5 c6 c7 c8 c9
        go_wp2
        go_ret2
        rw [HZ.out.1, HZ.out.2]
        exact ⟨none, 0, rfl, Own.nil _ _, HB1.out⟩
      · have hMI := (mayI_iff p.1).1 hmi
        have CS : Hid (∀ W, Below wx.heap.size wx W → Calls Try.prog 38 #[itm v] W (NewRow W (encI p.1))) := fun W hW => hv ▸ item_all W p.1 p.2 B hoi (hi.below (hW.mono hBx)) (Nat.le_trans hBx hW.size) hMI
        have HT : Hid (encL (its (ps.take (k + 1))) = encL (its (ps.take k)) ++ encI p.1) := by show encL (its (ps.take (k + 1))) = encL (its (ps.take k)) ++ encI p.1; rw [its_take_succ hx, encL_snoc]
        have HQ : Hid (mayL (its (ps.take (k + 1))) = true) := by show mayL (its (ps.take (k + 1))) = true; rw [its_take_succ hx, mayL_snoc, hq.out, hmi]; rfl
        have hml : (encI p.1).length ≤ 388 := encI_max p.1 hMI
        obtain ⟨m, hme⟩ : ∃ m, (encI p.1).length = m := ⟨_, rfl⟩
        rw [hmi] at CM
        clear hv hi hx hm hoi hMI hmi hq
        go_wp2_with fail
        refine (CM.out _ HX.out).mono ?_
        rintro e w1 ⟨rfl, hb1⟩
        have HX1 := Lib.hid (HX.out.trans (hb1.mono HX.out.size))
        have HD1 := Lib.hid (HD.out.bel hb1)
        clear hb1 c0 c1 c2 c3 c4 c5 c6 c7 c8 c9 HX HD CM
        obtain ⟨c0, c1, c2, c3, c4, c5, c6, c7, c8, c9⟩ := HD1.out.cells
        go_wp2_with fail
        refine (CS.out _ HX1.out).mono ?_
        rintro e w3 ⟨A2, c2', rfl, ho2, hb2⟩
        rw [hme] at ho2 hml ⊢
        have hX2 := HX1.out.trans (hb2.mono HX1.out.size)
        have HX2 := Lib.hid hX2
        have HB3 := Lib.hid (hb.out.trans (hX2.mono hb.out.size))
        have HO1 := Lib.hid (ho.out.below hX2 (Nat.le_refl _))
        have HR2 := Lib.hid ho2.rd
        clear hX2 ho2 hb2 c0 c1 c2 c3 c4 c5 c6 c7 c8 c9 HD1 HX1 CS
        go_wp2_with (at_builtin; refine wpList_append_bytes rfl (.tmp 24) (.tmp 26) rfl w.heap.size w3.heap.size M cc m c2' (M + m) A A2 _ _ (encL (its (ps.take (k + 1)))) rfl HT.out.symm rfl rfl HO1.out HR2.out HB3.out.size (by omega) ?_; intro A3 c3 w4 h4 hb4)
        have HO4 := Lib.hid h4
        have HB4 : Hid (Below w.heap.size w w4) := HB3.out.trans hb4
        clear h4 hb4
        go_wp2
        go_roundw
        case rel => exact ⟨k + 1, M + m, A3, c3, by omega, by omega, by go_num, rfl, HQ, HO4, HB4⟩
        case measure => simp [intOf]; omega
    · obtain rfl : k = n := by omega
      have ho := ho.out
      have hq := hq.out
      rw [List.take_of_length_le (by rw [HR.out.len]; exact Nat.le_refl _)] at ho hq
      have hl := ho.len
      by_cases h512 : 512 < M
      · have HZ : Hid (putLE (its ps) = 5 ∧ putLB (its ps) = []) := by
          have e : putLE (its ps) = 5 := by rw [putLE, if_pos ⟨by rw [HLn.out]; omega, by rw [HLn.out]; omega, hq⟩, if_neg (by omega)]
          exact ⟨e, putLB_no (by rw [e]; decide)⟩
        have h512' : (512 : Int) < M := by omega
        clear ho hq
        go_wp2
        go_ret2
        rw [HZ.out.1, HZ.out.2]
        exact ⟨none, 0, rfl, Own.nil _ _, hb.out⟩
      · have HZ : Hid (putLE (its ps) = 0 ∧ putLB (its ps) = encL (its ps)) := by
          have e : putLE (its ps) = 0 := by rw [putLE, if_pos ⟨by rw [HLn.out]; omega, by rw [HLn.out]; omega, hq⟩, if_pos (by omega)]
          exact ⟨e, by rw [putLB, if_pos e]⟩
        have h512' : ¬ (512 : Int) < M := by omega
        have HOf := Lib.hid ho
        clear ho hq
        go_wp2
        go_ret2
        rw [HZ.out.1, HZ.out.2]
        exact ⟨A, cc, by rw [hl]; rfl, by rw [hl]; exact HOf.out, hb.out⟩
theorem rf_put (a : Option Addr) (n c B : Nat) (ps : List (Itm × ILoc)) (w : World) (hr : ItsRd w B a n ps) (hB : B ≤ w.heap.size) (hok : OkL (its ps)) :
    Calls Try.prog 18 #[.slice a n c] w (RetR w (putLB (its ps)) (putLE (its ps))) := by
  have hlen : (its ps).length = n := by rw [its_len, hr.len]
  by_cases h18 : 1 ≤ n ∧ n ≤ 8
  · exact rputl_some a n c B ps w h18.1 h18.2 hr hB hok
  · have e1 : putLE (its ps) = 1 := by rw [putLE, if_neg (fun h => h18 ⟨by omega, by omega⟩)]
    rw [putLB, e1, if_neg (by decide)]
    exact rputl_count a n c w h18
end Go.Proofs.Ythmmafpmpnhleaa.Fbk
