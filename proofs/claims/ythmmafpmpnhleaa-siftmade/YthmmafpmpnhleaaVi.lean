/- The contract of rtcp.Put. -/
import Derived.Test.YthmmafpmpnhleaaVf
import Derived.Test.YthmmafpmpnhleaaVd
set_option maxRecDepth 100000
namespace Go.Proofs.Ythmmafpmpnhleaa.Fbk
open Go.RowKit
set_option linter.unusedVariables false

set_option maxHeartbeats 1000000 in
theorem putl_count (a : Option Addr) (n c : Nat) (w : World) (h : ¬ (1 ≤ n ∧ n ≤ 8)) : Calls Try.prog 24 #[.slice a n c] w (RetR w [] 1) := by
  have CW : Hid (∀ W, Calls Try.prog 51 #[.int .i64 n, .int .i64 8] W fun e w' => e = .returned (.bool false) ∧ W = w') := fun W => by
    have := within_any n 8 W
    rwa [show (decide (1 ≤ (n : Int)) && decide ((n : Int) ≤ 8)) = false from by rw [Bool.and_eq_false_iff]; simp; omega] at this
  clear h
  go_enter Try.func24, Try.ntmps24
  go_wp2_with fail
  refine (CW.out _).mono ?_
  rintro e w' ⟨rfl, rfl⟩
  go_wp2
  go_ret2
  exact ⟨none, 0, rfl, Own.nil _ _, Below.refl _ _⟩
theorem in_eight {n : Nat} (h1 : 1 ≤ n) (h8 : n ≤ 8) : Hid (∀ W, Calls Try.prog 51 #[.int .i64 n, .int .i64 8] W fun e w' => e = .returned (.bool true) ∧ W = w') := fun W => by
  have := within_any n 8 W
  rwa [show (decide (1 ≤ (n : Int)) && decide ((n : Int) ≤ 8)) = true from by simp; omega] at this
set_option maxHeartbeats 1000000 in
theorem putl_zero (a : Option Addr) (n c : Nat) (w : World) (h1 : 1 ≤ n) (h8 : n ≤ 8) (CZ : Hid (∀ W, Below w.heap.size w W → Calls Try.prog 52 #[.slice a n c] W (RetI W 0))) : Calls Try.prog 24 #[.slice a n c] w (RetR w [] 1) := by
  have CW := in_eight h1 h8
  clear h1 h8
  go_enter Try.func24, Try.ntmps24
  go_wp2_with fail
  refine (CW.out _).mono ?_
  rintro e w' ⟨rfl, rfl⟩
  go_wp2_with fail
  refine (CZ.out _ (Below.refl _ _)).mono ?_
  rintro e w1 ⟨rfl, hb1⟩
  go_wp2
  go_ret2
  exact ⟨none, 0, rfl, Own.nil _ _, hb1⟩
set_option maxHeartbeats 1000000 in
theorem putl_big (a : Option Addr) (n c N : Nat) (w : World) (h1 : 1 ≤ n) (h8 : n ≤ 8) (hN : 512 < N) (CZ : Hid (∀ W, Below w.heap.size w W → Calls Try.prog 52 #[.slice a n c] W (RetI W N))) : Calls Try.prog 24 #[.slice a n c] w (RetR w [] 5) := by
  have CW := in_eight h1 h8
  have hN0 : ((N : Int) == 0) = false := by simp; omega
  have hN1 : (512 : Int) < N := by omega
  clear h1 h8
  go_enter Try.func24, Try.ntmps24
  go_wp2_with fail
  refine (CW.out _).mono ?_
  rintro e w' ⟨rfl, rfl⟩
  go_wp2_with fail
  refine (CZ.out _ (Below.refl _ _)).mono ?_
  rintro e w1 ⟨rfl, hb1⟩
  go_wp2
  go_ret2
  exact ⟨none, 0, rfl, Own.nil _ _, hb1⟩
set_option maxRecDepth 100000 in
set_option maxHeartbeats 4000000 in
theorem putl_ok (a : Option Addr) (n c N B : Nat) (ps : List (Itm × ILoc)) (w : World) (h1 : 1 ≤ n) (h8 : n ≤ 8) (hN1 : 1 ≤ N) (hN : N ≤ 512) (hr : ItsRd w B a n ps) (hB : B ≤ w.heap.size) (hok : OkL (its ps)) (hM : MayL (its ps)) (hL : (encL (its ps)).length = N)
    (CZ : Hid (∀ W, Below w.heap.size w W → Calls Try.prog 52 #[.slice a n c] W (RetI W N))) : Calls Try.prog 24 #[.slice a n c] w (RetR w (encL (its ps)) 0) := by
  have CW := in_eight h1 h8
  have hN0 : ((N : Int) == 0) = false := by simp; omega
  have hN2 : ¬ (512 : Int) < N := by omega
  obtain ⟨i0, hi0, hz0, hz1, hz2⟩ := info_parts info5
  have HR := Lib.hid hr
  have HO := Lib.hid hok
  have HM := Lib.hid hM
  have HL := Lib.hid hL
  have HN := Lib.hid (And.intro hN1 hN)
  have H8 := Lib.hid (And.intro h1 h8)
  clear hr hok hM hL h1 hN1 hN
  go_enter Try.func24, Try.ntmps24
  go_wp2_with fail
  refine (CW.out _).mono ?_
  rintro e w' ⟨rfl, rfl⟩
  clear CW
  go_wp2_with fail
  refine (CZ.out _ (Below.refl _ _)).mono ?_
  rintro e w1 ⟨rfl, hb1⟩
  have HB1 := Lib.hid hb1
  clear hb1 CZ
  go_wp2_with (at_make; refine wpList_make_own _ rfl _ _ 22 rfl w.heap.size 5 i0 _ 1 Try.underlying22 hi0 hz0 hz1 .i64 .i64 _ N rfl rfl ?c2 ?c3 ?c4 ?c5 ?_
               case c2 => omega
               case c3 => rw [hz2]; have := HN.out; omega
               case c4 => unfold maxLen; have := HN.out; omega
               case c5 => exact HB1.out.size
               intro w2 hown hg2
               have HOw : Hid (∃ A, Value.slice (some ⟨w1.heap.size, 0, none⟩) 0 N = .slice A 0 N ∧ Own w2 w.heap.size A 0 N []) := by
                 obtain ⟨A, c', e, h⟩ := own_of_row (xs := []) hown Bytes.nil
                 injection e with e1 e2 e3
                 exact ⟨A, by rw [e1], by rw [e3]; exact h⟩
               have HB2 : Hid (Below w.heap.size w w2) := HB1.out.grown hg2 HB1.out.size (by simp)
               clear hown hg2 HB1)
  obtain ⟨A0, hA0, ho0⟩ := HOw.out
  rw [hA0]
  have HO0 := Lib.hid ho0
  clear HOw hA0 ho0 hi0 hz0 hz1 hz2 hN0 hN2
  go_wp2
  go_loopw [5, 22] (fun sl sk wx => ∃ (k M : Nat) (A : Option Addr) (c : Nat), k ≤ n ∧ sk = .int .i64 k ∧ sl = .slice A M c ∧ Hid (Own wx w.heap.size A M c (encL (its (ps.take k)))) ∧ Hid (Below w.heap.size w wx)) (fun _ sk _ => n - (intOf sk).toNat)
  case atStart => exact ⟨0, 0, A0, N, by omega, rfl, rfl, HO0, HB2⟩
  case round =>
    obtain ⟨k, M, A, cc, hk, rfl, rfl, ho, hb⟩ := hrel
    rename World => wx
    by_cases hlt : k < n
    · obtain ⟨b, off, p, v, rfl, hbB, hx, hm, hv, hi, d0, d1, d2, d3, d4, d5, d6, d7, d8, d9⟩ := its_at (HR.out.below (hb.out.mono hB)) hlt
      have hoi := HO.out p.1 (List.mem_map.2 ⟨p, hm, rfl⟩)
      have hMI := HM.out p.1 (List.mem_map.2 ⟨p, hm, rfl⟩)
      have hBx : B ≤ wx.heap.size := Nat.le_trans hB hb.out.size
      have CS : Hid (∀ W, Below wx.heap.size wx W → Calls Try.prog 53 #[itm v] W (NewRow W (encI p.1))) := fun W hW => hv ▸ rc_bytes W p.1 p.2 B hoi (hi.below (hW.mono hBx)) (Nat.le_trans hBx hW.size) hMI
      have HT : Hid (encL (its (ps.take (k + 1))) = encL (its (ps.take k)) ++ encI p.1) := by show encL (its (ps.take (k + 1))) = encL (its (ps.take k)) ++ encI p.1; rw [its_take_succ hx, encL_snoc]
      have hml : (encI p.1).length ≤ 388 := encI_max p.1 hMI
      have hMl : M ≤ 512 := by
        have e1 := ho.out.len
        have e2 := encL_take_le (its ps) k
        rw [HL.out] at e2
        rw [show its (ps.take k) = (its ps).take k from List.map_take ..] at e1
        have := HN.out
        omega
      obtain ⟨m, hme⟩ : ∃ m, (encI p.1).length = m := ⟨_, rfl⟩
      have HD := Lib.hid (IBlk.new wx v)
      obtain ⟨c0, c1, c2, c3, c4, c5, c6, c7, c8, c9⟩ := HD.out.cells
      have HX : Hid (Below wx.heap.size wx (wx.alloc (iobj v))) := (Below.refl _ _).alloc (Nat.le_refl _) _
      clear hv hi hx hm hoi hMI HO0
      go_wp2_with fail
      refine (CS.out _ HX.out).mono ?_
      rintro e w3 ⟨A2, c2', rfl, ho2, hb2⟩
      rw [hme] at ho2 hml ⊢
      have hX2 := HX.out.trans (hb2.mono HX.out.size)
      have HX2 := Lib.hid hX2
      have HB3 := Lib.hid (hb.out.trans (hX2.mono hb.out.size))
      have HO1 := Lib.hid (ho.out.below hX2 (Nat.le_refl _))
      have HR2 := Lib.hid ho2.rd
      clear hX2 ho2 hb2 c0 c1 c2 c3 c4 c5 c6 c7 c8 c9 HD HX CS
      go_wp2_with (at_builtin; refine wpList_append_bytes rfl (.tmp 26) (.tmp 28) rfl w.heap.size w3.heap.size M cc m c2' (M + m) A A2 _ _ (encL (its (ps.take (k + 1)))) rfl HT.out.symm rfl rfl HO1.out HR2.out HB3.out.size (by omega) ?_; intro A3 c3 w4 h4 hb4)
      have HO4 := Lib.hid h4
      have HB4 : Hid (Below w.heap.size w w4) := HB3.out.trans hb4
      clear h4 hb4
      go_wp2
      go_roundw
      case rel => exact ⟨k + 1, M + m, A3, c3, by omega, by go_num, rfl, HO4, HB4⟩
      case measure => simp [intOf]; omega
    · obtain rfl : k = n := by omega
      have ho := ho.out
      rw [List.take_of_length_le (by rw [HR.out.len]; exact Nat.le_refl _)] at ho
      have hl := ho.len
      have HOf := Lib.hid ho
      clear ho
      go_wp2
      go_ret2
      exact ⟨A, cc, by rw [hl]; rfl, by rw [hl]; exact HOf.out, hb.out⟩
theorem rc_put (a : Option Addr) (n c B : Nat) (ps : List (Itm × ILoc)) (w : World) (hl : n ≤ 140737488351232) (hr : ItsRd w B a n ps) (hB : B ≤ w.heap.size) (hok : OkL (its ps)) :
    Calls Try.prog 24 #[.slice a n c] w (RetR w (putLB (its ps)) (putLE (its ps))) := by
  have CZ : ∀ W, Below w.heap.size w W → Calls Try.prog 52 #[.slice a n c] W (RetI W (sizeL (its ps))) := fun W hW => rc_sizes a n c B ps W hl (hr.below (hW.mono hB)) (Nat.le_trans hB hW.size) hok
  have hlen : (its ps).length = n := by rw [its_len, hr.len]
  by_cases h18 : 1 ≤ n ∧ n ≤ 8
  · by_cases hM : mayL (its ps) = true
    · have hMm := (mayL_iff _).1 hM
      have e0 : sizeL (its ps) = (encL (its ps)).length := by rw [sizeL, if_pos hM]
      have hne : its ps ≠ [] := by intro h; rw [h] at hlen; simp at hlen; omega
      have hp := encL_pos (its ps) hne
      by_cases h512 : (encL (its ps)).length ≤ 512
      · have e1 : putLE (its ps) = 0 := by rw [putLE, if_pos ⟨by omega, by omega, hM⟩, if_pos h512]
        rw [putLB, e1, if_pos rfl]
        exact putl_ok a n c _ B ps w h18.1 h18.2 (by omega) h512 hr hB hok hMm rfl (fun W hW => e0 ▸ CZ W hW)
      · have e1 : putLE (its ps) = 5 := by rw [putLE, if_pos ⟨by omega, by omega, hM⟩, if_neg h512]
        rw [putLB, e1, if_neg (by decide)]
        exact putl_big a n c _ w h18.1 h18.2 (by omega) (fun W hW => e0 ▸ CZ W hW)
    · have e0 : sizeL (its ps) = 0 := by rw [sizeL, if_neg hM]
      have e1 : putLE (its ps) = 1 := by rw [putLE, if_neg (fun h => hM h.2.2)]
      rw [putLB, e1, if_neg (by decide)]
      exact putl_zero a n c w h18.1 h18.2 (fun W hW => by have := CZ W hW; rw [e0] at this; exact this)
  · have e1 : putLE (its ps) = 1 := by rw [putLE, if_neg (fun h => h18 ⟨by omega, by omega⟩)]
    rw [putLB, e1, if_neg (by decide)]
    exact putl_count a n c w h18
end Go.Proofs.Ythmmafpmpnhleaa.Fbk
