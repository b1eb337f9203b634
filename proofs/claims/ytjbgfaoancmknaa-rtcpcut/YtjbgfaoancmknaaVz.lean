/- The walk of RtcpCut. -/
import Derived.Test.YtjbgfaoancmknaaVs
import Derived.Test.YtjbgfaoancmknaaVq
namespace Go.Proofs.Ytjbgfaoancmknaa.Fbk
open Go.RowKit
set_option linter.unusedVariables false

theorem OkL.take {l : List Itm} (h : OkL l) (k : Nat) : OkL (l.take k) := fun x hx => h x (List.mem_of_mem_take hx)
/-- The first ones of some items. -/
theorem cut_is {is : List Itm} (hok : OkL is) (h : putLE is = 0) (k : Nat) (h1 : 1 ≤ k) (h2 : k ≤ is.length) :
    getLE ((encL is).take (encL (is.take k)).length) = 0 ∧ getLV ((encL is).take (encL (is.take k)).length) = is.take k := by
  obtain ⟨p1, p2, p3, p4, -⟩ := putLE_ok h
  have hl : (is.take k).length = k := by rw [List.length_take]; omega
  have hle := encL_take_le is k
  rw [encL_take]
  obtain ⟨e1, e2⟩ := getL_enc (l := is.take k) (by intro he; rw [he] at hl; simp at hl; omega) (p3.take k) (hok.take k)
  exact ⟨by rw [e1, if_neg (by omega), if_pos (by omega)], e2 (by omega) (by omega)⟩
/-- A beginning that is not the first ones. -/
theorem cut_no {is : List Itm} (hok : OkL is) (h : putLE is = 0) (j : Nat) (hj : j ≤ (encL is).length) (hn : ∀ k, 1 ≤ k → k ≤ is.length → (encL (is.take k)).length ≠ j) :
    getLE ((encL is).take j) = 2 ∧ getLV ((encL is).take j) = [] := by
  obtain ⟨p1, p2, p3, p4, -⟩ := putLE_ok h
  have hl : ((encL is).take j).length = j := by rw [List.length_take]; omega
  have e : getLE ((encL is).take j) = 2 := by rw [getLE, if_neg (by omega)]; exact gL_cut is 8 j p3 hok p2 (by omega) hj hn
  exact ⟨e, getLV_no (by rw [e]; decide)⟩
theorem cut_bytes (a : Option Addr) (len cap k : Nat) (l : Int) (hl : l = k) (h : k ≤ cap) (W : World) :
    (Instr.slice 24 (.slice a len cap) none (some (.int .i64 l)) none).run Try.prog W = .ok (.slice a k cap) W := by
  subst hl
  obtain ⟨i0, hi0, hz0, hz1, hz2⟩ := info_parts info5
  have e := run_slice_h (P := Try.prog) (w := W) (t := 24) (a := a) (len := len) (cap := cap) (ht := Try.underlying24) .i64 (k : Int) (by omega) (by omega)
  rw [e, show Try.prog.elem 24 = 5 from rfl]
  have ha : a.map (·.add 0) = a := by cases a <;> simp [Addr.add]
  simp [sizeOf, typeInfo, hi0, sliced, ha]
theorem cut_items (a : Option Addr) (len cap k : Nat) (l : Int) (hl : l = k) (h : k ≤ cap) (W : World) :
    (Instr.slice 22 (.slice a len cap) none (some (.int .i64 l)) none).run Try.prog W = .ok (.slice a k cap) W := by
  subst hl
  obtain ⟨i0, hi0, hz0, hz1, hz2⟩ := info_parts info_item
  have e := run_slice_h (P := Try.prog) (w := W) (t := 22) (a := a) (len := len) (cap := cap) (ht := Try.underlying22) .i64 (k : Int) (by omega) (by omega)
  rw [e, show Try.prog.elem 22 = 34 from rfl]
  have ha : a.map (·.add 0) = a := by cases a <;> simp [Addr.add]
  simp [sizeOf, typeInfo, hi0, sliced, ha]
set_option maxRecDepth 100000 in
set_option maxHeartbeats 4000000 in
theorem cutl_out (a : Option Addr) (n c L : Nat) (P : List Int) (E j : Int) (w : World) (hL : P.length = L) (h : E ≠ 0 ∨ (E = 0 ∧ j < 0) ∨ (E = 0 ∧ ¬ j < 0 ∧ (L : Int) < j))
    (CS : Hid (∀ W, Calls Try.prog 9 #[] W (RetB W true)))
    (CP : Hid (∀ W, Below w.heap.size w W → Calls Try.prog 10 #[.slice a n c] W (RetR W P E))) :
    Calls Try.prog 8 #[.slice a n c, .int .i64 j] w (RetB w true) := by
  have HL := Lib.hid hL
  clear hL
  rcases h with h | ⟨rfl, h⟩ | ⟨rfl, h, h2⟩
  case' inl => have h' : (E != 0) = true := by simpa using h
  all_goals
    go_enter Try.func8, Try.ntmps8
    go_wp2_with fail
    refine (CS.out _).mono ?_
    rintro e w1 ⟨rfl, hb1⟩
    have HB1 := Lib.hid hb1
    clear hb1 CS
    go_wp2_with fail
    refine (CP.out _ HB1.out).mono ?_
    rintro e w2 ⟨A, c2, rfl, ho, hb2⟩
    rw [HL.out]
    have HB2 := Lib.hid (HB1.out.trans (hb2.mono HB1.out.size))
    clear hb2 ho HB1 CP
    go_wp2
    go_ret
    exact ⟨rfl, HB2.out⟩
set_option maxRecDepth 100000 in
set_option maxHeartbeats 8000000 in
theorem cutl_in (a : Option Addr) (n c j : Nat) (ps : List (Itm × ILoc)) (w : World) (hl : n ≤ c) (hr : ItsRd w w.heap.size a n ps) (hok : OkL (its ps)) (hE : putLE (its ps) = 0) (hj : j ≤ (encL (its ps)).length) :
    Calls Try.prog 8 #[.slice a n c, .int .i64 j] w (RetB w true) := by
  obtain ⟨p1, p2, p3, p4, p5⟩ := putLE_ok hE
  have hlen : (its ps).length = n := by rw [its_len, hr.len]
  rw [hlen] at p1 p2
  have CS : Hid (∀ W, Calls Try.prog 9 #[] W (RetB W true)) := fun W => shown_any W
  have CP : Hid (∀ W, Below w.heap.size w W → Calls Try.prog 10 #[.slice a n c] W (RetR W (encL (its ps)) 0)) := fun W hW => by
    have := rc_put a n c w.heap.size ps W (by omega) (hr.below hW) hW.size hok
    rwa [hE, p5] at this
  have CZ : Hid (∀ W k, k ≤ n → Below w.heap.size w W → Calls Try.prog 14 #[.slice a k c] W (RetI W (encL ((its ps).take k)).length)) := fun W k hk hW => by
    have := rc_sizes a k c w.heap.size (ps.take k) W (by omega) ((hr.take hk).below hW) hW.size (by rw [show its (ps.take k) = (its ps).take k from List.map_take ..]; exact hok.take k)
    rw [show its (ps.take k) = (its ps).take k from List.map_take .., sizeL, if_pos ((mayL_iff _).2 (p3.take k))] at this
    exact this
  obtain ⟨Q, hQ⟩ : ∃ Q, (encL (its ps)).take j = Q := ⟨_, rfl⟩
  have CG : Hid (∀ W A c2, Rd W W.heap.size A j Q → j ≤ c2 → Calls Try.prog 16 #[.slice A j c2] W (RetIts W (getLV Q) (getLE Q))) := fun W A c2 h hc => rc_get A j c2 W.heap.size Q W hc h (Nat.le_refl _)
  have CQ : Hid (∀ W B k cB qs, k ≤ n → Below w.heap.size w W → ItsRd W W.heap.size B k qs → its qs = (its ps).take k → Calls Try.prog 18 #[.slice B k cB, .slice a k c] W (RetB W true)) := fun W B k cB qs hk hW h2 he => by
    refine same_its B a k cB c qs (ps.take k) W (by omega) h2 (((hr.take hk).below hW).more hW.size) ?_
    rw [he]; exact (List.map_take ..).symm
  have HIS : Hid (∀ k, 1 ≤ k → k ≤ n → (encL ((its ps).take k)).length = j → getLE Q = 0 ∧ getLV Q = (its ps).take k) := fun k h1 h2 h3 => by
    rw [← hQ, ← h3]
    exact cut_is hok hE k h1 (by rw [hlen]; exact h2)
  have HNO : Hid ((∀ k, 1 ≤ k → k ≤ n → (encL ((its ps).take k)).length ≠ j) → getLE Q = 2 ∧ getLV Q = []) := fun h => by
    rw [← hQ]
    exact cut_no hok hE j hj (fun k h1 h2 => h k h1 (by rw [← hlen]; exact h2))
  have HFULL : Hid ((encL ((its ps).take n)).length = (encL (its ps)).length) := by
    show (encL ((its ps).take n)).length = (encL (its ps)).length
    rw [List.take_of_length_le (by rw [hlen]; exact Nat.le_refl _)]
  have HTL : Hid (∀ k, k ≤ n → ((its ps).take k).length = k) := fun k hk => by rw [List.length_take, hlen]; omega
  have HQ := Lib.hid hQ
  obtain ⟨L, hL⟩ : ∃ L, (encL (its ps)).length = L := ⟨_, rfl⟩
  obtain ⟨M, hM⟩ : ∃ M, (getLV Q).length = M := ⟨_, rfl⟩
  have HL := Lib.hid hL
  have HM := Lib.hid hM
  rw [hL] at hj p4 HFULL
  have hj1 : ¬ (j : Int) < 0 := by omega
  have hj2 : ¬ (L : Int) < j := by omega
  clear hr hok hE hlen p3 p5 hQ hL hM
  go_enter Try.func8, Try.ntmps8
  go_wp2_with fail
  refine (CS.out _).mono ?_
  rintro e w1 ⟨rfl, hb1⟩
  have HB1 := Lib.hid hb1
  clear hb1 CS
  go_wp2_with fail
  refine (CP.out _ HB1.out).mono ?_
  rintro e w2 ⟨A, c2, rfl, ho, hb2⟩
  rw [HL.out] at ho ⊢
  have HB2 := Lib.hid (HB1.out.trans (hb2.mono HB1.out.size))
  have hc2 : L ≤ c2 := ho.2.2.1
  have HO := Lib.hid (show Rd w2 w2.heap.size A j Q from by have := ho.rd.take hj; rwa [HQ.out] at this)
  have s0 := fun W => cut_bytes A L c2 j j rfl (by omega) W
  clear hb2 ho HB1 CP
  go_wp2_with fail
  refine (CG.out _ _ _ HO.out (by omega)).mono ?_
  rintro e w3 ⟨A3, c3, qs, rfl, hq, ho3, hb3⟩
  rw [HM.out] at ho3 ⊢
  have HB3 := Lib.hid (HB2.out.trans (hb3.mono HB2.out.size))
  have HO3 := Lib.hid ho3.rd
  have HQS := Lib.hid hq
  clear hb3 ho3 hq HB2 CG HO s0 hj1 hj2
  generalize getLE Q = E at *
  go_wp2
  go_loopw [38] (fun sk wx => ∃ k : Nat, k ≤ n ∧ sk = .int .i64 k ∧ Hid (∀ k', 1 ≤ k' → k' < k → (encL ((its ps).take k')).length ≠ j) ∧ Hid (Below w3.heap.size w3 wx)) (fun sk _ => n - (intOf sk).toNat)
  case atStart => exact ⟨0, by omega, rfl, (fun k' h1 h2 => by omega), Below.refl _ _⟩
  case round =>
    obtain ⟨k, hk, rfl, hno, hb⟩ := hrel
    rename World => wx
    by_cases hlt : k < n
    · by_cases hk0 : k = 0
      · subst hk0
        go_wp2
        go_roundw
        case rel => exact ⟨1, by omega, by go_num, (fun k' h1 h2 => by omega), hb⟩
        case measure => simp [intOf]; omega
      · have hk0' : (0 : Int) < k := by omega
        have s1 := fun W => cut_items a n c k k rfl (by omega) W
        obtain ⟨S, hS⟩ : ∃ S, (encL ((its ps).take k)).length = S := ⟨_, rfl⟩
        have CZk : Hid (Calls Try.prog 14 #[.slice a k c] wx (RetI wx S)) := by rw [← hS]; exact CZ.out wx k (by omega) (HB3.out.trans (hb.out.mono HB3.out.size))
        by_cases hSj : S = j
        · obtain ⟨q1, q2⟩ := HIS.out k (by omega) (by omega) (by rw [hS]; exact hSj)
          subst q1
          have hMk : M = k := by rw [← HM.out, q2]; exact HTL.out k (by omega)
          subst hMk
          have HQK := Lib.hid (HQS.out.trans q2)
          subst hSj
          clear q2 hS
          go_wp2_with fail
          refine CZk.out.mono ?_
          rintro e u1 ⟨rfl, hb1⟩
          have hB1 : Below w3.heap.size w3 u1 := hb.out.trans (hb1.mono hb.out.size)
          have HR1 := Lib.hid ((HO3.out.below hB1).more hB1.size)
          have HBu := Lib.hid (HB3.out.trans (hB1.mono HB3.out.size))
          clear hb1 hB1 CZk
          go_wp2_with fail
          refine (CQ.out _ _ _ _ _ hk HBu.out HR1.out HQK.out).mono ?_
          rintro e u2 ⟨rfl, hb2⟩
          have HBv := Lib.hid (HBu.out.trans (hb2.mono HBu.out.size))
          clear hb2 HR1 HBu CQ
          go_wp2
          go_ret
          exact ⟨rfl, HBv.out⟩
        · have hSj' : ((S : Int) == j) = false := by simp; omega
          have HNK : Hid (∀ k', 1 ≤ k' → k' < k + 1 → (encL ((its ps).take k')).length ≠ j) := fun k' h1 h2 => by
            rcases Nat.lt_or_ge k' k with h | h
            · exact hno.out k' h1 h
            · rw [show k' = k from by omega, hS]; exact hSj
          clear hS hno
          go_wp2_with fail
          refine CZk.out.mono ?_
          rintro e u1 ⟨rfl, hb1⟩
          have HBu : Hid (Below w3.heap.size w3 u1) := hb.out.trans (hb1.mono hb.out.size)
          clear hb1 CZk s1 hb
          go_wp2
          go_roundw
          case rel => exact ⟨k + 1, by omega, by go_num, HNK, HBu⟩
          case measure => simp [intOf]; omega
    · obtain rfl : k = n := by omega
      have HBx := Lib.hid (HB3.out.trans (hb.out.mono HB3.out.size))
      by_cases hjL : j = L
      · obtain ⟨q1, q2⟩ := HIS.out k (by omega) (by omega) (by rw [HFULL.out]; exact hjL.symm)
        subst q1
        have hMk : M = k := by rw [← HM.out, q2]; exact HTL.out k (by omega)
        subst hMk
        have HQK := Lib.hid (HQS.out.trans q2)
        have HR1 := Lib.hid ((HO3.out.below hb.out).more hb.out.size)
        subst hjL
        clear q2 hb
        go_wp2_with fail
        refine (CQ.out _ _ _ _ _ hk HBx.out HR1.out HQK.out).mono ?_
        rintro e u2 ⟨rfl, hb2⟩
        have HBv := Lib.hid (HBx.out.trans (hb2.mono HBx.out.size))
        clear hb2 HR1 HBx CQ
        go_wp2
        go_ret
        exact ⟨rfl, HBv.out⟩
      · obtain ⟨q1, q2⟩ := HNO.out (fun k' h1 h2 => by
          rcases Nat.lt_or_ge k' k with h | h
          · exact hno.out k' h1 h
          · rw [show k' = k from by omega, HFULL.out]; omega)
        subst q1
        have hM0 : M = 0 := by rw [← HM.out, q2]; rfl
        subst hM0
        have hjL' : ((j : Int) == L) = false := by simp; omega
        clear q2 hb
        go_wp2
        go_ret
        exact ⟨rfl, HBx.out⟩
theorem rtcpCut_walk (a : Option Addr) (n c : Nat) (ps : List (Itm × ILoc)) (j : Int) (w : World) (hl : n ≤ 140737488351232) (hlc : n ≤ c) (hr : ItsRd w w.heap.size a n ps) (hok : OkL (its ps)) :
    Calls Try.prog 8 #[.slice a n c, .int .i64 j] w (RetB w true) := by
  have CP : ∀ W, Below w.heap.size w W → Calls Try.prog 10 #[.slice a n c] W (RetR W (putLB (its ps)) (putLE (its ps))) := fun W hW => rc_put a n c w.heap.size ps W hl (hr.below hW) hW.size hok
  by_cases hE : putLE (its ps) = 0
  · obtain ⟨-, -, -, -, p5⟩ := putLE_ok hE
    by_cases h0 : j < 0
    · exact cutl_out a n c _ _ _ j w rfl (.inr (.inl ⟨hE, h0⟩)) (fun W => shown_any W) CP
    by_cases h1 : ((putLB (its ps)).length : Int) < j
    · exact cutl_out a n c _ _ _ j w rfl (.inr (.inr ⟨hE, h0, h1⟩)) (fun W => shown_any W) CP
    obtain ⟨m, rfl⟩ : ∃ m : Nat, j = m := ⟨j.toNat, by omega⟩
    rw [p5] at h1
    exact cutl_in a n c m ps w hlc hr hok hE (by omega)
  · exact cutl_out a n c _ _ _ j w rfl (.inl hE) (fun W => shown_any W) CP
end Go.Proofs.Ytjbgfaoancmknaa.Fbk
