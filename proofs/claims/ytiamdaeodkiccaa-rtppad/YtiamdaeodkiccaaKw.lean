/- The walks of RtpTurn. -/
import Derived.Test.YtiamdaeodkiccaaKv
namespace Go.Proofs.Ytiamdaeodkiccaa.Rtp
open Go.RowKit
set_option linter.unusedVariables false

theorem putE_cases (p : Pkt) (h : putE p ≠ 0) : putB p = [] ∧ ((mayPB p = false ∧ putE p = 1) ∨ (mayPB p = true ∧ putE p = 5 ∧ 512 < sizeP p)) := by
  unfold putE at h ⊢
  unfold putB sizeP
  cases hm : mayPB p
  · exact ⟨rfl, .inl ⟨rfl, rfl⟩⟩
  · rw [hm, if_pos rfl] at h
    by_cases hl : 512 < lenP p
    · simp [hl]
    · rw [if_neg hl] at h; exact absurd rfl h

set_option maxHeartbeats 4000000 in
theorem turn_no (v : PV) (n z : Int) (m : Bool) (w : World) (hn : n ≠ 0) (hw : (m = false ∧ n = 1) ∨ (m = true ∧ n = 5 ∧ 512 < z))
    (CP : Hid (∀ W, Below w.heap.size w W → Calls Try.prog 11 #[pkt v] W (RetR W [] n))) (CM : Hid (∀ W, Calls Try.prog 13 #[pkt v] W (RetB W m))) (CS : Hid (∀ W, Calls Try.prog 15 #[pkt v] W (RetI W z))) :
    Calls Try.prog 5 #[pkt v] w (RetB w true) := by
  have hb0 := (Below.refl w.heap.size w).alloc (Nat.le_refl _) (pobj v)
  rcases hw with ⟨rfl, rfl⟩ | ⟨rfl, rfl, hz⟩
  all_goals
    go_enter Try.func5, Try.ntmps5
    go_wp2_with fail
    refine (shown_any _).mono ?_
    rintro e w1 ⟨rfl, hb1⟩
    have D1 : PBlk w1 w.heap.size v := (PBlk.new w v).below hb1 (by simp)
    have H1 := Lib.hid (hb0.trans (hb1.mono hb0.size))
    have d0 := D1.c0
    have d1 := D1.c1
    have d2 := D1.c2
    have d3 := D1.c3
    have d4 := D1.c4
    have d5 := D1.c5
    have d6 := D1.c6
    have d7 := D1.c7
    have d8 := D1.c8
    have d9 := D1.c9
    have d10 := D1.c10
    clear hb1
    go_wp2_with fail
    clear d0 d1 d2 d3 d4 d5 d6 d7 d8 d9 d10
    refine (CP.out _ H1.out).mono ?_
    rintro e w2 ⟨A, c, rfl, ho, hb2⟩
    have D2 : PBlk w2 w.heap.size v := D1.below hb2 D1.lt
    have H2 := Lib.hid (H1.out.trans (hb2.mono H1.out.size))
    clear hb2 D1 H1 ho CP
    have d0 := D2.c0
    have d1 := D2.c1
    have d2 := D2.c2
    have d3 := D2.c3
    have d4 := D2.c4
    have d5 := D2.c5
    have d6 := D2.c6
    have d7 := D2.c7
    have d8 := D2.c8
    have d9 := D2.c9
    have d10 := D2.c10
    go_wp2_with fail
    clear d0 d1 d2 d3 d4 d5 d6 d7 d8 d9 d10
    refine (CM.out _).mono ?_
    rintro e w3 ⟨rfl, hb3⟩
    have D3 : PBlk w3 w.heap.size v := D2.below hb3 D2.lt
    have H3 := Lib.hid (H2.out.trans (hb3.mono H2.out.size))
    clear hb3 D2 H2
  · go_wp2
    go_ret
    exact ⟨rfl, H3.out⟩
  · have d0 := D3.c0
    have d1 := D3.c1
    have d2 := D3.c2
    have d3 := D3.c3
    have d4 := D3.c4
    have d5 := D3.c5
    have d6 := D3.c6
    have d7 := D3.c7
    have d8 := D3.c8
    have d9 := D3.c9
    have d10 := D3.c10
    go_wp2_with fail
    refine (CS.out _).mono ?_
    rintro e w4 ⟨rfl, hb4⟩
    clear d0 d1 d2 d3 d4 d5 d6 d7 d8 d9 d10
    go_wp2
    go_ret
    exact ⟨rfl, H3.out.trans (hb4.mono H3.out.size)⟩

set_option maxHeartbeats 4000000 in
theorem turn_yes (p : Pkt) (l : Loc) (v : PV) (ys : List Int) (m : Nat) (hm : ys.length = m) (hv : pvOf p l = v) (w : World) (hq : PRd w w.heap.size p l)
    (CP : Hid (∀ W, Below w.heap.size w W → Calls Try.prog 11 #[pkt v] W (RetR W ys 0))) (CG : Hid (∀ W A c, Rd W W.heap.size A m ys → m ≤ c → Calls Try.prog 17 #[.slice A m c] W (GRet W p 0)))
    (CS : Hid (∀ W, Calls Try.prog 15 #[pkt v] W (RetI W m))) :
    Calls Try.prog 5 #[pkt v] w (RetB w true) := by
  have hb0 := (Below.refl w.heap.size w).alloc (Nat.le_refl _) (pobj v)
  have HV := Lib.hid hv
  clear hv
  go_enter Try.func5, Try.ntmps5
  go_wp2_with fail
  refine (shown_any _).mono ?_
  rintro e w1 ⟨rfl, hb1⟩
  have D1 : PBlk w1 w.heap.size v := (PBlk.new w v).below hb1 (by simp)
  have H1 := Lib.hid (hb0.trans (hb1.mono hb0.size))
  have d0 := D1.c0
  have d1 := D1.c1
  have d2 := D1.c2
  have d3 := D1.c3
  have d4 := D1.c4
  have d5 := D1.c5
  have d6 := D1.c6
  have d7 := D1.c7
  have d8 := D1.c8
  have d9 := D1.c9
  have d10 := D1.c10
  clear hb1 hb0
  go_wp2_with fail
  clear d0 d1 d2 d3 d4 d5 d6 d7 d8 d9 d10
  refine (CP.out _ H1.out).mono ?_
  rintro e w2 ⟨A, c, rfl, ho, hb2⟩
  rw [hm] at ho ⊢
  have D2 : PBlk w2 w.heap.size v := D1.below hb2 D1.lt
  have H2 := Lib.hid (H1.out.trans (hb2.mono H1.out.size))
  have C2 := CG.out w2 A c ho.rd ho.2.2.1
  have HC := Lib.hid C2
  clear hb2 D1 H1 ho CP C2 CG hm
  go_wp2_with fail
  refine HC.out.mono ?_
  rintro e w3 ⟨l', rfl, hq3, hb3⟩
  obtain ⟨u, hu⟩ : ∃ u, pvOf p l' = u := ⟨_, rfl⟩
  rw [hu]
  have hb4 := (Below.refl w3.heap.size w3).alloc (Nat.le_refl _) (pobj u)
  have D4 : PBlk (w3.alloc (pobj u)) w.heap.size v := (D2.below hb3 D2.lt).below hb4 (Nat.lt_of_lt_of_le D2.lt hb3.size)
  have E4 := PBlk.new w3 u
  have H4 := Lib.hid (H2.out.trans ((hb3.trans (hb4.mono hb3.size)).mono H2.out.size))
  have C4 := same_any (w3.alloc (pobj u)) (w3.alloc (pobj u)).heap.size p l l' ((hq.below H4.out).more H4.out.size) ((hq3.below hb4).more hb4.size) (Nat.le_refl _)
  rw [hu, HV.out] at C4
  have HC4 := Lib.hid C4
  clear HC hb3 hb4 D2 H2 C4 hq hq3 hu HV
  have d0 := D4.c0
  have d1 := D4.c1
  have d2 := D4.c2
  have d3 := D4.c3
  have d4 := D4.c4
  have d5 := D4.c5
  have d6 := D4.c6
  have d7 := D4.c7
  have d8 := D4.c8
  have d9 := D4.c9
  have d10 := D4.c10
  go_wp2_with fail
  clear d0 d1 d2 d3 d4 d5 d6 d7 d8 d9 d10
  refine HC4.out.mono ?_
  rintro e w5 ⟨rfl, hb5⟩
  have D5 : PBlk w5 w.heap.size v := D4.below hb5 D4.lt
  have H5 := Lib.hid (H4.out.trans (hb5.mono H4.out.size))
  clear hb5 D4 H4 E4 HC4
  have d0 := D5.c0
  have d1 := D5.c1
  have d2 := D5.c2
  have d3 := D5.c3
  have d4 := D5.c4
  have d5 := D5.c5
  have d6 := D5.c6
  have d7 := D5.c7
  have d8 := D5.c8
  have d9 := D5.c9
  have d10 := D5.c10
  go_wp2_with fail
  clear d0 d1 d2 d3 d4 d5 d6 d7 d8 d9 d10
  refine (CS.out _).mono ?_
  rintro e w6 ⟨rfl, hb6⟩
  go_wp2
  go_ret
  exact ⟨rfl, H5.out.trans (hb6.mono H5.out.size)⟩

theorem turn_law (p : Pkt) (l : Loc) (w : World) (ho : p.Ok) (hr : PRd w w.heap.size p l) : Calls Try.prog 5 #[pkt (pvOf p l)] w (RetB w true) := by
  have CP := fun W (hW : Below w.heap.size w W) => put_pkt W p l ho (hr.below hW) hW.size
  by_cases h : putE p = 0
  · obtain ⟨g1, g2, g3, g4, g5⟩ := put_get ho h
    rw [h] at CP
    refine turn_yes p l _ (putB p) _ rfl rfl w hr CP (fun W A c hR hc => ?_) (fun W => g5 ▸ size_pkt W p l hr.en hr.pn)
    have := get_any A _ c _ _ W (by unfold maxLen; omega) hc hR (Nat.le_refl _)
    rw [g1, g2] at this
    exact this
  · obtain ⟨g1, g2⟩ := putE_cases p h
    rw [g1] at CP
    exact turn_no _ _ (sizeP p) (mayPB p) w h g2 CP (fun W => may_pkt W p l hr.en) (fun W => size_pkt W p l hr.en hr.pn)
end Go.Proofs.Ytiamdaeodkiccaa.Rtp
