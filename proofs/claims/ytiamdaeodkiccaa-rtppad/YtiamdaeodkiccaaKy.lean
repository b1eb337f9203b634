/- The walks of RtpCut, RtpPad, whatever comes in. -/
import Derived.Test.YtiamdaeodkiccaaKx
namespace Go.Proofs.Ytiamdaeodkiccaa.Rtp
open Go.RowKit
set_option linter.unusedVariables false

theorem Ok_pad {p : Pkt} (h : p.Ok) (y : Int) : Pkt.Ok { p with pad := y } := ⟨h.seq0, h.seq1, h.time0, h.time1, h.ssrc0, h.ssrc1, h.csrc, h.prof0, h.prof1, h.ext, h.pay⟩
theorem Ok_pay {p : Pkt} (h : p.Ok) (j : Nat) : Pkt.Ok { p with pay := p.pay.take j } := ⟨h.seq0, h.seq1, h.time0, h.time1, h.ssrc0, h.ssrc1, h.csrc, h.prof0, h.prof1, h.ext, h.pay.take j⟩
theorem May_pay {p : Pkt} (h : p.May) (j : Nat) : Pkt.May { p with pay := p.pay.take j } := ⟨h.ty0, h.ty1, h.mrk, h.csrc, h.ext, h.he, h.pad0, h.pad1⟩
theorem PRd_pad {w : World} {B : Nat} {p : Pkt} {l : Loc} (h : PRd w B p l) (y : Int) : PRd w B { p with pad := y } l := ⟨h.csrc, h.ext, h.pay, h.cn, h.en, h.pn, h.cc, h.ec, h.pc⟩

theorem cut_law (p : Pkt) (l : Loc) (k : Int) (w : World) (ho : p.Ok) (hr : PRd w w.heap.size p l) : Calls Try.prog 8 #[pkt (pvOf p l), .int .i64 k] w (RetB w true) := by
  have ho' := Ok_pad ho 0
  have hr' := PRd_pad hr 0
  have hu : { pvOf p l with pad := 0 } = pvOf { p with pad := 0 } l := rfl
  have hp0 : ({ p with pad := 0 } : Pkt).pad = 0 := rfl
  have hpn : (pvOf { p with pad := 0 } l).pn = ({ p with pad := 0 } : Pkt).pay.length := rfl
  have hpc : (pvOf { p with pad := 0 } l).pc = l.pc := rfl
  generalize ({ p with pad := 0 } : Pkt) = p' at *
  have CP := fun W (hW : Below w.heap.size w W) => put_pkt W p' l ho' (hr'.below hW) hW.size
  by_cases h : putE p' = 0
  · rw [h] at CP
    obtain ⟨hm, hl, hb, -⟩ := putE_ok h
    rw [hb] at CP
    have hel := enc_length p' hm
    rw [hp0] at hel
    by_cases h0 : k < 0
    · exact cut_out _ _ _ 0 k _ rfl hu w (.inr (.inl ⟨rfl, h0⟩)) CP
    · by_cases h1 : ((enc p').length : Int) < k
      · exact cut_out _ _ _ 0 k _ rfl hu w (.inr (.inr ⟨rfl, h0, h1⟩)) CP
      · obtain ⟨K, rfl⟩ := Int.eq_ofNat_of_zero_le (show 0 ≤ k by omega)
        rcases Nat.lt_or_ge K (headB p').length with hK | hK
        · refine cut_less _ _ _ _ K (headB p').length rfl hu w hl (by omega) (by rw [hpn]; omega) hK CP (fun W A c hR hc => ?_)
          have e := Go.Proofs.Ytiamdaeodkiccaa.cut_short p' K ho' hm hl hK
          have := get_any A K c _ _ W (by unfold maxLen; omega) hc hR (Nat.le_refl _)
          rw [gP, e] at this
          exact this
        · have e := cut_in p' K hp0 hK
          have hj : (p'.pay.take (K - (headB p').length)).length = K - (headB p').length := by rw [List.length_take]; omega
          have hlen2 : (enc { p' with pay := p'.pay.take (K - (headB p').length) }).length ≤ 512 := by rw [← e, List.length_take]; omega
          obtain ⟨g1, g2, -, -⟩ := enc_get _ (Ok_pay ho' (K - (headB p').length)) (May_pay hm (K - (headB p').length)) hlen2
          refine cut_more { p' with pay := p'.pay.take (K - (headB p').length) } l _ _ _ _ K (headB p').length (K - (headB p').length) rfl hu ?_ w hl (by omega) (by rw [hpn]; omega) (by omega) (by rw [hpc]; have := hr'.pc; omega) ?_ CP (fun W A c hR hc => ?_)
          · simp only [pvOf, hj]
          · refine ⟨hr'.csrc, hr'.ext, ?_, hr'.cn, hr'.en, ?_, hr'.cc, hr'.ec, ?_⟩
            · show Rd w w.heap.size l.pa (p'.pay.take (K - (headB p').length)).length (p'.pay.take (K - (headB p').length))
              rw [hj]
              exact hr'.pay.take (by omega)
            · show (p'.pay.take (K - (headB p').length)).length ≤ _
              have := hr'.pn
              omega
            · show (p'.pay.take (K - (headB p').length)).length ≤ l.pc
              have := hr'.pc
              omega
          · have := get_any A K c _ _ W (by unfold maxLen; omega) hc hR (Nat.le_refl _)
            rw [gP, e, g1, if_pos rfl, g2] at this
            exact this
  · exact cut_out _ _ _ _ k _ rfl hu w (.inl h) CP

set_option maxHeartbeats 4000000 in
theorem pad_far (v : PV) (pad at_ : Int) (w : World) (h : pad < 1 ∨ (¬ pad < 1 ∧ 255 < pad)) : Calls Try.prog 9 #[pkt v, .int .i64 pad, .int .i64 at_] w (RetB w true) := by
  have hb0 := (Below.refl w.heap.size w).alloc (Nat.le_refl _) (pobj v)
  rcases h with h | ⟨h, h'⟩
  all_goals
    go_enter Try.func9, Try.ntmps9
    go_wp2_with fail
    refine (shown_any _).mono ?_
    rintro e w1 ⟨rfl, hb1⟩
    have H1 := Lib.hid (hb0.trans (hb1.mono hb0.size))
    clear hb1
    go_wp2
    go_ret
    exact ⟨rfl, H1.out⟩
set_option maxHeartbeats 4000000 in
theorem pad_none (v u : PV) (ys : List Int) (pad at_ n : Int) (w : World) (h1 : ¬ pad < 1) (h2 : ¬ 255 < pad) (hu : { v with pad := pad } = u) (hn : (n != 0) = true)
    (CP : Hid (∀ W, Below w.heap.size w W → Calls Try.prog 11 #[pkt u] W (RetR W ys n))) : Calls Try.prog 9 #[pkt v, .int .i64 pad, .int .i64 at_] w (RetB w true) := by
  have hb0 := (Below.refl w.heap.size w).alloc (Nat.le_refl _) (pobj v)
  have HU := Lib.hid hu
  clear hu
  go_enter Try.func9, Try.ntmps9
  go_wp2_with fail
  refine (shown_any _).mono ?_
  rintro e w1 ⟨rfl, hb1⟩
  have D1 : PBlk w1 w.heap.size v := (PBlk.new w v).below hb1 (by simp)
  have H1 := Lib.hid (hb0.trans (hb1.mono hb0.size))
  have x10 := D1.c10
  have y10 := D1.frozen 10
  have D2 := D1.set10 pad
  rw [HU.out] at D2
  have H2 := Lib.hid (H1.out.setCell (p := ⟨w.heap.size, 10, none⟩) (Nat.le_refl _) (.int .i64 pad))
  have d0 := D2.c0
  have d1 := D2.c1
  have d2 := D2.c2
  have d3 := D2.c3
  have d4 := D2.c4
  have d5 := D2.c5
  have d6 := D2.c6
  have d7 := D2.c7
  have d8 := D2.c8
  have d9 := D2.c9
  have d10 := D2.c10
  clear hb1 D1 H1 hb0
  go_wp2_with fail
  clear x10 y10
  clear d0 d1 d2 d3 d4 d5 d6 d7 d8 d9 d10
  refine (CP.out _ H2.out).mono ?_
  rintro e w3 ⟨A, c, rfl, ho, hb3⟩
  have H3 := Lib.hid (H2.out.trans (hb3.mono H2.out.size))
  generalize ys.length = m at *
  clear ho hb3 D2 H2 CP
  go_wp2
  go_ret
  exact ⟨rfl, H3.out⟩
set_option maxHeartbeats 4000000 in
theorem pad_out (p : Pkt) (l : Loc) (v u : PV) (ys : List Int) (pad at_ : Int) (m : Nat) (hm : ys.length = m) (w : World) (h1 : ¬ pad < 1) (h2 : ¬ 255 < pad) (hu : { v with pad := pad } = u) (hp : pvOf p l = u) (hr : PRd w w.heap.size p l) (h3 : at_ < 0 ∨ (¬ at_ < 0 ∧ pad - 1 ≤ at_))
    (CP : Hid (∀ W, Below w.heap.size w W → Calls Try.prog 11 #[pkt u] W (RetR W ys 0))) (CG : Hid (∀ W A c, Rd W W.heap.size A m ys → m ≤ c → Calls Try.prog 17 #[.slice A m c] W (GRet W p 0))) :
    Calls Try.prog 9 #[pkt v, .int .i64 pad, .int .i64 at_] w (RetB w true) := by
  have hb0 := (Below.refl w.heap.size w).alloc (Nat.le_refl _) (pobj v)
  have HU := Lib.hid hu
  have HM := Lib.hid hm
  have HP := Lib.hid hp
  have q : IntKind.i64.wrap (pad - 1) = pad - 1 := IntWalk.i64_in _ (by omega)
  clear hu hm hp
  rcases h3 with h3 | ⟨h3, h4⟩
  all_goals
    go_enter Try.func9, Try.ntmps9
    go_wp2_with fail
    refine (shown_any _).mono ?_
    rintro e w1 ⟨rfl, hb1⟩
    have D1 : PBlk w1 w.heap.size v := (PBlk.new w v).below hb1 (by simp)
    have H1 := Lib.hid (hb0.trans (hb1.mono hb0.size))
    have x10 := D1.c10
    have y10 := D1.frozen 10
    have D2 := D1.set10 pad
    rw [HU.out] at D2
    have H2 := Lib.hid (H1.out.setCell (p := ⟨w.heap.size, 10, none⟩) (Nat.le_refl _) (.int .i64 pad))
    have d0 := D2.c0
    have d1 := D2.c1
    have d2 := D2.c2
    have d3 := D2.c3
    have d4 := D2.c4
    have d5 := D2.c5
    have d6 := D2.c6
    have d7 := D2.c7
    have d8 := D2.c8
    have d9 := D2.c9
    have d10 := D2.c10
    clear hb1 D1 H1 hb0
    go_wp2_with fail
    clear x10 y10
    clear d0 d1 d2 d3 d4 d5 d6 d7 d8 d9 d10
    refine (CP.out _ H2.out).mono ?_
    rintro e w3 ⟨A, c, rfl, ho, hb3⟩
    have H3 := Lib.hid (H2.out.trans (hb3.mono H2.out.size))
    rw [HM.out] at ho ⊢
    have D3 := D2.below hb3 D2.lt
    have C := CG.out w3 A c ho.rd ho.2.2.1
    have HC := Lib.hid C
    have HO := Lib.hid (ho.lower (base' := w.heap.size) H2.out.size)
    have HW := Lib.hid (show w.heap.size < w3.heap.size from D3.lt)
    clear hb3 D2 H2 ho CP C CG
    go_wp2_with fail
    refine HC.out.mono ?_
    rintro e w4 ⟨l', rfl, hq, hb4⟩
    obtain ⟨q, hv⟩ : ∃ q, pvOf p l' = q := ⟨_, rfl⟩
    rw [hv]
    have hb5 := (Below.refl w4.heap.size w4).alloc (Nat.le_refl _) (pobj q)
    have hb45 := hb4.trans (hb5.mono hb4.size)
    have D5 : PBlk (w4.alloc (pobj q)) w.heap.size u := D3.below hb45 D3.lt
    have H5 := Lib.hid (H3.out.trans (hb45.mono H3.out.size))
    have HO5 := Lib.hid (HO.out.below hb45 (Nat.le_refl _))
    have C5 := same_any (w4.alloc (pobj q)) (w4.alloc (pobj q)).heap.size p l l' ((hr.below H5.out).more H5.out.size) ((hq.below hb5).more hb5.size) (Nat.le_refl _)
    rw [hv, HP.out] at C5
    have HC5 := Lib.hid C5
    have d0 := D5.c0
    have d1 := D5.c1
    have d2 := D5.c2
    have d3 := D5.c3
    have d4 := D5.c4
    have d5 := D5.c5
    have d6 := D5.c6
    have d7 := D5.c7
    have d8 := D5.c8
    have d9 := D5.c9
    have d10 := D5.c10
    clear HC hb4 hb5 hb45 D3 H3 C5 hq hv HO HP hr
    go_wp2_with fail
    clear d0 d1 d2 d3 d4 d5 d6 d7 d8 d9 d10
    refine HC5.out.mono ?_
    rintro e w6 ⟨rfl, hb6⟩
    have H6 := Lib.hid (H5.out.trans (hb6.mono H5.out.size))
    have HO6 := Lib.hid (HO5.out.below hb6 (Nat.le_refl _))
    clear HC5 H5 hb6 HO5 D5
    clear HO6
    go_wp2
    go_ret
    exact ⟨rfl, H6.out⟩
set_option maxHeartbeats 4000000 in
theorem pad_hit (p : Pkt) (l : Loc) (v u : PV) (ys : List Int) (pad at_ : Int) (m I : Nat) (hm : ys.length = m) (w : World) (h1 : ¬ pad < 1) (h2 : ¬ 255 < pad) (hu : { v with pad := pad } = u) (hp : pvOf p l = u) (hr : PRd w w.heap.size p l) (h3 : ¬ at_ < 0) (h4 : ¬ pad - 1 ≤ at_)
    (h5 : ¬ (m : Int) < pad) (hml : m ≤ 512) (hI : (m : Int) - pad + at_ = I) (hIm : I < m)
    (CP : Hid (∀ W, Below w.heap.size w W → Calls Try.prog 11 #[pkt u] W (RetR W ys 0))) (CG : Hid (∀ W A c, Rd W W.heap.size A m ys → m ≤ c → Calls Try.prog 17 #[.slice A m c] W (GRet W p 0)))
    (CH : Hid (∀ W A c, Rd W W.heap.size A m (ys.set I 1) → m ≤ c → Calls Try.prog 17 #[.slice A m c] W (GRet W zeroPkt 1))) :
    Calls Try.prog 9 #[pkt v, .int .i64 pad, .int .i64 at_] w (RetB w true) := by
  have hb0 := (Below.refl w.heap.size w).alloc (Nat.le_refl _) (pobj v)
  have HU := Lib.hid hu
  have HM := Lib.hid hm
  have HP := Lib.hid hp
  have q : IntKind.i64.wrap (pad - 1) = pad - 1 := IntWalk.i64_in _ (by omega)
  have q1 : IntKind.i64.wrap ((m : Int) - pad) = (m : Int) - pad := IntWalk.i64_in _ (by omega)
  have q2 : IntKind.i64.wrap ((m : Int) - pad + at_) = I := by rw [IntWalk.i64_in _ (by omega)]; exact hI
  clear hu hm hp
  go_enter Try.func9, Try.ntmps9
  go_wp2_with fail
  refine (shown_any _).mono ?_
  rintro e w1 ⟨rfl, hb1⟩
  have D1 : PBlk w1 w.heap.size v := (PBlk.new w v).below hb1 (by simp)
  have H1 := Lib.hid (hb0.trans (hb1.mono hb0.size))
  have x10 := D1.c10
  have y10 := D1.frozen 10
  have D2 := D1.set10 pad
  rw [HU.out] at D2
  have H2 := Lib.hid (H1.out.setCell (p := ⟨w.heap.size, 10, none⟩) (Nat.le_refl _) (.int .i64 pad))
  have d0 := D2.c0
  have d1 := D2.c1
  have d2 := D2.c2
  have d3 := D2.c3
  have d4 := D2.c4
  have d5 := D2.c5
  have d6 := D2.c6
  have d7 := D2.c7
  have d8 := D2.c8
  have d9 := D2.c9
  have d10 := D2.c10
  clear hb1 D1 H1 hb0
  go_wp2_with fail
  clear x10 y10
  clear d0 d1 d2 d3 d4 d5 d6 d7 d8 d9 d10
  refine (CP.out _ H2.out).mono ?_
  rintro e w3 ⟨A, c, rfl, ho, hb3⟩
  have H3 := Lib.hid (H2.out.trans (hb3.mono H2.out.size))
  rw [HM.out] at ho ⊢
  have D3 := D2.below hb3 D2.lt
  have C := CG.out w3 A c ho.rd ho.2.2.1
  have HC := Lib.hid C
  have HO := Lib.hid (ho.lower (base' := w.heap.size) H2.out.size)
  have HW := Lib.hid (show w.heap.size < w3.heap.size from D3.lt)
  clear hb3 D2 H2 ho CP C CG
  go_wp2_with fail
  refine HC.out.mono ?_
  rintro e w4 ⟨l', rfl, hq, hb4⟩
  obtain ⟨q, hv⟩ : ∃ q, pvOf p l' = q := ⟨_, rfl⟩
  rw [hv]
  have hb5 := (Below.refl w4.heap.size w4).alloc (Nat.le_refl _) (pobj q)
  have hb45 := hb4.trans (hb5.mono hb4.size)
  have D5 : PBlk (w4.alloc (pobj q)) w.heap.size u := D3.below hb45 D3.lt
  have H5 := Lib.hid (H3.out.trans (hb45.mono H3.out.size))
  have HO5 := Lib.hid (HO.out.below hb45 (Nat.le_refl _))
  have C5 := same_any (w4.alloc (pobj q)) (w4.alloc (pobj q)).heap.size p l l' ((hr.below H5.out).more H5.out.size) ((hq.below hb5).more hb5.size) (Nat.le_refl _)
  rw [hv, HP.out] at C5
  have HC5 := Lib.hid C5
  have d0 := D5.c0
  have d1 := D5.c1
  have d2 := D5.c2
  have d3 := D5.c3
  have d4 := D5.c4
  have d5 := D5.c5
  have d6 := D5.c6
  have d7 := D5.c7
  have d8 := D5.c8
  have d9 := D5.c9
  have d10 := D5.c10
  clear HC hb4 hb5 hb45 D3 H3 C5 hq hv HO HP hr
  go_wp2_with fail
  clear d0 d1 d2 d3 d4 d5 d6 d7 d8 d9 d10
  refine HC5.out.mono ?_
  rintro e w6 ⟨rfl, hb6⟩
  have H6 := Lib.hid (H5.out.trans (hb6.mono H5.out.size))
  have HO6 := Lib.hid (HO5.out.below hb6 (Nat.le_refl _))
  clear HC5 H5 hb6 HO5 D5
  obtain ⟨-, hby, hmc, hcm, hcase⟩ := HO6.out
  rcases hcase with ⟨-, h0, -⟩ | ⟨g, T, rfl, hg, hk, hT⟩
  · omega
  have y0 := hk.cell I (by rw [HM.out]; exact hIm)
  obtain ⟨n0, y0⟩ : ∃ n, w6.cell? ⟨g, I, none⟩ = some (.int .u8 n) := ⟨_, y0⟩
  have z0 := hk.frozen I
  have hk7 := hk.set_ I (by rw [HM.out]; exact hIm) 1
  have H7 := Lib.hid (H6.out.setCell (p := ⟨g, I, none⟩) hg (.int .u8 1))
  have hby7 : Bytes (ys.set I 1) := by
    intro x hx
    rcases List.mem_or_eq_of_mem_set hx with hx | rfl
    · exact hby x hx
    · omega
  have C7 := CH.out _ (some ⟨g, 0, none⟩) c (hk7.rd hby7 (by rw [List.length_set]; exact HM.out)) hmc
  have HC7 := Lib.hid C7
  clear HO6 hk hk7 C7 CH hT hby hby7 H6 hcm hg
  go_wp2_with fail
  refine HC7.out.mono ?_
  rintro e w8 ⟨l2, rfl, hq8, hb8⟩
  clear y0 z0
  obtain ⟨q8, hv8⟩ : ∃ q8, pvOf zeroPkt l2 = q8 := ⟨_, rfl⟩
  rw [hv8]
  have hb9 := hb8.alloc hb8.size (pobj q8)
  clear hv8 hq8
  go_wp2
  go_ret
  exact ⟨rfl, H7.out.trans (hb9.mono H7.out.size)⟩

theorem pad_law (p : Pkt) (l : Loc) (pad at_ : Int) (w : World) (ho : p.Ok) (hr : PRd w w.heap.size p l) : Calls Try.prog 9 #[pkt (pvOf p l), .int .i64 pad, .int .i64 at_] w (RetB w true) := by
  by_cases h1 : pad < 1
  · exact pad_far _ pad at_ w (.inl h1)
  · by_cases h2 : 255 < pad
    · exact pad_far _ pad at_ w (.inr ⟨h1, h2⟩)
    · have ho' := Ok_pad ho pad
      have hr' := PRd_pad hr pad
      have hu : { pvOf p l with pad := pad } = pvOf { p with pad := pad } l := rfl
      have hp0 : ({ p with pad := pad } : Pkt).pad = pad := rfl
      generalize ({ p with pad := pad } : Pkt) = p' at *
      have CP := fun W (hW : Below w.heap.size w W) => put_pkt W p' l ho' (hr'.below hW) hW.size
      by_cases h : putE p' = 0
      · obtain ⟨hm, hl, hb, -⟩ := putE_ok h
        obtain ⟨g1, g2, g3, g4, -⟩ := put_get ho' h
        rw [h] at CP
        rw [hb] at CP g1 g2 g3 g4
        have CG : ∀ W A c, Rd W W.heap.size A (enc p').length (enc p') → (enc p').length ≤ c → Calls Try.prog 17 #[.slice A (enc p').length c] W (GRet W p' 0) := fun W A c hR hc => by
          have := get_any A _ c _ _ W (by unfold maxLen; omega) hc hR (Nat.le_refl _)
          rw [g1, g2] at this
          exact this
        by_cases h3 : at_ < 0
        · exact pad_out p' l _ _ _ pad at_ _ rfl w h1 h2 hu rfl hr' (.inl h3) CP CG
        · by_cases h4 : pad - 1 ≤ at_
          · exact pad_out p' l _ _ _ pad at_ _ rfl w h1 h2 hu rfl hr' (.inr ⟨h3, h4⟩) CP CG
          · have hel := enc_length p' hm
            rw [hp0] at hel
            obtain ⟨j, rfl⟩ := Int.eq_ofNat_of_zero_le (show 0 ≤ at_ by omega)
            have e := pad_bad p' j ho' hm hl (by rw [hp0]; omega)
            rw [hp0] at e
            refine pad_hit p' l _ _ _ pad j _ ((enc p').length - pad.toNat + j) rfl w h1 h2 hu rfl hr' h3 h4 (by omega) hl (by omega) (by omega) CP CG (fun W A c hR hc => ?_)
            have := get_any A _ c _ _ W (by unfold maxLen; omega) hc hR (Nat.le_refl _)
            rw [gP, e] at this
            exact this
      · exact pad_none _ _ _ pad at_ _ w h1 h2 hu (by simpa using h) CP
end Go.Proofs.Ytiamdaeodkiccaa.Rtp
