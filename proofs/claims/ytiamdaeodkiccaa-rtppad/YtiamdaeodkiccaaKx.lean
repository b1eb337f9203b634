/- The walks of RtpCut, RtpPad. -/
import Derived.Test.YtiamdaeodkiccaaKw
namespace Go.Proofs.Ytiamdaeodkiccaa.Rtp
open Go.RowKit
set_option linter.unusedVariables false

theorem PBlk.set10 {w : World} {b : Nat} {v : PV} (h : PBlk w b v) (y : Int) : PBlk (w.setCell ⟨b, 10, none⟩ (.int .i64 y)) b { v with pad := y } := heap_setCell_same w b 10 _ 27 (.int .i64 y) h
theorem PBlk.set9 {w : World} {b : Nat} {v : PV} (h : PBlk w b v) (j : Nat) : PBlk (w.setCell ⟨b, 9, none⟩ (.slice v.pa j v.pc)) b { v with pn := j } := heap_setCell_same w b 9 _ 27 (.slice v.pa j v.pc) h
/-- A store of a slice among a packet's cells leaves every number as it was. -/
theorem cell_keep {w : World} {g b o : Nat} {u : PV} (D : PBlk w g u) {k : IntKind} {x : Int} (h : w.cell? ⟨b, o, none⟩ = some (.int k x)) (J : Nat) : (w.setCell ⟨g, 9, none⟩ (.slice u.pa J u.pc)).cell? ⟨b, o, none⟩ = some (.int k x) := by
  by_cases hb : b = g
  · subst hb
    have e1 := cell_of_row w b o _ 27 (0, 0) D
    have e2 := cell_of_row _ b o _ 27 (0, 0) (D.set9 J)
    rw [e1] at h
    rw [e2]
    match o, h with
    | 0, h => exact h
    | 1, h => exact h
    | 2, h => exact h
    | 3, h => exact h
    | 4, h => exact h
    | 5, h => exact h
    | 6, h => exact h
    | 7, h => exact h
    | 8, h => exact h
    | 9, h => simp at h
    | 10, h => exact h
    | n + 11, h => simp at h
  · rw [World.cell?_setCell_far w ⟨g, 9, none⟩ ⟨b, o, none⟩ _ (fun e => hb e.symm)]; exact h
theorem PRd.keep {w : World} {B g : Nat} {u : PV} {p : Pkt} {l : Loc} (h : PRd w B p l) (D : PBlk w g u) (J : Nat) : PRd (w.setCell ⟨g, 9, none⟩ (.slice u.pa J u.pc)) B p l := by
  refine ⟨⟨h.csrc.1, h.csrc.2.1, fun hn => ?_⟩, ⟨h.ext.1, h.ext.2.1, fun hn => ?_⟩, ⟨h.pay.1, h.pay.2.1, fun hn => ?_⟩, h.cn, h.en, h.pn, h.cc, h.ec, h.pc⟩
  · obtain ⟨b, off, e, hlt, hc⟩ := h.csrc.2.2 hn
    exact ⟨b, off, e, hlt, fun i hi => cell_keep D (hc i hi) J⟩
  · obtain ⟨b, off, e, hlt, hc⟩ := h.ext.2.2 hn
    exact ⟨b, off, e, hlt, fun i hi => cell_keep D (hc i hi) J⟩
  · obtain ⟨b, off, e, hlt, hc⟩ := h.pay.2.2 hn
    exact ⟨b, off, e, hlt, fun i hi => cell_keep D (hc i hi) J⟩
/-- x[:k] of bytes. -/
theorem cut_to (a : Option Addr) (len cap k : Nat) (l : Int) (hl : l = k) (h : k ≤ cap) (W : World) :
    (Instr.slice 25 (.slice a len cap) none (some (.int .i64 l)) none).run Try.prog W = .ok (.slice a k cap) W := by
  subst hl
  obtain ⟨i0, hi0, hz0, hz1, hz2⟩ := info_parts info5
  have e := run_slice_h (P := Try.prog) (w := W) (t := 25) (a := a) (len := len) (cap := cap) (ht := Try.underlying25) .i64 (k : Int) (by omega) (by omega)
  rw [e, show Try.prog.elem 25 = 5 from rfl]
  have ha : a.map (·.add 0) = a := by cases a <;> simp [Addr.add]
  simp [sizeOf, typeInfo, hi0, sliced, ha]

set_option maxHeartbeats 4000000 in
/-- Nothing is put, or the length is out of range. -/
theorem cut_out (v u : PV) (ys : List Int) (n k : Int) (m : Nat) (hm : ys.length = m) (hu : { v with pad := 0 } = u) (w : World) (h : n ≠ 0 ∨ (n = 0 ∧ k < 0) ∨ (n = 0 ∧ ¬ k < 0 ∧ (m : Int) < k))
    (CP : Hid (∀ W, Below w.heap.size w W → Calls Try.prog 11 #[pkt u] W (RetR W ys n))) :
    Calls Try.prog 8 #[pkt v, .int .i64 k] w (RetB w true) := by
  have hb0 := (Below.refl w.heap.size w).alloc (Nat.le_refl _) (pobj v)
  have HU := Lib.hid hu
  have HM := Lib.hid hm
  clear hu hm
  rcases h with h | ⟨rfl, h⟩ | ⟨rfl, h, h'⟩
  case' inl => have hn : (n != 0) = true := by simpa using h
  all_goals
    go_enter Try.func8, Try.ntmps8
    go_wp2_with fail
    refine (shown_any _).mono ?_
    rintro e w1 ⟨rfl, hb1⟩
    have D1 : PBlk w1 w.heap.size v := (PBlk.new w v).below hb1 (by simp)
    have H1 := Lib.hid (hb0.trans (hb1.mono hb0.size))
    have x10 := D1.c10
    have y10 := D1.frozen 10
    have D2 := D1.set10 0
    rw [HU.out] at D2
    have H2 := Lib.hid (H1.out.setCell (p := ⟨w.heap.size, 10, none⟩) (Nat.le_refl _) (.int .i64 0))
    have d0 := D2.c0
    have d1 := D2.c1
    have d2 := D2.c2
    have d3 := D2.c3
    have d4 := D2.c4
    have d5 := D2.c5
    have d6 := D2.c6
    have d7 := D2.c7
    have d8 := D2.c8
    have d9 := D2.c9
    have d10 := D2.c10
    clear hb1 D1 H1
    go_wp2_with fail
    clear x10 y10
    clear d0 d1 d2 d3 d4 d5 d6 d7 d8 d9 d10
    refine (CP.out _ H2.out).mono ?_
    rintro e w3 ⟨A, c, rfl, ho, hb3⟩
    have H3 := Lib.hid (H2.out.trans (hb3.mono H2.out.size))
    rw [HM.out]
    clear hb3 D2 H2 ho CP
    go_wp2
    go_ret
    exact ⟨rfl, H3.out⟩

set_option maxHeartbeats 4000000 in
/-- A beginning that is too short. -/
theorem cut_less (v u : PV) (ys : List Int) (m K H : Nat) (hm : ys.length = m) (hu : { v with pad := 0 } = u) (w : World) (hml : m ≤ 512) (hK : K ≤ m) (hH : (m : Int) - u.pn = H) (hKH : K < H)
    (CP : Hid (∀ W, Below w.heap.size w W → Calls Try.prog 11 #[pkt u] W (RetR W ys 0)))
    (CG : Hid (∀ W A c, Rd W W.heap.size A K (ys.take K) → K ≤ c → Calls Try.prog 17 #[.slice A K c] W (GRet W zeroPkt 2))) :
    Calls Try.prog 8 #[pkt v, .int .i64 K] w (RetB w true) := by
  have hb0 := (Below.refl w.heap.size w).alloc (Nat.le_refl _) (pobj v)
  have HU := Lib.hid hu
  have HM := Lib.hid hm
  have h1 : ¬ (K : Int) < 0 := by omega
  have h2 : ¬ (m : Int) < K := by omega
  have h3 : (K : Int) < H := by omega
  clear hu hm
  go_enter Try.func8, Try.ntmps8
  go_wp2_with fail
  refine (shown_any _).mono ?_
  rintro e w1 ⟨rfl, hb1⟩
  have D1 : PBlk w1 w.heap.size v := (PBlk.new w v).below hb1 (by simp)
  have H1 := Lib.hid (hb0.trans (hb1.mono hb0.size))
  have x10 := D1.c10
  have y10 := D1.frozen 10
  have D2 := D1.set10 0
  rw [HU.out] at D2
  have H2 := Lib.hid (H1.out.setCell (p := ⟨w.heap.size, 10, none⟩) (Nat.le_refl _) (.int .i64 0))
  have d0 := D2.c0
  have d1 := D2.c1
  have d2 := D2.c2
  have d3 := D2.c3
  have d4 := D2.c4
  have d5 := D2.c5
  have d6 := D2.c6
  have d7 := D2.c7
  have d8 := D2.c8
  have d9 := D2.c9
  have d10 := D2.c10
  clear hb1 D1 H1 hb0
  go_wp2_with fail
  clear x10 y10
  clear d0 d1 d2 d3 d4 d5 d6 d7 d8 d9 d10
  refine (CP.out _ H2.out).mono ?_
  rintro e w3 ⟨A, c, rfl, ho, hb3⟩
  rw [HM.out] at ho ⊢
  have D3 := D2.below hb3 D2.lt
  have H3 := Lib.hid (H2.out.trans (hb3.mono H2.out.size))
  have s1 := fun W => cut_to A m c K K rfl (Nat.le_trans hK ho.2.2.1) W
  have C := CG.out w3 A c (ho.rd.take hK) (Nat.le_trans hK ho.2.2.1)
  have HC := Lib.hid C
  clear hb3 D2 H2 ho CP C CG
  go_wp2_with fail
  refine HC.out.mono ?_
  rintro e w4 ⟨l, rfl, hq, hb4⟩
  obtain ⟨q, hv⟩ : ∃ q, pvOf zeroPkt l = q := ⟨_, rfl⟩
  rw [hv]
  have hb5 := (Below.refl w4.heap.size w4).alloc (Nat.le_refl _) (pobj q)
  have D5 : PBlk (w4.alloc (pobj q)) w.heap.size u := (D3.below hb4 D3.lt).below hb5 (Nat.lt_of_lt_of_le D3.lt hb4.size)
  have H5 := Lib.hid (H3.out.trans ((hb4.trans (hb5.mono hb4.size)).mono H3.out.size))
  have C5 := same_any (w4.alloc (pobj q)) (w4.alloc (pobj q)).heap.size zeroPkt l ⟨none, 0, none, 0, none, 0⟩ ((hq.below hb5).more hb5.size) (zero_rd _ _) (Nat.le_refl _)
  rw [hv] at C5
  have HC5 := Lib.hid C5
  have d9 := D5.c9
  clear s1 HC hb4 hb5 D3 H3 C5 hq hv
  go_wp2_with fail
  refine HC5.out.mono ?_
  rintro e w6 ⟨rfl, hb6⟩
  clear d9
  go_wp2
  go_ret
  exact ⟨rfl, H5.out.trans (hb6.mono H5.out.size)⟩

set_option maxHeartbeats 4000000 in
/-- A beginning that has the head. -/
theorem cut_more (p2 : Pkt) (l : Loc) (v u : PV) (ys : List Int) (m K H J : Nat) (hm : ys.length = m) (hu : { v with pad := 0 } = u) (hp2 : pvOf p2 l = { u with pn := J }) (w : World) (hml : m ≤ 512) (hK : K ≤ m) (hH : (m : Int) - u.pn = H) (hJ : (K : Int) - H = J) (hJp : J ≤ u.pc)
    (hr : PRd w w.heap.size p2 l)
    (CP : Hid (∀ W, Below w.heap.size w W → Calls Try.prog 11 #[pkt u] W (RetR W ys 0)))
    (CG : Hid (∀ W A c, Rd W W.heap.size A K (ys.take K) → K ≤ c → Calls Try.prog 17 #[.slice A K c] W (GRet W p2 0))) :
    Calls Try.prog 8 #[pkt v, .int .i64 K] w (RetB w true) := by
  have hb0 := (Below.refl w.heap.size w).alloc (Nat.le_refl _) (pobj v)
  have HU := Lib.hid hu
  have HM := Lib.hid hm
  have h1 : ¬ (K : Int) < 0 := by omega
  have h2 : ¬ (m : Int) < K := by omega
  have h3 : ¬ (K : Int) < H := by omega
  have s2 := fun W => cut_to u.pa u.pn u.pc J J rfl hJp W
  have HS2 := Lib.hid s2
  obtain ⟨u2, hu2⟩ : ∃ u2, { u with pn := J } = u2 := ⟨_, rfl⟩
  rw [hu2] at hp2
  have HU2 := Lib.hid hu2
  have HP2 := Lib.hid hp2
  clear hu hm s2 hu2 hp2
  go_enter Try.func8, Try.ntmps8
  go_wp2_with fail
  refine (shown_any _).mono ?_
  rintro e w1 ⟨rfl, hb1⟩
  have D1 : PBlk w1 w.heap.size v := (PBlk.new w v).below hb1 (by simp)
  have H1 := Lib.hid (hb0.trans (hb1.mono hb0.size))
  have x10 := D1.c10
  have y10 := D1.frozen 10
  have D2 := D1.set10 0
  rw [HU.out] at D2
  have H2 := Lib.hid (H1.out.setCell (p := ⟨w.heap.size, 10, none⟩) (Nat.le_refl _) (.int .i64 0))
  have d0 := D2.c0
  have d1 := D2.c1
  have d2 := D2.c2
  have d3 := D2.c3
  have d4 := D2.c4
  have d5 := D2.c5
  have d6 := D2.c6
  have d7 := D2.c7
  have d8 := D2.c8
  have d9 := D2.c9
  have d10 := D2.c10
  clear hb1 D1 H1 hb0
  go_wp2_with fail
  clear x10 y10
  clear d0 d1 d2 d3 d4 d5 d6 d7 d8 d9 d10
  refine (CP.out _ H2.out).mono ?_
  rintro e w3 ⟨A, c, rfl, ho, hb3⟩
  rw [HM.out] at ho ⊢
  have D3 := D2.below hb3 D2.lt
  have H3 := Lib.hid (H2.out.trans (hb3.mono H2.out.size))
  have s1 := fun W => cut_to A m c K K rfl (Nat.le_trans hK ho.2.2.1) W
  have C := CG.out w3 A c (ho.rd.take hK) (Nat.le_trans hK ho.2.2.1)
  have HC := Lib.hid C
  clear hb3 D2 H2 ho CP C CG
  go_wp2_with fail
  refine HC.out.mono ?_
  rintro e w4 ⟨l', rfl, hq, hb4⟩
  obtain ⟨q, hv⟩ : ∃ q, pvOf p2 l' = q := ⟨_, rfl⟩
  rw [hv]
  have D4 := D3.below hb4 D3.lt
  have hlt : w.heap.size < w4.heap.size := D4.lt
  have H4 := Lib.hid (H3.out.trans (hb4.mono H3.out.size))
  have hb5 := (Below.refl w4.heap.size w4).alloc (Nat.le_refl _) (pobj q)
  have d9 := (D4.below hb5 D4.lt).c9
  have y9 := (D4.below hb5 D4.lt).frozen 9
  obtain ⟨y, hy⟩ : ∃ y, w4.setCell ⟨w.heap.size, 9, none⟩ (.slice u.pa J u.pc) = y := ⟨_, rfl⟩
  have hsz : y.heap.size = w4.heap.size := by rw [← hy]; simp [World.setCell]
  have D4' : PBlk y w.heap.size u2 := by
    have := D4.set9 J
    rw [HU2.out, hy] at this
    exact this
  have hq4 : PRd y y.heap.size p2 l' := by
    have := hq.keep D4 J
    rw [hy] at this
    rw [hsz]
    exact this
  have H4' : Below w.heap.size w y := hy ▸ H4.out.setCell (p := ⟨w.heap.size, 9, none⟩) (Nat.le_refl _) (.slice u.pa J u.pc)
  have hb6 := (Below.refl y.heap.size y).alloc (Nat.le_refl _) (pobj q)
  have D6 : PBlk (y.alloc (pobj q)) w.heap.size u2 := D4'.below hb6 D4'.lt
  have E6 : PBlk (y.alloc (pobj q)) w4.heap.size q := hsz ▸ PBlk.new y q
  have H6 := Lib.hid (H4'.trans (hb6.mono H4'.size))
  have C6 := same_any (y.alloc (pobj q)) (y.alloc (pobj q)).heap.size p2 l l' ((hr.below H6.out).more H6.out.size) ((hq4.below hb6).more hb6.size) (Nat.le_refl _)
  rw [hv, HP2.out] at C6
  have HC6 := Lib.hid C6
  have s2 := HS2.out
  have d0 := D6.c0
  have d1 := D6.c1
  have d2 := D6.c2
  have d3 := D6.c3
  have d4 := D6.c4
  have d5 := D6.c5
  have d6 := D6.c6
  have d7 := D6.c7
  have d8 := D6.c8
  have d9z := D6.c9
  have d10 := D6.c10
  have e0 := E6.c0
  have e1 := E6.c1
  have e2 := E6.c2
  have e3 := E6.c3
  have e4 := E6.c4
  have e5 := E6.c5
  have e6 := E6.c6
  have e7 := E6.c7
  have e8 := E6.c8
  have e9 := E6.c9
  have e10 := E6.c10
  clear s1 HC hb4 hb5 D3 H3 C6 hq hv hq4 D4 D4' E6 H4 H4' hb6 HS2 HU2 HP2 D6 hsz
  rw [← hy] at d0 d1 d2 d3 d4 d5 d6 d7 d8 d9z d10 e0 e1 e2 e3 e4 e5 e6 e7 e8 e9 e10 HC6 H6
  clear hy y
  go_wp2_with fail
  refine HC6.out.mono ?_
  rintro e w7 ⟨rfl, hb7⟩
  clear d0 d1 d2 d3 d4 d5 d6 d7 d8 d9 d9z d10 e0 e1 e2 e3 e4 e5 e6 e7 e8 e9 e10 y9 s2
  go_wp2
  go_ret
  exact ⟨rfl, H6.out.trans (hb7.mono H6.out.size)⟩
end Go.Proofs.Ytiamdaeodkiccaa.Rtp
