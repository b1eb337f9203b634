/- The law's own sample, shown. · The reference's Apply, FrameOf whatever the bytes; the walk of PatchAll. -/
import Derived.Test.YtjmlimfheiogcaaNh
import Derived.Test.YtjmlimfheiogcaaNi
namespace Go.Proofs.Ytjmlimfheiogcaa.Pat
open Go.RowKit
open Rtp (PV pkt pobj PBlk pvOf PRd zpv Off)
set_option linter.unusedVariables false

def s0 : Pkt := ⟨false, 96, 1, 2, 3, [], false, 0, [], [65, 90, 0, 4, 9], 0⟩
def sB : List Int := [128, 96, 0, 1, 0, 0, 0, 2, 0, 0, 0, 3, 65, 90, 0, 4, 9]
def sA : List Int := [128, 96, 0, 5, 0, 0, 0, 6, 0, 0, 0, 7, 64, 90, 0, 8, 9]
theorem s0_ok : s0.Ok := by
  refine ⟨by decide, by decide, by decide, by decide, by decide, by decide, Words.nil, by decide, by decide, Bytes.nil, ?_⟩
  intro x hx
  simp [s0] at hx
  omega
theorem s0_put : putB s0 = sB := by decide +kernel
theorem s0_err : putE s0 = 0 := by decide +kernel
theorem sB_has : hasD sB = true := by decide +kernel
theorem sB_app : applyL sB 5 6 7 8 = sA := by decide +kernel
theorem sA_has : hasD sA = true := by decide +kernel
theorem sA_q : oQ sA = 5 := by decide +kernel
theorem sA_t : oT sA = 6 := by decide +kernel
theorem sA_s : oS sA = 7 := by decide +kernel
theorem sA_f : oF sA = 8 := by decide +kernel
theorem sA_3 : media (sA.take 3) = false := by decide +kernel

set_option maxHeartbeats 4000000 in
theorem sample_any (w : World) : Calls Try.prog 23 #[] w (NewRow w sB) := by
  have CP : Hid (∀ W A c, Own W w.heap.size A 5 c [65, 90, 0, 4, 9] → Calls Try.prog 37 #[.agg #[.bool false, .int .i64 96, .int .u16 1, .int .u32 2, .int .u32 3, .slice none 0 0, .bool false, .int .u16 0, .slice none 0 0, .slice A 5 c, .int .i64 0]] W
      (Rtp.RetR W sB 0)) := fun W A c ho => by
    have := Rtp.put_pkt W s0 ⟨none, 0, none, 0, A, c⟩ s0_ok (B := W.heap.size) ⟨Wd.none_ _ rfl, Rd.none_ _ rfl, ho.rd, by decide, by decide, by decide, Nat.le_refl _, Nat.le_refl _, ho.2.2.1⟩ (Nat.le_refl _)
    rw [s0_put, s0_err] at this
    exact this
  go_enter Try.func23, Try.ntmps23
  go_wp2_with fail
  refine (put_yes 1 false true 4 w (by decide) (by decide) (by decide) (by decide)).mono ?_
  rw [show putV 1 false true 4 = [65, 90, 0, 4] from by decide]
  rintro e w1 ⟨g, rfl, hg, hk1, hb1⟩
  have hb2 := (Below.refl w1.heap.size w1).alloc (Nat.le_refl _) (.cells #[.int .u8 9] 5)
  have O2 : Own (w1.alloc (.cells #[.int .u8 9] 5)) w.heap.size (some ⟨g, 0, none⟩) 4 4 [65, 90, 0, 4] := Own.of_blk (hk1.below hb2 hk1.lt) hg (by intro x hx; simp at hx; omega) rfl (by decide)
  have R2 := (alloc1 w1 9).rd (n := 1) (by intro x hx; simp at hx; omega) rfl
  have H2 := Lib.hid (hb1.trans (hb2.mono hb1.size))
  clear hk1 hb1 hb2 hg
  go_wp2_with (at_builtin; refine wpList_append_bytes rfl (.tmp 5) (.tmp 6) rfl w.heap.size _ 4 4 1 1 5 _ _ [65, 90, 0, 4] [9] [65, 90, 0, 4, 9] rfl rfl rfl rfl O2 R2 H2.out.size (by omega) ?_; intro A3 c3 w3 ho3 hb3)
  refine (CP.out w3 A3 c3 ho3).mono ?_
  rintro e w4 ⟨A4, c4, rfl, ho4, hb4⟩
  have HZ : Hid (w.heap.size ≤ w3.heap.size) := Nat.le_trans H2.out.size hb3.size
  have H4 : Hid (Below w.heap.size w w4) := (H2.out.trans hb3).trans (hb4.mono HZ.out)
  go_wp2
  go_ret
  exact ⟨A4, c4, rfl, ho4.lower HZ.out, H4.out⟩

set_option maxHeartbeats 4000000 in
theorem shown_any (w : World) : Calls Try.prog 8 #[] w (Rtp.RetB w true) := by
  have CA : Hid (∀ W A c, Own W w.heap.size A 17 c sB → Calls Try.prog 10 #[.slice A 17 c, pch 5 6 7 8] W (Wrote W w.heap.size A 17 c sA true)) := fun W A c ho => by
    have := apply_own A 17 c w.heap.size 5 6 7 8 sB W ho ⟨by decide, by decide, by decide, by decide, by decide, by decide, by decide, by decide⟩
    rw [sB_app, sB_has] at this
    exact this
  have CO : Hid (∀ W A c, Own W w.heap.size A 17 c sA → Calls Try.prog 14 #[.slice A 17 c] W (RetQ W 5 6 7 8 true)) := fun W A c ho => by
    have := of_any A 17 c W.heap.size sA W (by decide) ho.2.2.1 ho.rd (Nat.le_refl _)
    rw [sA_q, sA_t, sA_s, sA_f, sA_has] at this
    exact this
  have CS : Hid (∀ W g c, Own W w.heap.size (some ⟨g, 0, none⟩) 17 c sA → Calls Try.prog 17 #[.slice (some ⟨g, 0, none⟩) 3 c, .int .u16 1] W (Rtp.RetB W false)) := fun W g c ho => by
    have h1 := ho.2.2.1
    refine seq_no _ 3 c 1 W ?_
    have := isMedia_any (some ⟨g, 0, none⟩) 3 c W.heap.size (sA.take 3) W (by decide) (by omega) (ho.rd.take (by decide)) (Nat.le_refl _)
    rw [sA_3] at this
    exact this
  go_enter Try.func8, Try.ntmps8
  go_wp2_with fail
  refine (sample_any w).mono ?_
  rintro e w1 ⟨A, c, rfl, ho1, hb1⟩
  have ho1 : Own w1 w.heap.size A 17 c sB := ho1
  rw [show sB.length = 17 from rfl]
  have hz1 := hb1.size
  go_wp2_with fail
  refine (CA.out w1 A c ho1).mono ?_
  rintro e w2 ⟨rfl, ho2, ha2⟩
  have hb2 : Below w.heap.size w w2 := hb1.trans (ha2.below ho1 hz1)
  clear ho1 hb1 ha2 CA
  go_wp2_with fail
  refine (CO.out w2 A c ho2).mono ?_
  rintro e w3 ⟨rfl, hb3⟩
  have ho3 := ho2.below hb3 (Nat.le_refl _)
  have hb3' := hb2.trans (hb3.mono hb2.size)
  have hb4 := (Below.refl w3.heap.size w3).alloc (Nat.le_refl _) (.cells #[.int .u16 5, .int .u32 6, .int .u32 7, .int .u16 8] 26)
  have ho4 := ho3.below hb4 (Nat.le_refl _)
  have H4 := Lib.hid (hb3'.trans (hb4.mono hb3'.size))
  obtain ⟨g, rfl⟩ : ∃ g, A = some ⟨g, 0, none⟩ := by
    rcases ho4.2.2.2.2 with ⟨-, h, -⟩ | ⟨g, T, rfl, -⟩
    · cases h
    · exact ⟨g, rfl⟩
  have hc17 := ho4.2.2.1
  obtain ⟨g', o', hg', -, hcl⟩ := ho4.rd.2.2 (by decide)
  injection hg' with hg'
  injection hg' with h1 h2
  subst h1; subst h2
  have k12 := hcl 12 (by decide)
  have k16 := hcl 16 (by decide)
  rw [Nat.zero_add, show sA.getD 12 0 = 64 from rfl] at k12
  rw [Nat.zero_add, show sA.getD 16 0 = 9 from rfl] at k16
  have HCS := Lib.hid (CS.out _ g c ho4)
  clear hcl ho2 ho3 ho4 hb2 hb3 hb3' hb4 CO CS
  go_wp2_with fail
  refine HCS.out.mono ?_
  rintro e w5 ⟨rfl, hb5⟩
  go_wp2
  go_ret
  exact ⟨rfl, H4.out.trans (hb5.mono H4.out.size)⟩
end Go.Proofs.Ytjmlimfheiogcaa.Pat

namespace Go.Proofs.Ytjmlimfheiogcaa.Pat
open Go.RowKit
open Rtp (PV pkt pobj PBlk pvOf PRd zpv Off)
set_option linter.unusedVariables false

theorem rapply_any (a : Option Addr) (len cap B : Nat) (xs : List Int) (q t r f : Int) (w : World) (hl : len ≤ 140737488351232) (hlc : len ≤ cap) (hr : Rd w B a len xs) (hB : B ≤ w.heap.size) (hp : PF q t r f) :
    Calls Try.prog 12 #[.slice a len cap, pch q t r f] w (PairRow w (applyL xs q t r f) (hasD xs)) := by
  have hl' : len ≤ maxLen := by unfold maxLen; omega
  have CM := fun W (hW : Below w.heap.size w W) => media_any a len cap B xs W hl' hlc (hr.below (hW.mono hB)) (Nat.le_trans hB hW.size)
  by_cases h : hasD xs = true
  · obtain ⟨p1, p2⟩ := hasD_iff.1 h
    obtain ⟨-, e1, e2, e3, -, -⟩ := apply_steps hr.2.1 h ⟨hp.q0, hp.q1⟩ ⟨hp.t0, hp.t1⟩ ⟨hp.s0, hp.s1⟩ ⟨hp.f0, hp.f1⟩
    obtain ⟨g1, g2, g3⟩ := Rtp.get_put e3 e1
    rw [e2] at g1 g2 g3
    rw [mP, (mE_iff xs).2 h, h, if_pos rfl] at CM
    rw [h]
    refine rapply_yes a len cap (pQ xs) _ _ q t r f _ _ (putV 0 (gK (pQ xs).pay) (gS (pQ xs).pay) f) _ _ w (gOk_len p2) (by simp [putV]) rfl CM (fun W => ?_) (fun W lc hq => ?_)
    · exact rput_any 0 _ _ f W hp.f0 hp.f1
    · have := Rtp.rput_pkt W W.heap.size (allP (pQ xs) q t r f) lc g1 hq (Nat.le_refl _)
      rw [g2, g3] at this
      exact this
  · have h' : hasD xs = false := Bool.eq_false_iff.2 h
    rw [applyL, h', if_neg (by decide)]
    exact rapply_no a len cap B xs _ _ _ q t r f _ _ _ w (by simpa using fun q => h ((mE_iff xs).1 q)) hl hr hB CM
theorem rframe_any (a : Option Addr) (len cap B : Nat) (xs : List Int) (y f : Int) (w : World) (hl : len ≤ 140737488351232) (hlc : len ≤ cap) (hr : Rd w B a len xs) (hB : B ≤ w.heap.size) (hf : 0 ≤ f ∧ f ≤ 65535) :
    Calls Try.prog 13 #[.slice a len cap, .int .i64 y, .int .u16 f] w (PairRow w (frameL xs y f) (hasD xs && mayB y)) := by
  have hl' : len ≤ maxLen := by unfold maxLen; omega
  have CM := fun W (hW : Below w.heap.size w W) => media_any a len cap B xs W hl' hlc (hr.below (hW.mono hB)) (Nat.le_trans hB hW.size)
  by_cases h : hasD xs = true
  · rw [mP, (mE_iff xs).2 h, h, if_pos rfl] at CM
    by_cases hm : mayB y = true
    · obtain ⟨p1, p2⟩ := hasD_iff.1 h
      obtain ⟨hm0, hm2⟩ := mayB_t hm
      obtain ⟨e1, e2, e3, -, -⟩ := frame_up hr.2.1 h hm hf.1 hf.2
      obtain ⟨g1, g2, g3⟩ := Rtp.get_put e3 e1
      rw [e2] at g1 g2 g3
      rw [h, hm]
      refine rframe_yes a len cap (pQ xs) _ _ y f _ _ (putV y (gK (pQ xs).pay) (gS (pQ xs).pay) f) _ _ w (by omega) (by omega) (gOk_len p2) (by simp [putV]) rfl CM (fun W => ?_) (fun W lc hq => ?_)
      · have := rput_any y (gK (pQ xs).pay) (gS (pQ xs).pay) f W hf.1 hf.2
        rw [rputV, hm, if_pos rfl] at this
        exact this
      · have := Rtp.rput_pkt W W.heap.size (hdF (pQ xs) y f) lc g1 hq (Nat.le_refl _)
        rw [g2, g3] at this
        exact this
    · have hm' : mayB y = false := Bool.eq_false_iff.2 hm
      have hm2 : ¬ (0 ≤ y ∧ y ≤ 2) := fun q => hm (by simpa [mayB] using q)
      rw [frameL, hm', Bool.and_false, if_neg (by decide)]
      by_cases hy : y < 0
      · exact rframe_low a len cap B xs _ _ _ y f _ _ w hy hl hr hB CM
      · exact rframe_high a len cap B xs _ _ _ y f _ _ w (by omega) (by omega) hl hr hB CM
  · have h' : hasD xs = false := Bool.eq_false_iff.2 h
    rw [frameL, h', Bool.false_and, if_neg (by decide)]
    exact rframe_no a len cap B xs _ _ _ y f _ _ _ w (by simpa using fun q => h ((mE_iff xs).1 q)) hl hr hB CM

/-- A copy of one's own. -/
def CopyRow (w : World) (n : Nat) (xs : List Int) (e : Ending) (w' : World) : Prop := ∃ A c, e = .returned (.slice A n c) ∧ Own w' w.heap.size A n c xs ∧ Below w.heap.size w w'
theorem copy_any (a : Option Addr) (len cap B : Nat) (xs : List Int) (w : World) (hl : len ≤ 140737488351232) (hr : Rd w B a len xs) :
    Calls Try.prog 9 #[.slice a len cap] w (CopyRow w len xs) := by
  have := copied_any a len cap B xs w hl hr
  obtain rfl := hr.1
  exact this

set_option maxHeartbeats 4000000 in
theorem all_walk (a : Option Addr) (len cap : Nat) (q t r f y fr oq ot os of_ : Int) (xs cs ds : List Int) (o1 o2 o3 : Bool) (w : World)
    (CC : Hid (∀ W, Below w.heap.size w W → Calls Try.prog 9 #[.slice a len cap] W (CopyRow W len xs)))
    (CA : Hid (∀ W base A c, Own W base A len c xs → Calls Try.prog 10 #[.slice A len c, pch q t r f] W (Wrote W base A len c cs o1)))
    (CF : Hid (∀ W base A c, Own W base A len c xs → Calls Try.prog 11 #[.slice A len c, .int .i64 y, .int .u16 fr] W (Wrote W base A len c ds o2)))
    (RA : Hid (∀ W, Below w.heap.size w W → Calls Try.prog 12 #[.slice a len cap, pch q t r f] W (PairRow W cs o1)))
    (RF : Hid (∀ W, Below w.heap.size w W → Calls Try.prog 13 #[.slice a len cap, .int .i64 y, .int .u16 fr] W (PairRow W ds o2)))
    (CO : Hid (∀ W, Below w.heap.size w W → Calls Try.prog 14 #[.slice a len cap] W (RetQ W oq ot os of_ o3)))
    (CQ : Hid (∀ W, Below w.heap.size w W → Calls Try.prog 15 #[.slice a len cap] W (RetQ W oq ot os of_ o3))) :
    Calls Try.prog 3 #[.slice a len cap, pch q t r f, .int .i64 y, .int .u16 fr] w (Rtp.RetB w true) := by
  go_enter Try.func3, Try.ntmps3
  go_wp2_with fail
  have hb0 := (Below.refl w.heap.size w).alloc (Nat.le_refl _) (.cells #[.int .u16 q, .int .u32 t, .int .u32 r, .int .u16 f] 26)
  have D0 := QBlk.new w q t r f
  refine (shown_any _).mono ?_
  rintro e w1 ⟨rfl, hb1⟩
  have D1 := D0.below hb1 D0.lt
  have B1 := hb0.trans (hb1.mono hb0.size)
  have hw1 := D1.lt
  clear hb0 hb1 D0
  go_wp2_with fail
  refine (CC.out _ B1).mono ?_
  rintro e w2 ⟨A2, c2, rfl, ho2, hb2⟩
  have D2 := D1.below hb2 hw1
  have B2 := B1.trans (hb2.mono B1.size)
  go_wp2_with fail
  refine (CC.out _ B2).mono ?_
  rintro e w3 ⟨A3, c3, rfl, ho3, hb3⟩
  have D3 := D2.below hb3 D2.lt
  have B3 := B2.trans (hb3.mono B2.size)
  have hc3 := ho2.below hb3 (Nat.le_refl _)
  have hz2 := hb2.size
  have hz3 := hb3.size
  clear D1 D2 hb2 hb3
  have c0 := D3.c0
  have c1 := D3.c1
  have c2' := D3.c2
  have c3' := D3.c3
  have HD3 := Lib.hid D3
  have H2 := Lib.hid ho2
  have H3 := Lib.hid ho3
  have HC3 := Lib.hid hc3
  clear D3 ho2 ho3 hc3
  go_wp2_with fail
  refine (CA.out w3 _ A2 c2 HC3.out).mono ?_
  rintro e w4 ⟨rfl, hc4, ha4⟩
  have hb4 : Below w1.heap.size w3 w4 := ha4.below H2.out (Nat.le_trans hz2 hz3)
  have D4 := HD3.out.below hb4 hw1
  have B4 := B3.trans (hb4.mono B1.size)
  have hd4 := ha4.keep H2.out H3.out (Nat.le_refl _)
  have hz4 := hb4.size
  clear c0 c1 c2' c3' HC3 HD3 ha4 hb4 CA
  have HC4 := Lib.hid hc4
  have HD4 := Lib.hid hd4
  clear hc4 hd4
  go_wp2_with fail
  refine (CF.out w4 _ A3 c3 HD4.out).mono ?_
  rintro e w5 ⟨rfl, hd5, ha5⟩
  have hb5 : Below w2.heap.size w4 w5 := ha5.below H3.out (Nat.le_trans hz3 hz4)
  have D5 := D4.below hb5 (by omega)
  have B5 := B4.trans (hb5.mono B2.size)
  have hc5 := ha5.keep' H3.out HC4.out (own_lt H2.out)
  clear ha5 hb5 CF HC4 HD4 D4 H2 H3 hz2 hz3 hz4
  have c0 := D5.c0
  have c1 := D5.c1
  have c2' := D5.c2
  have c3' := D5.c3
  have HC5 := Lib.hid hc5
  have HD5 := Lib.hid hd5
  clear D5 hc5 hd5
  go_wp2_with fail
  refine (RA.out w5 B5).mono ?_
  rintro e w6 ⟨A6, c6, rfl, ho6, hb6⟩
  have B6 := B5.trans (hb6.mono B5.size)
  have hc6 := HC5.out.below hb6 (Nat.le_refl _)
  have hd6 := HD5.out.below hb6 (Nat.le_refl _)
  clear c0 c1 c2' c3' hb6 HC5 HD5
  have HC6 := Lib.hid hc6
  have HD6 := Lib.hid hd6
  have HO6 := Lib.hid ho6
  clear hc6 hd6 ho6
  go_wp2_with fail
  refine (RF.out w6 B6).mono ?_
  rintro e w7 ⟨A7, c7, rfl, ho7, hb7⟩
  have B7 := B6.trans (hb7.mono B6.size)
  have HC7 := Lib.hid (HC6.out.below hb7 (Nat.le_refl _))
  have HD7 := Lib.hid (HD6.out.below hb7 (Nat.le_refl _))
  have HO7 := Lib.hid (HO6.out.below hb7 (Nat.le_refl _))
  have HP7 := Lib.hid ho7
  clear hb7 ho7 HC6 HD6 HO6
  go_wp2_with fail
  refine (CO.out w7 B7).mono ?_
  rintro e w8 ⟨rfl, hb8⟩
  have hb8' := hb8.alloc hb8.size (.cells #[.int .u16 oq, .int .u32 ot, .int .u32 os, .int .u16 of_] 26)
  have B8 := B7.trans (hb8'.mono B7.size)
  have HC8 := Lib.hid (HC7.out.below hb8' (Nat.le_refl _))
  have HD8 := Lib.hid (HD7.out.below hb8' (Nat.le_refl _))
  have HO8 := Lib.hid (HO7.out.below hb8' (Nat.le_refl _))
  have HP8 := Lib.hid (HP7.out.below hb8' (Nat.le_refl _))
  have E8 := QBlk.new w8 oq ot os of_
  clear hb8 hb8' HC7 HD7 HO7 HP7
  go_wp2_with fail
  generalize w8.alloc (.cells #[.int .u16 oq, .int .u32 ot, .int .u32 os, .int .u16 of_] 26) = w9 at *
  generalize w8.heap.size = g at *
  refine (CQ.out w9 B8).mono ?_
  rintro e w10 ⟨rfl, hb10⟩
  have hb11 := hb10.alloc hb10.size (.cells #[.int .u16 oq, .int .u32 ot, .int .u32 os, .int .u16 of_] 26)
  have B11 := Lib.hid (B8.trans (hb11.mono B8.size))
  have s1 := str_run (HC8.out.below hb11 (Nat.le_refl _)).rd (c := c2)
  have s2 := str_run (HO8.out.below hb11 (Nat.le_refl _)).rd (c := c6)
  have s3 := str_run (HD8.out.below hb11 (Nat.le_refl _)).rd (c := c3)
  have s4 := str_run (HP8.out.below hb11 (Nat.le_refl _)).rd (c := c7)
  have E11 := E8.below hb11 E8.lt
  have e0 := E11.c0
  have e1 := E11.c1
  have e2 := E11.c2
  have e3 := E11.c3
  clear hb10 hb11 HC8 HD8 HO8 HP8 E8 E11 B1 B2 B3 B4 B5 B6 B7 B8
  go_wp2
  go_ret
  exact ⟨rfl, B11.out⟩
theorem all_law (a : Option Addr) (len cap : Nat) (q t r f y fr : Int) (xs : List Int) (w : World) (hp : PF q t r f) (hf : 0 ≤ fr ∧ fr ≤ 65535) (hl : len ≤ 140737488351232) (hlc : len ≤ cap) (hr : Rd w w.heap.size a len xs) :
    Calls Try.prog 3 #[.slice a len cap, pch q t r f, .int .i64 y, .int .u16 fr] w (Rtp.RetB w true) :=
  have hl' : len ≤ maxLen := by unfold maxLen; omega
  all_walk a len cap q t r f y fr (oQ xs) (oT xs) (oS xs) (oF xs) xs (applyL xs q t r f) (frameL xs y fr) (hasD xs) (hasD xs && mayB y) (hasD xs) w
    (fun W hW => copy_any a len cap _ xs W hl (hr.below hW)) (fun W base A c ho => apply_own A len c base q t r f xs W ho hp) (fun W base A c ho => frame_own A len c base y fr xs W ho hf.1 hf.2)
    (fun W hW => rapply_any a len cap _ xs q t r f W hl hlc (hr.below hW) hW.size hp) (fun W hW => rframe_any a len cap _ xs y fr W hl hlc (hr.below hW) hW.size hf)
    (fun W hW => of_any a len cap _ xs W hl' hlc (hr.below hW) hW.size) (fun W hW => patchOf_any a len cap _ xs W hl' hlc (hr.below hW) hW.size)
end Go.Proofs.Ytjmlimfheiogcaa.Pat
