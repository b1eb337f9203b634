/- SiftMade, walked. · SiftMade whatever the packet, the descriptor, the items. -/
import Derived.Test.YthmmafpmpnhleaaTg
import Derived.Test.YthmmafpmpnhleaaMb
import Derived.Test.YthmmafpmpnhleaaDl
import Derived.Test.YthmmafpmpnhleaaVp
import Derived.Test.YthmmafpmpnhleaaVq
set_option maxRecDepth 100000
namespace Go.Proofs.Ythmmafpmpnhleaa.Sft
open Go.RowKit
open Rtp (PV pkt pobj PBlk pvOf PRd zpv Off)
open Fbk (ILoc IRd ItsRd ItsOwn its OkL putLB putLE)
set_option linter.unusedVariables false

set_option maxHeartbeats 16000000 in
theorem made_yes (w : World) (p : Pkt) (v : PV) (l f : Int) (k s : Bool) (a : Option Addr) (n c : Nat) (is : List Itm) (ys : List Int) (zs : List Int) (E1 : Int) (E2 : Int)
    (CB1 : Hid (∀ W, Below w.heap.size w W → Calls Try.prog 15 #[.iface 50 (mval v l k s f)] W (Fbk.RetR W ys E1)))
    (CB2 : Hid (∀ W, Below w.heap.size w W → Calls Try.prog 15 #[.iface 52 (fval a n c)] W (Fbk.RetR W zs E2)))
    (CP : Hid (∀ W, Below w.heap.size w W → Calls Try.prog 16 #[pkt v] W (Rtp.RetR W ys E1)))
    (CG : Hid (∀ W, Below w.heap.size w W → Calls Try.prog 17 #[.slice v.pa v.pn v.pc] W (RetG W l k s f 0)))
    (CI : Hid (∀ W, Below w.heap.size w W → Calls Try.prog 18 #[.slice a n c] W (Fbk.RetR W zs E2)))
    (CF1 : Hid (∀ W, Below w.heap.size w W → Calls Try.prog 12 #[.iface 50 (mval v l k s f)] W fun e w' => ∃ lc A c, e = .returned (.tuple #[pkt (pvOf p lc), dsc l k s f, .slice A 0 c]) ∧ PRd w' w'.heap.size p lc ∧ Below W.heap.size W w'))
    (CF2 : Hid (∀ W, Below w.heap.size w W → Calls Try.prog 12 #[.iface 52 (fval a n c)] W fun e w' => ∃ u A c ps, e = .returned (.tuple #[pkt u, dsc 0 false false 0, .slice A n c]) ∧ ItsRd w' w'.heap.size A n ps ∧ its ps = is ∧ Below W.heap.size W w'))
    (CS : Hid (∀ W lc, Below w.heap.size w W → PRd W W.heap.size p lc → Calls Try.prog 13 #[pkt v, pkt (pvOf p lc)] W (Rtp.RetB W true)))
    (CT : Hid (∀ W A c' ps, Below w.heap.size w W → ItsRd W W.heap.size A n ps → its ps = is → Calls Try.prog 14 #[.slice A n c', .slice a n c] W (Rtp.RetB W true))) :
    Calls Try.prog 5 #[pkt v, dsc l k s f, .slice a n c] w (Rtp.RetB w true) := by
  have hk1 := mk_media
  have hk2 := mk_feed
  go_enter Try.func5, Try.ntmps5
  go_wp2_with fail
  have hb0 : Below w.heap.size w ((w.alloc (pobj v)).alloc (.cells #[.int .i64 l, .bool k, .bool s, .int .u16 f] 35 (0, 0))) := ((Below.refl _ _).alloc (Nat.le_refl _) (pobj v)).alloc (by simp) _
  have P0 := (PBlk.new w v).below ((Below.refl (w.alloc (pobj v)).heap.size _).alloc (Nat.le_refl _) (.cells #[.int .i64 l, .bool k, .bool s, .int .u16 f] 35 (0, 0))) (PBlk.new w v).lt
  have D0 : DBlk ((w.alloc (pobj v)).alloc (.cells #[.int .i64 l, .bool k, .bool s, .int .u16 f] 35 (0, 0))) (w.heap.size + 1) l k s f := by
    have := DBlk.new (w.alloc (pobj v)) l k s f
    rw [show (w.alloc (pobj v)).heap.size = w.heap.size + 1 from by simp] at this
    exact this
  generalize (w.alloc (pobj v)).alloc (.cells #[.int .i64 l, .bool k, .bool s, .int .u16 f] 35 (0, 0)) = w0 at *
  generalize hq0 : w.heap.size = q at *
  generalize hq1 : q + 1 = q1 at *
  refine (shown_any _).mono ?_
  rintro e1 w1 ⟨rfl, hb1⟩
  have P1 := P0.below hb1 P0.lt
  have D1 := D0.below hb1 D0.lt
  have hb01 := hb0.trans (hb1.mono (hq0 ▸ hb0.size))
  obtain ⟨p0, p1, p2, p3, p4, p5, p6, p7, p8, p9, p10⟩ := P1.cells
  have e0 := D1.c0
  have e1 := D1.c1
  have e2 := D1.c2
  have e3 := D1.c3
  have hb2 : Below w1.heap.size w1 ((w1.alloc (mobj v l k s f)).alloc (fobj a n c)) := ((Below.refl _ _).alloc (Nat.le_refl _) (mobj v l k s f)).alloc (by simp) _
  have M2 := (MBlk.new w1 v l k s f).below ((Below.refl (w1.alloc (mobj v l k s f)).heap.size _).alloc (Nat.le_refl _) (fobj a n c)) (MBlk.new w1 v l k s f).lt
  have F2 : ((w1.alloc (mobj v l k s f)).alloc (fobj a n c)).heap[w1.heap.size + 1]? = some (fobj a n c) := by
    have := heap_alloc_new (w1.alloc (mobj v l k s f)) (fobj a n c)
    rw [show (w1.alloc (mobj v l k s f)).heap.size = w1.heap.size + 1 from by simp] at this
    exact this
  have HP := Lib.hid (P1.below hb2 P1.lt)
  have HD := Lib.hid (D1.below hb2 D1.lt)
  have HM := Lib.hid M2
  have HF := Lib.hid F2
  have HB2 := Lib.hid (hb01.trans (hb2.mono (hq0 ▸ hb01.size)))
  clear hb0 hb1 hb01 hb2 P0 D0 P1 D1 M2 F2
  go_upto_region 4 with (fail)
  generalize (w1.alloc (mobj v l k s f)).alloc (fobj a n c) = w2 at *
  generalize w1.heap.size = r at *
  generalize hr1 : r + 1 = r1 at *
  clear p0 p1 p2 p3 p4 p5 p6 p7 p8 p9 p10 e0 e1 e2 e3
  have HQ2 := Lib.hid (show q ≤ w2.heap.size from hq0 ▸ HB2.out.size)
  have HC2 := Lib.hid (Below.refl w2.heap.size w2)
  obtain ⟨p0, p1, p2, p3, p4, p5, p6, p7, p8, p9, p10⟩ := HM.out.pc
  obtain ⟨p11, p12, p13, p14⟩ := HM.out.dc
  go_wp2_with fail
  refine (CB1.out w2 HB2.out).mono ?_
  rintro e2 w3 ⟨A1, c1, rfl, ho, hb⟩
  have HR1 := Lib.hid ho.rd
  have HC3 := Lib.hid hb
  clear p0 p1 p2 p3 p4 p5 p6 p7 p8 p9 p10 p11 p12 p13 p14 ho hb CB1 HC2
  have f0 : w3.cell? ⟨r1, 0, none⟩ = some (.slice a n c) := cell_of_row w3 r1 0 _ _ (0, 0) ((HC3.out.block r1 (lt_of_some HF.out)).trans HF.out)
  go_wp2_with fail
  refine (CB2.out w3 (HB2.out.trans (HC3.out.mono HQ2.out))).mono ?_
  rintro e3 w4 ⟨A2, c2, rfl, ho, hb⟩
  have HR2 := Lib.hid ho.rd
  have HR1b := Lib.hid (HR1.out.below hb |>.more hb.size)
  have HC4 := Lib.hid (HC3.out.trans (hb.mono HC3.out.size))
  clear f0 ho hb CB2 HC3 HR1
  obtain ⟨p0, p1, p2, p3, p4, p5, p6, p7, p8, p9, p10⟩ := (HP.out.below HC4.out HP.out.lt).cells
  go_wp2_with fail
  refine (CP.out w4 (HB2.out.trans (HC4.out.mono HQ2.out))).mono ?_
  rintro e4 w5 ⟨A3, c3, rfl, ho, hb⟩
  have HR3 := Lib.hid ho.rd
  have HR1c := Lib.hid (HR1b.out.below hb |>.more hb.size)
  have HR2c := Lib.hid (HR2.out.below hb |>.more hb.size)
  have HC5 := Lib.hid (HC4.out.trans (hb.mono HC4.out.size))
  clear p0 p1 p2 p3 p4 p5 p6 p7 p8 p9 p10 ho hb CP HC4 HR1b HR2
  have p9 := (HP.out.below HC5.out HP.out.lt).c9
  go_wp2_with fail
  refine (CG.out w5 (HB2.out.trans (HC5.out.mono HQ2.out))).mono ?_
  rintro e5 w6 ⟨rfl, hb⟩
  have hb6 := (Below.refl w6.heap.size w6).alloc (Nat.le_refl _) (.cells #[.int .i64 l, .bool k, .bool s, .int .u16 f] 35 (0, 0))
  have hb7 := hb.trans (hb6.mono hb.size)
  have E7 := DBlk.new w6 l k s f
  have HC7 := Lib.hid (HC5.out.trans (hb7.mono HC5.out.size))
  have HR1d := Lib.hid (HR1c.out.below hb7 |>.more hb7.size)
  have HR2d := Lib.hid (HR2c.out.below hb7 |>.more hb7.size)
  have HR3d := Lib.hid (HR3.out.below hb7 |>.more hb7.size)
  clear hb hb6 hb7 p9 HC5 HR1c HR2c HR3 CG
  have D7 := HD.out.below HC7.out HD.out.lt
  have a0 := D7.c0
  have a1 := D7.c1
  have a2 := D7.c2
  have a3 := D7.c3
  have b0 := E7.c0
  have b1 := E7.c1
  have b2 := E7.c2
  have b3 := E7.c3
  clear D7 E7
  go_wp2_with fail
  generalize w6.alloc (.cells #[.int .i64 l, .bool k, .bool s, .int .u16 f] 35 (0, 0)) = w7 at *
  clear a0 a1 a2 a3 b0 b1 b2 b3
  refine (CI.out w7 (HB2.out.trans (HC7.out.mono HQ2.out))).mono ?_
  rintro e6 w8 ⟨A4, c4, rfl, ho, hb⟩
  have HR4 := Lib.hid ho.rd
  have HR1e := Lib.hid (HR1d.out.below hb |>.more hb.size)
  have HR2e := Lib.hid (HR2d.out.below hb |>.more hb.size)
  have HR3e := Lib.hid (HR3d.out.below hb |>.more hb.size)
  have HC8 := Lib.hid (HC7.out.trans (hb.mono HC7.out.size))
  clear ho hb CI HC7 HR1d HR2d HR3d
  obtain ⟨p0, p1, p2, p3, p4, p5, p6, p7, p8, p9, p10⟩ := (HM.out.below HC8.out HM.out.lt).pc
  obtain ⟨p11, p12, p13, p14⟩ := (HM.out.below HC8.out HM.out.lt).dc
  go_wp2_with fail
  refine (CF1.out w8 (HB2.out.trans (HC8.out.mono HQ2.out))).mono ?_
  rintro e7 w9 ⟨lc, A5, c5, rfl, hq, hb⟩
  obtain ⟨u, hu⟩ : ∃ u, pvOf p lc = u := ⟨_, rfl⟩
  rw [hu]
  have HU := Lib.hid hu
  clear p0 p1 p2 p3 p4 p5 p6 p7 p8 p9 p10 p11 p12 p13 p14 CF1 hu
  have hb9 : Below w9.heap.size w9 ((w9.alloc (pobj u)).alloc (.cells #[.int .i64 l, .bool k, .bool s, .int .u16 f] 35 (0, 0))) := ((Below.refl _ _).alloc (Nat.le_refl _) (pobj u)).alloc (by simp) _
  have HU10 := Lib.hid ((PBlk.new w9 u).below ((Below.refl (w9.alloc (pobj u)).heap.size _).alloc (Nat.le_refl _) (.cells #[.int .i64 l, .bool k, .bool s, .int .u16 f] 35 (0, 0))) (PBlk.new w9 u).lt)
  have HY10 : Hid (DBlk ((w9.alloc (pobj u)).alloc (.cells #[.int .i64 l, .bool k, .bool s, .int .u16 f] 35 (0, 0))) (w9.heap.size + 1) l k s f) := by
    have := DBlk.new (w9.alloc (pobj u)) l k s f
    rw [show (w9.alloc (pobj u)).heap.size = w9.heap.size + 1 from by simp] at this
    exact this
  have hb10 := hb.trans (hb9.mono hb.size)
  have HC10 := Lib.hid (HC8.out.trans (hb10.mono HC8.out.size))
  have HR1f := Lib.hid (HR1e.out.below hb10 |>.more hb10.size)
  have HR2f := Lib.hid (HR2e.out.below hb10 |>.more hb10.size)
  have HR3f := Lib.hid (HR3e.out.below hb10 |>.more hb10.size)
  have HR4f := Lib.hid (HR4.out.below hb10 |>.more hb10.size)
  have HQ10 := Lib.hid (hq.below hb9 |>.more hb9.size)
  clear hb hb9 hb10 hq HC8 HR1e HR2e HR3e HR4
  have f0 : ((w9.alloc (pobj u)).alloc (.cells #[.int .i64 l, .bool k, .bool s, .int .u16 f] 35 (0, 0))).cell? ⟨r1, 0, none⟩ = some (.slice a n c) := cell_of_row _ r1 0 _ _ (0, 0) ((HC10.out.block r1 (lt_of_some HF.out)).trans HF.out)
  go_upto_region 12 with (fail)
  generalize (w9.alloc (pobj u)).alloc (.cells #[.int .i64 l, .bool k, .bool s, .int .u16 f] 35 (0, 0)) = w10 at *
  generalize w9.heap.size = x at *
  generalize hx1 : x + 1 = x1 at *
  go_wp2_with fail
  refine (CF2.out w10 (HB2.out.trans (HC10.out.mono HQ2.out))).mono ?_
  rintro e8 w11 ⟨t, A6, c6, ps, rfl, hi, hes, hb⟩
  clear f0 CF2
  have hb11 : Below w11.heap.size w11 ((w11.alloc (pobj t)).alloc D0) := ((Below.refl _ _).alloc (Nat.le_refl _) (pobj t)).alloc (by simp) _
  have hb12 := hb.trans (hb11.mono hb.size)
  have HC12 := Lib.hid (HC10.out.trans (hb12.mono HC10.out.size))
  have HR1g := Lib.hid (HR1f.out.below hb12 |>.more hb12.size)
  have HR2g := Lib.hid (HR2f.out.below hb12 |>.more hb12.size)
  have HR3g := Lib.hid (HR3f.out.below hb12 |>.more hb12.size)
  have HR4g := Lib.hid (HR4f.out.below hb12 |>.more hb12.size)
  have HQ12 := Lib.hid (HQ10.out.below hb12 |>.more hb12.size)
  have HU12 := Lib.hid (HU10.out.below hb12 HU10.out.lt)
  have HY12 := Lib.hid (HY10.out.below hb12 HY10.out.lt)
  have HI12 := Lib.hid (hi.bel hb11)
  have HES := Lib.hid hes
  clear hb hb11 hb12 hi hes HC10 HR1f HR2f HR3f HR4f HQ10 HU10 HY10
  go_upto_region 13 with (fail)
  generalize (w11.alloc (pobj t)).alloc D0 = w12 at *
  have s1 : (convert 22 9 (.slice A1 ys.length c1)).run Try.prog w12 = .ok (.string (strOfNums ys)) w12 := str_run HR1g.out
  have s2 : (convert 22 9 (.slice A2 zs.length c2)).run Try.prog w12 = .ok (.string (strOfNums zs)) w12 := str_run HR2g.out
  have s3 : (convert 22 9 (.slice A3 ys.length c3)).run Try.prog w12 = .ok (.string (strOfNums ys)) w12 := str_run HR3g.out
  have s4 : (convert 22 9 (.slice A4 zs.length c4)).run Try.prog w12 = .ok (.string (strOfNums zs)) w12 := str_run HR4g.out
  obtain ⟨p0, p1, p2, p3, p4, p5, p6, p7, p8, p9, p10⟩ := (HP.out.below HC12.out HP.out.lt).cells
  obtain ⟨y0, y1, y2, y3, y4, y5, y6, y7, y8, y9, y10⟩ := HU12.out.cells
  have CS12 := Lib.hid (CS.out w12 lc (HB2.out.trans (HC12.out.mono HQ2.out)) HQ12.out)
  rw [HU.out] at CS12
  clear HR1g HR2g HR3g HR4g HQ12 CS
  go_wp2_with fail
  refine CS12.out.mono ?_
  rintro e9 w13 ⟨rfl, hb⟩
  have HC13 := Lib.hid (HC12.out.trans (hb.mono HC12.out.size))
  have Y13 := HY12.out.below hb HY12.out.lt
  have D13 := HD.out.below HC13.out HD.out.lt
  have HI13 := Lib.hid (HI12.out.bel hb)
  clear p0 p1 p2 p3 p4 p5 p6 p7 p8 p9 p10 y0 y1 y2 y3 y4 y5 y6 y7 y8 y9 y10 s1 s2 s3 s4 hb CS12 HC12 HY12 HI12 HU12
  have a0 := D13.c0
  have a1 := D13.c1
  have a2 := D13.c2
  have a3 := D13.c3
  have b0 := Y13.c0
  have b1 := Y13.c1
  have b2 := Y13.c2
  have b3 := Y13.c3
  clear D13 Y13
  go_wp2_with fail
  refine (CT.out w13 A6 c6 ps (HB2.out.trans (HC13.out.mono HQ2.out)) HI13.out HES.out).mono ?_
  rintro e10 w14 ⟨rfl, hb⟩
  have HB14 := Lib.hid ((HB2.out.trans (HC13.out.mono HQ2.out)).trans (hb.mono (Nat.le_trans HQ2.out HC13.out.size)))
  clear hb a0 a1 a2 a3 b0 b1 b2 b3
  go_wp2
  go_ret
  exact ⟨rfl, hq0 ▸ HB14.out⟩
set_option maxHeartbeats 16000000 in
theorem made_err (w : World) (p : Pkt) (v : PV) (l f : Int) (k s : Bool) (l0 f0 : Int) (k0 s0 : Bool) (a : Option Addr) (n c : Nat) (is : List Itm) (zs : List Int) (ws : List Int) (E3 : Int) (E2 : Int) (m : Int) (hm : (m != 0) = true)
    (CB1 : Hid (∀ W, Below w.heap.size w W → Calls Try.prog 15 #[.iface 50 (mval v l k s f)] W (Fbk.RetR W [] 1)))
    (CB2 : Hid (∀ W, Below w.heap.size w W → Calls Try.prog 15 #[.iface 52 (fval a n c)] W (Fbk.RetR W zs E2)))
    (CP : Hid (∀ W, Below w.heap.size w W → Calls Try.prog 16 #[pkt v] W (Rtp.RetR W ws E3)))
    (CG : Hid (∀ W, Below w.heap.size w W → Calls Try.prog 17 #[.slice v.pa v.pn v.pc] W (RetG W l0 k0 s0 f0 m)))
    (CI : Hid (∀ W, Below w.heap.size w W → Calls Try.prog 18 #[.slice a n c] W (Fbk.RetR W zs E2)))
    (CF1 : Hid (∀ W, Below w.heap.size w W → Calls Try.prog 12 #[.iface 50 (mval v l k s f)] W fun e w' => ∃ lc A c, e = .returned (.tuple #[pkt (pvOf p lc), dsc l k s f, .slice A 0 c]) ∧ PRd w' w'.heap.size p lc ∧ Below W.heap.size W w'))
    (CF2 : Hid (∀ W, Below w.heap.size w W → Calls Try.prog 12 #[.iface 52 (fval a n c)] W fun e w' => ∃ u A c ps, e = .returned (.tuple #[pkt u, dsc 0 false false 0, .slice A n c]) ∧ ItsRd w' w'.heap.size A n ps ∧ its ps = is ∧ Below W.heap.size W w'))
    (CS : Hid (∀ W lc, Below w.heap.size w W → PRd W W.heap.size p lc → Calls Try.prog 13 #[pkt v, pkt (pvOf p lc)] W (Rtp.RetB W true)))
    (CT : Hid (∀ W A c' ps, Below w.heap.size w W → ItsRd W W.heap.size A n ps → its ps = is → Calls Try.prog 14 #[.slice A n c', .slice a n c] W (Rtp.RetB W true))) :
    Calls Try.prog 5 #[pkt v, dsc l k s f, .slice a n c] w (Rtp.RetB w true) := by
  have hk1 := mk_media
  have hk2 := mk_feed
  go_enter Try.func5, Try.ntmps5
  go_wp2_with fail
  have hb0 : Below w.heap.size w ((w.alloc (pobj v)).alloc (.cells #[.int .i64 l, .bool k, .bool s, .int .u16 f] 35 (0, 0))) := ((Below.refl _ _).alloc (Nat.le_refl _) (pobj v)).alloc (by simp) _
  have P0 := (PBlk.new w v).below ((Below.refl (w.alloc (pobj v)).heap.size _).alloc (Nat.le_refl _) (.cells #[.int .i64 l, .bool k, .bool s, .int .u16 f] 35 (0, 0))) (PBlk.new w v).lt
  have D0 : DBlk ((w.alloc (pobj v)).alloc (.cells #[.int .i64 l, .bool k, .bool s, .int .u16 f] 35 (0, 0))) (w.heap.size + 1) l k s f := by
    have := DBlk.new (w.alloc (pobj v)) l k s f
    rw [show (w.alloc (pobj v)).heap.size = w.heap.size + 1 from by simp] at this
    exact this
  generalize (w.alloc (pobj v)).alloc (.cells #[.int .i64 l, .bool k, .bool s, .int .u16 f] 35 (0, 0)) = w0 at *
  generalize hq0 : w.heap.size = q at *
  generalize hq1 : q + 1 = q1 at *
  refine (shown_any _).mono ?_
  rintro e1 w1 ⟨rfl, hb1⟩
  have P1 := P0.below hb1 P0.lt
  have D1 := D0.below hb1 D0.lt
  have hb01 := hb0.trans (hb1.mono (hq0 ▸ hb0.size))
  obtain ⟨p0, p1, p2, p3, p4, p5, p6, p7, p8, p9, p10⟩ := P1.cells
  have e0 := D1.c0
  have e1 := D1.c1
  have e2 := D1.c2
  have e3 := D1.c3
  have hb2 : Below w1.heap.size w1 ((w1.alloc (mobj v l k s f)).alloc (fobj a n c)) := ((Below.refl _ _).alloc (Nat.le_refl _) (mobj v l k s f)).alloc (by simp) _
  have M2 := (MBlk.new w1 v l k s f).below ((Below.refl (w1.alloc (mobj v l k s f)).heap.size _).alloc (Nat.le_refl _) (fobj a n c)) (MBlk.new w1 v l k s f).lt
  have F2 : ((w1.alloc (mobj v l k s f)).alloc (fobj a n c)).heap[w1.heap.size + 1]? = some (fobj a n c) := by
    have := heap_alloc_new (w1.alloc (mobj v l k s f)) (fobj a n c)
    rw [show (w1.alloc (mobj v l k s f)).heap.size = w1.heap.size + 1 from by simp] at this
    exact this
  have HP := Lib.hid (P1.below hb2 P1.lt)
  have HD := Lib.hid (D1.below hb2 D1.lt)
  have HM := Lib.hid M2
  have HF := Lib.hid F2
  have HB2 := Lib.hid (hb01.trans (hb2.mono (hq0 ▸ hb01.size)))
  clear hb0 hb1 hb01 hb2 P0 D0 P1 D1 M2 F2
  go_upto_region 4 with (fail)
  generalize (w1.alloc (mobj v l k s f)).alloc (fobj a n c) = w2 at *
  generalize w1.heap.size = r at *
  generalize hr1 : r + 1 = r1 at *
  clear p0 p1 p2 p3 p4 p5 p6 p7 p8 p9 p10 e0 e1 e2 e3
  have HQ2 := Lib.hid (show q ≤ w2.heap.size from hq0 ▸ HB2.out.size)
  have HC2 := Lib.hid (Below.refl w2.heap.size w2)
  obtain ⟨p0, p1, p2, p3, p4, p5, p6, p7, p8, p9, p10⟩ := HM.out.pc
  obtain ⟨p11, p12, p13, p14⟩ := HM.out.dc
  go_wp2_with fail
  refine (CB1.out w2 HB2.out).mono ?_
  rintro e2 w3 ⟨A1, c1, rfl, ho, hb⟩
  have HR1 := Lib.hid ho.rd
  have HC3 := Lib.hid hb
  clear p0 p1 p2 p3 p4 p5 p6 p7 p8 p9 p10 p11 p12 p13 p14 ho hb CB1 HC2
  have f0 : w3.cell? ⟨r1, 0, none⟩ = some (.slice a n c) := cell_of_row w3 r1 0 _ _ (0, 0) ((HC3.out.block r1 (lt_of_some HF.out)).trans HF.out)
  go_wp2_with fail
  refine (CB2.out w3 (HB2.out.trans (HC3.out.mono HQ2.out))).mono ?_
  rintro e3 w4 ⟨A2, c2, rfl, ho, hb⟩
  have HR2 := Lib.hid ho.rd
  have HR1b := Lib.hid (HR1.out.below hb |>.more hb.size)
  have HC4 := Lib.hid (HC3.out.trans (hb.mono HC3.out.size))
  clear f0 ho hb CB2 HC3 HR1
  obtain ⟨p0, p1, p2, p3, p4, p5, p6, p7, p8, p9, p10⟩ := (HP.out.below HC4.out HP.out.lt).cells
  go_wp2_with fail
  refine (CP.out w4 (HB2.out.trans (HC4.out.mono HQ2.out))).mono ?_
  rintro e4 w5 ⟨A3, c3, rfl, ho, hb⟩
  have HR3 := Lib.hid ho.rd
  have HR1c := Lib.hid (HR1b.out.below hb |>.more hb.size)
  have HR2c := Lib.hid (HR2.out.below hb |>.more hb.size)
  have HC5 := Lib.hid (HC4.out.trans (hb.mono HC4.out.size))
  clear p0 p1 p2 p3 p4 p5 p6 p7 p8 p9 p10 ho hb CP HC4 HR1b HR2
  have p9 := (HP.out.below HC5.out HP.out.lt).c9
  go_wp2_with fail
  refine (CG.out w5 (HB2.out.trans (HC5.out.mono HQ2.out))).mono ?_
  rintro e5 w6 ⟨rfl, hb⟩
  have hb6 := (Below.refl w6.heap.size w6).alloc (Nat.le_refl _) (.cells #[.int .i64 l0, .bool k0, .bool s0, .int .u16 f0] 35 (0, 0))
  have hb7 := hb.trans (hb6.mono hb.size)
  have E7 := DBlk.new w6 l0 k0 s0 f0
  have HC7 := Lib.hid (HC5.out.trans (hb7.mono HC5.out.size))
  have HR1d := Lib.hid (HR1c.out.below hb7 |>.more hb7.size)
  have HR2d := Lib.hid (HR2c.out.below hb7 |>.more hb7.size)
  have HR3d := Lib.hid (HR3.out.below hb7 |>.more hb7.size)
  clear hb hb6 hb7 p9 HC5 HR1c HR2c HR3 CG
  have D7 := HD.out.below HC7.out HD.out.lt
  have a0 := D7.c0
  have a1 := D7.c1
  have a2 := D7.c2
  have a3 := D7.c3
  have b0 := E7.c0
  have b1 := E7.c1
  have b2 := E7.c2
  have b3 := E7.c3
  clear D7 E7
  go_wp2_with fail
  generalize w6.alloc (.cells #[.int .i64 l0, .bool k0, .bool s0, .int .u16 f0] 35 (0, 0)) = w7 at *
  clear a0 a1 a2 a3 b0 b1 b2 b3
  refine (CI.out w7 (HB2.out.trans (HC7.out.mono HQ2.out))).mono ?_
  rintro e6 w8 ⟨A4, c4, rfl, ho, hb⟩
  have HR4 := Lib.hid ho.rd
  have HR1e := Lib.hid (HR1d.out.below hb |>.more hb.size)
  have HR2e := Lib.hid (HR2d.out.below hb |>.more hb.size)
  have HR3e := Lib.hid (HR3d.out.below hb |>.more hb.size)
  have HC8 := Lib.hid (HC7.out.trans (hb.mono HC7.out.size))
  clear ho hb CI HC7 HR1d HR2d HR3d
  obtain ⟨p0, p1, p2, p3, p4, p5, p6, p7, p8, p9, p10⟩ := (HM.out.below HC8.out HM.out.lt).pc
  obtain ⟨p11, p12, p13, p14⟩ := (HM.out.below HC8.out HM.out.lt).dc
  go_wp2_with fail
  refine (CF1.out w8 (HB2.out.trans (HC8.out.mono HQ2.out))).mono ?_
  rintro e7 w9 ⟨lc, A5, c5, rfl, hq, hb⟩
  obtain ⟨u, hu⟩ : ∃ u, pvOf p lc = u := ⟨_, rfl⟩
  rw [hu]
  have HU := Lib.hid hu
  clear p0 p1 p2 p3 p4 p5 p6 p7 p8 p9 p10 p11 p12 p13 p14 CF1 hu
  have hb9 : Below w9.heap.size w9 ((w9.alloc (pobj u)).alloc (.cells #[.int .i64 l, .bool k, .bool s, .int .u16 f] 35 (0, 0))) := ((Below.refl _ _).alloc (Nat.le_refl _) (pobj u)).alloc (by simp) _
  have HU10 := Lib.hid ((PBlk.new w9 u).below ((Below.refl (w9.alloc (pobj u)).heap.size _).alloc (Nat.le_refl _) (.cells #[.int .i64 l, .bool k, .bool s, .int .u16 f] 35 (0, 0))) (PBlk.new w9 u).lt)
  have HY10 : Hid (DBlk ((w9.alloc (pobj u)).alloc (.cells #[.int .i64 l, .bool k, .bool s, .int .u16 f] 35 (0, 0))) (w9.heap.size + 1) l k s f) := by
    have := DBlk.new (w9.alloc (pobj u)) l k s f
    rw [show (w9.alloc (pobj u)).heap.size = w9.heap.size + 1 from by simp] at this
    exact this
  have hb10 := hb.trans (hb9.mono hb.size)
  have HC10 := Lib.hid (HC8.out.trans (hb10.mono HC8.out.size))
  have HR1f := Lib.hid (HR1e.out.below hb10 |>.more hb10.size)
  have HR2f := Lib.hid (HR2e.out.below hb10 |>.more hb10.size)
  have HR3f := Lib.hid (HR3e.out.below hb10 |>.more hb10.size)
  have HR4f := Lib.hid (HR4.out.below hb10 |>.more hb10.size)
  have HQ10 := Lib.hid (hq.below hb9 |>.more hb9.size)
  clear hb hb9 hb10 hq HC8 HR1e HR2e HR3e HR4
  have f0 : ((w9.alloc (pobj u)).alloc (.cells #[.int .i64 l, .bool k, .bool s, .int .u16 f] 35 (0, 0))).cell? ⟨r1, 0, none⟩ = some (.slice a n c) := cell_of_row _ r1 0 _ _ (0, 0) ((HC10.out.block r1 (lt_of_some HF.out)).trans HF.out)
  go_upto_region 12 with (fail)
  generalize (w9.alloc (pobj u)).alloc (.cells #[.int .i64 l, .bool k, .bool s, .int .u16 f] 35 (0, 0)) = w10 at *
  generalize w9.heap.size = x at *
  generalize hx1 : x + 1 = x1 at *
  go_wp2_with fail
  refine (CF2.out w10 (HB2.out.trans (HC10.out.mono HQ2.out))).mono ?_
  rintro e8 w11 ⟨t, A6, c6, ps, rfl, hi, hes, hb⟩
  clear f0 CF2
  have hb11 : Below w11.heap.size w11 ((w11.alloc (pobj t)).alloc D0) := ((Below.refl _ _).alloc (Nat.le_refl _) (pobj t)).alloc (by simp) _
  have hb12 := hb.trans (hb11.mono hb.size)
  have HC12 := Lib.hid (HC10.out.trans (hb12.mono HC10.out.size))
  have HR1g := Lib.hid (HR1f.out.below hb12 |>.more hb12.size)
  have HR2g := Lib.hid (HR2f.out.below hb12 |>.more hb12.size)
  have HR3g := Lib.hid (HR3f.out.below hb12 |>.more hb12.size)
  have HR4g := Lib.hid (HR4f.out.below hb12 |>.more hb12.size)
  have HQ12 := Lib.hid (HQ10.out.below hb12 |>.more hb12.size)
  have HU12 := Lib.hid (HU10.out.below hb12 HU10.out.lt)
  have HY12 := Lib.hid (HY10.out.below hb12 HY10.out.lt)
  have HI12 := Lib.hid (hi.bel hb11)
  have HES := Lib.hid hes
  clear hb hb11 hb12 hi hes HC10 HR1f HR2f HR3f HR4f HQ10 HU10 HY10
  go_upto_region 13 with (fail)
  generalize (w11.alloc (pobj t)).alloc D0 = w12 at *
  have s1 : (convert 22 9 (.slice A1 0 c1)).run Try.prog w12 = .ok (.string (strOfNums [])) w12 := str_run HR1g.out
  have s2 : (convert 22 9 (.slice A2 zs.length c2)).run Try.prog w12 = .ok (.string (strOfNums zs)) w12 := str_run HR2g.out
  have s3 : (convert 22 9 (.slice none 0 0)).run Try.prog w12 = .ok (.string (strOfNums [])) w12 := str_run (Rd.none_ (B := w12.heap.size) none rfl)
  have s4 : (convert 22 9 (.slice A4 zs.length c4)).run Try.prog w12 = .ok (.string (strOfNums zs)) w12 := str_run HR4g.out
  obtain ⟨p0, p1, p2, p3, p4, p5, p6, p7, p8, p9, p10⟩ := (HP.out.below HC12.out HP.out.lt).cells
  obtain ⟨y0, y1, y2, y3, y4, y5, y6, y7, y8, y9, y10⟩ := HU12.out.cells
  have CS12 := Lib.hid (CS.out w12 lc (HB2.out.trans (HC12.out.mono HQ2.out)) HQ12.out)
  rw [HU.out] at CS12
  clear HR1g HR2g HR3g HR4g HQ12 CS
  go_wp2_with fail
  refine CS12.out.mono ?_
  rintro e9 w13 ⟨rfl, hb⟩
  have HC13 := Lib.hid (HC12.out.trans (hb.mono HC12.out.size))
  have Y13 := HY12.out.below hb HY12.out.lt
  have D13 := HD.out.below HC13.out HD.out.lt
  have HI13 := Lib.hid (HI12.out.bel hb)
  clear p0 p1 p2 p3 p4 p5 p6 p7 p8 p9 p10 y0 y1 y2 y3 y4 y5 y6 y7 y8 y9 y10 s1 s2 s3 s4 hb CS12 HC12 HY12 HI12 HU12
  have a0 := D13.c0
  have a1 := D13.c1
  have a2 := D13.c2
  have a3 := D13.c3
  have b0 := Y13.c0
  have b1 := Y13.c1
  have b2 := Y13.c2
  have b3 := Y13.c3
  clear D13 Y13
  go_wp2_with fail
  refine (CT.out w13 A6 c6 ps (HB2.out.trans (HC13.out.mono HQ2.out)) HI13.out HES.out).mono ?_
  rintro e10 w14 ⟨rfl, hb⟩
  have HB14 := Lib.hid ((HB2.out.trans (HC13.out.mono HQ2.out)).trans (hb.mono (Nat.le_trans HQ2.out HC13.out.size)))
  clear hb a0 a1 a2 a3 b0 b1 b2 b3
  go_wp2
  go_ret
  exact ⟨rfl, hq0 ▸ HB14.out⟩
set_option maxHeartbeats 16000000 in
theorem made_ne (w : World) (p : Pkt) (v : PV) (l f : Int) (k s : Bool) (l0 f0 : Int) (k0 s0 : Bool) (a : Option Addr) (n c : Nat) (is : List Itm) (zs : List Int) (ws : List Int) (E3 : Int) (E2 : Int) (hne : ∀ W : World, (binOp .neq 35 (dsc l0 k0 s0 f0) (dsc l k s f)).run Try.prog W = .ok (.bool true) W)
    (CB1 : Hid (∀ W, Below w.heap.size w W → Calls Try.prog 15 #[.iface 50 (mval v l k s f)] W (Fbk.RetR W [] 1)))
    (CB2 : Hid (∀ W, Below w.heap.size w W → Calls Try.prog 15 #[.iface 52 (fval a n c)] W (Fbk.RetR W zs E2)))
    (CP : Hid (∀ W, Below w.heap.size w W → Calls Try.prog 16 #[pkt v] W (Rtp.RetR W ws E3)))
    (CG : Hid (∀ W, Below w.heap.size w W → Calls Try.prog 17 #[.slice v.pa v.pn v.pc] W (RetG W l0 k0 s0 f0 0)))
    (CI : Hid (∀ W, Below w.heap.size w W → Calls Try.prog 18 #[.slice a n c] W (Fbk.RetR W zs E2)))
    (CF1 : Hid (∀ W, Below w.heap.size w W → Calls Try.prog 12 #[.iface 50 (mval v l k s f)] W fun e w' => ∃ lc A c, e = .returned (.tuple #[pkt (pvOf p lc), dsc l k s f, .slice A 0 c]) ∧ PRd w' w'.heap.size p lc ∧ Below W.heap.size W w'))
    (CF2 : Hid (∀ W, Below w.heap.size w W → Calls Try.prog 12 #[.iface 52 (fval a n c)] W fun e w' => ∃ u A c ps, e = .returned (.tuple #[pkt u, dsc 0 false false 0, .slice A n c]) ∧ ItsRd w' w'.heap.size A n ps ∧ its ps = is ∧ Below W.heap.size W w'))
    (CS : Hid (∀ W lc, Below w.heap.size w W → PRd W W.heap.size p lc → Calls Try.prog 13 #[pkt v, pkt (pvOf p lc)] W (Rtp.RetB W true)))
    (CT : Hid (∀ W A c' ps, Below w.heap.size w W → ItsRd W W.heap.size A n ps → its ps = is → Calls Try.prog 14 #[.slice A n c', .slice a n c] W (Rtp.RetB W true))) :
    Calls Try.prog 5 #[pkt v, dsc l k s f, .slice a n c] w (Rtp.RetB w true) := by
  have hk1 := mk_media
  have hk2 := mk_feed
  go_enter Try.func5, Try.ntmps5
  go_wp2_with fail
  have hb0 : Below w.heap.size w ((w.alloc (pobj v)).alloc (.cells #[.int .i64 l, .bool k, .bool s, .int .u16 f] 35 (0, 0))) := ((Below.refl _ _).alloc (Nat.le_refl _) (pobj v)).alloc (by simp) _
  have P0 := (PBlk.new w v).below ((Below.refl (w.alloc (pobj v)).heap.size _).alloc (Nat.le_refl _) (.cells #[.int .i64 l, .bool k, .bool s, .int .u16 f] 35 (0, 0))) (PBlk.new w v).lt
  have D0 : DBlk ((w.alloc (pobj v)).alloc (.cells #[.int .i64 l, .bool k, .bool s, .int .u16 f] 35 (0, 0))) (w.heap.size + 1) l k s f := by
    have := DBlk.new (w.alloc (pobj v)) l k s f
    rw [show (w.alloc (pobj v)).heap.size = w.heap.size + 1 from by simp] at this
    exact this
  generalize (w.alloc (pobj v)).alloc (.cells #[.int .i64 l, .bool k, .bool s, .int .u16 f] 35 (0, 0)) = w0 at *
  generalize hq0 : w.heap.size = q at *
  generalize hq1 : q + 1 = q1 at *
  refine (shown_any _).mono ?_
  rintro e1 w1 ⟨rfl, hb1⟩
  have P1 := P0.below hb1 P0.lt
  have D1 := D0.below hb1 D0.lt
  have hb01 := hb0.trans (hb1.mono (hq0 ▸ hb0.size))
  obtain ⟨p0, p1, p2, p3, p4, p5, p6, p7, p8, p9, p10⟩ := P1.cells
  have e0 := D1.c0
  have e1 := D1.c1
  have e2 := D1.c2
  have e3 := D1.c3
  have hb2 : Below w1.heap.size w1 ((w1.alloc (mobj v l k s f)).alloc (fobj a n c)) := ((Below.refl _ _).alloc (Nat.le_refl _) (mobj v l k s f)).alloc (by simp) _
  have M2 := (MBlk.new w1 v l k s f).below ((Below.refl (w1.alloc (mobj v l k s f)).heap.size _).alloc (Nat.le_refl _) (fobj a n c)) (MBlk.new w1 v l k s f).lt
  have F2 : ((w1.alloc (mobj v l k s f)).alloc (fobj a n c)).heap[w1.heap.size + 1]? = some (fobj a n c) := by
    have := heap_alloc_new (w1.alloc (mobj v l k s f)) (fobj a n c)
    rw [show (w1.alloc (mobj v l k s f)).heap.size = w1.heap.size + 1 from by simp] at this
    exact this
  have HP := Lib.hid (P1.below hb2 P1.lt)
  have HD := Lib.hid (D1.below hb2 D1.lt)
  have HM := Lib.hid M2
  have HF := Lib.hid F2
  have HB2 := Lib.hid (hb01.trans (hb2.mono (hq0 ▸ hb01.size)))
  clear hb0 hb1 hb01 hb2 P0 D0 P1 D1 M2 F2
  go_upto_region 4 with (fail)
  generalize (w1.alloc (mobj v l k s f)).alloc (fobj a n c) = w2 at *
  generalize w1.heap.size = r at *
  generalize hr1 : r + 1 = r1 at *
  clear p0 p1 p2 p3 p4 p5 p6 p7 p8 p9 p10 e0 e1 e2 e3
  have HQ2 := Lib.hid (show q ≤ w2.heap.size from hq0 ▸ HB2.out.size)
  have HC2 := Lib.hid (Below.refl w2.heap.size w2)
  obtain ⟨p0, p1, p2, p3, p4, p5, p6, p7, p8, p9, p10⟩ := HM.out.pc
  obtain ⟨p11, p12, p13, p14⟩ := HM.out.dc
  go_wp2_with fail
  refine (CB1.out w2 HB2.out).mono ?_
  rintro e2 w3 ⟨A1, c1, rfl, ho, hb⟩
  have HR1 := Lib.hid ho.rd
  have HC3 := Lib.hid hb
  clear p0 p1 p2 p3 p4 p5 p6 p7 p8 p9 p10 p11 p12 p13 p14 ho hb CB1 HC2
  have f0 : w3.cell? ⟨r1, 0, none⟩ = some (.slice a n c) := cell_of_row w3 r1 0 _ _ (0, 0) ((HC3.out.block r1 (lt_of_some HF.out)).trans HF.out)
  go_wp2_with fail
  refine (CB2.out w3 (HB2.out.trans (HC3.out.mono HQ2.out))).mono ?_
  rintro e3 w4 ⟨A2, c2, rfl, ho, hb⟩
  have HR2 := Lib.hid ho.rd
  have HR1b := Lib.hid (HR1.out.below hb |>.more hb.size)
  have HC4 := Lib.hid (HC3.out.trans (hb.mono HC3.out.size))
  clear f0 ho hb CB2 HC3 HR1
  obtain ⟨p0, p1, p2, p3, p4, p5, p6, p7, p8, p9, p10⟩ := (HP.out.below HC4.out HP.out.lt).cells
  go_wp2_with fail
  refine (CP.out w4 (HB2.out.trans (HC4.out.mono HQ2.out))).mono ?_
  rintro e4 w5 ⟨A3, c3, rfl, ho, hb⟩
  have HR3 := Lib.hid ho.rd
  have HR1c := Lib.hid (HR1b.out.below hb |>.more hb.size)
  have HR2c := Lib.hid (HR2.out.below hb |>.more hb.size)
  have HC5 := Lib.hid (HC4.out.trans (hb.mono HC4.out.size))
  clear p0 p1 p2 p3 p4 p5 p6 p7 p8 p9 p10 ho hb CP HC4 HR1b HR2
  have p9 := (HP.out.below HC5.out HP.out.lt).c9
  go_wp2_with fail
  refine (CG.out w5 (HB2.out.trans (HC5.out.mono HQ2.out))).mono ?_
  rintro e5 w6 ⟨rfl, hb⟩
  have hb6 := (Below.refl w6.heap.size w6).alloc (Nat.le_refl _) (.cells #[.int .i64 l0, .bool k0, .bool s0, .int .u16 f0] 35 (0, 0))
  have hb7 := hb.trans (hb6.mono hb.size)
  have E7 := DBlk.new w6 l0 k0 s0 f0
  have HC7 := Lib.hid (HC5.out.trans (hb7.mono HC5.out.size))
  have HR1d := Lib.hid (HR1c.out.below hb7 |>.more hb7.size)
  have HR2d := Lib.hid (HR2c.out.below hb7 |>.more hb7.size)
  have HR3d := Lib.hid (HR3.out.below hb7 |>.more hb7.size)
  clear hb hb6 hb7 p9 HC5 HR1c HR2c HR3 CG
  have D7 := HD.out.below HC7.out HD.out.lt
  have a0 := D7.c0
  have a1 := D7.c1
  have a2 := D7.c2
  have a3 := D7.c3
  have b0 := E7.c0
  have b1 := E7.c1
  have b2 := E7.c2
  have b3 := E7.c3
  clear D7 E7
  go_wp2_with fail
  generalize w6.alloc (.cells #[.int .i64 l0, .bool k0, .bool s0, .int .u16 f0] 35 (0, 0)) = w7 at *
  clear a0 a1 a2 a3 b0 b1 b2 b3
  refine (CI.out w7 (HB2.out.trans (HC7.out.mono HQ2.out))).mono ?_
  rintro e6 w8 ⟨A4, c4, rfl, ho, hb⟩
  have HR4 := Lib.hid ho.rd
  have HR1e := Lib.hid (HR1d.out.below hb |>.more hb.size)
  have HR2e := Lib.hid (HR2d.out.below hb |>.more hb.size)
  have HR3e := Lib.hid (HR3d.out.below hb |>.more hb.size)
  have HC8 := Lib.hid (HC7.out.trans (hb.mono HC7.out.size))
  clear ho hb CI HC7 HR1d HR2d HR3d
  obtain ⟨p0, p1, p2, p3, p4, p5, p6, p7, p8, p9, p10⟩ := (HM.out.below HC8.out HM.out.lt).pc
  obtain ⟨p11, p12, p13, p14⟩ := (HM.out.below HC8.out HM.out.lt).dc
  go_wp2_with fail
  refine (CF1.out w8 (HB2.out.trans (HC8.out.mono HQ2.out))).mono ?_
  rintro e7 w9 ⟨lc, A5, c5, rfl, hq, hb⟩
  obtain ⟨u, hu⟩ : ∃ u, pvOf p lc = u := ⟨_, rfl⟩
  rw [hu]
  have HU := Lib.hid hu
  clear p0 p1 p2 p3 p4 p5 p6 p7 p8 p9 p10 p11 p12 p13 p14 CF1 hu
  have hb9 : Below w9.heap.size w9 ((w9.alloc (pobj u)).alloc (.cells #[.int .i64 l, .bool k, .bool s, .int .u16 f] 35 (0, 0))) := ((Below.refl _ _).alloc (Nat.le_refl _) (pobj u)).alloc (by simp) _
  have HU10 := Lib.hid ((PBlk.new w9 u).below ((Below.refl (w9.alloc (pobj u)).heap.size _).alloc (Nat.le_refl _) (.cells #[.int .i64 l, .bool k, .bool s, .int .u16 f] 35 (0, 0))) (PBlk.new w9 u).lt)
  have HY10 : Hid (DBlk ((w9.alloc (pobj u)).alloc (.cells #[.int .i64 l, .bool k, .bool s, .int .u16 f] 35 (0, 0))) (w9.heap.size + 1) l k s f) := by
    have := DBlk.new (w9.alloc (pobj u)) l k s f
    rw [show (w9.alloc (pobj u)).heap.size = w9.heap.size + 1 from by simp] at this
    exact this
  have hb10 := hb.trans (hb9.mono hb.size)
  have HC10 := Lib.hid (HC8.out.trans (hb10.mono HC8.out.size))
  have HR1f := Lib.hid (HR1e.out.below hb10 |>.more hb10.size)
  have HR2f := Lib.hid (HR2e.out.below hb10 |>.more hb10.size)
  have HR3f := Lib.hid (HR3e.out.below hb10 |>.more hb10.size)
  have HR4f := Lib.hid (HR4.out.below hb10 |>.more hb10.size)
  have HQ10 := Lib.hid (hq.below hb9 |>.more hb9.size)
  clear hb hb9 hb10 hq HC8 HR1e HR2e HR3e HR4
  have f0 : ((w9.alloc (pobj u)).alloc (.cells #[.int .i64 l, .bool k, .bool s, .int .u16 f] 35 (0, 0))).cell? ⟨r1, 0, none⟩ = some (.slice a n c) := cell_of_row _ r1 0 _ _ (0, 0) ((HC10.out.block r1 (lt_of_some HF.out)).trans HF.out)
  go_upto_region 12 with (fail)
  generalize (w9.alloc (pobj u)).alloc (.cells #[.int .i64 l, .bool k, .bool s, .int .u16 f] 35 (0, 0)) = w10 at *
  generalize w9.heap.size = x at *
  generalize hx1 : x + 1 = x1 at *
  go_wp2_with fail
  refine (CF2.out w10 (HB2.out.trans (HC10.out.mono HQ2.out))).mono ?_
  rintro e8 w11 ⟨t, A6, c6, ps, rfl, hi, hes, hb⟩
  clear f0 CF2
  have hb11 : Below w11.heap.size w11 ((w11.alloc (pobj t)).alloc D0) := ((Below.refl _ _).alloc (Nat.le_refl _) (pobj t)).alloc (by simp) _
  have hb12 := hb.trans (hb11.mono hb.size)
  have HC12 := Lib.hid (HC10.out.trans (hb12.mono HC10.out.size))
  have HR1g := Lib.hid (HR1f.out.below hb12 |>.more hb12.size)
  have HR2g := Lib.hid (HR2f.out.below hb12 |>.more hb12.size)
  have HR3g := Lib.hid (HR3f.out.below hb12 |>.more hb12.size)
  have HR4g := Lib.hid (HR4f.out.below hb12 |>.more hb12.size)
  have HQ12 := Lib.hid (HQ10.out.below hb12 |>.more hb12.size)
  have HU12 := Lib.hid (HU10.out.below hb12 HU10.out.lt)
  have HY12 := Lib.hid (HY10.out.below hb12 HY10.out.lt)
  have HI12 := Lib.hid (hi.bel hb11)
  have HES := Lib.hid hes
  clear hb hb11 hb12 hi hes HC10 HR1f HR2f HR3f HR4f HQ10 HU10 HY10
  go_upto_region 13 with (fail)
  generalize (w11.alloc (pobj t)).alloc D0 = w12 at *
  have s1 : (convert 22 9 (.slice A1 0 c1)).run Try.prog w12 = .ok (.string (strOfNums [])) w12 := str_run HR1g.out
  have s2 : (convert 22 9 (.slice A2 zs.length c2)).run Try.prog w12 = .ok (.string (strOfNums zs)) w12 := str_run HR2g.out
  have s3 : (convert 22 9 (.slice none 0 0)).run Try.prog w12 = .ok (.string (strOfNums [])) w12 := str_run (Rd.none_ (B := w12.heap.size) none rfl)
  have s4 : (convert 22 9 (.slice A4 zs.length c4)).run Try.prog w12 = .ok (.string (strOfNums zs)) w12 := str_run HR4g.out
  obtain ⟨p0, p1, p2, p3, p4, p5, p6, p7, p8, p9, p10⟩ := (HP.out.below HC12.out HP.out.lt).cells
  obtain ⟨y0, y1, y2, y3, y4, y5, y6, y7, y8, y9, y10⟩ := HU12.out.cells
  have CS12 := Lib.hid (CS.out w12 lc (HB2.out.trans (HC12.out.mono HQ2.out)) HQ12.out)
  rw [HU.out] at CS12
  clear HR1g HR2g HR3g HR4g HQ12 CS
  go_wp2_with fail
  refine CS12.out.mono ?_
  rintro e9 w13 ⟨rfl, hb⟩
  have HC13 := Lib.hid (HC12.out.trans (hb.mono HC12.out.size))
  have Y13 := HY12.out.below hb HY12.out.lt
  have D13 := HD.out.below HC13.out HD.out.lt
  have HI13 := Lib.hid (HI12.out.bel hb)
  clear p0 p1 p2 p3 p4 p5 p6 p7 p8 p9 p10 y0 y1 y2 y3 y4 y5 y6 y7 y8 y9 y10 s1 s2 s3 s4 hb CS12 HC12 HY12 HI12 HU12
  have a0 := D13.c0
  have a1 := D13.c1
  have a2 := D13.c2
  have a3 := D13.c3
  have b0 := Y13.c0
  have b1 := Y13.c1
  have b2 := Y13.c2
  have b3 := Y13.c3
  clear D13 Y13
  go_wp2_with fail
  refine (CT.out w13 A6 c6 ps (HB2.out.trans (HC13.out.mono HQ2.out)) HI13.out HES.out).mono ?_
  rintro e10 w14 ⟨rfl, hb⟩
  have HB14 := Lib.hid ((HB2.out.trans (HC13.out.mono HQ2.out)).trans (hb.mono (Nat.le_trans HQ2.out HC13.out.size)))
  clear hb a0 a1 a2 a3 b0 b1 b2 b3
  go_wp2
  go_ret
  exact ⟨rfl, hq0 ▸ HB14.out⟩
end Go.Proofs.Ythmmafpmpnhleaa.Sft

namespace Go.Proofs.Ythmmafpmpnhleaa.Sft
open Go.RowKit
open Rtp (PV pkt pobj PBlk pvOf PRd zpv Off)
open Fbk (ILoc IRd ItsRd ItsOwn its OkL putLB putLE)
set_option linter.unusedVariables false

theorem neq_dsc {l0 f0 l f : Int} {k0 s0 k s : Bool} (h : deq l0 k0 s0 f0 l k s f = false) (W : World) : (binOp .neq 35 (dsc l0 k0 s0 f0) (dsc l k s f)).run Try.prog W = .ok (.bool true) W := by
  unfold deq at h
  by_cases h1 : l0 = l
  · by_cases h2 : k0 = k
    · by_cases h3 : s0 = s
      · by_cases h4 : f0 = f
        · simp [h1, h2, h3, h4] at h
        · subst h1 h2 h3
          simp [go_sem, h4]
      · subst h1 h2
        simp [go_sem, h3]
    · subst h1
      simp [go_sem, h2]
  · simp [go_sem, h1]

theorem made_law (p : Pkt) (lc : Rtp.Loc) (l : Int) (k s : Bool) (f : Int) (a : Option Addr) (n c : Nat) (ps : List (Itm × ILoc)) (w : World) (ho : p.Ok) (hr : PRd w w.heap.size p lc) (hcs : p.csrc.length * 4 ≤ 140737488355328)
    (hi : ItsRd w w.heap.size a n ps) (hc : n ≤ c) (hok : OkL (its ps)) (hbd : EvBd (.feed (its ps))) :
    Calls Try.prog 5 #[pkt (pvOf p lc), dsc l k s f, .slice a n c] w (Rtp.RetB w true) := by
  have hln : (its ps).length = n := by simp [its, hi.len]
  have hn : n ≤ 140737488351232 := by have := hbd.1; rw [hln] at this; omega
  have hq : ∀ W, Below w.heap.size w W → PRd W W.heap.size p lc := fun W hW => (hr.below hW).more hW.size
  have hj : ∀ W, Below w.heap.size w W → ItsRd W W.heap.size a n ps := fun W hW => hi.bel hW
  have B1 : ∀ W, Below w.heap.size w W → Calls Try.prog 15 #[.iface 50 (mval (pvOf p lc) l k s f)] W (Fbk.RetR W (bytB (.media p l k s f)) (bytE (.media p l k s f))) := fun W hW => bytes_any W _ _ (.media p lc l k s f (hq W hW)) ho hcs
  have CB2 : ∀ W, Below w.heap.size w W → Calls Try.prog 15 #[.iface 52 (fval a n c)] W (Fbk.RetR W (putLB (its ps)) (putLE (its ps))) := fun W hW => bytes_any W _ _ (.feed a n c ps (hj W hW) hc) hok hbd
  have CP : ∀ W, Below w.heap.size w W → Calls Try.prog 16 #[pkt (pvOf p lc)] W (Rtp.RetR W (putB p) (putE p)) := fun W hW => Rtp.rput_pkt W W.heap.size p lc ho (hq W hW) (Nat.le_refl _)
  have CG : ∀ W, Below w.heap.size w W → Calls Try.prog 17 #[.slice (pvOf p lc).pa (pvOf p lc).pn (pvOf p lc).pc] W (RetG W (gL p.pay) (gK p.pay) (gS p.pay) (gF p.pay) (gE p.pay)) := fun W hW =>
    rget_any _ _ _ W.heap.size _ W (Nat.le_trans hr.pn (by decide)) hr.pc (hq W hW).pay (Nat.le_refl _)
  have CI : ∀ W, Below w.heap.size w W → Calls Try.prog 18 #[.slice a n c] W (Fbk.RetR W (putLB (its ps)) (putLE (its ps))) := fun W hW => Fbk.rf_put a n c W.heap.size ps W (hj W hW) (Nat.le_refl _) hok
  have CF1 : ∀ W, Below w.heap.size w W → Calls Try.prog 12 #[.iface 50 (mval (pvOf p lc) l k s f)] W fun e w' => ∃ lc A c, e = .returned (.tuple #[pkt (pvOf p lc), dsc l k s f, .slice A 0 c]) ∧ PRd w' w'.heap.size p lc ∧ Below W.heap.size W w' := fun W hW =>
    (flat_any W _ _ (.media p lc l k s f (hq W hW)) hcs).mono fun e w' ⟨lc, A, c, qs, h1, h2, _, _, h3⟩ => ⟨lc, A, c, h1, h2, h3⟩
  have CF2 : ∀ W, Below w.heap.size w W → Calls Try.prog 12 #[.iface 52 (fval a n c)] W fun e w' => ∃ u A c qs, e = .returned (.tuple #[pkt u, dsc 0 false false 0, .slice A n c]) ∧ ItsRd w' w'.heap.size A n qs ∧ its qs = its ps ∧ Below W.heap.size W w' := fun W hW =>
    (flat_any W _ _ (.feed a n c ps (hj W hW) hc) hbd).mono fun e w' ⟨lc, A, c, qs, h1, _, h2, h3, h4⟩ => by
      have e1 : (flI (.feed (its ps))).length = n := hln
      rw [e1] at h1 h2
      exact ⟨_, A, c, qs, h1, h2, h3, h4⟩
  have CS : ∀ W lc', Below w.heap.size w W → PRd W W.heap.size p lc' → Calls Try.prog 13 #[pkt (pvOf p lc), pkt (pvOf p lc')] W (Rtp.RetB W true) := fun W lc' hW h => Rtp.same_any W W.heap.size p lc lc' (hq W hW) h (Nat.le_refl _)
  have CT : ∀ W A c' qs, Below w.heap.size w W → ItsRd W W.heap.size A n qs → its qs = its ps → Calls Try.prog 14 #[.slice A n c', .slice a n c] W (Rtp.RetB W true) := fun W A c' qs hW h he => Fbk.same_its A a n c' c qs ps W hn h (hj W hW) he
  by_cases hD : descB p.pay l k s f = true
  · have hD' := hD
    simp only [descB, deq, Bool.and_eq_true, beq_iff_eq] at hD'
    obtain ⟨e0, ⟨⟨e1, e2⟩, e3⟩, e4⟩ := hD'
    rw [e0, e1, e2, e3, e4] at CG
    simp only [bytB, bytE, hD, if_true] at B1
    exact made_yes w p _ l f k s a n c (its ps) (putB p) _ _ _ B1 CB2 CP CG CI CF1 CF2 CS CT
  · simp only [bytB, bytE, hD] at B1
    by_cases h0 : gE p.pay = 0
    · rw [h0] at CG
      refine made_ne w p _ l f k s _ _ _ _ a n c (its ps) _ _ _ _ (neq_dsc ?_) B1 CB2 CP CG CI CF1 CF2 CS CT
      rw [descB, h0] at hD
      simpa using hD
    · exact made_err w p _ l f k s _ _ _ _ a n c (its ps) _ _ _ _ _ (by simpa using h0) B1 CB2 CP CG CI CF1 CF2 CS CT
end Go.Proofs.Ythmmafpmpnhleaa.Sft
