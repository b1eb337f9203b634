/- The contract of the laws' shown; what a law holds at its start. -/
import Derived.Test.YtolobojidnomfaaYf
import Derived.Test.YtolobojidnomfaaYg
import Derived.Test.YtolobojidnomfaaYd
import Derived.Deep.Cut
import Derived.Deep.DeepCutAuto
import Derived.Deep.CutRange
set_option maxRecDepth 100000
namespace Go.Proofs.Ytolobojidnomfaa.Stp
open Go.RowKit Go.Proofs.Ytolobojidnomfaa.Gat Go.Proofs.Ytolobojidnomfaa.Crs Go.Proofs.Ytolobojidnomfaa.Clk Go.Proofs.Ytolobojidnomfaa.Rtp Go.Proofs.Ytolobojidnomfaa.Fbk
set_option linter.unusedVariables false

set_option maxHeartbeats 8000000 in
theorem shown_any (w : World) : Calls Try.prog 8 #[] w fun e w' => e = .returned (.bool true) ∧ Below w.heap.size w w' := by
  have C1 := Lib.hid (fun W => new_any W 2 3 0)
  have C2 := Lib.hid (fun (W : World) (a : Option Addr) => media_any W ⟨(0, -1, false, false), co0, ck0, 3221225987, 65535, 0, 0⟩ ⟨false, 0, 7, 50, 0, none, 0, 0, false, 0, none, 0, 0, a, 2, 2, 0⟩ (0, true, true, 0))
  have C3 := Lib.hid (fun W => report_any W ⟨(0, 0, false, false), (true, 7, 65529, 1), (true, 4294967246, 0), 3221225987, 0, 1, 2⟩ ⟨200, 0, 5, 60, 0, 0, none, 0, 0, none, 0, 0, 0, none, 0, 0⟩ 0)
  have C4 := Lib.hid (fun W => whose_any W 3221225987 (by decide) (by decide))
  have C5 := Lib.hid (fun W => out_any W 0 1)
  rw [show newT 2 3 0 = ⟨(0, -1, false, false), co0, ck0, 3221225987, 65535, 0, 0⟩ from rfl] at C1
  simp only [show mda ⟨(0, -1, false, false), co0, ck0, 3221225987, 65535, 0, 0⟩ 7 50 ((2 : Nat) : Int) (0, true, true, 0) = (⟨(0, 0, false, false), (true, 7, 65529, 1), (true, 4294967246, 0), 3221225987, 0, 1, 2⟩, (0, 0, 3221225987, 0), 2) from rfl] at C2
  rw [show rpr ⟨(0, 0, false, false), (true, 7, 65529, 1), (true, 4294967246, 0), 3221225987, 0, 1, 2⟩ ⟨200, 0, 5, 60, 0, 0, none, 0, 0, none, 0, 0, 0, none, 0, 0⟩ 0 = (⟨200, 3221225987, 5, 10, 1, 2, none, 0, 0, none, 0, 0, 0, none, 0, 0⟩, 1) from rfl] at C3
  rw [show whoV 3221225987 = (2, 3, true) from by decide] at C4
  rw [show outN 0 1 = 0 from by decide] at C5
  simp only at C3
  have BB := Lib.hid (Below.refl w.heap.size w)
  go_enter Try.func8, Try.ntmps8
  go_wp2_with fail
  refine (C1.out _).mono ?_
  rintro e w1 ⟨rfl, hb⟩
  replace BB := Lib.hid (BB.out.trans (hb.mono BB.out.size))
  clear hb C1 
  go_upto_region 2 with fail
  have hx := (Below.refl w1.heap.size w1).alloc (Nat.le_refl _) (trkO ⟨(0, -1, false, false), co0, ck0, 3221225987, 65535, 0, 0⟩)
  replace BB := Lib.hid (BB.out.trans (hx.mono BB.out.size))
  have TB := Lib.hid (TBlk.new w1 ⟨(0, -1, false, false), co0, ck0, 3221225987, 65535, 0, 0⟩)
  obtain ⟨b1, hb1⟩ : ∃ b, w1.heap.size = b := ⟨_, rfl⟩
  rw [hb1] at TB
  rw [hb1]
  clear hb1 hx
  obtain ⟨w2, hw2⟩ : ∃ w2, w1.alloc (trkO ⟨(0, -1, false, false), co0, ck0, 3221225987, 65535, 0, 0⟩) = w2 := ⟨_, rfl⟩
  rw [hw2] at TB
  rw [hw2] at BB
  rw [hw2]
  clear hw2
  go_upto_region 3 with fail
  have hx := (Below.refl w2.heap.size w2).alloc (Nat.le_refl _) (dsO (0, true, true, 0))
  replace BB := Lib.hid (BB.out.trans (hx.mono BB.out.size))
  replace TB := Lib.hid (TB.out.bel hx TB.out.lt)
  have SB := Lib.hid (SBlk.new w2 (0, true, true, 0))
  obtain ⟨b2, hb2⟩ : ∃ b, w2.heap.size = b := ⟨_, rfl⟩
  rw [hb2] at SB
  rw [hb2]
  clear hb2 hx
  obtain ⟨w3, hw3⟩ : ∃ w3, w2.alloc (dsO (0, true, true, 0)) = w3 := ⟨_, rfl⟩
  rw [hw3] at SB
  rw [hw3] at BB
  rw [hw3] at TB
  rw [hw3]
  clear hw3
  have c0 := TB.out.c0
  have c1 := TB.out.c1
  have c2 := TB.out.c2
  have c3 := TB.out.c3
  have c4 := TB.out.c4
  have c5 := TB.out.c5
  have c6 := TB.out.c6
  have c7 := TB.out.c7
  have c8 := TB.out.c8
  have c9 := TB.out.c9
  have c10 := TB.out.c10
  have c11 := TB.out.c11
  have c12 := TB.out.c12
  have c13 := TB.out.c13
  have c14 := TB.out.c14
  replace SB := Lib.hid (SB.out.bel ((Below.refl w3.heap.size w3).alloc (Nat.le_refl _) (.cells #[.int .u8 1, .int .u8 2] 5)) SB.out.lt)
  have d0 := SB.out.c0
  have d1 := SB.out.c1
  have d2 := SB.out.c2
  have d3 := SB.out.c3
  go_wp2_with fail
  refine (C2.out _ _).mono ?_
  rintro e w4 ⟨rfl, hb⟩
  replace hb := ((Below.refl w3.heap.size w3).alloc (Nat.le_refl _) _).trans (hb.mono (by simp))
  replace BB := Lib.hid (BB.out.trans (hb.mono BB.out.size))
  replace TB := Lib.hid (TB.out.bel hb TB.out.lt)
  clear hb C2 SB c0 c1 c2 c3 c4 c5 c6 c7 c8 c9 c10 c11 c12 c13 c14 d0 d1 d2 d3
  go_upto_region 4 with fail
  have hx := (Below.refl w4.heap.size w4).alloc (Nat.le_refl _) (trkO ⟨(0, 0, false, false), (true, 7, 65529, 1), (true, 4294967246, 0), 3221225987, 0, 1, 2⟩)
  have hy := (Below.refl (w4.alloc (trkO ⟨(0, 0, false, false), (true, 7, 65529, 1), (true, 4294967246, 0), 3221225987, 0, 1, 2⟩)).heap.size (w4.alloc (trkO ⟨(0, 0, false, false), (true, 7, 65529, 1), (true, 4294967246, 0), 3221225987, 0, 1, 2⟩))).alloc (Nat.le_refl _) (pcO (0, 0, 3221225987, 0))
  have T2 := Lib.hid ((TBlk.new w4 ⟨(0, 0, false, false), (true, 7, 65529, 1), (true, 4294967246, 0), 3221225987, 0, 1, 2⟩).bel hy (TBlk.new w4 ⟨(0, 0, false, false), (true, 7, 65529, 1), (true, 4294967246, 0), 3221225987, 0, 1, 2⟩).lt)
  have Q2 := QBlk.new (w4.alloc (trkO ⟨(0, 0, false, false), (true, 7, 65529, 1), (true, 4294967246, 0), 3221225987, 0, 1, 2⟩)) (0, 0, 3221225987, 0)
  rw [show (w4.alloc (trkO ⟨(0, 0, false, false), (true, 7, 65529, 1), (true, 4294967246, 0), 3221225987, 0, 1, 2⟩)).heap.size = w4.heap.size + 1 from by simp] at Q2
  replace Q2 := Lib.hid Q2
  replace BB := Lib.hid (BB.out.trans (hx.mono BB.out.size))
  replace TB := Lib.hid (TB.out.bel hx TB.out.lt)
  replace BB := Lib.hid (BB.out.trans (hy.mono BB.out.size))
  replace TB := Lib.hid (TB.out.bel hy TB.out.lt)
  clear hx hy
  obtain ⟨w5, hw5⟩ : ∃ w5, (w4.alloc (trkO ⟨(0, 0, false, false), (true, 7, 65529, 1), (true, 4294967246, 0), 3221225987, 0, 1, 2⟩)).alloc (pcO (0, 0, 3221225987, 0)) = w5 := ⟨_, rfl⟩
  rw [hw5] at BB
  rw [hw5] at TB
  rw [hw5] at T2
  rw [hw5] at Q2
  rw [hw5]
  clear hw5
  have c0 := T2.out.c0
  have c1 := T2.out.c1
  have c2 := T2.out.c2
  have c3 := T2.out.c3
  have c4 := T2.out.c4
  have c5 := T2.out.c5
  have c6 := T2.out.c6
  have c7 := T2.out.c7
  have c8 := T2.out.c8
  have c9 := T2.out.c9
  have c10 := T2.out.c10
  have c11 := T2.out.c11
  have c12 := T2.out.c12
  have c13 := T2.out.c13
  have c14 := T2.out.c14
  go_wp2_with fail
  refine (C3.out _).mono ?_
  rintro e w6 ⟨rfl, hb⟩
  replace BB := Lib.hid (BB.out.trans (hb.mono BB.out.size))
  replace TB := Lib.hid (TB.out.bel hb TB.out.lt)
  replace T2 := Lib.hid (T2.out.bel hb T2.out.lt)
  replace Q2 := Lib.hid (Q2.out.bel hb Q2.out.lt)
  clear hb C3 c0 c1 c2 c3 c4 c5 c6 c7 c8 c9 c10 c11 c12 c13 c14
  go_upto_region 5 with fail
  have hx := (Below.refl w6.heap.size w6).alloc (Nat.le_refl _) (iobj ⟨200, 3221225987, 5, 10, 1, 2, none, 0, 0, none, 0, 0, 0, none, 0, 0⟩)
  replace BB := Lib.hid (BB.out.trans (hx.mono BB.out.size))
  replace TB := Lib.hid (TB.out.bel hx TB.out.lt)
  replace T2 := Lib.hid (T2.out.bel hx T2.out.lt)
  replace Q2 := Lib.hid (Q2.out.bel hx Q2.out.lt)
  have I2 := Lib.hid (IBlk.new w6 ⟨200, 3221225987, 5, 10, 1, 2, none, 0, 0, none, 0, 0, 0, none, 0, 0⟩)
  obtain ⟨b3, hb3⟩ : ∃ b, w6.heap.size = b := ⟨_, rfl⟩
  rw [hb3] at I2
  rw [hb3]
  clear hb3 hx
  obtain ⟨w7, hw7⟩ : ∃ w7, w6.alloc (iobj ⟨200, 3221225987, 5, 10, 1, 2, none, 0, 0, none, 0, 0, 0, none, 0, 0⟩) = w7 := ⟨_, rfl⟩
  rw [hw7] at I2
  rw [hw7] at BB
  rw [hw7] at TB
  rw [hw7] at T2
  rw [hw7] at Q2
  rw [hw7]
  clear hw7
  have c11 := TB.out.c11
  go_upto_region 6 with (go_at_call 15; refine (C4.out _).mono ?_; rintro e w8 ⟨rfl, rfl⟩)
  clear c11 C4 TB
  have c12 := T2.out.c12
  have c13 := T2.out.c13
  have c14 := T2.out.c14
  have d0 := Q2.out.c0
  have d1 := Q2.out.c1
  have d2 := Q2.out.c2
  have d3 := Q2.out.c3
  have g1 := I2.out.c1
  have g3 := I2.out.c3
  have g4 := I2.out.c4
  have KE := peq_same (0, 0, 3221225987, 0)
  go_wp2_with (go_at_call 17; refine (C5.out _).mono ?_; rintro e w8 ⟨rfl, rfl⟩)
  go_ret
  exact ⟨rfl, BB.out⟩
/-- What a law about a packet holds: the track, the packet, the descriptor. -/
structure Tri (w0 w : World) (t : TV) (q : PV) (d : Ds) : Prop where
  t : TBlk w w0.heap.size t
  q : PBlk w (w0.heap.size + 1) q
  d : SBlk w (w0.heap.size + 1 + 1) d
  bel : Below w0.heap.size w0 w
section
variable {w0 w w' : World} {t : TV} {q : PV} {d : Ds}
theorem Tri.more (h : Tri w0 w t q d) (hb : Below w.heap.size w w') : Tri w0 w' t q d := ⟨h.t.bel hb h.t.lt, h.q.below hb h.q.lt, h.d.bel hb h.d.lt, h.bel.trans (hb.mono h.bel.size)⟩
theorem Tri.lay (w0 : World) (t : TV) (q : PV) (d : Ds) : Tri w0 (((w0.alloc (trkO t)).alloc (pobj q)).alloc (dsO d)) t q d := by
  have s1 : (w0.alloc (trkO t)).heap.size = w0.heap.size + 1 := by simp
  have s2 : ((w0.alloc (trkO t)).alloc (pobj q)).heap.size = w0.heap.size + 1 + 1 := by simp
  have h1 := TBlk.new w0 t
  have h2 := PBlk.new (w0.alloc (trkO t)) q
  have h3 := SBlk.new ((w0.alloc (trkO t)).alloc (pobj q)) d
  have b2 : Below (w0.heap.size + 1) (w0.alloc (trkO t)) ((w0.alloc (trkO t)).alloc (pobj q)) := (Below.refl _ _).alloc (by omega) _
  have b3 : Below (w0.heap.size + 1 + 1) ((w0.alloc (trkO t)).alloc (pobj q)) (((w0.alloc (trkO t)).alloc (pobj q)).alloc (dsO d)) := (Below.refl _ _).alloc (by omega) _
  rw [s1] at h2
  rw [s2] at h3
  have k1 := (((Below.refl w0.heap.size w0).alloc (Nat.le_refl _) (trkO t)).alloc (by omega) (pobj q)).alloc (by omega) (dsO d)
  exact ⟨(h1.bel b2 (by omega)).bel b3 (by omega), h2.below b3 (by omega), h3, k1⟩
end
/-- A track and a patch laid one behind the other. -/
theorem lay_two (w : World) (y : TV) (r : Pc) : TBlk ((w.alloc (trkO y)).alloc (pcO r)) w.heap.size y ∧ QBlk ((w.alloc (trkO y)).alloc (pcO r)) (w.heap.size + 1) r ∧ Below w.heap.size w ((w.alloc (trkO y)).alloc (pcO r)) := by
  have hx := (Below.refl w.heap.size w).alloc (Nat.le_refl _) (trkO y)
  have hy := (Below.refl (w.alloc (trkO y)).heap.size (w.alloc (trkO y))).alloc (Nat.le_refl _) (pcO r)
  have Q2 := QBlk.new (w.alloc (trkO y)) r
  rw [show (w.alloc (trkO y)).heap.size = w.heap.size + 1 from by simp] at Q2
  exact ⟨(TBlk.new w y).bel hy (TBlk.new w y).lt, Q2, hx.trans (hy.mono hx.size)⟩
end Go.Proofs.Ytolobojidnomfaa.Stp
