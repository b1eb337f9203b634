/- The walk of ReportGets. -/
import Derived.Test.YtamihjhhpedgcaaQo
namespace Go.Proofs.Ytamihjhhpedgcaa.Fbk
open Go.RowKit
set_option linter.unusedVariables false

set_option maxHeartbeats 4000000 in
theorem gets_walk (a : Option Addr) (n c : Nat) (w : World) (i : Itm) (m x : Int)
    (CS : Hid (∀ W, Calls Try.prog 7 #[] W (RetB W true)))
    (CG : Hid (∀ W, Below w.heap.size w W → Calls Try.prog 13 #[.slice a n c] W (IRet W i m x)))
    (CR : Hid (∀ W, Below w.heap.size w W → Calls Try.prog 14 #[.slice a n c] W (IRet W i m x))) :
    Calls Try.prog 4 #[.slice a n c] w (RetB w true) := by
  go_enter Try.func4, Try.ntmps4
  go_wp2_with fail
  refine (CS.out _).mono ?_
  rintro e w1 ⟨rfl, hb1⟩
  have HB1 := Lib.hid hb1
  clear hb1 CS
  go_wp2_with fail
  refine (CG.out _ HB1.out).mono ?_
  rintro e w2 ⟨l, rfl, hr2, hb2⟩
  obtain ⟨v, hv⟩ : ∃ v : IV, v = ivOf i l := ⟨_, rfl⟩
  rw [← hv]
  have HV := Lib.hid hv
  have hbA := (Below.refl w2.heap.size w2).alloc (Nat.le_refl _) (iobj v)
  have HB2 := Lib.hid ((HB1.out.trans (hb2.mono HB1.out.size)).trans (hbA.mono (Nat.le_trans HB1.out.size hb2.size)))
  have HR2 := Lib.hid ((hr2.below hbA).more hbA.size)
  have HD2 := Lib.hid (IBlk.new w2 v)
  clear hv hbA hr2 hb2 HB1 CG
  go_wp2_with fail
  refine (CR.out _ HB2.out).mono ?_
  rintro e w3 ⟨l3, rfl, hr3, hb3⟩
  obtain ⟨u, hu⟩ : ∃ u : IV, u = ivOf i l3 := ⟨_, rfl⟩
  rw [← hu]
  have HU := Lib.hid hu
  have hbA := (Below.refl w3.heap.size w3).alloc (Nat.le_refl _) (iobj u)
  have HB3 := Lib.hid ((HB2.out.trans (hb3.mono HB2.out.size)).trans (hbA.mono (Nat.le_trans HB2.out.size hb3.size)))
  have HR3 := Lib.hid ((hr3.below hbA).more hbA.size)
  have HR2' := Lib.hid ((((HR2.out.below hb3).more hb3.size).below hbA).more hbA.size)
  have D2 := (HD2.out.bel hb3).bel hbA
  have D3 := IBlk.new w3 u
  have c0 := D2.c0
  have c1 := D2.c1
  have c2 := D2.c2
  have c3 := D2.c3
  have c4 := D2.c4
  have c5 := D2.c5
  have c6 := D2.c6
  have c7 := D2.c7
  have c8 := D2.c8
  have c9 := D2.c9
  have d0 := D3.c0
  have d1 := D3.c1
  have d2 := D3.c2
  have d3 := D3.c3
  have d4 := D3.c4
  have d5 := D3.c5
  have d6 := D3.c6
  have d7 := D3.c7
  have d8 := D3.c8
  have d9 := D3.c9
  have CM : Hid (Calls Try.prog 15 #[itm v, itm u] (w3.alloc (iobj u)) (RetB (w3.alloc (iobj u)) true)) := by
    have h2 := HR2'.out
    have h3 := HR3.out
    have := same_any (w3.alloc (iobj u)) _ i l l3 h2 h3 (Nat.le_refl _)
    rw [HV.out, HU.out] at *
    exact this
  clear D2 D3 hu hbA hr3 hb3 HB2 CR HR2 HR3 HR2' HD2
  go_wp2_with fail
  refine CM.out.mono ?_
  rintro e w4 ⟨rfl, hb4⟩
  have HB4 := Lib.hid (HB3.out.trans (hb4.mono HB3.out.size))
  clear c0 c1 c2 c3 c4 c5 c6 c7 c8 c9 d0 d1 d2 d3 d4 d5 d6 d7 d8 d9 hb4 CM
  go_wp2
  go_ret
  exact ⟨rfl, HB4.out⟩
theorem reportGets_walk (a : Option Addr) (n c : Nat) (xs : List Int) (w : World) (hl : n ≤ maxLen) (hlc : n ≤ c) (hr : Rd w w.heap.size a n xs) : Calls Try.prog 4 #[.slice a n c] w (RetB w true) :=
  gets_walk a n c w (gRV xs) (gRN xs) (rE xs) (fun W => shown_any W) (fun W hW => get_any a n c _ xs W hl hlc (hr.below hW) hW.size) (fun W hW => rget_any a n c _ xs W hl hlc (hr.below hW) hW.size)
end Go.Proofs.Ytamihjhhpedgcaa.Fbk
