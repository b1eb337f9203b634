/- The walk of ReportAll. -/
import Derived.Test.YtamihjhhpedgcaaQo
namespace Go.Proofs.Ytamihjhhpedgcaa.Fbk
open Go.RowKit
set_option linter.unusedVariables false

set_option maxHeartbeats 4000000 in
theorem all_walk (v : IV) (w : World) (ys : List Int) (m : Nat) (n : Int) (x y : Bool) (hm : ys.length = m)
    (CS : Hid (∀ W, Calls Try.prog 7 #[] W (RetB W true)))
    (CP : Hid (∀ W, Below w.heap.size w W → Calls Try.prog 8 #[itm v] W (RetR W ys n)))
    (CR : Hid (∀ W, Below w.heap.size w W → Calls Try.prog 9 #[itm v] W (RetR W ys n)))
    (CK : Hid (∀ W, Calls Try.prog 10 #[.int .i64 v.kind] W fun e w' => e = .returned (.bool x) ∧ W = w'))
    (CM : Hid (x = true → ∀ W, Below w.heap.size w W → Calls Try.prog 11 #[itm v] W (RetB W y)))
    (CY : Hid (∀ W, Below w.heap.size w W → Calls Try.prog 12 #[itm v] W (RetB W (x && y)))) :
    Calls Try.prog 3 #[itm v] w (RetB w true) := by
  have HM := Lib.hid hm
  have HB := Lib.hid ((Below.refl w.heap.size w).alloc (Nat.le_refl _) (iobj v))
  have HD := Lib.hid (IBlk.new w v)
  clear hm
  go_enter Try.func3, Try.ntmps3
  go_wp2_with fail
  refine (CS.out _).mono ?_
  rintro e w1 ⟨rfl, hb1⟩
  have HB1 := Lib.hid (HB.out.trans (hb1.mono HB.out.size))
  have D1 := HD.out.bel hb1
  have HD1 := Lib.hid D1
  have c0 := D1.c0
  have c1 := D1.c1
  have c2 := D1.c2
  have c3 := D1.c3
  have c4 := D1.c4
  have c5 := D1.c5
  have c6 := D1.c6
  have c7 := D1.c7
  have c8 := D1.c8
  have c9 := D1.c9
  clear hb1 D1 HD HB CS
  go_wp2_with fail
  refine (CP.out _ HB1.out).mono ?_
  rintro e w2 ⟨A, k, rfl, ho2, hb2⟩
  rw [HM.out] at ho2
  rw [HM.out]
  have HB2 := Lib.hid (HB1.out.trans (hb2.mono HB1.out.size))
  have D2 := HD1.out.bel hb2
  have HD2 := Lib.hid D2
  have HO2 := Lib.hid ho2
  clear c0 c1 c2 c3 c4 c5 c6 c7 c8 c9 hb2 ho2 HD1 HB1 CP
  have c0 := D2.c0
  have c1 := D2.c1
  have c2 := D2.c2
  have c3 := D2.c3
  have c4 := D2.c4
  have c5 := D2.c5
  have c6 := D2.c6
  have c7 := D2.c7
  have c8 := D2.c8
  have c9 := D2.c9
  clear D2
  go_wp2_with fail
  refine (CR.out _ HB2.out).mono ?_
  rintro e w3 ⟨A3, k3, rfl, ho3, hb3⟩
  rw [HM.out] at ho3
  rw [HM.out]
  have HB3 := Lib.hid (HB2.out.trans (hb3.mono HB2.out.size))
  have D3 := HD2.out.bel hb3
  have HD3 := Lib.hid D3
  have HO3 := Lib.hid ho3
  have HO2' := Lib.hid (HO2.out.below hb3 (Nat.le_refl _))
  clear c0 c1 c2 c3 c4 c5 c6 c7 c8 c9 hb3 ho3 HD2 HB2 CR HO2
  have c0 := D3.c0
  have c1 := D3.c1
  have c2 := D3.c2
  have c3 := D3.c3
  have c4 := D3.c4
  have c5 := D3.c5
  have c6 := D3.c6
  have c7 := D3.c7
  have c8 := D3.c8
  have c9 := D3.c9
  clear D3
  go_wp2_with fail
  refine (CK.out _).mono ?_
  rintro e w' ⟨rfl, rfl⟩
  rcases x with _ | _
  · have s1 : (convert 30 9 (.slice A m k)).run Try.prog w3 = .ok (.string (strOfNums ys)) w3 := str_run HO2'.out.rd
    have s2 : (convert 30 9 (.slice A3 m k3)).run Try.prog w3 = .ok (.string (strOfNums ys)) w3 := str_run HO3.out.rd
    go_wp2_with fail
    refine (CY.out _ HB3.out).mono ?_
    rintro e w4 ⟨rfl, hb4⟩
    have HB4 := Lib.hid (HB3.out.trans (hb4.mono HB3.out.size))
    clear hb4 s1 s2 c0 c1 c2 c3 c4 c5 c6 c7 c8 c9
    go_wp2
    go_ret
    exact ⟨rfl, HB4.out⟩
  · have CM' := Lib.hid (CM.out rfl)
    clear CM
    go_wp2_with fail
    refine (CM'.out _ HB3.out).mono ?_
    rintro e w5 ⟨rfl, hb5⟩
    have HB5 := Lib.hid (HB3.out.trans (hb5.mono HB3.out.size))
    have s1 : (convert 30 9 (.slice A m k)).run Try.prog w5 = .ok (.string (strOfNums ys)) w5 := str_run (HO2'.out.below hb5 (Nat.le_refl _)).rd
    have s2 : (convert 30 9 (.slice A3 m k3)).run Try.prog w5 = .ok (.string (strOfNums ys)) w5 := str_run (HO3.out.below hb5 (Nat.le_refl _)).rd
    have D5 := HD3.out.bel hb5
    clear c0 c1 c2 c3 c4 c5 c6 c7 c8 c9 hb5
    have c0 := D5.c0
    have c1 := D5.c1
    have c2 := D5.c2
    have c3 := D5.c3
    have c4 := D5.c4
    have c5 := D5.c5
    have c6 := D5.c6
    have c7 := D5.c7
    have c8 := D5.c8
    have c9 := D5.c9
    clear D5
    go_wp2_with fail
    refine (CY.out _ HB5.out).mono ?_
    rintro e w4 ⟨rfl, hb4⟩
    have HB4 := Lib.hid (HB5.out.trans (hb4.mono HB5.out.size))
    clear hb4 s1 s2 c0 c1 c2 c3 c4 c5 c6 c7 c8 c9
    go_wp2
    go_ret
    exact ⟨ret_bool (by simp), HB4.out⟩
theorem reportAll_walk (i : Itm) (l : ILoc) (w : World) (ho : i.Ok) (hr : IRd w w.heap.size i l) : Calls Try.prog 3 #[itm (ivOf i l)] w (RetB w true) :=
  all_walk (ivOf i l) w (putRB i) _ (putRE i) (isRep i.kind) (mayI i) rfl (fun W => shown_any W) (fun W hW => put_itm W i l _ ho (hr.below hW) hW.size) (fun W hW => rput_itm W i l _ ho (hr.below hW) hW.size) (fun W => isReport_any i.kind W)
    (fun hx W hW => rmay_itm W i l _ hx (hr.below hW) hW.size) (fun W hW => may_itm W i l _ (hr.below hW) hW.size)
end Go.Proofs.Ytamihjhhpedgcaa.Fbk
