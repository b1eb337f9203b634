/- ArenaNone, walked. -/
import Derived.Test.YtachodjpiklpkaaEn
set_option maxRecDepth 100000
namespace Go.Proofs.Ytachodjpiklpkaa.Arn
open Go.RowKit
set_option linter.unusedVariables false

set_option maxHeartbeats 4000000 in
theorem none_law (w : World) (s g : Int) : Calls Try.prog 6 #[hnV s g] w fun e w' => e = .returned (.bool true) ∧ Below w.heap.size w w' := by
  have CS : Hid (∀ W, Calls Try.prog 7 #[] W fun e w' => e = .returned (.bool true) ∧ Below W.heap.size W w') := fun W => shown_any W
  have CT : Hid (∀ W, Calls Try.prog 11 #[.pointer none] W fun e w' => e = .returned (.tuple #[hnV 0 0, .int .i64 6]) ∧ Below W.heap.size W w') := fun W => take_nil W
  have CK : Hid (∀ W, Calls Try.prog 13 #[.pointer none, hnV s g] W fun e w' => e = .returned (.int .i64 7) ∧ Below W.heap.size W w') := fun W => keep_nil W s g
  have CD : Hid (∀ W, Calls Try.prog 15 #[.pointer none, hnV s g] W fun e w' => e = .returned (.int .i64 7) ∧ Below W.heap.size W w') := fun W => drop_nil W s g
  have CR : Hid (∀ W, Calls Try.prog 17 #[.pointer none, hnV s g] W fun e w' => e = .returned (.int .i64 0) ∧ Below W.heap.size W w') := fun W => refs_nil W s g
  have CF : Hid (∀ W, Calls Try.prog 19 #[.pointer none] W fun e w' => e = .returned (.int .i64 0) ∧ W = w') := fun W => free_nil W
  have CL : Hid (∀ W, Calls Try.prog 22 #[.pointer none] W fun e w' => e = .returned (.slice none 0 0) ∧ W = w') := fun W => slots_nil W
  have HB0 := Lib.hid ((Below.refl w.heap.size w).alloc (Nat.le_refl _) (hnO s g))
  have D0 := Lib.hid (HBlk.new w s g)
  have qe := eq_hnd 0 0 0 0
  go_enter Try.func6, Try.ntmps6
  go_wp2_with fail
  refine (CS.out _).mono ?_
  rintro e w1 ⟨rfl, hb⟩
  have HB1 := Lib.hid (HB0.out.trans (hb.mono HB0.out.size))
  have D1 := Lib.hid (D0.out.bel hb D0.out.lt)
  clear hb HB0 D0
  go_wp2_with fail
  refine (CT.out _).mono ?_
  rintro e w2 ⟨rfl, hb⟩
  have HB2 := Lib.hid ((HB1.out.trans (hb.mono HB1.out.size)).alloc (Nat.le_trans HB1.out.size hb.size) (hnO 0 0))
  have D2 := Lib.hid ((D1.out.bel hb D1.out.lt).bel ((Below.refl _ _).alloc (Nat.le_refl _) (hnO 0 0)) (D1.out.bel hb D1.out.lt).lt)
  have c0 := (HBlk.new w2 0 0).c0
  have c1 := (HBlk.new w2 0 0).c1
  have d0 := D2.out.c0
  have d1 := D2.out.c1
  clear hb HB1 D1
  go_wp2_with fail
  refine (CK.out _).mono ?_
  rintro e w3 ⟨rfl, hb⟩
  have HB3 := Lib.hid (HB2.out.trans (hb.mono HB2.out.size))
  have D3 := Lib.hid (D2.out.bel hb D2.out.lt)
  clear hb HB2 D2 c0 c1 d0 d1
  have d0 := D3.out.c0
  have d1 := D3.out.c1
  go_wp2_with fail
  refine (CD.out _).mono ?_
  rintro e w4 ⟨rfl, hb⟩
  have HB4 := Lib.hid (HB3.out.trans (hb.mono HB3.out.size))
  have D4 := Lib.hid (D3.out.bel hb D3.out.lt)
  clear hb HB3 D3 d0 d1
  have d0 := D4.out.c0
  have d1 := D4.out.c1
  go_wp2_with fail
  refine (CR.out _).mono ?_
  rintro e w5 ⟨rfl, hb⟩
  have HB5 := Lib.hid (HB4.out.trans (hb.mono HB4.out.size))
  clear hb HB4 D4 d0 d1
  go_wp2_with fail
  refine (CF.out _).mono ?_
  rintro e w6 ⟨rfl, rfl⟩
  go_wp2_with fail
  refine (CL.out _).mono ?_
  rintro e w7 ⟨rfl, rfl⟩
  go_wp2_with fail
  go_ret
  exact ⟨rfl, HB5.out⟩
end Go.Proofs.Ytachodjpiklpkaa.Arn
