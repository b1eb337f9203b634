/- The contracts of rtcp.within, reportsNothing, May. -/
import Derived.Test.YtjbgfaoancmknaaQc
namespace Go.Proofs.Ytjbgfaoancmknaa.Fbk
open Go.RowKit
set_option linter.unusedVariables false

set_option maxHeartbeats 400000 in
theorem within_any (n m : Int) (w : World) : Calls Try.prog 19 #[.int .i64 n, .int .i64 m] w fun e w' => e = .returned (.bool (decide (1 ≤ n) && decide (n ≤ m))) ∧ w = w' := by
  by_cases h : 1 ≤ n
  · go_enter Try.func19, Try.ntmps19
    go_wp2
    go_ret
    exact ⟨ret_bool (by simp [h]), rfl⟩
  · go_enter Try.func19, Try.ntmps19
    go_wp2
    go_ret
    exact ⟨ret_bool (by rw [decide_eq_false (by omega), Bool.false_and]), rfl⟩
def noRep (v : IV) : Bool := decide (v.ntp = 0) && decide (v.time = 0) && decide (v.pks = 0) && decide (v.ocs = 0) && decide (v.bn = 0)
set_option maxHeartbeats 1000000 in
theorem noRep_any (v : IV) (w : World) : Calls Try.prog 22 #[itm v] w (RetB w (noRep v)) := by
  have D := IBlk.new w v
  have c2 := D.c2
  have c3 := D.c3
  have c4 := D.c4
  have c5 := D.c5
  have c6 := D.c6
  clear D
  unfold noRep
  obtain ⟨kind, ssrc, ntp, time, pks, ocs, ba, bn, bc, ga, gn, gc, media, pa, pn, pc⟩ := v
  simp only at *
  by_cases h2 : ntp = 0
  case' pos =>
    by_cases h3 : time = 0
    case' pos =>
      by_cases h4 : pks = 0
      case' pos => by_cases h5 : ocs = 0
  all_goals
    go_enter Try.func22, Try.ntmps22
    go_wp2
    go_ret
    exact ⟨ret_bool (by rw [Bool.eq_iff_iff]; simp [*]), (Below.refl _ _).alloc (Nat.le_refl _) _⟩
def mayB (v : IV) (r : Bool) : Bool :=
  if v.kind = 203 then (decide (1 ≤ v.gn) && decide (v.gn ≤ 15)) && decide (v.pn = 0) && decide (v.ssrc = 0) && decide (v.media = 0) && noRep v
  else if v.kind = 205 then (decide (1 ≤ v.pn) && decide (v.pn ≤ 16)) && decide (v.gn = 0) && noRep v
  else if v.kind = 206 then decide (v.pn = 0) && decide (v.gn = 0) && noRep v
  else r
set_option maxHeartbeats 2000000 in
theorem may_203 (ssrc ntp time pks ocs : Int) (ba : Option Addr) (bn bc : Nat) (ga : Option Addr) (gn gc : Nat) (media : Int) (pa : Option Addr) (pn pc : Nat) (w : World) :
    Calls Try.prog 12 #[itm ⟨203, ssrc, ntp, time, pks, ocs, ba, bn, bc, ga, gn, gc, media, pa, pn, pc⟩] w (RetB w (mayB ⟨203, ssrc, ntp, time, pks, ocs, ba, bn, bc, ga, gn, gc, media, pa, pn, pc⟩ false)) := by
  have hv : mayB ⟨203, ssrc, ntp, time, pks, ocs, ba, bn, bc, ga, gn, gc, media, pa, pn, pc⟩ false = ((decide (1 ≤ gn) && decide (gn ≤ 15)) && decide (pn = 0) && decide (ssrc = 0) && decide (media = 0) && noRep ⟨203, ssrc, ntp, time, pks, ocs, ba, bn, bc, ga, gn, gc, media, pa, pn, pc⟩) := by unfold mayB; rw [if_pos rfl]
  rw [hv]
  have CO : Hid (∀ W, Calls Try.prog 22 #[itm ⟨203, ssrc, ntp, time, pks, ocs, ba, bn, bc, ga, gn, gc, media, pa, pn, pc⟩] W (RetB W (noRep ⟨203, ssrc, ntp, time, pks, ocs, ba, bn, bc, ga, gn, gc, media, pa, pn, pc⟩))) := fun W => noRep_any _ W
  have CW : Hid (∀ W, Calls Try.prog 19 #[.int .i64 gn, .int .i64 15] W fun e w' => e = .returned (.bool (decide (1 ≤ gn) && decide (gn ≤ 15))) ∧ W = w') := fun W => by
    have := within_any gn 15 W
    rwa [show (decide (1 ≤ (gn : Int)) && decide ((gn : Int) ≤ 15)) = (decide (1 ≤ gn) && decide (gn ≤ 15)) from by rw [Bool.eq_iff_iff]; simp; omega] at this
  generalize (decide (1 ≤ gn) && decide (gn ≤ 15)) = x at CW ⊢
  generalize noRep ⟨203, ssrc, ntp, time, pks, ocs, ba, bn, bc, ga, gn, gc, media, pa, pn, pc⟩ = z at CO ⊢
  clear hv
  rcases x with _ | _
  case' true =>
    by_cases h1 : pn = 0
    case' pos =>
      subst h1
      by_cases h2 : ssrc = 0
      case' pos =>
        subst h2
        by_cases h3 : media = 0
        case' pos => subst h3
  case false =>
    have HB := Lib.hid ((Below.refl w.heap.size w).alloc (Nat.le_refl _) (iobj ⟨203, ssrc, ntp, time, pks, ocs, ba, bn, bc, ga, gn, gc, media, pa, pn, pc⟩))
    have D := IBlk.new w ⟨203, ssrc, ntp, time, pks, ocs, ba, bn, bc, ga, gn, gc, media, pa, pn, pc⟩
    have c0 := D.c0
    have c1 := D.c1
    have c2 := D.c2
    have c3 := D.c3
    have c4 := D.c4
    have c5 := D.c5
    have c6 := D.c6
    have c7 := D.c7
    have c8 := D.c8
    have c9 := D.c9
    clear D
    go_enter Try.func12, Try.ntmps12
    go_wp2_with fail
    refine (CW.out _).mono ?_
    rintro e w' ⟨rfl, rfl⟩
    go_wp2
    go_ret
    exact ⟨ret_bool (by simp [*]), HB.out⟩
  case neg =>
    have h3' : (media == 0) = false := by simpa using h3
    have HB := Lib.hid ((Below.refl w.heap.size w).alloc (Nat.le_refl _) (iobj ⟨203, 0, ntp, time, pks, ocs, ba, bn, bc, ga, gn, gc, media, pa, 0, pc⟩))
    have D := IBlk.new w ⟨203, 0, ntp, time, pks, ocs, ba, bn, bc, ga, gn, gc, media, pa, 0, pc⟩
    have c0 := D.c0
    have c1 := D.c1
    have c2 := D.c2
    have c3 := D.c3
    have c4 := D.c4
    have c5 := D.c5
    have c6 := D.c6
    have c7 := D.c7
    have c8 := D.c8
    have c9 := D.c9
    clear D
    go_enter Try.func12, Try.ntmps12
    go_wp2_with fail
    refine (CW.out _).mono ?_
    rintro e w' ⟨rfl, rfl⟩
    go_wp2
    go_ret
    exact ⟨ret_bool (by simp [*]), HB.out⟩
  case neg =>
    have h2' : (ssrc == 0) = false := by simpa using h2
    have HB := Lib.hid ((Below.refl w.heap.size w).alloc (Nat.le_refl _) (iobj ⟨203, ssrc, ntp, time, pks, ocs, ba, bn, bc, ga, gn, gc, media, pa, 0, pc⟩))
    have D := IBlk.new w ⟨203, ssrc, ntp, time, pks, ocs, ba, bn, bc, ga, gn, gc, media, pa, 0, pc⟩
    have c0 := D.c0
    have c1 := D.c1
    have c2 := D.c2
    have c3 := D.c3
    have c4 := D.c4
    have c5 := D.c5
    have c6 := D.c6
    have c7 := D.c7
    have c8 := D.c8
    have c9 := D.c9
    clear D
    go_enter Try.func12, Try.ntmps12
    go_wp2_with fail
    refine (CW.out _).mono ?_
    rintro e w' ⟨rfl, rfl⟩
    go_wp2
    go_ret
    exact ⟨ret_bool (by simp [*]), HB.out⟩
  case neg =>
    have h1' : (pn == 0) = false := by simpa using h1
    have h1i : ((pn : Int) == 0) = false := by simpa using h1
    have HB := Lib.hid ((Below.refl w.heap.size w).alloc (Nat.le_refl _) (iobj ⟨203, ssrc, ntp, time, pks, ocs, ba, bn, bc, ga, gn, gc, media, pa, pn, pc⟩))
    have D := IBlk.new w ⟨203, ssrc, ntp, time, pks, ocs, ba, bn, bc, ga, gn, gc, media, pa, pn, pc⟩
    have c0 := D.c0
    have c1 := D.c1
    have c2 := D.c2
    have c3 := D.c3
    have c4 := D.c4
    have c5 := D.c5
    have c6 := D.c6
    have c7 := D.c7
    have c8 := D.c8
    have c9 := D.c9
    clear D
    go_enter Try.func12, Try.ntmps12
    go_wp2_with fail
    refine (CW.out _).mono ?_
    rintro e w' ⟨rfl, rfl⟩
    go_wp2
    go_ret
    exact ⟨ret_bool (by simp [*]), HB.out⟩
  case pos =>
    have HB := Lib.hid ((Below.refl w.heap.size w).alloc (Nat.le_refl _) (iobj ⟨203, 0, ntp, time, pks, ocs, ba, bn, bc, ga, gn, gc, 0, pa, 0, pc⟩))
    have D := IBlk.new w ⟨203, 0, ntp, time, pks, ocs, ba, bn, bc, ga, gn, gc, 0, pa, 0, pc⟩
    have c0 := D.c0
    have c1 := D.c1
    have c2 := D.c2
    have c3 := D.c3
    have c4 := D.c4
    have c5 := D.c5
    have c6 := D.c6
    have c7 := D.c7
    have c8 := D.c8
    have c9 := D.c9
    clear D
    go_enter Try.func12, Try.ntmps12
    go_wp2_with fail
    refine (CW.out _).mono ?_
    rintro e w' ⟨rfl, rfl⟩
    go_wp2_with fail
    refine (CO.out _).mono ?_
    rintro e w2 ⟨rfl, hb2⟩
    have HB2 := Lib.hid (HB.out.trans (hb2.mono HB.out.size))
    clear hb2 c0 c1 c2 c3 c4 c5 c6 c7 c8 c9
    go_wp2
    go_ret
    exact ⟨ret_bool (by simp), HB2.out⟩
set_option maxHeartbeats 2000000 in
theorem may_205 (ssrc ntp time pks ocs : Int) (ba : Option Addr) (bn bc : Nat) (ga : Option Addr) (gn gc : Nat) (media : Int) (pa : Option Addr) (pn pc : Nat) (w : World) :
    Calls Try.prog 12 #[itm ⟨205, ssrc, ntp, time, pks, ocs, ba, bn, bc, ga, gn, gc, media, pa, pn, pc⟩] w (RetB w (mayB ⟨205, ssrc, ntp, time, pks, ocs, ba, bn, bc, ga, gn, gc, media, pa, pn, pc⟩ false)) := by
  have hv : mayB ⟨205, ssrc, ntp, time, pks, ocs, ba, bn, bc, ga, gn, gc, media, pa, pn, pc⟩ false = ((decide (1 ≤ pn) && decide (pn ≤ 16)) && decide (gn = 0) && noRep ⟨205, ssrc, ntp, time, pks, ocs, ba, bn, bc, ga, gn, gc, media, pa, pn, pc⟩) := by unfold mayB; rw [if_neg (show ¬ (205 : Int) = 203 by decide), if_pos rfl]
  rw [hv]
  have CO : Hid (∀ W, Calls Try.prog 22 #[itm ⟨205, ssrc, ntp, time, pks, ocs, ba, bn, bc, ga, gn, gc, media, pa, pn, pc⟩] W (RetB W (noRep ⟨205, ssrc, ntp, time, pks, ocs, ba, bn, bc, ga, gn, gc, media, pa, pn, pc⟩))) := fun W => noRep_any _ W
  have CW : Hid (∀ W, Calls Try.prog 19 #[.int .i64 pn, .int .i64 16] W fun e w' => e = .returned (.bool (decide (1 ≤ pn) && decide (pn ≤ 16))) ∧ W = w') := fun W => by
    have := within_any pn 16 W
    rwa [show (decide (1 ≤ (pn : Int)) && decide ((pn : Int) ≤ 16)) = (decide (1 ≤ pn) && decide (pn ≤ 16)) from by rw [Bool.eq_iff_iff]; simp; omega] at this
  generalize (decide (1 ≤ pn) && decide (pn ≤ 16)) = x at CW ⊢
  generalize noRep ⟨205, ssrc, ntp, time, pks, ocs, ba, bn, bc, ga, gn, gc, media, pa, pn, pc⟩ = z at CO ⊢
  clear hv
  rcases x with _ | _
  case' true =>
    by_cases h1 : gn = 0
    case' pos => subst h1
  case false =>
    have HB := Lib.hid ((Below.refl w.heap.size w).alloc (Nat.le_refl _) (iobj ⟨205, ssrc, ntp, time, pks, ocs, ba, bn, bc, ga, gn, gc, media, pa, pn, pc⟩))
    have D := IBlk.new w ⟨205, ssrc, ntp, time, pks, ocs, ba, bn, bc, ga, gn, gc, media, pa, pn, pc⟩
    have c0 := D.c0
    have c1 := D.c1
    have c2 := D.c2
    have c3 := D.c3
    have c4 := D.c4
    have c5 := D.c5
    have c6 := D.c6
    have c7 := D.c7
    have c8 := D.c8
    have c9 := D.c9
    clear D
    go_enter Try.func12, Try.ntmps12
    go_wp2_with fail
    refine (CW.out _).mono ?_
    rintro e w' ⟨rfl, rfl⟩
    go_wp2
    go_ret
    exact ⟨ret_bool (by simp [*]), HB.out⟩
  case neg =>
    have h1' : (gn == 0) = false := by simpa using h1
    have h1i : ((gn : Int) == 0) = false := by simpa using h1
    have HB := Lib.hid ((Below.refl w.heap.size w).alloc (Nat.le_refl _) (iobj ⟨205, ssrc, ntp, time, pks, ocs, ba, bn, bc, ga, gn, gc, media, pa, pn, pc⟩))
    have D := IBlk.new w ⟨205, ssrc, ntp, time, pks, ocs, ba, bn, bc, ga, gn, gc, media, pa, pn, pc⟩
    have c0 := D.c0
    have c1 := D.c1
    have c2 := D.c2
    have c3 := D.c3
    have c4 := D.c4
    have c5 := D.c5
    have c6 := D.c6
    have c7 := D.c7
    have c8 := D.c8
    have c9 := D.c9
    clear D
    go_enter Try.func12, Try.ntmps12
    go_wp2_with fail
    refine (CW.out _).mono ?_
    rintro e w' ⟨rfl, rfl⟩
    go_wp2
    go_ret
    exact ⟨ret_bool (by simp [*]), HB.out⟩
  case pos =>
    have HB := Lib.hid ((Below.refl w.heap.size w).alloc (Nat.le_refl _) (iobj ⟨205, ssrc, ntp, time, pks, ocs, ba, bn, bc, ga, 0, gc, media, pa, pn, pc⟩))
    have D := IBlk.new w ⟨205, ssrc, ntp, time, pks, ocs, ba, bn, bc, ga, 0, gc, media, pa, pn, pc⟩
    have c0 := D.c0
    have c1 := D.c1
    have c2 := D.c2
    have c3 := D.c3
    have c4 := D.c4
    have c5 := D.c5
    have c6 := D.c6
    have c7 := D.c7
    have c8 := D.c8
    have c9 := D.c9
    clear D
    go_enter Try.func12, Try.ntmps12
    go_wp2_with fail
    refine (CW.out _).mono ?_
    rintro e w' ⟨rfl, rfl⟩
    go_wp2_with fail
    refine (CO.out _).mono ?_
    rintro e w2 ⟨rfl, hb2⟩
    have HB2 := Lib.hid (HB.out.trans (hb2.mono HB.out.size))
    clear hb2 c0 c1 c2 c3 c4 c5 c6 c7 c8 c9
    go_wp2
    go_ret
    exact ⟨ret_bool (by simp), HB2.out⟩
set_option maxHeartbeats 2000000 in
theorem may_206 (ssrc ntp time pks ocs : Int) (ba : Option Addr) (bn bc : Nat) (ga : Option Addr) (gn gc : Nat) (media : Int) (pa : Option Addr) (pn pc : Nat) (w : World) :
    Calls Try.prog 12 #[itm ⟨206, ssrc, ntp, time, pks, ocs, ba, bn, bc, ga, gn, gc, media, pa, pn, pc⟩] w (RetB w (mayB ⟨206, ssrc, ntp, time, pks, ocs, ba, bn, bc, ga, gn, gc, media, pa, pn, pc⟩ false)) := by
  have hv : mayB ⟨206, ssrc, ntp, time, pks, ocs, ba, bn, bc, ga, gn, gc, media, pa, pn, pc⟩ false = (decide (pn = 0) && decide (gn = 0) && noRep ⟨206, ssrc, ntp, time, pks, ocs, ba, bn, bc, ga, gn, gc, media, pa, pn, pc⟩) := by unfold mayB; rw [if_neg (show ¬ (206 : Int) = 203 by decide), if_neg (show ¬ (206 : Int) = 205 by decide), if_pos rfl]
  rw [hv]
  have CO : Hid (∀ W, Calls Try.prog 22 #[itm ⟨206, ssrc, ntp, time, pks, ocs, ba, bn, bc, ga, gn, gc, media, pa, pn, pc⟩] W (RetB W (noRep ⟨206, ssrc, ntp, time, pks, ocs, ba, bn, bc, ga, gn, gc, media, pa, pn, pc⟩))) := fun W => noRep_any _ W
  generalize noRep ⟨206, ssrc, ntp, time, pks, ocs, ba, bn, bc, ga, gn, gc, media, pa, pn, pc⟩ = z at CO ⊢
  clear hv
  by_cases h1 : pn = 0
  case' pos =>
    subst h1
    by_cases h2 : gn = 0
    case' pos => subst h2
  case neg =>
    have h2' : (gn == 0) = false := by simpa using h2
    have h2i : ((gn : Int) == 0) = false := by simpa using h2
    have HB := Lib.hid ((Below.refl w.heap.size w).alloc (Nat.le_refl _) (iobj ⟨206, ssrc, ntp, time, pks, ocs, ba, bn, bc, ga, gn, gc, media, pa, 0, pc⟩))
    have D := IBlk.new w ⟨206, ssrc, ntp, time, pks, ocs, ba, bn, bc, ga, gn, gc, media, pa, 0, pc⟩
    have c0 := D.c0
    have c1 := D.c1
    have c2 := D.c2
    have c3 := D.c3
    have c4 := D.c4
    have c5 := D.c5
    have c6 := D.c6
    have c7 := D.c7
    have c8 := D.c8
    have c9 := D.c9
    clear D
    go_enter Try.func12, Try.ntmps12
    go_wp2
    go_ret
    exact ⟨ret_bool (by simp [*]), HB.out⟩
  case neg =>
    have h1' : (pn == 0) = false := by simpa using h1
    have h1i : ((pn : Int) == 0) = false := by simpa using h1
    have HB := Lib.hid ((Below.refl w.heap.size w).alloc (Nat.le_refl _) (iobj ⟨206, ssrc, ntp, time, pks, ocs, ba, bn, bc, ga, gn, gc, media, pa, pn, pc⟩))
    have D := IBlk.new w ⟨206, ssrc, ntp, time, pks, ocs, ba, bn, bc, ga, gn, gc, media, pa, pn, pc⟩
    have c0 := D.c0
    have c1 := D.c1
    have c2 := D.c2
    have c3 := D.c3
    have c4 := D.c4
    have c5 := D.c5
    have c6 := D.c6
    have c7 := D.c7
    have c8 := D.c8
    have c9 := D.c9
    clear D
    go_enter Try.func12, Try.ntmps12
    go_wp2
    go_ret
    exact ⟨ret_bool (by simp [*]), HB.out⟩
  case pos =>
    have HB := Lib.hid ((Below.refl w.heap.size w).alloc (Nat.le_refl _) (iobj ⟨206, ssrc, ntp, time, pks, ocs, ba, bn, bc, ga, 0, gc, media, pa, 0, pc⟩))
    have D := IBlk.new w ⟨206, ssrc, ntp, time, pks, ocs, ba, bn, bc, ga, 0, gc, media, pa, 0, pc⟩
    have c0 := D.c0
    have c1 := D.c1
    have c2 := D.c2
    have c3 := D.c3
    have c4 := D.c4
    have c5 := D.c5
    have c6 := D.c6
    have c7 := D.c7
    have c8 := D.c8
    have c9 := D.c9
    clear D
    go_enter Try.func12, Try.ntmps12
    go_wp2_with fail
    refine (CO.out _).mono ?_
    rintro e w2 ⟨rfl, hb2⟩
    have HB2 := Lib.hid (HB.out.trans (hb2.mono HB.out.size))
    clear hb2 c0 c1 c2 c3 c4 c5 c6 c7 c8 c9
    go_wp2
    go_ret
    exact ⟨ret_bool (by simp), HB2.out⟩
set_option maxHeartbeats 2000000 in
theorem may_rest (v : IV) (r : Bool) (w : World) (k2 : ¬ v.kind = 203) (k3 : ¬ v.kind = 205) (k4 : ¬ v.kind = 206) (CM : Hid (∀ W, Below w.heap.size w W → Calls Try.prog 23 #[itm v] W (RetB W r))) : Calls Try.prog 12 #[itm v] w (RetB w r) := by
  have b2 : (v.kind == 203) = false := by simpa using k2
  have b3 : (v.kind == 205) = false := by simpa using k3
  have b4 : (v.kind == 206) = false := by simpa using k4
  have HB := Lib.hid ((Below.refl w.heap.size w).alloc (Nat.le_refl _) (iobj v))
  have D := IBlk.new w v
  have c0 := D.c0
  have c1 := D.c1
  have c2 := D.c2
  have c3 := D.c3
  have c4 := D.c4
  have c5 := D.c5
  have c6 := D.c6
  have c7 := D.c7
  have c8 := D.c8
  have c9 := D.c9
  clear D
  go_enter Try.func12, Try.ntmps12
  go_wp2_with fail
  refine (CM.out _ HB.out).mono ?_
  rintro e w2 ⟨rfl, hb2⟩
  have HB2 := Lib.hid (HB.out.trans (hb2.mono HB.out.size))
  clear hb2 c0 c1 c2 c3 c4 c5 c6 c7 c8 c9
  go_wp2
  go_ret
  exact ⟨rfl, HB2.out⟩
theorem mayB_eq (i : Itm) (l : ILoc) (h : i.kind = 203 ∨ i.kind = 205 ∨ i.kind = 206) (r : Bool) : mayB (ivOf i l) r = mayI i := by
  unfold mayB mayI noRep sendZ ivOf
  rcases h with h | h | h
  · simp only [h]
    rw [Bool.eq_iff_iff]; simp; constructor <;> (intro h; simp [h])
  · simp only [h]
    rw [Bool.eq_iff_iff]; simp; constructor <;> (intro h; simp [h])
  · simp only [h]
    rw [Bool.eq_iff_iff]; simp; constructor <;> (intro h; simp [h])
theorem rc_may (w : World) (i : Itm) (l : ILoc) (B : Nat) (h : IRd w B i l) (hB : B ≤ w.heap.size) : Calls Try.prog 12 #[itm (ivOf i l)] w (RetB w (mayI i)) := by
  by_cases k2 : i.kind = 203
  · rw [← mayB_eq i l (.inl k2) false, ivOf, k2]
    exact may_203 i.ssrc i.ntp i.time i.pks i.ocs l.ba i.blocks.length l.bc l.ga i.gone.length l.gc i.media l.pa i.pairs.length l.pc w
  by_cases k3 : i.kind = 205
  · rw [← mayB_eq i l (.inr (.inl k3)) false, ivOf, k3]
    exact may_205 i.ssrc i.ntp i.time i.pks i.ocs l.ba i.blocks.length l.bc l.ga i.gone.length l.gc i.media l.pa i.pairs.length l.pc w
  by_cases k4 : i.kind = 206
  · rw [← mayB_eq i l (.inr (.inr k4)) false, ivOf, k4]
    exact may_206 i.ssrc i.ntp i.time i.pks i.ocs l.ba i.blocks.length l.bc l.ga i.gone.length l.gc i.media l.pa i.pairs.length l.pc w
  have e : mayRB i = mayI i := by
    unfold mayRB isRep
    by_cases h0 : i.kind = 200
    · simp [h0]
    · by_cases h1 : i.kind = 201
      · simp [h1]
      · simp [mayI, h0, h1, k2, k3, k4]
  rw [← e]
  exact may_rest (ivOf i l) (mayRB i) w k2 k3 k4 (fun W hW => may_itm W i l B (h.below (hW.mono hB)) (Nat.le_trans hB hW.size))
end Go.Proofs.Ytjbgfaoancmknaa.Fbk
