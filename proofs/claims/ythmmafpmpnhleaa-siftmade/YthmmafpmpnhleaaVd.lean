/- The contracts of rtcp.within, reportsNothing, May. · The contracts of rtcp.sizeOf, rtcp.Size. · The contract of rtcp.Size. -/
import Derived.Test.YthmmafpmpnhleaaQc
import Derived.Test.YthmmafpmpnhleaaVb
import Derived.Test.YthmmafpmpnhleaaQe
import Derived.Handy
set_option maxRecDepth 100000
namespace Go.Proofs.Ythmmafpmpnhleaa.Fbk
open Go.RowKit
set_option linter.unusedVariables false

set_option maxHeartbeats 400000 in
theorem within_any (n m : Int) (w : World) : Calls Try.prog 51 #[.int .i64 n, .int .i64 m] w fun e w' => e = .returned (.bool (decide (1 ≤ n) && decide (n ≤ m))) ∧ w = w' := by
  by_cases h : 1 ≤ n
  · go_enter Try.func51, Try.ntmps51
    go_wp2
    go_ret
    exact ⟨ret_bool (by simp [h]), rfl⟩
  · go_enter Try.func51, Try.ntmps51
    go_wp2
    go_ret
    exact ⟨ret_bool (by rw [decide_eq_false (by omega), Bool.false_and]), rfl⟩
def noRep (v : IV) : Bool := decide (v.ntp = 0) && decide (v.time = 0) && decide (v.pks = 0) && decide (v.ocs = 0) && decide (v.bn = 0)
set_option maxHeartbeats 1000000 in
theorem noRep_any (v : IV) (w : World) : Calls Try.prog 95 #[itm v] w (RetB w (noRep v)) := by
  have D := IBlk.new w v
  have c2 := D.c2
  have c3 := D.c3
  have c4 := D.c4
  have c5 := D.c5
  have c6 := D.c6
  clear D
  unfold noRep
  obtain ⟨kind, ssrc, ntp, time, pks, ocs, ba, bn, bc, ga, gn, gc, media, pa, pn, pc⟩ := v
  simp only at *
  by_cases h2 : ntp = 0
  case' pos =>
    by_cases h3 : time = 0
    case' pos =>
      by_cases h4 : pks = 0
      case' pos => by_cases h5 : ocs = 0
  all_goals
    go_enter Try.func95, Try.ntmps95
    go_wp2
    go_ret
    exact ⟨ret_bool (by rw [Bool.eq_iff_iff]; simp [*]), (Below.refl _ _).alloc (Nat.le_refl _) _⟩
def mayB (v : IV) (r : Bool) : Bool :=
  if v.kind = 203 then (decide (1 ≤ v.gn) && decide (v.gn ≤ 15)) && decide (v.pn = 0) && decide (v.ssrc = 0) && decide (v.media = 0) && noRep v
  else if v.kind = 205 then (decide (1 ≤ v.pn) && decide (v.pn ≤ 16)) && decide (v.gn = 0) && noRep v
  else if v.kind = 206 then decide (v.pn = 0) && decide (v.gn = 0) && noRep v
  else r
set_option maxHeartbeats 2000000 in
theorem may_203 (ssrc ntp time pks ocs : Int) (ba : Option Addr) (bn bc : Nat) (ga : Option Addr) (gn gc : Nat) (media : Int) (pa : Option Addr) (pn pc : Nat) (w : World) :
    Calls Try.prog 76 #[itm ⟨203, ssrc, ntp, time, pks, ocs, ba, bn, bc, ga, gn, gc, media, pa, pn, pc⟩] w (RetB w (mayB ⟨203, ssrc, ntp, time, pks, ocs, ba, bn, bc, ga, gn, gc, media, pa, pn, pc⟩ false)) := by
  have hv : mayB ⟨203, ssrc, ntp, time, pks, ocs, ba, bn, bc, ga, gn, gc, media, pa, pn, pc⟩ false = ((decide (1 ≤ gn) && decide (gn ≤ 15)) && decide (pn = 0) && decide (ssrc = 0) && decide (media = 0) && noRep ⟨203, ssrc, ntp, time, pks, ocs, ba, bn, bc, ga, gn, gc, media, pa, pn, pc⟩) := by unfold mayB; rw [if_pos rfl]
  rw [hv]
  have CO : Hid (∀ W, Calls Try.prog 95 #[itm ⟨203, ssrc, ntp, time, pks, ocs, ba, bn, bc, ga, gn, gc, media, pa, pn, pc⟩] W (RetB W (noRep ⟨203, ssrc, ntp, time, pks, ocs, ba, bn, bc, ga, gn, gc, media, pa, pn, pc⟩))) := fun W => noRep_any _ W
  have CW : Hid (∀ W, Calls Try.prog 51 #[.int .i64 gn, .int .i64 15] W fun e w' => e = .returned (.bool (decide (1 ≤ gn) && decide (gn ≤ 15))) ∧ W = w') := fun W => by
    have := within_any gn 15 W
    rwa [show (decide (1 ≤ (gn : Int)) && decide ((gn : Int) ≤ 15)) = (decide (1 ≤ gn) && decide (gn ≤ 15)) from by rw [Bool.eq_iff_iff]; simp; omega] at this
  generalize (decide (1 ≤ gn) && decide (gn ≤ 15)) = x at CW ⊢
  generalize noRep ⟨203, ssrc, ntp, time, pks, ocs, ba, bn, bc, ga, gn, gc, media, pa, pn, pc⟩ = z at CO ⊢
  clear hv
  rcases x with _ | _
  case' true =>
    by_cases h1 : pn = 0
    case' pos =>
      subst h1
      by_cases h2 : ssrc = 0
      case' pos =>
        subst h2
        by_cases h3 : media = 0
        case' pos => subst h3
  case false =>
    have HB := Lib.hid ((Below.refl w.heap.size w).alloc (Nat.le_refl _) (iobj ⟨203, ssrc, ntp, time, pks, ocs, ba, bn, bc, ga, gn, gc, media, pa, pn, pc⟩))
    have D := IBlk.new w ⟨203, ssrc, ntp, time, pks, ocs, ba, bn, bc, ga, gn, gc, media, pa, pn, pc⟩
    obtain ⟨c0, c1, c2, c3, c4, c5, c6, c7, c8, c9⟩ := D.cells
    clear D
    go_enter Try.func76, Try.ntmps76
    go_wp2_with fail
    refine (CW.out _).mono ?_
    rintro e w' ⟨rfl, rfl⟩
    go_wp2
    go_ret
    exact ⟨ret_bool (by simp [*]), HB.out⟩
  case neg =>
    have h3' : (media == 0) = false := by simpa using h3
    have HB := Lib.hid ((Below.refl w.heap.size w).alloc (Nat.le_refl _) (iobj ⟨203, 0, ntp, time, pks, ocs, ba, bn, bc, ga, gn, gc, media, pa, 0, pc⟩))
    have D := IBlk.new w ⟨203, 0, ntp, time, pks, ocs, ba, bn, bc, ga, gn, gc, media, pa, 0, pc⟩
    obtain ⟨c0, c1, c2, c3, c4, c5, c6, c7, c8, c9⟩ := D.cells
    clear D
    go_enter Try.func76, Try.ntmps76
    go_wp2_with fail
    refine (CW.out _).mono ?_
    rintro e w' ⟨rfl, rfl⟩
    go_wp2
    go_ret
    exact ⟨ret_bool (by simp [*]), HB.out⟩
  case neg =>
    have h2' : (ssrc == 0) = false := by simpa using h2
    have HB := Lib.hid ((Below.refl w.heap.size w).alloc (Nat.le_refl _) (iobj ⟨203, ssrc, ntp, time, pks, ocs, ba, bn, bc, ga, gn, gc, media, pa, 0, pc⟩))
    have D := IBlk.new w ⟨203, ssrc, ntp, time, pks, ocs, ba, bn, bc, ga, gn, gc, media, pa, 0, pc⟩
    obtain ⟨c0, c1, c2, c3, c4, c5, c6, c7, c8, c9⟩ := D.cells
    clear D
    go_enter Try.func76, Try.ntmps76
    go_wp2_with fail
    refine (CW.out _).mono ?_
    rintro e w' ⟨rfl, rfl⟩
    go_wp2
    go_ret
    exact ⟨ret_bool (by simp [*]), HB.out⟩
  case neg =>
    have h1' : (pn == 0) = false := by simpa using h1
    have h1i : ((pn : Int) == 0) = false := by simpa using h1
    have HB := Lib.hid ((Below.refl w.heap.size w).alloc (Nat.le_refl _) (iobj ⟨203, ssrc, ntp, time, pks, ocs, ba, bn, bc, ga, gn, gc, media, pa, pn, pc⟩))
    have D := IBlk.new w ⟨203, ssrc, ntp, time, pks, ocs, ba, bn, bc, ga, gn, gc, media, pa, pn, pc⟩
    obtain ⟨c0, c1, c2, c3, c4, c5, c6, c7, c8, c9⟩ := D.cells
    clear D
    go_enter Try.func76, Try.ntmps76
    go_wp2_with fail
    refine (CW.out _).mono ?_
    rintro e w' ⟨rfl, rfl⟩
    go_wp2
    go_ret
    exact ⟨ret_bool (by simp [*]), HB.out⟩
  case pos =>
    have HB := Lib.hid ((Below.refl w.heap.size w).alloc (Nat.le_refl _) (iobj ⟨203, 0, ntp, time, pks, ocs, ba, bn, bc, ga, gn, gc, 0, pa, 0, pc⟩))
    have D := IBlk.new w ⟨203, 0, ntp, time, pks, ocs, ba, bn, bc, ga, gn, gc, 0, pa, 0, pc⟩
    obtain ⟨c0, c1, c2, c3, c4, c5, c6, c7, c8, c9⟩ := D.cells
    clear D
    go_enter Try.func76, Try.ntmps76
    go_wp2_with fail
    refine (CW.out _).mono ?_
    rintro e w' ⟨rfl, rfl⟩
    go_wp2_with fail
    refine (CO.out _).mono ?_
    rintro e w2 ⟨rfl, hb2⟩
    have HB2 := Lib.hid (HB.out.trans (hb2.mono HB.out.size))
    clear hb2 c0 c1 c2 c3 c4 c5 c6 c7 c8 c9
    go_wp2
    go_ret
    exact ⟨ret_bool (by simp), HB2.out⟩
set_option maxHeartbeats 2000000 in
theorem may_205 (ssrc ntp time pks ocs : Int) (ba : Option Addr) (bn bc : Nat) (ga : Option Addr) (gn gc : Nat) (media : Int) (pa : Option Addr) (pn pc : Nat) (w : World) :
    Calls Try.prog 76 #[itm ⟨205, ssrc, ntp, time, pks, ocs, ba, bn, bc, ga, gn, gc, media, pa, pn, pc⟩] w (RetB w (mayB ⟨205, ssrc, ntp, time, pks, ocs, ba, bn, bc, ga, gn, gc, media, pa, pn, pc⟩ false)) := by
  have hv : mayB ⟨205, ssrc, ntp, time, pks, ocs, ba, bn, bc, ga, gn, gc, media, pa, pn, pc⟩ false = ((decide (1 ≤ pn) && decide (pn ≤ 16)) && decide (gn = 0) && noRep ⟨205, ssrc, ntp, time, pks, ocs, ba, bn, bc, ga, gn, gc, media, pa, pn, pc⟩) := by unfold mayB; rw [if_neg (show ¬ (205 : Int) = 203 by decide), if_pos rfl]
  rw [hv]
  have CO : Hid (∀ W, Calls Try.prog 95 #[itm ⟨205, ssrc, ntp, time, pks, ocs, ba, bn, bc, ga, gn, gc, media, pa, pn, pc⟩] W (RetB W (noRep ⟨205, ssrc, ntp, time, pks, ocs, ba, bn, bc, ga, gn, gc, media, pa, pn, pc⟩))) := fun W => noRep_any _ W
  have CW : Hid (∀ W, Calls Try.prog 51 #[.int .i64 pn, .int .i64 16] W fun e w' => e = .returned (.bool (decide (1 ≤ pn) && decide (pn ≤ 16))) ∧ W = w') := fun W => by
    have := within_any pn 16 W
    rwa [show (decide (1 ≤ (pn : Int)) && decide ((pn : Int) ≤ 16)) = (decide (1 ≤ pn) && decide (pn ≤ 16)) from by rw [Bool.eq_iff_iff]; simp; omega] at this
  generalize (decide (1 ≤ pn) && decide (pn ≤ 16)) = x at CW ⊢
  generalize noRep ⟨205, ssrc, ntp, time, pks, ocs, ba, bn, bc, ga, gn, gc, media, pa, pn, pc⟩ = z at CO ⊢
  clear hv
  rcases x with _ | _
  case' true =>
    by_cases h1 : gn = 0
    case' pos => subst h1
  case false =>
    have HB := Lib.hid ((Below.refl w.heap.size w).alloc (Nat.le_refl _) (iobj ⟨205, ssrc, ntp, time, pks, ocs, ba, bn, bc, ga, gn, gc, media, pa, pn, pc⟩))
    have D := IBlk.new w ⟨205, ssrc, ntp, time, pks, ocs, ba, bn, bc, ga, gn, gc, media, pa, pn, pc⟩
    obtain ⟨c0, c1, c2, c3, c4, c5, c6, c7, c8, c9⟩ := D.cells
    clear D
    go_enter Try.func76, Try.ntmps76
    go_wp2_with fail
    refine (CW.out _).mono ?_
    rintro e w' ⟨rfl, rfl⟩
    go_wp2
    go_ret
    exact ⟨ret_bool (by simp [*]), HB.out⟩
  case neg =>
    have h1' : (gn == 0) = false := by simpa using h1
    have h1i : ((gn : Int) == 0) = false := by simpa using h1
    have HB := Lib.hid ((Below.refl w.heap.size w).alloc (Nat.le_refl _) (iobj ⟨205, ssrc, ntp, time, pks, ocs, ba, bn, bc, ga, gn, gc, media, pa, pn, pc⟩))
    have D := IBlk.new w ⟨205, ssrc, ntp, time, pks, ocs, ba, bn, bc, ga, gn, gc, media, pa, pn, pc⟩
    obtain ⟨c0, c1, c2, c3, c4, c5, c6, c7, c8, c9⟩ := D.cells
    clear D
    go_enter Try.func76, Try.ntmps76
    go_wp2_with fail
    refine (CW.out _).mono ?_
    rintro e w' ⟨rfl, rfl⟩
    go_wp2
    go_ret
    exact ⟨ret_bool (by simp [*]), HB.out⟩
  case pos =>
    have HB := Lib.hid ((Below.refl w.heap.size w).alloc (Nat.le_refl _) (iobj ⟨205, ssrc, ntp, time, pks, ocs, ba, bn, bc, ga, 0, gc, media, pa, pn, pc⟩))
    have D := IBlk.new w ⟨205, ssrc, ntp, time, pks, ocs, ba, bn, bc, ga, 0, gc, media, pa, pn, pc⟩
    obtain ⟨c0, c1, c2, c3, c4, c5, c6, c7, c8, c9⟩ := D.cells
    clear D
    go_enter Try.func76, Try.ntmps76
    go_wp2_with fail
    refine (CW.out _).mono ?_
    rintro e w' ⟨rfl, rfl⟩
    go_wp2_with fail
    refine (CO.out _).mono ?_
    rintro e w2 ⟨rfl, hb2⟩
    have HB2 := Lib.hid (HB.out.trans (hb2.mono HB.out.size))
    clear hb2 c0 c1 c2 c3 c4 c5 c6 c7 c8 c9
    go_wp2
    go_ret
    exact ⟨ret_bool (by simp), HB2.out⟩
set_option maxHeartbeats 2000000 in
theorem may_206 (ssrc ntp time pks ocs : Int) (ba : Option Addr) (bn bc : Nat) (ga : Option Addr) (gn gc : Nat) (media : Int) (pa : Option Addr) (pn pc : Nat) (w : World) :
    Calls Try.prog 76 #[itm ⟨206, ssrc, ntp, time, pks, ocs, ba, bn, bc, ga, gn, gc, media, pa, pn, pc⟩] w (RetB w (mayB ⟨206, ssrc, ntp, time, pks, ocs, ba, bn, bc, ga, gn, gc, media, pa, pn, pc⟩ false)) := by
  have hv : mayB ⟨206, ssrc, ntp, time, pks, ocs, ba, bn, bc, ga, gn, gc, media, pa, pn, pc⟩ false = (decide (pn = 0) && decide (gn = 0) && noRep ⟨206, ssrc, ntp, time, pks, ocs, ba, bn, bc, ga, gn, gc, media, pa, pn, pc⟩) := by unfold mayB; rw [if_neg (show ¬ (206 : Int) = 203 by decide), if_neg (show ¬ (206 : Int) = 205 by decide), if_pos rfl]
  rw [hv]
  have CO : Hid (∀ W, Calls Try.prog 95 #[itm ⟨206, ssrc, ntp, time, pks, ocs, ba, bn, bc, ga, gn, gc, media, pa, pn, pc⟩] W (RetB W (noRep ⟨206, ssrc, ntp, time, pks, ocs, ba, bn, bc, ga, gn, gc, media, pa, pn, pc⟩))) := fun W => noRep_any _ W
  generalize noRep ⟨206, ssrc, ntp, time, pks, ocs, ba, bn, bc, ga, gn, gc, media, pa, pn, pc⟩ = z at CO ⊢
  clear hv
  by_cases h1 : pn = 0
  case' pos =>
    subst h1
    by_cases h2 : gn = 0
    case' pos => subst h2
  case neg =>
    have h2' : (gn == 0) = false := by simpa using h2
    have h2i : ((gn : Int) == 0) = false := by simpa using h2
    have HB := Lib.hid ((Below.refl w.heap.size w).alloc (Nat.le_refl _) (iobj ⟨206, ssrc, ntp, time, pks, ocs, ba, bn, bc, ga, gn, gc, media, pa, 0, pc⟩))
    have D := IBlk.new w ⟨206, ssrc, ntp, time, pks, ocs, ba, bn, bc, ga, gn, gc, media, pa, 0, pc⟩
    obtain ⟨c0, c1, c2, c3, c4, c5, c6, c7, c8, c9⟩ := D.cells
    clear D
    go_enter Try.func76, Try.ntmps76
    go_wp2
    go_ret
    exact ⟨ret_bool (by simp [*]), HB.out⟩
  case neg =>
    have h1' : (pn == 0) = false := by simpa using h1
    have h1i : ((pn : Int) == 0) = false := by simpa using h1
    have HB := Lib.hid ((Below.refl w.heap.size w).alloc (Nat.le_refl _) (iobj ⟨206, ssrc, ntp, time, pks, ocs, ba, bn, bc, ga, gn, gc, media, pa, pn, pc⟩))
    have D := IBlk.new w ⟨206, ssrc, ntp, time, pks, ocs, ba, bn, bc, ga, gn, gc, media, pa, pn, pc⟩
    obtain ⟨c0, c1, c2, c3, c4, c5, c6, c7, c8, c9⟩ := D.cells
    clear D
    go_enter Try.func76, Try.ntmps76
    go_wp2
    go_ret
    exact ⟨ret_bool (by simp [*]), HB.out⟩
  case pos =>
    have HB := Lib.hid ((Below.refl w.heap.size w).alloc (Nat.le_refl _) (iobj ⟨206, ssrc, ntp, time, pks, ocs, ba, bn, bc, ga, 0, gc, media, pa, 0, pc⟩))
    have D := IBlk.new w ⟨206, ssrc, ntp, time, pks, ocs, ba, bn, bc, ga, 0, gc, media, pa, 0, pc⟩
    obtain ⟨c0, c1, c2, c3, c4, c5, c6, c7, c8, c9⟩ := D.cells
    clear D
    go_enter Try.func76, Try.ntmps76
    go_wp2_with fail
    refine (CO.out _).mono ?_
    rintro e w2 ⟨rfl, hb2⟩
    have HB2 := Lib.hid (HB.out.trans (hb2.mono HB.out.size))
    clear hb2 c0 c1 c2 c3 c4 c5 c6 c7 c8 c9
    go_wp2
    go_ret
    exact ⟨ret_bool (by simp), HB2.out⟩
set_option maxHeartbeats 2000000 in
theorem may_rest (v : IV) (r : Bool) (w : World) (k2 : ¬ v.kind = 203) (k3 : ¬ v.kind = 205) (k4 : ¬ v.kind = 206) (CM : Hid (∀ W, Below w.heap.size w W → Calls Try.prog 96 #[itm v] W (RetB W r))) : Calls Try.prog 76 #[itm v] w (RetB w r) := by
  have b2 : (v.kind == 203) = false := by simpa using k2
  have b3 : (v.kind == 205) = false := by simpa using k3
  have b4 : (v.kind == 206) = false := by simpa using k4
  have HB := Lib.hid ((Below.refl w.heap.size w).alloc (Nat.le_refl _) (iobj v))
  have D := IBlk.new w v
  obtain ⟨c0, c1, c2, c3, c4, c5, c6, c7, c8, c9⟩ := D.cells
  clear D
  go_enter Try.func76, Try.ntmps76
  go_wp2_with fail
  refine (CM.out _ HB.out).mono ?_
  rintro e w2 ⟨rfl, hb2⟩
  have HB2 := Lib.hid (HB.out.trans (hb2.mono HB.out.size))
  clear hb2 c0 c1 c2 c3 c4 c5 c6 c7 c8 c9
  go_wp2
  go_ret
  exact ⟨rfl, HB2.out⟩
theorem mayB_eq (i : Itm) (l : ILoc) (h : i.kind = 203 ∨ i.kind = 205 ∨ i.kind = 206) (r : Bool) : mayB (ivOf i l) r = mayI i := by
  unfold mayB mayI noRep sendZ ivOf
  rcases h with h | h | h
  · simp only [h]
    rw [Bool.eq_iff_iff]; simp; constructor <;> (intro h; simp [h])
  · simp only [h]
    rw [Bool.eq_iff_iff]; simp; constructor <;> (intro h; simp [h])
  · simp only [h]
    rw [Bool.eq_iff_iff]; simp; constructor <;> (intro h; simp [h])
theorem rc_may (w : World) (i : Itm) (l : ILoc) (B : Nat) (h : IRd w B i l) (hB : B ≤ w.heap.size) : Calls Try.prog 76 #[itm (ivOf i l)] w (RetB w (mayI i)) := by
  by_cases k2 : i.kind = 203
  · rw [← mayB_eq i l (.inl k2) false, ivOf, k2]
    exact may_203 i.ssrc i.ntp i.time i.pks i.ocs l.ba i.blocks.length l.bc l.ga i.gone.length l.gc i.media l.pa i.pairs.length l.pc w
  by_cases k3 : i.kind = 205
  · rw [← mayB_eq i l (.inr (.inl k3)) false, ivOf, k3]
    exact may_205 i.ssrc i.ntp i.time i.pks i.ocs l.ba i.blocks.length l.bc l.ga i.gone.length l.gc i.media l.pa i.pairs.length l.pc w
  by_cases k4 : i.kind = 206
  · rw [← mayB_eq i l (.inr (.inr k4)) false, ivOf, k4]
    exact may_206 i.ssrc i.ntp i.time i.pks i.ocs l.ba i.blocks.length l.bc l.ga i.gone.length l.gc i.media l.pa i.pairs.length l.pc w
  have e : mayRB i = mayI i := by
    unfold mayRB isRep
    by_cases h0 : i.kind = 200
    · simp [h0]
    · by_cases h1 : i.kind = 201
      · simp [h1]
      · simp [mayI, h0, h1, k2, k3, k4]
  rw [← e]
  exact may_rest (ivOf i l) (mayRB i) w k2 k3 k4 (fun W hW => may_itm W i l B (h.below (hW.mono hB)) (Nat.le_trans hB hW.size))
end Go.Proofs.Ythmmafpmpnhleaa.Fbk

namespace Go.Proofs.Ythmmafpmpnhleaa.Fbk
open Go.RowKit
set_option linter.unusedVariables false

set_option maxHeartbeats 1000000 in
theorem size_203 (ssrc ntp time pks ocs : Int) (ba : Option Addr) (bn bc : Nat) (ga : Option Addr) (gn gc : Nat) (media : Int) (pa : Option Addr) (pn pc : Nat) (w : World) (h : gn ≤ 140737488351232) :
    Calls Try.prog 77 #[itm ⟨203, ssrc, ntp, time, pks, ocs, ba, bn, bc, ga, gn, gc, media, pa, pn, pc⟩] w (RetI w (4 + 4 * (gn : Int))) := by
  have HB := Lib.hid ((Below.refl w.heap.size w).alloc (Nat.le_refl _) (iobj ⟨203, ssrc, ntp, time, pks, ocs, ba, bn, bc, ga, gn, gc, media, pa, pn, pc⟩))
  have D := IBlk.new w ⟨203, ssrc, ntp, time, pks, ocs, ba, bn, bc, ga, gn, gc, media, pa, pn, pc⟩
  have c0 := D.c0
  have c7 := D.c7
  clear D
  go_enter Try.func77, Try.ntmps77
  go_wp2
  go_ret
  exact ⟨rfl, HB.out⟩
set_option maxHeartbeats 1000000 in
theorem size_205 (v : IV) (w : World) (hk : v.kind = 205 ∨ v.kind = 206) (h : v.pn ≤ 140737488351232) :
    Calls Try.prog 77 #[itm v] w (RetI w (4 + 4 * (2 + (v.pn : Int)))) := by
  have HB := Lib.hid ((Below.refl w.heap.size w).alloc (Nat.le_refl _) (iobj v))
  have D := IBlk.new w v
  have c0 := D.c0
  have c9 := D.c9
  clear D
  rcases hk with hk | hk
  all_goals
    rw [hk] at c0
    clear hk
    go_enter Try.func77, Try.ntmps77
    go_wp2
    go_ret
    exact ⟨rfl, HB.out⟩
set_option maxHeartbeats 1000000 in
theorem size_rest (v : IV) (ys : List Int) (n : Int) (w : World) (k2 : ¬ v.kind = 203) (k3 : ¬ v.kind = 205) (k4 : ¬ v.kind = 206) (CM : Hid (∀ W, Below w.heap.size w W → Calls Try.prog 80 #[itm v] W (RetR W ys n))) :
    Calls Try.prog 77 #[itm v] w (RetI w ys.length) := by
  have b2 : (v.kind == 203) = false := by simpa using k2
  have b3 : (v.kind == 205) = false := by simpa using k3
  have b4 : (v.kind == 206) = false := by simpa using k4
  have HB := Lib.hid ((Below.refl w.heap.size w).alloc (Nat.le_refl _) (iobj v))
  have D := IBlk.new w v
  obtain ⟨c0, c1, c2, c3, c4, c5, c6, c7, c8, c9⟩ := D.cells
  clear D
  go_enter Try.func77, Try.ntmps77
  go_wp2_with fail
  refine (CM.out _ HB.out).mono ?_
  rintro e w2 ⟨A, c, rfl, ho, hb2⟩
  have HB2 := Lib.hid (HB.out.trans (hb2.mono HB.out.size))
  clear hb2 ho c0 c1 c2 c3 c4 c5 c6 c7 c8 c9
  go_wp2
  go_ret
  exact ⟨rfl, HB2.out⟩
theorem encI_203 (i : Itm) (h : i.kind = 203) (hM : MayI i) : (encI i).length = 4 + 4 * i.gone.length := by
  rcases hM with ⟨k, _⟩ | ⟨k, _⟩ | ⟨k, s, b, p, m, z, r1, r2⟩ | ⟨k, _⟩ | ⟨k, _⟩
  all_goals (try (rw [h] at k; exact absurd k (by decide)))
  rw [encI_length]; simp [bodyI, h, b, p, bes_length, blosB, pairsB]
theorem encI_205 (i : Itm) (h : i.kind = 205 ∨ i.kind = 206) (hM : MayI i) : (encI i).length = 4 + 4 * (2 + i.pairs.length) := by
  have h3 : ¬ i.kind = 203 := by omega
  have h0 : ¬ i.kind = 200 := by omega
  rcases hM with ⟨k, _⟩ | ⟨k, _⟩ | ⟨k, _⟩ | ⟨k, s, b, g, _⟩ | ⟨k, s, b, g, _⟩
  all_goals (try (exfalso; omega))
  all_goals
    rw [encI_length]; simp [bodyI, k, b, g, bes, blosB, pairsB_length, be_length]; omega
theorem rc_size (w : World) (i : Itm) (l : ILoc) (B : Nat) (ho : i.Ok) (h : IRd w B i l) (hB : B ≤ w.heap.size) (hM : MayI i) : Calls Try.prog 77 #[itm (ivOf i l)] w (RetI w (encI i).length) := by
  by_cases k2 : i.kind = 203
  · have e := encI_203 i k2 hM
    have := size_203 i.ssrc i.ntp i.time i.pks i.ocs l.ba i.blocks.length l.bc l.ga i.gone.length l.gc i.media l.pa i.pairs.length l.pc w h.gn
    rw [e, ivOf, k2]
    simpa using this
  by_cases k3 : i.kind = 205 ∨ i.kind = 206
  · have e := encI_205 i k3 hM
    have := size_205 (ivOf i l) w k3 h.pn
    rw [e]
    simpa [ivOf] using this
  have e : putRB i = encI i := by
    have hr : isRep i.kind = true := by
      rcases hM with ⟨k, _⟩ | ⟨k, _⟩ | ⟨k, _⟩ | ⟨k, _⟩ | ⟨k, _⟩ <;> simp [isRep, k] <;> omega
    rw [putRB, putRE, hr, (mayI_iff i).2 hM]; rfl
  rw [← e]
  exact size_rest (ivOf i l) (putRB i) (putRE i) w k2 (fun h => k3 (.inl h)) (fun h => k3 (.inr h)) (fun W hW => put_itm W i l B ho (h.below (hW.mono hB)) (Nat.le_trans hB hW.size))
end Go.Proofs.Ythmmafpmpnhleaa.Fbk

namespace Go.Proofs.Ythmmafpmpnhleaa.Fbk
open Go.RowKit
set_option linter.unusedVariables false

theorem mayL_snoc (l : List Itm) (i : Itm) : mayL (l ++ [i]) = (mayL l && mayI i) := by simp [mayL]
theorem encL_snoc (l : List Itm) (i : Itm) : encL (l ++ [i]) = encL l ++ encI i := by rw [encL_append]; simp [encL]
theorem its_len (ps : List (Itm × ILoc)) : (its ps).length = ps.length := by simp [its]
theorem sizeL_no {ps : List (Itm × ILoc)} {p : Itm × ILoc} (h : p ∈ ps) (hm : mayI p.1 = false) : sizeL (its ps) = 0 := by
  have : ¬ mayL (its ps) = true := by
    rw [mayL_iff]
    intro hM
    have := hM p.1 (List.mem_map.2 ⟨p, h, rfl⟩)
    rw [← mayI_iff, hm] at this
    cases this
  rw [sizeL, if_neg this]
set_option maxHeartbeats 4000000 in
theorem rc_sizes (a : Option Addr) (n c B : Nat) (ps : List (Itm × ILoc)) (w : World) (hl : n ≤ 140737488351232) (hr : ItsRd w B a n ps) (hB : B ≤ w.heap.size) (hok : OkL (its ps)) :
    Calls Try.prog 52 #[.slice a n c] w (RetI w (sizeL (its ps))) := by
  have HR := Lib.hid hr
  have HO := Lib.hid hok
  clear hr hok
  go_enter Try.func52, Try.ntmps52
  go_wp2
  go_loopw [3, 8] (fun sn sk wx => ∃ k N : Nat, k ≤ n ∧ N ≤ 388 * k ∧ sk = .int .i64 k ∧ sn = .int .i64 N ∧ Hid (mayL (its (ps.take k)) = true ∧ (encL (its (ps.take k))).length = N) ∧ Hid (Below w.heap.size w wx)) (fun _ sk _ => n - (intOf sk).toNat)
  case atStart => exact ⟨0, 0, by omega, by omega, rfl, rfl, ⟨rfl, rfl⟩, Below.refl _ _⟩
  case round =>
    obtain ⟨k, N, hk, hN, rfl, rfl, hq, hb⟩ := hrel
    rename World => wx
    by_cases hlt : k < n
    · obtain ⟨b, off, p, v, rfl, hbB, hx, hm, hv, hi, d0, d1, d2, d3, d4, d5, d6, d7, d8, d9⟩ := its_at (HR.out.below (hb.out.mono hB)) hlt
      have hoi := HO.out p.1 (List.mem_map.2 ⟨p, hm, rfl⟩)
      have hBx : B ≤ wx.heap.size := Nat.le_trans hB hb.out.size
      have CM : Hid (∀ W, Below wx.heap.size wx W → Calls Try.prog 76 #[itm v] W (RetB W (mayI p.1))) := fun W hW => hv ▸ rc_may W p.1 p.2 B (hi.below (hW.mono hBx)) (Nat.le_trans hBx hW.size)
      have HD := Lib.hid (IBlk.new wx v)
      obtain ⟨c0, c1, c2, c3, c4, c5, c6, c7, c8, c9⟩ := HD.out.cells
      have HX : Hid (Below wx.heap.size wx (wx.alloc (iobj v))) := (Below.refl _ _).alloc (Nat.le_refl _) _
      rcases hmi : mayI p.1 with _ | _
      · have HZ := Lib.hid (sizeL_no hm hmi)
        rw [hmi] at CM
        clear hv hi hx hm hoi hmi
        go_wp2_with fail
        refine (CM.out _ HX.out).mono ?_
        rintro e w1 ⟨rfl, hb1⟩
        have HB1 := Lib.hid (hb.out.trans ((HX.out.trans (hb1.mono HX.out.size)).mono hb.out.size))
        clear hb1 c0 c1 c2 c3 c4 c5 c6 c7 c8 c9
        go_wp2
        go_ret
        exact ⟨by rw [HZ.out]; rfl, HB1.out⟩
      · have hMI := (mayI_iff p.1).1 hmi
        obtain ⟨M, hM⟩ : ∃ M, (encI p.1).length = M := ⟨_, rfl⟩
        have hM8 : M ≤ 388 := by rw [← hM]; exact encI_max p.1 hMI
        have CS : Hid (∀ W, Below wx.heap.size wx W → Calls Try.prog 77 #[itm v] W (RetI W (M : Nat))) := fun W hW => by
          have := rc_size W p.1 p.2 B hoi (hi.below (hW.mono hBx)) (Nat.le_trans hBx hW.size) hMI
          rwa [← hv, hM] at this
        have HQ : Hid (mayL (its (ps.take (k + 1))) = true ∧ (encL (its (ps.take (k + 1)))).length = N + M) := by
          show mayL (its (ps.take (k + 1))) = true ∧ (encL (its (ps.take (k + 1)))).length = N + M
          rw [its_take_succ hx, mayL_snoc, encL_snoc, hq.out.1, hmi, List.length_append, hq.out.2, hM]
          exact ⟨rfl, rfl⟩
        rw [hmi] at CM
        clear hv hi hx hm hoi hmi hM hMI
        go_wp2_with fail
        refine (CM.out _ HX.out).mono ?_
        rintro e w1 ⟨rfl, hb1⟩
        have HX1 := Lib.hid (HX.out.trans (hb1.mono HX.out.size))
        have HD1 := Lib.hid (HD.out.bel hb1)
        clear hb1 c0 c1 c2 c3 c4 c5 c6 c7 c8 c9 HX HD
        obtain ⟨c0, c1, c2, c3, c4, c5, c6, c7, c8, c9⟩ := HD1.out.cells
        go_wp2_with fail
        refine (CS.out _ HX1.out).mono ?_
        rintro e w2 ⟨rfl, hb2⟩
        have HB2 := Lib.hid (hb.out.trans ((HX1.out.trans (hb2.mono HX1.out.size)).mono hb.out.size))
        clear hb2 c0 c1 c2 c3 c4 c5 c6 c7 c8 c9
        go_wp2
        go_roundw
        case rel => exact ⟨k + 1, N + M, by omega, by omega, by go_num, by go_num, HQ, HB2⟩
        case measure => simp [intOf]; omega
    · obtain rfl : k = n := by omega
      have HZ : Hid (sizeL (its ps) = N) := by
        show sizeL (its ps) = N
        have hq := hq.out
        rw [List.take_of_length_le (by rw [HR.out.len]; exact Nat.le_refl _)] at hq
        rw [sizeL, if_pos hq.1, hq.2]
      go_wp2
      go_ret
      exact ⟨by rw [HZ.out]; rfl, hb.out⟩
end Go.Proofs.Ythmmafpmpnhleaa.Fbk
