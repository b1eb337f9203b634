/- The contracts of the reference's bare, MayItem: every kind. -/
import Derived.Test.YtjbgfaoancmknaaQi
import Derived.Test.YtjbgfaoancmknaaQj
namespace Go.Proofs.Ytjbgfaoancmknaa.Fbk
open Go.RowKit
set_option linter.unusedVariables false

set_option maxHeartbeats 4000000 in
theorem bare_203 (v : IV) (w : World) (hk : v.kind = 203) : Calls Try.prog 24 #[itm v] w (RetB w (bareV v)) := by
  have D := IBlk.new w v
  have c0 := D.c0
  have c1 := D.c1
  have c2 := D.c2
  have c3 := D.c3
  have c4 := D.c4
  have c5 := D.c5
  have c6 := D.c6
  have c8 := D.c8
  have c9 := D.c9
  clear D
  unfold bareV sendV isRep
  obtain ⟨kind, ssrc, ntp, time, pks, ocs, ba, bn, bc, ga, gn, gc, media, pa, pn, pc⟩ := v
  simp only at *
  subst hk
  by_cases t_ntp : ntp = 0
  case' pos =>
    subst t_ntp
    by_cases t_time : time = 0
    case' pos =>
      subst t_time
      by_cases t_pks : pks = 0
      case' pos =>
        subst t_pks
        by_cases t_ocs : ocs = 0
        case' pos =>
          subst t_ocs
          by_cases t_bn : bn = 0
          case' neg => have u_bn : (0 : Int) < bn := by omega
          case' pos =>
            subst t_bn
            by_cases t_pn : pn = 0
            case' neg => have u_pn : (0 : Int) < pn := by omega
            case' pos =>
              subst t_pn
              by_cases t_media : media = 0
              case' pos =>
                subst t_media
                skip
  all_goals
    go_enter Try.func24, Try.ntmps24
    go_wp2
    go_ret
    exact ⟨ret_bool (by rw [Bool.eq_iff_iff]; simp [*]), (Below.refl _ _).alloc (Nat.le_refl _) _⟩
set_option maxHeartbeats 4000000 in
theorem bare_205 (v : IV) (w : World) (hk : v.kind = 205) : Calls Try.prog 24 #[itm v] w (RetB w (bareV v)) := by
  have D := IBlk.new w v
  have c0 := D.c0
  have c2 := D.c2
  have c3 := D.c3
  have c4 := D.c4
  have c5 := D.c5
  have c6 := D.c6
  have c7 := D.c7
  clear D
  unfold bareV sendV isRep
  obtain ⟨kind, ssrc, ntp, time, pks, ocs, ba, bn, bc, ga, gn, gc, media, pa, pn, pc⟩ := v
  simp only at *
  subst hk
  by_cases t_ntp : ntp = 0
  case' pos =>
    subst t_ntp
    by_cases t_time : time = 0
    case' pos =>
      subst t_time
      by_cases t_pks : pks = 0
      case' pos =>
        subst t_pks
        by_cases t_ocs : ocs = 0
        case' pos =>
          subst t_ocs
          by_cases t_bn : bn = 0
          case' neg => have u_bn : (0 : Int) < bn := by omega
          case' pos =>
            subst t_bn
            by_cases t_gn : gn = 0
            case' neg => have u_gn : (0 : Int) < gn := by omega
            case' pos =>
              subst t_gn
              skip
  all_goals
    go_enter Try.func24, Try.ntmps24
    go_wp2
    go_ret
    exact ⟨ret_bool (by rw [Bool.eq_iff_iff]; simp [*]), (Below.refl _ _).alloc (Nat.le_refl _) _⟩
set_option maxHeartbeats 4000000 in
theorem bare_206 (v : IV) (w : World) (hk : v.kind = 206) : Calls Try.prog 24 #[itm v] w (RetB w (bareV v)) := by
  have D := IBlk.new w v
  have c0 := D.c0
  have c2 := D.c2
  have c3 := D.c3
  have c4 := D.c4
  have c5 := D.c5
  have c6 := D.c6
  have c7 := D.c7
  have c9 := D.c9
  clear D
  unfold bareV sendV isRep
  obtain ⟨kind, ssrc, ntp, time, pks, ocs, ba, bn, bc, ga, gn, gc, media, pa, pn, pc⟩ := v
  simp only at *
  subst hk
  by_cases t_ntp : ntp = 0
  case' pos =>
    subst t_ntp
    by_cases t_time : time = 0
    case' pos =>
      subst t_time
      by_cases t_pks : pks = 0
      case' pos =>
        subst t_pks
        by_cases t_ocs : ocs = 0
        case' pos =>
          subst t_ocs
          by_cases t_bn : bn = 0
          case' neg => have u_bn : (0 : Int) < bn := by omega
          case' pos =>
            subst t_bn
            by_cases t_gn : gn = 0
            case' neg => have u_gn : (0 : Int) < gn := by omega
            case' pos =>
              subst t_gn
              by_cases t_pn : pn = 0
              case' neg => have u_pn : (0 : Int) < pn := by omega
              case' pos =>
                subst t_pn
                skip
  all_goals
    go_enter Try.func24, Try.ntmps24
    go_wp2
    go_ret
    exact ⟨ret_bool (by rw [Bool.eq_iff_iff]; simp [*]), (Below.refl _ _).alloc (Nat.le_refl _) _⟩
set_option maxHeartbeats 4000000 in
theorem bare_none (v : IV) (w : World) (k0 : ¬ v.kind = 200) (k1 : ¬ v.kind = 201) (k2 : ¬ v.kind = 203) (k3 : ¬ v.kind = 205) (k4 : ¬ v.kind = 206) : Calls Try.prog 24 #[itm v] w (RetB w (bareV v)) := by
  have D := IBlk.new w v
  have c0 := D.c0
  have c2 := D.c2
  have c3 := D.c3
  have c4 := D.c4
  have c5 := D.c5
  have c6 := D.c6
  have c7 := D.c7
  have c8 := D.c8
  have c9 := D.c9
  clear D
  unfold bareV sendV isRep
  obtain ⟨kind, ssrc, ntp, time, pks, ocs, ba, bn, bc, ga, gn, gc, media, pa, pn, pc⟩ := v
  simp only at *
  have b0 : (kind == 200) = false := by simpa using k0
  have b1 : (kind == 201) = false := by simpa using k1
  have b2 : (kind != 203) = true := by simpa using k2
  have b3 : (kind == 205) = false := by simpa using k3
  have b4 : (kind == 206) = false := by simpa using k4
  by_cases t_ntp : ntp = 0
  case' pos =>
    subst t_ntp
    by_cases t_time : time = 0
    case' pos =>
      subst t_time
      by_cases t_pks : pks = 0
      case' pos =>
        subst t_pks
        by_cases t_ocs : ocs = 0
        case' pos =>
          subst t_ocs
          by_cases t_bn : bn = 0
          case' neg => have u_bn : (0 : Int) < bn := by omega
          case' pos =>
            subst t_bn
            by_cases t_gn : gn = 0
            case' neg => have u_gn : (0 : Int) < gn := by omega
            case' pos =>
              subst t_gn
              by_cases t_pn : pn = 0
              case' neg => have u_pn : (0 : Int) < pn := by omega
              case' pos =>
                subst t_pn
                by_cases t_media : media = 0
                case' pos =>
                  subst t_media
                  skip
  all_goals
    go_enter Try.func24, Try.ntmps24
    go_wp2
    go_ret
    exact ⟨ret_bool (by rw [Bool.eq_iff_iff]; simp [*]), (Below.refl _ _).alloc (Nat.le_refl _) _⟩

theorem bare_any (v : IV) (w : World) : Calls Try.prog 24 #[itm v] w (RetB w (bareV v)) := by
  by_cases k0 : v.kind = 200
  · exact bare_200 v w k0
  by_cases k1 : v.kind = 201
  · exact bare_201 v w k1
  by_cases k2 : v.kind = 203
  · exact bare_203 v w k2
  by_cases k3 : v.kind = 205
  · exact bare_205 v w k3
  by_cases k4 : v.kind = 206
  · exact bare_206 v w k4
  exact bare_none v w k0 k1 k2 k3 k4
/-- What MayItem tells behind bare, of the kinds that are no reports. -/
def restV (v : IV) : Bool := if v.kind = 203 then decide (1 ≤ v.gn) && decide (v.gn ≤ 15) else if v.kind = 205 then decide (1 ≤ v.pn) && decide (v.pn ≤ 16) else decide (v.kind = 206)

set_option maxHeartbeats 4000000 in
theorem rmay_203 (v : IV) (w : World) (hk : v.kind = 203) : Calls Try.prog 13 #[itm v] w (RetB w (bareV v && restV v)) := by
  have CB : Hid (∀ W, Calls Try.prog 24 #[itm v] W (RetB W (bareV v))) := fun W => bare_any v W
  have HD := Lib.hid (IBlk.new w v)
  have HB := Lib.hid ((Below.refl w.heap.size w).alloc (Nat.le_refl _) (iobj v))
  have HK := Lib.hid hk
  have HV := Lib.hid (show restV v = (decide (1 ≤ v.gn) && decide (v.gn ≤ 15)) from by rw [restV, if_pos hk])
  clear hk
  generalize bareV v = t at CB ⊢
  rcases t with _ | _
  · go_enter Try.func13, Try.ntmps13
    go_wp2_with fail
    refine (CB.out _).mono ?_
    rintro e w1 ⟨rfl, hb1⟩
    have HB1 := Lib.hid (HB.out.trans (hb1.mono HB.out.size))
    clear hb1
    go_wp2
    go_ret
    exact ⟨rfl, HB1.out⟩
  · rw [Bool.true_and]
    by_cases hg : (1 : Int) ≤ v.gn
    all_goals
     go_enter Try.func13, Try.ntmps13
     go_wp2_with fail
     refine (CB.out _).mono ?_
     rintro e w1 ⟨rfl, hb1⟩
     have HB1 := Lib.hid (HB.out.trans (hb1.mono HB.out.size))
     have D1 := HD.out.bel hb1
     have c0 := D1.c0
     have c7 := D1.c7
     rw [HK.out] at c0
     clear hb1 D1 HD HB
     go_wp2
     go_ret
     exact ⟨ret_bool (by rw [HV.out, Bool.eq_iff_iff]; simp; try omega), HB1.out⟩
set_option maxHeartbeats 4000000 in
theorem rmay_205 (v : IV) (w : World) (hk : v.kind = 205) : Calls Try.prog 13 #[itm v] w (RetB w (bareV v && restV v)) := by
  have CB : Hid (∀ W, Calls Try.prog 24 #[itm v] W (RetB W (bareV v))) := fun W => bare_any v W
  have HD := Lib.hid (IBlk.new w v)
  have HB := Lib.hid ((Below.refl w.heap.size w).alloc (Nat.le_refl _) (iobj v))
  have HK := Lib.hid hk
  have HV := Lib.hid (show restV v = (decide (1 ≤ v.pn) && decide (v.pn ≤ 16)) from by rw [restV, if_neg (by omega), if_pos hk])
  clear hk
  generalize bareV v = t at CB ⊢
  rcases t with _ | _
  · go_enter Try.func13, Try.ntmps13
    go_wp2_with fail
    refine (CB.out _).mono ?_
    rintro e w1 ⟨rfl, hb1⟩
    have HB1 := Lib.hid (HB.out.trans (hb1.mono HB.out.size))
    clear hb1
    go_wp2
    go_ret
    exact ⟨rfl, HB1.out⟩
  · rw [Bool.true_and]
    by_cases hg : (1 : Int) ≤ v.pn
    all_goals
     go_enter Try.func13, Try.ntmps13
     go_wp2_with fail
     refine (CB.out _).mono ?_
     rintro e w1 ⟨rfl, hb1⟩
     have HB1 := Lib.hid (HB.out.trans (hb1.mono HB.out.size))
     have D1 := HD.out.bel hb1
     have c0 := D1.c0
     have c9 := D1.c9
     rw [HK.out] at c0
     clear hb1 D1 HD HB
     go_wp2
     go_ret
     exact ⟨ret_bool (by rw [HV.out, Bool.eq_iff_iff]; simp; try omega), HB1.out⟩
set_option maxHeartbeats 4000000 in
theorem rmay_206 (v : IV) (w : World) (hk : v.kind = 206) : Calls Try.prog 13 #[itm v] w (RetB w (bareV v && restV v)) := by
  have CB : Hid (∀ W, Calls Try.prog 24 #[itm v] W (RetB W (bareV v))) := fun W => bare_any v W
  have HD := Lib.hid (IBlk.new w v)
  have HB := Lib.hid ((Below.refl w.heap.size w).alloc (Nat.le_refl _) (iobj v))
  have HK := Lib.hid hk
  have HV := Lib.hid (show restV v = true from by rw [restV, if_neg (by omega), if_neg (by omega)]; simp [hk])
  clear hk
  generalize bareV v = t at CB ⊢
  rcases t with _ | _
  · go_enter Try.func13, Try.ntmps13
    go_wp2_with fail
    refine (CB.out _).mono ?_
    rintro e w1 ⟨rfl, hb1⟩
    have HB1 := Lib.hid (HB.out.trans (hb1.mono HB.out.size))
    clear hb1
    go_wp2
    go_ret
    exact ⟨rfl, HB1.out⟩
  · rw [Bool.true_and]
    skip
    all_goals
     go_enter Try.func13, Try.ntmps13
     go_wp2_with fail
     refine (CB.out _).mono ?_
     rintro e w1 ⟨rfl, hb1⟩
     have HB1 := Lib.hid (HB.out.trans (hb1.mono HB.out.size))
     have D1 := HD.out.bel hb1
     have c0 := D1.c0
     rw [HK.out] at c0
     clear hb1 D1 HD HB
     go_wp2
     go_ret
     exact ⟨ret_bool (by rw [HV.out]), HB1.out⟩
set_option maxHeartbeats 4000000 in
theorem rmay_none (v : IV) (w : World) (k0 : ¬ v.kind = 200) (k1 : ¬ v.kind = 201) (k2 : ¬ v.kind = 203) (k3 : ¬ v.kind = 205) (k4 : ¬ v.kind = 206) : Calls Try.prog 13 #[itm v] w (RetB w (bareV v && restV v)) := by
  have CB : Hid (∀ W, Calls Try.prog 24 #[itm v] W (RetB W (bareV v))) := fun W => bare_any v W
  have HD := Lib.hid (IBlk.new w v)
  have HB := Lib.hid ((Below.refl w.heap.size w).alloc (Nat.le_refl _) (iobj v))
  have HV := Lib.hid (show restV v = false from by rw [restV, if_neg k2, if_neg k3]; simp [k4])
  generalize bareV v = t at CB ⊢
  rcases t with _ | _
  · go_enter Try.func13, Try.ntmps13
    go_wp2_with fail
    refine (CB.out _).mono ?_
    rintro e w1 ⟨rfl, hb1⟩
    have HB1 := Lib.hid (HB.out.trans (hb1.mono HB.out.size))
    clear hb1
    go_wp2
    go_ret
    exact ⟨rfl, HB1.out⟩
  · rw [Bool.true_and]
    skip
    all_goals
     go_enter Try.func13, Try.ntmps13
     go_wp2_with fail
     refine (CB.out _).mono ?_
     rintro e w1 ⟨rfl, hb1⟩
     have HB1 := Lib.hid (HB.out.trans (hb1.mono HB.out.size))
     have D1 := HD.out.bel hb1
     have c0 := D1.c0
     clear hb1 D1 HD HB
     go_wp2
     go_ret
     exact ⟨ret_bool (by rw [HV.out]; simpa using k4), HB1.out⟩

theorem bare_rest (i : Itm) (l : ILoc) (hk : isRep i.kind = false) : (bareV (ivOf i l) && restV (ivOf i l)) = mayI i := by
  simp only [isRep, Bool.or_eq_false_iff, decide_eq_false_iff_not] at hk
  obtain ⟨k0, k1⟩ := hk
  unfold bareV sendV isRep restV mayI sendZ ivOf
  simp only [k0, k1]
  by_cases k2 : i.kind = 203
  · simp only [k2]
    rw [Bool.eq_iff_iff]; simp; constructor <;> (intro h; simp [h])
  by_cases k3 : i.kind = 205
  · simp only [k3]
    rw [Bool.eq_iff_iff]; simp; try (constructor <;> (intro h; simp [h]))
  by_cases k4 : i.kind = 206
  · simp only [k4]
    rw [Bool.eq_iff_iff]; simp; try (constructor <;> (intro h; simp [h]))
  simp [k2, k3, k4]
/-- MayItem of any item. -/
theorem rmay_all (w : World) (i : Itm) (l : ILoc) (B : Nat) (h : IRd w B i l) (hB : B ≤ w.heap.size) : Calls Try.prog 13 #[itm (ivOf i l)] w (RetB w (mayI i)) := by
  rcases hk : isRep i.kind with _ | _
  · rw [← bare_rest i l hk]
    simp only [isRep, Bool.or_eq_false_iff, decide_eq_false_iff_not] at hk
    by_cases k2 : i.kind = 203
    · exact rmay_203 (ivOf i l) w k2
    by_cases k3 : i.kind = 205
    · exact rmay_205 (ivOf i l) w k3
    by_cases k4 : i.kind = 206
    · exact rmay_206 (ivOf i l) w k4
    exact rmay_none (ivOf i l) w hk.1 hk.2 k2 k3 k4
  · exact rmay_itm w i l B hk h hB
end Go.Proofs.Ytjbgfaoancmknaa.Fbk
