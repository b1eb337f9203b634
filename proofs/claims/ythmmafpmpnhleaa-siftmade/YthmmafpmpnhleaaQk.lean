/- The contracts of the reference's bare, MayItem: every kind. · The contracts of the reference's Item, PutReport. · The contract of the reference's Item: every kind. -/
import Derived.Test.YthmmafpmpnhleaaQi
import Derived.Test.YthmmafpmpnhleaaQj
import Derived.Test.YthmmafpmpnhleaaQe
set_option maxRecDepth 100000
namespace Go.Proofs.Ythmmafpmpnhleaa.Fbk
open Go.RowKit
set_option linter.unusedVariables false

set_option maxHeartbeats 4000000 in
theorem bare_203 (v : IV) (w : World) (hk : v.kind = 203) : Calls Try.prog 64 #[itm v] w (RetB w (bareV v)) := by
  have D := IBlk.new w v
  have c0 := D.c0
  have c1 := D.c1
  have c2 := D.c2
  have c3 := D.c3
  have c4 := D.c4
  have c5 := D.c5
  have c6 := D.c6
  have c8 := D.c8
  have c9 := D.c9
  clear D
  unfold bareV sendV isRep
  obtain ⟨kind, ssrc, ntp, time, pks, ocs, ba, bn, bc, ga, gn, gc, media, pa, pn, pc⟩ := v
  simp only at *
  subst hk
  by_cases t_ntp : ntp = 0
  case' pos =>
    subst t_ntp
    by_cases t_time : time = 0
    case' pos =>
      subst t_time
      by_cases t_pks : pks = 0
      case' pos =>
        subst t_pks
        by_cases t_ocs : ocs = 0
        case' pos =>
          subst t_ocs
          by_cases t_bn : bn = 0
          case' neg => have u_bn : (0 : Int) < bn := by omega
          case' pos =>
            subst t_bn
            by_cases t_pn : pn = 0
            case' neg => have u_pn : (0 : Int) < pn := by omega
            case' pos =>
              subst t_pn
              by_cases t_media : media = 0
              case' pos =>
                subst t_media
                skip
  all_goals
    go_enter Try.func64, Try.ntmps64
    go_wp2
    go_ret
    exact ⟨ret_bool (by rw [Bool.eq_iff_iff]; simp [*]), (Below.refl _ _).alloc (Nat.le_refl _) _⟩
set_option maxHeartbeats 4000000 in
theorem bare_205 (v : IV) (w : World) (hk : v.kind = 205) : Calls Try.prog 64 #[itm v] w (RetB w (bareV v)) := by
  have D := IBlk.new w v
  have c0 := D.c0
  have c2 := D.c2
  have c3 := D.c3
  have c4 := D.c4
  have c5 := D.c5
  have c6 := D.c6
  have c7 := D.c7
  clear D
  unfold bareV sendV isRep
  obtain ⟨kind, ssrc, ntp, time, pks, ocs, ba, bn, bc, ga, gn, gc, media, pa, pn, pc⟩ := v
  simp only at *
  subst hk
  by_cases t_ntp : ntp = 0
  case' pos =>
    subst t_ntp
    by_cases t_time : time = 0
    case' pos =>
      subst t_time
      by_cases t_pks : pks = 0
      case' pos =>
        subst t_pks
        by_cases t_ocs : ocs = 0
        case' pos =>
          subst t_ocs
          by_cases t_bn : bn = 0
          case' neg => have u_bn : (0 : Int) < bn := by omega
          case' pos =>
            subst t_bn
            by_cases t_gn : gn = 0
            case' neg => have u_gn : (0 : Int) < gn := by omega
            case' pos =>
              subst t_gn
              skip
  all_goals
    go_enter Try.func64, Try.ntmps64
    go_wp2
    go_ret
    exact ⟨ret_bool (by rw [Bool.eq_iff_iff]; simp [*]), (Below.refl _ _).alloc (Nat.le_refl _) _⟩
set_option maxHeartbeats 4000000 in
theorem bare_206 (v : IV) (w : World) (hk : v.kind = 206) : Calls Try.prog 64 #[itm v] w (RetB w (bareV v)) := by
  have D := IBlk.new w v
  have c0 := D.c0
  have c2 := D.c2
  have c3 := D.c3
  have c4 := D.c4
  have c5 := D.c5
  have c6 := D.c6
  have c7 := D.c7
  have c9 := D.c9
  clear D
  unfold bareV sendV isRep
  obtain ⟨kind, ssrc, ntp, time, pks, ocs, ba, bn, bc, ga, gn, gc, media, pa, pn, pc⟩ := v
  simp only at *
  subst hk
  by_cases t_ntp : ntp = 0
  case' pos =>
    subst t_ntp
    by_cases t_time : time = 0
    case' pos =>
      subst t_time
      by_cases t_pks : pks = 0
      case' pos =>
        subst t_pks
        by_cases t_ocs : ocs = 0
        case' pos =>
          subst t_ocs
          by_cases t_bn : bn = 0
          case' neg => have u_bn : (0 : Int) < bn := by omega
          case' pos =>
            subst t_bn
            by_cases t_gn : gn = 0
            case' neg => have u_gn : (0 : Int) < gn := by omega
            case' pos =>
              subst t_gn
              by_cases t_pn : pn = 0
              case' neg => have u_pn : (0 : Int) < pn := by omega
              case' pos =>
                subst t_pn
                skip
  all_goals
    go_enter Try.func64, Try.ntmps64
    go_wp2
    go_ret
    exact ⟨ret_bool (by rw [Bool.eq_iff_iff]; simp [*]), (Below.refl _ _).alloc (Nat.le_refl _) _⟩
set_option maxHeartbeats 4000000 in
theorem bare_none (v : IV) (w : World) (k0 : ¬ v.kind = 200) (k1 : ¬ v.kind = 201) (k2 : ¬ v.kind = 203) (k3 : ¬ v.kind = 205) (k4 : ¬ v.kind = 206) : Calls Try.prog 64 #[itm v] w (RetB w (bareV v)) := by
  have D := IBlk.new w v
  have c0 := D.c0
  have c2 := D.c2
  have c3 := D.c3
  have c4 := D.c4
  have c5 := D.c5
  have c6 := D.c6
  have c7 := D.c7
  have c8 := D.c8
  have c9 := D.c9
  clear D
  unfold bareV sendV isRep
  obtain ⟨kind, ssrc, ntp, time, pks, ocs, ba, bn, bc, ga, gn, gc, media, pa, pn, pc⟩ := v
  simp only at *
  have b0 : (kind == 200) = false := by simpa using k0
  have b1 : (kind == 201) = false := by simpa using k1
  have b2 : (kind != 203) = true := by simpa using k2
  have b3 : (kind == 205) = false := by simpa using k3
  have b4 : (kind == 206) = false := by simpa using k4
  by_cases t_ntp : ntp = 0
  case' pos =>
    subst t_ntp
    by_cases t_time : time = 0
    case' pos =>
      subst t_time
      by_cases t_pks : pks = 0
      case' pos =>
        subst t_pks
        by_cases t_ocs : ocs = 0
        case' pos =>
          subst t_ocs
          by_cases t_bn : bn = 0
          case' neg => have u_bn : (0 : Int) < bn := by omega
          case' pos =>
            subst t_bn
            by_cases t_gn : gn = 0
            case' neg => have u_gn : (0 : Int) < gn := by omega
            case' pos =>
              subst t_gn
              by_cases t_pn : pn = 0
              case' neg => have u_pn : (0 : Int) < pn := by omega
              case' pos =>
                subst t_pn
                by_cases t_media : media = 0
                case' pos =>
                  subst t_media
                  skip
  all_goals
    go_enter Try.func64, Try.ntmps64
    go_wp2
    go_ret
    exact ⟨ret_bool (by rw [Bool.eq_iff_iff]; simp [*]), (Below.refl _ _).alloc (Nat.le_refl _) _⟩

theorem bare_any (v : IV) (w : World) : Calls Try.prog 64 #[itm v] w (RetB w (bareV v)) := by
  by_cases k0 : v.kind = 200
  · exact bare_200 v w k0
  by_cases k1 : v.kind = 201
  · exact bare_201 v w k1
  by_cases k2 : v.kind = 203
  · exact bare_203 v w k2
  by_cases k3 : v.kind = 205
  · exact bare_205 v w k3
  by_cases k4 : v.kind = 206
  · exact bare_206 v w k4
  exact bare_none v w k0 k1 k2 k3 k4
/-- What MayItem tells behind bare, of the kinds that are no reports. -/
def restV (v : IV) : Bool := if v.kind = 203 then decide (1 ≤ v.gn) && decide (v.gn ≤ 15) else if v.kind = 205 then decide (1 ≤ v.pn) && decide (v.pn ≤ 16) else decide (v.kind = 206)

set_option maxHeartbeats 4000000 in
theorem rmay_203 (v : IV) (w : World) (hk : v.kind = 203) : Calls Try.prog 37 #[itm v] w (RetB w (bareV v && restV v)) := by
  have CB : Hid (∀ W, Calls Try.prog 64 #[itm v] W (RetB W (bareV v))) := fun W => bare_any v W
  have HD := Lib.hid (IBlk.new w v)
  have HB := Lib.hid ((Below.refl w.heap.size w).alloc (Nat.le_refl _) (iobj v))
  have HK := Lib.hid hk
  have HV := Lib.hid (show restV v = (decide (1 ≤ v.gn) && decide (v.gn ≤ 15)) from by rw [restV, if_pos hk])
  clear hk
  generalize bareV v = t at CB ⊢
  rcases t with _ | _
  · go_enter Try.func37, Try.ntmps37
    go_wp2_with fail
    refine (CB.out _).mono ?_
    rintro e w1 ⟨rfl, hb1⟩
    have HB1 := Lib.hid (HB.out.trans (hb1.mono HB.out.size))
    clear hb1
    go_wp2
    go_ret
    exact ⟨rfl, HB1.out⟩
  · rw [Bool.true_and]
    by_cases hg : (1 : Int) ≤ v.gn
    all_goals
     go_enter Try.func37, Try.ntmps37
     go_wp2_with fail
     refine (CB.out _).mono ?_
     rintro e w1 ⟨rfl, hb1⟩
     have HB1 := Lib.hid (HB.out.trans (hb1.mono HB.out.size))
     have D1 := HD.out.bel hb1
     have c0 := D1.c0
     have c7 := D1.c7
     rw [HK.out] at c0
     clear hb1 D1 HD HB
     go_wp2
     go_ret
     exact ⟨ret_bool (by rw [HV.out, Bool.eq_iff_iff]; simp; try omega), HB1.out⟩
set_option maxHeartbeats 4000000 in
theorem rmay_205 (v : IV) (w : World) (hk : v.kind = 205) : Calls Try.prog 37 #[itm v] w (RetB w (bareV v && restV v)) := by
  have CB : Hid (∀ W, Calls Try.prog 64 #[itm v] W (RetB W (bareV v))) := fun W => bare_any v W
  have HD := Lib.hid (IBlk.new w v)
  have HB := Lib.hid ((Below.refl w.heap.size w).alloc (Nat.le_refl _) (iobj v))
  have HK := Lib.hid hk
  have HV := Lib.hid (show restV v = (decide (1 ≤ v.pn) && decide (v.pn ≤ 16)) from by rw [restV, if_neg (by omega), if_pos hk])
  clear hk
  generalize bareV v = t at CB ⊢
  rcases t with _ | _
  · go_enter Try.func37, Try.ntmps37
    go_wp2_with fail
    refine (CB.out _).mono ?_
    rintro e w1 ⟨rfl, hb1⟩
    have HB1 := Lib.hid (HB.out.trans (hb1.mono HB.out.size))
    clear hb1
    go_wp2
    go_ret
    exact ⟨rfl, HB1.out⟩
  · rw [Bool.true_and]
    by_cases hg : (1 : Int) ≤ v.pn
    all_goals
     go_enter Try.func37, Try.ntmps37
     go_wp2_with fail
     refine (CB.out _).mono ?_
     rintro e w1 ⟨rfl, hb1⟩
     have HB1 := Lib.hid (HB.out.trans (hb1.mono HB.out.size))
     have D1 := HD.out.bel hb1
     have c0 := D1.c0
     have c9 := D1.c9
     rw [HK.out] at c0
     clear hb1 D1 HD HB
     go_wp2
     go_ret
     exact ⟨ret_bool (by rw [HV.out, Bool.eq_iff_iff]; simp; try omega), HB1.out⟩
set_option maxHeartbeats 4000000 in
theorem rmay_206 (v : IV) (w : World) (hk : v.kind = 206) : Calls Try.prog 37 #[itm v] w (RetB w (bareV v && restV v)) := by
  have CB : Hid (∀ W, Calls Try.prog 64 #[itm v] W (RetB W (bareV v))) := fun W => bare_any v W
  have HD := Lib.hid (IBlk.new w v)
  have HB := Lib.hid ((Below.refl w.heap.size w).alloc (Nat.le_refl _) (iobj v))
  have HK := Lib.hid hk
  have HV := Lib.hid (show restV v = true from by rw [restV, if_neg (by omega), if_neg (by omega)]; simp [hk])
  clear hk
  generalize bareV v = t at CB ⊢
  rcases t with _ | _
  · go_enter Try.func37, Try.ntmps37
    go_wp2_with fail
    refine (CB.out _).mono ?_
    rintro e w1 ⟨rfl, hb1⟩
    have HB1 := Lib.hid (HB.out.trans (hb1.mono HB.out.size))
    clear hb1
    go_wp2
    go_ret
    exact ⟨rfl, HB1.out⟩
  · rw [Bool.true_and]
    skip
    all_goals
     go_enter Try.func37, Try.ntmps37
     go_wp2_with fail
     refine (CB.out _).mono ?_
     rintro e w1 ⟨rfl, hb1⟩
     have HB1 := Lib.hid (HB.out.trans (hb1.mono HB.out.size))
     have D1 := HD.out.bel hb1
     have c0 := D1.c0
     rw [HK.out] at c0
     clear hb1 D1 HD HB
     go_wp2
     go_ret
     exact ⟨ret_bool (by rw [HV.out]), HB1.out⟩
set_option maxHeartbeats 4000000 in
theorem rmay_none (v : IV) (w : World) (k0 : ¬ v.kind = 200) (k1 : ¬ v.kind = 201) (k2 : ¬ v.kind = 203) (k3 : ¬ v.kind = 205) (k4 : ¬ v.kind = 206) : Calls Try.prog 37 #[itm v] w (RetB w (bareV v && restV v)) := by
  have CB : Hid (∀ W, Calls Try.prog 64 #[itm v] W (RetB W (bareV v))) := fun W => bare_any v W
  have HD := Lib.hid (IBlk.new w v)
  have HB := Lib.hid ((Below.refl w.heap.size w).alloc (Nat.le_refl _) (iobj v))
  have HV := Lib.hid (show restV v = false from by rw [restV, if_neg k2, if_neg k3]; simp [k4])
  generalize bareV v = t at CB ⊢
  rcases t with _ | _
  · go_enter Try.func37, Try.ntmps37
    go_wp2_with fail
    refine (CB.out _).mono ?_
    rintro e w1 ⟨rfl, hb1⟩
    have HB1 := Lib.hid (HB.out.trans (hb1.mono HB.out.size))
    clear hb1
    go_wp2
    go_ret
    exact ⟨rfl, HB1.out⟩
  · rw [Bool.true_and]
    skip
    all_goals
     go_enter Try.func37, Try.ntmps37
     go_wp2_with fail
     refine (CB.out _).mono ?_
     rintro e w1 ⟨rfl, hb1⟩
     have HB1 := Lib.hid (HB.out.trans (hb1.mono HB.out.size))
     have D1 := HD.out.bel hb1
     have c0 := D1.c0
     clear hb1 D1 HD HB
     go_wp2
     go_ret
     exact ⟨ret_bool (by rw [HV.out]; simpa using k4), HB1.out⟩

theorem bare_rest (i : Itm) (l : ILoc) (hk : isRep i.kind = false) : (bareV (ivOf i l) && restV (ivOf i l)) = mayI i := by
  simp only [isRep, Bool.or_eq_false_iff, decide_eq_false_iff_not] at hk
  obtain ⟨k0, k1⟩ := hk
  unfold bareV sendV isRep restV mayI sendZ ivOf
  simp only [k0, k1]
  by_cases k2 : i.kind = 203
  · simp only [k2]
    rw [Bool.eq_iff_iff]; simp; constructor <;> (intro h; simp [h])
  by_cases k3 : i.kind = 205
  · simp only [k3]
    rw [Bool.eq_iff_iff]; simp; try (constructor <;> (intro h; simp [h]))
  by_cases k4 : i.kind = 206
  · simp only [k4]
    rw [Bool.eq_iff_iff]; simp; try (constructor <;> (intro h; simp [h]))
  simp [k2, k3, k4]
/-- MayItem of any item. -/
theorem rmay_all (w : World) (i : Itm) (l : ILoc) (B : Nat) (h : IRd w B i l) (hB : B ≤ w.heap.size) : Calls Try.prog 37 #[itm (ivOf i l)] w (RetB w (mayI i)) := by
  rcases hk : isRep i.kind with _ | _
  · rw [← bare_rest i l hk]
    simp only [isRep, Bool.or_eq_false_iff, decide_eq_false_iff_not] at hk
    by_cases k2 : i.kind = 203
    · exact rmay_203 (ivOf i l) w k2
    by_cases k3 : i.kind = 205
    · exact rmay_205 (ivOf i l) w k3
    by_cases k4 : i.kind = 206
    · exact rmay_206 (ivOf i l) w k4
    exact rmay_none (ivOf i l) w hk.1 hk.2 k2 k3 k4
  · exact rmay_itm w i l B hk h hB
end Go.Proofs.Ythmmafpmpnhleaa.Fbk

namespace Go.Proofs.Ythmmafpmpnhleaa.Fbk
open Go.RowKit
set_option linter.unusedVariables false

set_option maxHeartbeats 4000000 in
theorem item_200 (v : IV) (bn gn : Nat) (bs : List Int) (w : World) (hkind : v.kind = 200) (hbn : v.bn = bn) (hgn : v.gn = gn) (h15 : bn + gn ≤ 100) (hbs : bs.length ≤ 1000) (CB : Hid (∀ W, Below w.heap.size w W → Calls Try.prog 65 #[itm v] W (NewRow W bs))) :
    Calls Try.prog 38 #[itm v] w (NewRow w ([128 + ((bn : Int) + gn), 200, 0, ((bs.length / 4 : Nat) : Int)] ++ bs)) := by
  have HK := Lib.hid hkind
  have HBN := Lib.hid hbn
  have HGN := Lib.hid hgn
  have HD := Lib.hid (IBlk.new w v)
  have HB := Lib.hid ((Below.refl w.heap.size w).alloc (Nat.le_refl _) (iobj v))
  obtain ⟨n, hn⟩ : ∃ n, bs.length = n := ⟨_, rfl⟩
  have HN := Lib.hid hn
  obtain ⟨m, hm⟩ : ∃ m : Int, ((bs.length / 4 : Nat) : Int) = m := ⟨_, rfl⟩
  have q1 : (n : Int).tdiv 4 = m := by rw [Int.tdiv_eq_ediv_of_nonneg (by omega)]; omega
  have q2 : wrap64 m = m := by unfold wrap64; omega
  have q6 : m % 256 = m := by omega
  have q3 : IntKind.u8.wrap (128 + ((bn : Int) + gn)) = 128 + (bn + gn) := wrap_u8 _ ⟨by omega, by omega⟩
  have q4 : IntKind.i64.wrap ((bn : Int) + gn) = bn + gn := IntWalk.i64_in _ (by omega)
  have q5 : IntKind.i64.wrap (128 + ((bn : Int) + gn)) = 128 + (bn + gn) := IntWalk.i64_in _ (by omega)
  have HM := Lib.hid (show 0 ≤ m ∧ m ≤ 255 ∧ (bn : Int) + gn ≤ 100 from ⟨by omega, by omega, by omega⟩)
  have hn' : n ≤ 1000 := by omega
  rw [hm]
  obtain ⟨L, hL⟩ : ∃ L : List Int, L = [128 + ((bn : Int) + gn), 200, 0, m] := ⟨_, rfl⟩
  rw [← hL]
  obtain ⟨ys, hy⟩ : ∃ ys, ys = L ++ bs := ⟨_, rfl⟩
  rw [← hy]
  have HL := Lib.hid hL
  have HY := Lib.hid hy
  clear hL hy
  have c0 := HD.out.c0
  have c6 := HD.out.c6
  have c7 := HD.out.c7
  have c1 := HD.out.c1
  have c2 := HD.out.c2
  have c3 := HD.out.c3
  have c4 := HD.out.c4
  have c5 := HD.out.c5
  have c8 := HD.out.c8
  have c9 := HD.out.c9
  rw [HK.out] at c0
  rw [HBN.out] at c6
  rw [HGN.out] at c7
  have CB' : Hid (∀ W, Below w.heap.size w W → Calls Try.prog 65 #[.agg #[.int .i64 200, .int .u32 v.ssrc, .int .u64 v.ntp, .int .u32 v.time, .int .u32 v.pks, .int .u32 v.ocs, .slice v.ba bn v.bc, .slice v.ga gn v.gc, .int .u32 v.media, .slice v.pa v.pn v.pc]] W (NewRow W bs)) := fun W hW => by
    have := CB.out W hW
    rwa [show itm v = .agg #[.int .i64 200, .int .u32 v.ssrc, .int .u64 v.ntp, .int .u32 v.time, .int .u32 v.pks, .int .u32 v.ocs, .slice v.ba bn v.bc, .slice v.ga gn v.gc, .int .u32 v.media, .slice v.pa v.pn v.pc] from by rw [itm, hkind, hbn, hgn]] at this
  clear hkind hbn hgn hn hm hbs
  go_enter Try.func38, Try.ntmps38
  go_wp2_with fail
  refine (CB'.out _ HB.out).mono ?_
  rintro e w1 ⟨A, c, rfl, ho, hb1⟩
  rw [HN.out] at ho
  rw [HN.out]
  have D1 := HD.out.bel hb1
  have HB1 := Lib.hid (HB.out.trans (hb1.mono HB.out.size))
  have d0 := D1.c0
  rw [HK.out] at d0
  have HO := Lib.hid ho
  clear c0 c1 c2 c3 c4 c5 c6 c7 c8 c9 ho hb1 D1 HD HB CB CB'
  have hkk : Blk (w1.alloc (.cells #[.int .u8 (128 + ((bn : Int) + gn)), .int .u8 200, .int .u8 0, .int .u8 m] 5)) w1.heap.size L [] := by rw [HL.out]; exact alloc_blk w1 [128 + ((bn : Int) + gn), 200, 0, m]
  have hLb : Bytes L := by
    have := HM.out
    rw [HL.out]
    intro x hx
    simp only [List.mem_cons, List.not_mem_nil, or_false] at hx
    rcases hx with rfl | rfl | rfl | rfl <;> omega
  have HOL := Lib.hid (Own.of_blk hkk (Nat.le_refl _) hLb (show L.length = 4 from by rw [HL.out]; rfl) (by unfold maxLen; omega))
  have hbA := (Below.refl w1.heap.size w1).alloc (Nat.le_refl _) (.cells #[.int .u8 (128 + ((bn : Int) + gn)), .int .u8 200, .int .u8 0, .int .u8 m] 5)
  have HOA := Lib.hid (HO.out.below hbA (Nat.le_refl _)).rd
  have HBA := Lib.hid hbA
  clear hkk hLb hbA HO
  go_wp2_with (at_builtin; refine wpList_append_bytes rfl _ _ rfl w1.heap.size _ 4 4 n c (4 + n) _ A L bs (L ++ bs) rfl rfl rfl rfl HOL.out HOA.out ?c1 ?c2 ?_
               case c1 => simp
               case c2 => omega
               intro A2 c2 w2 ho2 hb2
               have HO2 := Lib.hid ho2
               have HB2 := Lib.hid hb2
               clear ho2 hb2)
  go_ret
  have hl : ys.length = 4 + n := by rw [HY.out, List.length_append, HN.out, HL.out]; rfl
  have ho := HO2.out
  rw [← HY.out] at ho
  refine ⟨A2, c2, by rw [hl]; rfl, ?_, ?_⟩
  · rw [hl]; exact own_lower ho HB1.out.size
  · exact HB1.out.trans ((HBA.out.trans HB2.out).mono HB1.out.size)

set_option maxHeartbeats 4000000 in
theorem item_201 (v : IV) (bn gn : Nat) (bs : List Int) (w : World) (hkind : v.kind = 201) (hbn : v.bn = bn) (hgn : v.gn = gn) (h15 : bn + gn ≤ 100) (hbs : bs.length ≤ 1000) (CB : Hid (∀ W, Below w.heap.size w W → Calls Try.prog 65 #[itm v] W (NewRow W bs))) :
    Calls Try.prog 38 #[itm v] w (NewRow w ([128 + ((bn : Int) + gn), 201, 0, ((bs.length / 4 : Nat) : Int)] ++ bs)) := by
  have HK := Lib.hid hkind
  have HBN := Lib.hid hbn
  have HGN := Lib.hid hgn
  have HD := Lib.hid (IBlk.new w v)
  have HB := Lib.hid ((Below.refl w.heap.size w).alloc (Nat.le_refl _) (iobj v))
  obtain ⟨n, hn⟩ : ∃ n, bs.length = n := ⟨_, rfl⟩
  have HN := Lib.hid hn
  obtain ⟨m, hm⟩ : ∃ m : Int, ((bs.length / 4 : Nat) : Int) = m := ⟨_, rfl⟩
  have q1 : (n : Int).tdiv 4 = m := by rw [Int.tdiv_eq_ediv_of_nonneg (by omega)]; omega
  have q2 : wrap64 m = m := by unfold wrap64; omega
  have q6 : m % 256 = m := by omega
  have q3 : IntKind.u8.wrap (128 + ((bn : Int) + gn)) = 128 + (bn + gn) := wrap_u8 _ ⟨by omega, by omega⟩
  have q4 : IntKind.i64.wrap ((bn : Int) + gn) = bn + gn := IntWalk.i64_in _ (by omega)
  have q5 : IntKind.i64.wrap (128 + ((bn : Int) + gn)) = 128 + (bn + gn) := IntWalk.i64_in _ (by omega)
  have HM := Lib.hid (show 0 ≤ m ∧ m ≤ 255 ∧ (bn : Int) + gn ≤ 100 from ⟨by omega, by omega, by omega⟩)
  have hn' : n ≤ 1000 := by omega
  rw [hm]
  obtain ⟨L, hL⟩ : ∃ L : List Int, L = [128 + ((bn : Int) + gn), 201, 0, m] := ⟨_, rfl⟩
  rw [← hL]
  obtain ⟨ys, hy⟩ : ∃ ys, ys = L ++ bs := ⟨_, rfl⟩
  rw [← hy]
  have HL := Lib.hid hL
  have HY := Lib.hid hy
  clear hL hy
  have c0 := HD.out.c0
  have c6 := HD.out.c6
  have c7 := HD.out.c7
  have c1 := HD.out.c1
  have c2 := HD.out.c2
  have c3 := HD.out.c3
  have c4 := HD.out.c4
  have c5 := HD.out.c5
  have c8 := HD.out.c8
  have c9 := HD.out.c9
  rw [HK.out] at c0
  rw [HBN.out] at c6
  rw [HGN.out] at c7
  have CB' : Hid (∀ W, Below w.heap.size w W → Calls Try.prog 65 #[.agg #[.int .i64 201, .int .u32 v.ssrc, .int .u64 v.ntp, .int .u32 v.time, .int .u32 v.pks, .int .u32 v.ocs, .slice v.ba bn v.bc, .slice v.ga gn v.gc, .int .u32 v.media, .slice v.pa v.pn v.pc]] W (NewRow W bs)) := fun W hW => by
    have := CB.out W hW
    rwa [show itm v = .agg #[.int .i64 201, .int .u32 v.ssrc, .int .u64 v.ntp, .int .u32 v.time, .int .u32 v.pks, .int .u32 v.ocs, .slice v.ba bn v.bc, .slice v.ga gn v.gc, .int .u32 v.media, .slice v.pa v.pn v.pc] from by rw [itm, hkind, hbn, hgn]] at this
  clear hkind hbn hgn hn hm hbs
  go_enter Try.func38, Try.ntmps38
  go_wp2_with fail
  refine (CB'.out _ HB.out).mono ?_
  rintro e w1 ⟨A, c, rfl, ho, hb1⟩
  rw [HN.out] at ho
  rw [HN.out]
  have D1 := HD.out.bel hb1
  have HB1 := Lib.hid (HB.out.trans (hb1.mono HB.out.size))
  have d0 := D1.c0
  rw [HK.out] at d0
  have HO := Lib.hid ho
  clear c0 c1 c2 c3 c4 c5 c6 c7 c8 c9 ho hb1 D1 HD HB CB CB'
  have hkk : Blk (w1.alloc (.cells #[.int .u8 (128 + ((bn : Int) + gn)), .int .u8 201, .int .u8 0, .int .u8 m] 5)) w1.heap.size L [] := by rw [HL.out]; exact alloc_blk w1 [128 + ((bn : Int) + gn), 201, 0, m]
  have hLb : Bytes L := by
    have := HM.out
    rw [HL.out]
    intro x hx
    simp only [List.mem_cons, List.not_mem_nil, or_false] at hx
    rcases hx with rfl | rfl | rfl | rfl <;> omega
  have HOL := Lib.hid (Own.of_blk hkk (Nat.le_refl _) hLb (show L.length = 4 from by rw [HL.out]; rfl) (by unfold maxLen; omega))
  have hbA := (Below.refl w1.heap.size w1).alloc (Nat.le_refl _) (.cells #[.int .u8 (128 + ((bn : Int) + gn)), .int .u8 201, .int .u8 0, .int .u8 m] 5)
  have HOA := Lib.hid (HO.out.below hbA (Nat.le_refl _)).rd
  have HBA := Lib.hid hbA
  clear hkk hLb hbA HO
  go_wp2_with (at_builtin; refine wpList_append_bytes rfl _ _ rfl w1.heap.size _ 4 4 n c (4 + n) _ A L bs (L ++ bs) rfl rfl rfl rfl HOL.out HOA.out ?c1 ?c2 ?_
               case c1 => simp
               case c2 => omega
               intro A2 c2 w2 ho2 hb2
               have HO2 := Lib.hid ho2
               have HB2 := Lib.hid hb2
               clear ho2 hb2)
  go_ret
  have hl : ys.length = 4 + n := by rw [HY.out, List.length_append, HN.out, HL.out]; rfl
  have ho := HO2.out
  rw [← HY.out] at ho
  refine ⟨A2, c2, by rw [hl]; rfl, ?_, ?_⟩
  · rw [hl]; exact own_lower ho HB1.out.size
  · exact HB1.out.trans ((HBA.out.trans HB2.out).mono HB1.out.size)


theorem bodyI_rep (i : Itm) (hk : isRep i.kind = true) (hM : MayI i) : i.gone = [] ∧ i.pairs = [] ∧ i.blocks.length ≤ 15 ∧ (∀ x ∈ i.blocks, x.total < 16777216) ∧ (bodyI i).length ≤ 1000 := by
  have hw := body_words i hM
  have h9 : (bodyI i).length ≤ 1000 := by omega
  simp only [isRep, Bool.or_eq_true, decide_eq_true_eq] at hk
  rcases hM with ⟨k, g, p, m, r⟩ | ⟨k, s, g, p, m, r⟩ | ⟨k, _⟩ | ⟨k, _⟩ | ⟨k, _⟩
  · exact ⟨g, p, r.1, r.2, h9⟩
  · exact ⟨g, p, r.1, r.2, h9⟩
  · omega
  · omega
  · omega
/-- Item of a report that may be. -/
theorem item_itm (w : World) (i : Itm) (l : ILoc) (B : Nat) (ho : i.Ok) (h : IRd w B i l) (hB : B ≤ w.heap.size) (hk : isRep i.kind = true) (hM : MayI i) : Calls Try.prog 38 #[itm (ivOf i l)] w (NewRow w (encI i)) := by
  obtain ⟨hg, hp, h15, ht, hlen⟩ := bodyI_rep i hk hM
  have hgl : i.gone.length = 0 := by rw [hg]; rfl
  have hpl : i.pairs.length = 0 := by rw [hp]; rfl
  simp only [isRep, Bool.or_eq_true, decide_eq_true_eq] at hk
  have h' := h.more hB
  rcases hk with hk | hk
  · have CB : Hid (∀ W, Below w.heap.size w W → Calls Try.prog 65 #[itm (ivOf i l)] W (NewRow W (bodyI i))) := fun W hW => by
      have hr := (h'.below hW).more hW.size
      exact body_200 (ivOf i l) i.blocks.length i.gone.length i.pairs.length i.blocks i.gone i.pairs W hk rfl rfl rfl hr.blocks hr.gone hr.pairs ho.blocks ht ho.pairs ho.ssrc ho.ntp ho.time ho.pks ho.ocs ho.media (by omega) (by omega) (by omega) _ (by simp [bodyI, hk]; exact rfl)
    have := item_200 (ivOf i l) i.blocks.length i.gone.length (bodyI i) w hk rfl rfl (by omega) hlen CB
    rwa [show [128 + ((i.blocks.length : Int) + i.gone.length), 200, 0, (((bodyI i).length / 4 : Nat) : Int)] ++ bodyI i = encI i from by simp [encI, cntI, hk]] at this
  · have CB : Hid (∀ W, Below w.heap.size w W → Calls Try.prog 65 #[itm (ivOf i l)] W (NewRow W (bodyI i))) := fun W hW => by
      have hr := (h'.below hW).more hW.size
      exact body_201 (ivOf i l) i.blocks.length i.gone.length i.pairs.length i.blocks i.gone i.pairs W hk rfl rfl rfl hr.blocks hr.gone hr.pairs ho.blocks ht ho.pairs ho.ssrc ho.ntp ho.time ho.pks ho.ocs ho.media (by omega) (by omega) (by omega) _ (by simp [bodyI, hk]; exact rfl)
    have := item_201 (ivOf i l) i.blocks.length i.gone.length (bodyI i) w hk rfl rfl (by omega) hlen CB
    rwa [show [128 + ((i.blocks.length : Int) + i.gone.length), 201, 0, (((bodyI i).length / 4 : Nat) : Int)] ++ bodyI i = encI i from by simp [encI, cntI, hk]] at this
end Go.Proofs.Ythmmafpmpnhleaa.Fbk

namespace Go.Proofs.Ythmmafpmpnhleaa.Fbk
open Go.RowKit
set_option linter.unusedVariables false

set_option maxHeartbeats 4000000 in
theorem item_203 (v : IV) (bn gn : Nat) (bs : List Int) (w : World) (hkind : v.kind = 203) (hbn : v.bn = bn) (hgn : v.gn = gn) (h15 : bn + gn ≤ 100) (hbs : bs.length ≤ 1000) (CB : Hid (∀ W, Below w.heap.size w W → Calls Try.prog 65 #[itm v] W (NewRow W bs))) :
    Calls Try.prog 38 #[itm v] w (NewRow w ([128 + ((bn : Int) + gn), 203, 0, ((bs.length / 4 : Nat) : Int)] ++ bs)) := by
  have HK := Lib.hid hkind
  have HBN := Lib.hid hbn
  have HGN := Lib.hid hgn
  have HD := Lib.hid (IBlk.new w v)
  have HB := Lib.hid ((Below.refl w.heap.size w).alloc (Nat.le_refl _) (iobj v))
  obtain ⟨n, hn⟩ : ∃ n, bs.length = n := ⟨_, rfl⟩
  have HN := Lib.hid hn
  obtain ⟨m, hm⟩ : ∃ m : Int, ((bs.length / 4 : Nat) : Int) = m := ⟨_, rfl⟩
  have q1 : (n : Int).tdiv 4 = m := by rw [Int.tdiv_eq_ediv_of_nonneg (by omega)]; omega
  have q2 : wrap64 m = m := by unfold wrap64; omega
  have q6 : m % 256 = m := by omega
  have q3 : IntKind.u8.wrap (128 + ((bn : Int) + gn)) = 128 + (bn + gn) := wrap_u8 _ ⟨by omega, by omega⟩
  have q4 : IntKind.i64.wrap ((bn : Int) + gn) = bn + gn := IntWalk.i64_in _ (by omega)
  have q5 : IntKind.i64.wrap (128 + ((bn : Int) + gn)) = 128 + (bn + gn) := IntWalk.i64_in _ (by omega)
  have HM := Lib.hid (show 0 ≤ m ∧ m ≤ 255 ∧ (bn : Int) + gn ≤ 100 from ⟨by omega, by omega, by omega⟩)
  have hn' : n ≤ 1000 := by omega
  rw [hm]
  obtain ⟨L, hL⟩ : ∃ L : List Int, L = [128 + ((bn : Int) + gn), 203, 0, m] := ⟨_, rfl⟩
  rw [← hL]
  obtain ⟨ys, hy⟩ : ∃ ys, ys = L ++ bs := ⟨_, rfl⟩
  rw [← hy]
  have HL := Lib.hid hL
  have HY := Lib.hid hy
  clear hL hy
  have c0 := HD.out.c0
  have c6 := HD.out.c6
  have c7 := HD.out.c7
  have c1 := HD.out.c1
  have c2 := HD.out.c2
  have c3 := HD.out.c3
  have c4 := HD.out.c4
  have c5 := HD.out.c5
  have c8 := HD.out.c8
  have c9 := HD.out.c9
  rw [HK.out] at c0
  rw [HBN.out] at c6
  rw [HGN.out] at c7
  have CB' : Hid (∀ W, Below w.heap.size w W → Calls Try.prog 65 #[.agg #[.int .i64 203, .int .u32 v.ssrc, .int .u64 v.ntp, .int .u32 v.time, .int .u32 v.pks, .int .u32 v.ocs, .slice v.ba bn v.bc, .slice v.ga gn v.gc, .int .u32 v.media, .slice v.pa v.pn v.pc]] W (NewRow W bs)) := fun W hW => by
    have := CB.out W hW
    rwa [show itm v = .agg #[.int .i64 203, .int .u32 v.ssrc, .int .u64 v.ntp, .int .u32 v.time, .int .u32 v.pks, .int .u32 v.ocs, .slice v.ba bn v.bc, .slice v.ga gn v.gc, .int .u32 v.media, .slice v.pa v.pn v.pc] from by rw [itm, hkind, hbn, hgn]] at this
  clear hkind hbn hgn hn hm hbs
  go_enter Try.func38, Try.ntmps38
  go_wp2_with fail
  refine (CB'.out _ HB.out).mono ?_
  rintro e w1 ⟨A, c, rfl, ho, hb1⟩
  rw [HN.out] at ho
  rw [HN.out]
  have D1 := HD.out.bel hb1
  have HB1 := Lib.hid (HB.out.trans (hb1.mono HB.out.size))
  have d0 := D1.c0
  rw [HK.out] at d0
  have HO := Lib.hid ho
  clear c0 c1 c2 c3 c4 c5 c6 c7 c8 c9 ho hb1 D1 HD HB CB CB'
  have hkk : Blk (w1.alloc (.cells #[.int .u8 (128 + ((bn : Int) + gn)), .int .u8 203, .int .u8 0, .int .u8 m] 5)) w1.heap.size L [] := by rw [HL.out]; exact alloc_blk w1 [128 + ((bn : Int) + gn), 203, 0, m]
  have hLb : Bytes L := by
    have := HM.out
    rw [HL.out]
    intro x hx
    simp only [List.mem_cons, List.not_mem_nil, or_false] at hx
    rcases hx with rfl | rfl | rfl | rfl <;> omega
  have HOL := Lib.hid (Own.of_blk hkk (Nat.le_refl _) hLb (show L.length = 4 from by rw [HL.out]; rfl) (by unfold maxLen; omega))
  have hbA := (Below.refl w1.heap.size w1).alloc (Nat.le_refl _) (.cells #[.int .u8 (128 + ((bn : Int) + gn)), .int .u8 203, .int .u8 0, .int .u8 m] 5)
  have HOA := Lib.hid (HO.out.below hbA (Nat.le_refl _)).rd
  have HBA := Lib.hid hbA
  clear hkk hLb hbA HO
  go_wp2_with (at_builtin; refine wpList_append_bytes rfl _ _ rfl w1.heap.size _ 4 4 n c (4 + n) _ A L bs (L ++ bs) rfl rfl rfl rfl HOL.out HOA.out ?c1 ?c2 ?_
               case c1 => simp
               case c2 => omega
               intro A2 c2 w2 ho2 hb2
               have HO2 := Lib.hid ho2
               have HB2 := Lib.hid hb2
               clear ho2 hb2)
  go_ret
  have hl : ys.length = 4 + n := by rw [HY.out, List.length_append, HN.out, HL.out]; rfl
  have ho := HO2.out
  rw [← HY.out] at ho
  refine ⟨A2, c2, by rw [hl]; rfl, ?_, ?_⟩
  · rw [hl]; exact own_lower ho HB1.out.size
  · exact HB1.out.trans ((HBA.out.trans HB2.out).mono HB1.out.size)

set_option maxHeartbeats 4000000 in
theorem item_205 (v : IV) (bn gn : Nat) (bs : List Int) (w : World) (hkind : v.kind = 205) (hbn : v.bn = bn) (hgn : v.gn = gn) (h15 : bn + gn ≤ 100) (hbs : bs.length ≤ 1000) (CB : Hid (∀ W, Below w.heap.size w W → Calls Try.prog 65 #[itm v] W (NewRow W bs))) :
    Calls Try.prog 38 #[itm v] w (NewRow w ([129, 205, 0, ((bs.length / 4 : Nat) : Int)] ++ bs)) := by
  have HK := Lib.hid hkind
  have HBN := Lib.hid hbn
  have HGN := Lib.hid hgn
  have HD := Lib.hid (IBlk.new w v)
  have HB := Lib.hid ((Below.refl w.heap.size w).alloc (Nat.le_refl _) (iobj v))
  obtain ⟨n, hn⟩ : ∃ n, bs.length = n := ⟨_, rfl⟩
  have HN := Lib.hid hn
  obtain ⟨m, hm⟩ : ∃ m : Int, ((bs.length / 4 : Nat) : Int) = m := ⟨_, rfl⟩
  have q1 : (n : Int).tdiv 4 = m := by rw [Int.tdiv_eq_ediv_of_nonneg (by omega)]; omega
  have q2 : wrap64 m = m := by unfold wrap64; omega
  have q6 : m % 256 = m := by omega
  have q3 : IntKind.u8.wrap (128 + ((bn : Int) + gn)) = 128 + (bn + gn) := wrap_u8 _ ⟨by omega, by omega⟩
  have q4 : IntKind.i64.wrap ((bn : Int) + gn) = bn + gn := IntWalk.i64_in _ (by omega)
  have q5 : IntKind.i64.wrap (128 + ((bn : Int) + gn)) = 128 + (bn + gn) := IntWalk.i64_in _ (by omega)
  have HM := Lib.hid (show 0 ≤ m ∧ m ≤ 255 ∧ (bn : Int) + gn ≤ 100 from ⟨by omega, by omega, by omega⟩)
  have hn' : n ≤ 1000 := by omega
  rw [hm]
  obtain ⟨L, hL⟩ : ∃ L : List Int, L = [129, 205, 0, m] := ⟨_, rfl⟩
  rw [← hL]
  obtain ⟨ys, hy⟩ : ∃ ys, ys = L ++ bs := ⟨_, rfl⟩
  rw [← hy]
  have HL := Lib.hid hL
  have HY := Lib.hid hy
  clear hL hy
  have c0 := HD.out.c0
  have c6 := HD.out.c6
  have c7 := HD.out.c7
  have c1 := HD.out.c1
  have c2 := HD.out.c2
  have c3 := HD.out.c3
  have c4 := HD.out.c4
  have c5 := HD.out.c5
  have c8 := HD.out.c8
  have c9 := HD.out.c9
  rw [HK.out] at c0
  rw [HBN.out] at c6
  rw [HGN.out] at c7
  have CB' : Hid (∀ W, Below w.heap.size w W → Calls Try.prog 65 #[.agg #[.int .i64 205, .int .u32 v.ssrc, .int .u64 v.ntp, .int .u32 v.time, .int .u32 v.pks, .int .u32 v.ocs, .slice v.ba bn v.bc, .slice v.ga gn v.gc, .int .u32 v.media, .slice v.pa v.pn v.pc]] W (NewRow W bs)) := fun W hW => by
    have := CB.out W hW
    rwa [show itm v = .agg #[.int .i64 205, .int .u32 v.ssrc, .int .u64 v.ntp, .int .u32 v.time, .int .u32 v.pks, .int .u32 v.ocs, .slice v.ba bn v.bc, .slice v.ga gn v.gc, .int .u32 v.media, .slice v.pa v.pn v.pc] from by rw [itm, hkind, hbn, hgn]] at this
  clear hkind hbn hgn hn hm hbs
  go_enter Try.func38, Try.ntmps38
  go_wp2_with fail
  refine (CB'.out _ HB.out).mono ?_
  rintro e w1 ⟨A, c, rfl, ho, hb1⟩
  rw [HN.out] at ho
  rw [HN.out]
  have D1 := HD.out.bel hb1
  have HB1 := Lib.hid (HB.out.trans (hb1.mono HB.out.size))
  have d0 := D1.c0
  rw [HK.out] at d0
  have HO := Lib.hid ho
  clear c0 c1 c2 c3 c4 c5 c6 c7 c8 c9 ho hb1 D1 HD HB CB CB'
  have hkk : Blk (w1.alloc (.cells #[.int .u8 (129), .int .u8 205, .int .u8 0, .int .u8 m] 5)) w1.heap.size L [] := by rw [HL.out]; exact alloc_blk w1 [129, 205, 0, m]
  have hLb : Bytes L := by
    have := HM.out
    rw [HL.out]
    intro x hx
    simp only [List.mem_cons, List.not_mem_nil, or_false] at hx
    rcases hx with rfl | rfl | rfl | rfl <;> omega
  have HOL := Lib.hid (Own.of_blk hkk (Nat.le_refl _) hLb (show L.length = 4 from by rw [HL.out]; rfl) (by unfold maxLen; omega))
  have hbA := (Below.refl w1.heap.size w1).alloc (Nat.le_refl _) (.cells #[.int .u8 (129), .int .u8 205, .int .u8 0, .int .u8 m] 5)
  have HOA := Lib.hid (HO.out.below hbA (Nat.le_refl _)).rd
  have HBA := Lib.hid hbA
  clear hkk hLb hbA HO
  go_wp2_with (at_builtin; refine wpList_append_bytes rfl _ _ rfl w1.heap.size _ 4 4 n c (4 + n) _ A L bs (L ++ bs) rfl rfl rfl rfl HOL.out HOA.out ?c1 ?c2 ?_
               case c1 => simp
               case c2 => omega
               intro A2 c2 w2 ho2 hb2
               have HO2 := Lib.hid ho2
               have HB2 := Lib.hid hb2
               clear ho2 hb2)
  go_ret
  have hl : ys.length = 4 + n := by rw [HY.out, List.length_append, HN.out, HL.out]; rfl
  have ho := HO2.out
  rw [← HY.out] at ho
  refine ⟨A2, c2, by rw [hl]; rfl, ?_, ?_⟩
  · rw [hl]; exact own_lower ho HB1.out.size
  · exact HB1.out.trans ((HBA.out.trans HB2.out).mono HB1.out.size)

set_option maxHeartbeats 4000000 in
theorem item_206 (v : IV) (bn gn : Nat) (bs : List Int) (w : World) (hkind : v.kind = 206) (hbn : v.bn = bn) (hgn : v.gn = gn) (h15 : bn + gn ≤ 100) (hbs : bs.length ≤ 1000) (CB : Hid (∀ W, Below w.heap.size w W → Calls Try.prog 65 #[itm v] W (NewRow W bs))) :
    Calls Try.prog 38 #[itm v] w (NewRow w ([129, 206, 0, ((bs.length / 4 : Nat) : Int)] ++ bs)) := by
  have HK := Lib.hid hkind
  have HBN := Lib.hid hbn
  have HGN := Lib.hid hgn
  have HD := Lib.hid (IBlk.new w v)
  have HB := Lib.hid ((Below.refl w.heap.size w).alloc (Nat.le_refl _) (iobj v))
  obtain ⟨n, hn⟩ : ∃ n, bs.length = n := ⟨_, rfl⟩
  have HN := Lib.hid hn
  obtain ⟨m, hm⟩ : ∃ m : Int, ((bs.length / 4 : Nat) : Int) = m := ⟨_, rfl⟩
  have q1 : (n : Int).tdiv 4 = m := by rw [Int.tdiv_eq_ediv_of_nonneg (by omega)]; omega
  have q2 : wrap64 m = m := by unfold wrap64; omega
  have q6 : m % 256 = m := by omega
  have q3 : IntKind.u8.wrap (128 + ((bn : Int) + gn)) = 128 + (bn + gn) := wrap_u8 _ ⟨by omega, by omega⟩
  have q4 : IntKind.i64.wrap ((bn : Int) + gn) = bn + gn := IntWalk.i64_in _ (by omega)
  have q5 : IntKind.i64.wrap (128 + ((bn : Int) + gn)) = 128 + (bn + gn) := IntWalk.i64_in _ (by omega)
  have HM := Lib.hid (show 0 ≤ m ∧ m ≤ 255 ∧ (bn : Int) + gn ≤ 100 from ⟨by omega, by omega, by omega⟩)
  have hn' : n ≤ 1000 := by omega
  rw [hm]
  obtain ⟨L, hL⟩ : ∃ L : List Int, L = [129, 206, 0, m] := ⟨_, rfl⟩
  rw [← hL]
  obtain ⟨ys, hy⟩ : ∃ ys, ys = L ++ bs := ⟨_, rfl⟩
  rw [← hy]
  have HL := Lib.hid hL
  have HY := Lib.hid hy
  clear hL hy
  have c0 := HD.out.c0
  have c6 := HD.out.c6
  have c7 := HD.out.c7
  have c1 := HD.out.c1
  have c2 := HD.out.c2
  have c3 := HD.out.c3
  have c4 := HD.out.c4
  have c5 := HD.out.c5
  have c8 := HD.out.c8
  have c9 := HD.out.c9
  rw [HK.out] at c0
  rw [HBN.out] at c6
  rw [HGN.out] at c7
  have CB' : Hid (∀ W, Below w.heap.size w W → Calls Try.prog 65 #[.agg #[.int .i64 206, .int .u32 v.ssrc, .int .u64 v.ntp, .int .u32 v.time, .int .u32 v.pks, .int .u32 v.ocs, .slice v.ba bn v.bc, .slice v.ga gn v.gc, .int .u32 v.media, .slice v.pa v.pn v.pc]] W (NewRow W bs)) := fun W hW => by
    have := CB.out W hW
    rwa [show itm v = .agg #[.int .i64 206, .int .u32 v.ssrc, .int .u64 v.ntp, .int .u32 v.time, .int .u32 v.pks, .int .u32 v.ocs, .slice v.ba bn v.bc, .slice v.ga gn v.gc, .int .u32 v.media, .slice v.pa v.pn v.pc] from by rw [itm, hkind, hbn, hgn]] at this
  clear hkind hbn hgn hn hm hbs
  go_enter Try.func38, Try.ntmps38
  go_wp2_with fail
  refine (CB'.out _ HB.out).mono ?_
  rintro e w1 ⟨A, c, rfl, ho, hb1⟩
  rw [HN.out] at ho
  rw [HN.out]
  have D1 := HD.out.bel hb1
  have HB1 := Lib.hid (HB.out.trans (hb1.mono HB.out.size))
  have d0 := D1.c0
  rw [HK.out] at d0
  have HO := Lib.hid ho
  clear c0 c1 c2 c3 c4 c5 c6 c7 c8 c9 ho hb1 D1 HD HB CB CB'
  have hkk : Blk (w1.alloc (.cells #[.int .u8 (129), .int .u8 206, .int .u8 0, .int .u8 m] 5)) w1.heap.size L [] := by rw [HL.out]; exact alloc_blk w1 [129, 206, 0, m]
  have hLb : Bytes L := by
    have := HM.out
    rw [HL.out]
    intro x hx
    simp only [List.mem_cons, List.not_mem_nil, or_false] at hx
    rcases hx with rfl | rfl | rfl | rfl <;> omega
  have HOL := Lib.hid (Own.of_blk hkk (Nat.le_refl _) hLb (show L.length = 4 from by rw [HL.out]; rfl) (by unfold maxLen; omega))
  have hbA := (Below.refl w1.heap.size w1).alloc (Nat.le_refl _) (.cells #[.int .u8 (129), .int .u8 206, .int .u8 0, .int .u8 m] 5)
  have HOA := Lib.hid (HO.out.below hbA (Nat.le_refl _)).rd
  have HBA := Lib.hid hbA
  clear hkk hLb hbA HO
  go_wp2_with (at_builtin; refine wpList_append_bytes rfl _ _ rfl w1.heap.size _ 4 4 n c (4 + n) _ A L bs (L ++ bs) rfl rfl rfl rfl HOL.out HOA.out ?c1 ?c2 ?_
               case c1 => simp
               case c2 => omega
               intro A2 c2 w2 ho2 hb2
               have HO2 := Lib.hid ho2
               have HB2 := Lib.hid hb2
               clear ho2 hb2)
  go_ret
  have hl : ys.length = 4 + n := by rw [HY.out, List.length_append, HN.out, HL.out]; rfl
  have ho := HO2.out
  rw [← HY.out] at ho
  refine ⟨A2, c2, by rw [hl]; rfl, ?_, ?_⟩
  · rw [hl]; exact own_lower ho HB1.out.size
  · exact HB1.out.trans ((HBA.out.trans HB2.out).mono HB1.out.size)


/-- Item of any item that may be. -/
theorem item_all (w : World) (i : Itm) (l : ILoc) (B : Nat) (ho : i.Ok) (h : IRd w B i l) (hB : B ≤ w.heap.size) (hM : MayI i) : Calls Try.prog 38 #[itm (ivOf i l)] w (NewRow w (encI i)) := by
  rcases hk : isRep i.kind with _ | _
  · have hw := body_words i hM
    have hlen : (bodyI i).length ≤ 1000 := by omega
    have h' := h.more hB
    simp only [isRep, Bool.or_eq_false_iff, decide_eq_false_iff_not] at hk
    rcases hM with ⟨k, _⟩ | ⟨k, _⟩ | ⟨k, s, b, p, m, z, r1, r2⟩ | ⟨k, s, b, g, r1, r2⟩ | ⟨k, s, b, g, p⟩
    · exact absurd k hk.1
    · exact absurd k hk.2

    · have CB : Hid (∀ W, Below w.heap.size w W → Calls Try.prog 65 #[itm (ivOf i l)] W (NewRow W (bodyI i))) := fun W hW => by
        have hr := (h'.below hW).more hW.size
        exact body_203 (ivOf i l) i.blocks.length i.gone.length i.pairs.length i.blocks i.gone i.pairs W k rfl rfl rfl hr.blocks hr.gone hr.pairs ho.blocks (fun x hx => by rw [b] at hx; simp at hx) ho.pairs ho.ssrc ho.ntp ho.time ho.pks ho.ocs ho.media (by rw [b]; simp) (by omega) (by rw [p]; simp) _ (show bodyI i = _ from by simp [bodyI, k])
      have := item_203 (ivOf i l) i.blocks.length i.gone.length (bodyI i) w k rfl rfl (by rw [b]; simp only [List.length_nil]; omega) hlen CB
      rwa [show [128 + ((i.blocks.length : Int) + i.gone.length), 203, 0, (((bodyI i).length / 4 : Nat) : Int)] ++ bodyI i = encI i from by simp [encI, cntI, k]] at this
    · have CB : Hid (∀ W, Below w.heap.size w W → Calls Try.prog 65 #[itm (ivOf i l)] W (NewRow W (bodyI i))) := fun W hW => by
        have hr := (h'.below hW).more hW.size
        exact body_205 (ivOf i l) i.blocks.length i.gone.length i.pairs.length i.blocks i.gone i.pairs W k rfl rfl rfl hr.blocks hr.gone hr.pairs ho.blocks (fun x hx => by rw [b] at hx; simp at hx) ho.pairs ho.ssrc ho.ntp ho.time ho.pks ho.ocs ho.media (by rw [b]; simp) (by rw [g]; simp) (by omega) _ (show bodyI i = _ from by simp [bodyI, k]; rfl)
      have := item_205 (ivOf i l) i.blocks.length i.gone.length (bodyI i) w k rfl rfl (by rw [b]; rw [g]; simp) hlen CB
      rwa [show [129, 205, 0, (((bodyI i).length / 4 : Nat) : Int)] ++ bodyI i = encI i from by simp [encI, cntI, k]] at this
    · have CB : Hid (∀ W, Below w.heap.size w W → Calls Try.prog 65 #[itm (ivOf i l)] W (NewRow W (bodyI i))) := fun W hW => by
        have hr := (h'.below hW).more hW.size
        exact body_206 (ivOf i l) i.blocks.length i.gone.length i.pairs.length i.blocks i.gone i.pairs W k rfl rfl rfl hr.blocks hr.gone hr.pairs ho.blocks (fun x hx => by rw [b] at hx; simp at hx) ho.pairs ho.ssrc ho.ntp ho.time ho.pks ho.ocs ho.media (by rw [b]; simp) (by rw [g]; simp) (by rw [p]; simp) _ (show bodyI i = _ from by simp [bodyI, k]; rfl)
      have := item_206 (ivOf i l) i.blocks.length i.gone.length (bodyI i) w k rfl rfl (by rw [b]; rw [g]; simp) hlen CB
      rwa [show [129, 206, 0, (((bodyI i).length / 4 : Nat) : Int)] ++ bodyI i = encI i from by simp [encI, cntI, k]] at this
  · exact item_itm w i l B ho h hB hk hM

end Go.Proofs.Ythmmafpmpnhleaa.Fbk
