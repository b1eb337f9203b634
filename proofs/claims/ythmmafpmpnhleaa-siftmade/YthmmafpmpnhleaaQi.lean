/- The contracts of the reference's IsReport, bare, MayItem. -/
import Derived.Test.YthmmafpmpnhleaaQc
set_option maxRecDepth 100000
namespace Go.Proofs.Ythmmafpmpnhleaa.Fbk
open Go.RowKit
set_option linter.unusedVariables false

def sendV (v : IV) : Bool := decide (v.ntp = 0) && decide (v.time = 0) && decide (v.pks = 0) && decide (v.ocs = 0)
def bareV (v : IV) : Bool :=
  (decide (v.kind = 200) || sendV v) && (isRep v.kind || decide (v.bn = 0)) && (decide (v.kind = 203) || decide (v.gn = 0)) && (decide (v.kind = 205) || decide (v.pn = 0)) && (decide (v.kind = 205) || decide (v.kind = 206) || decide (v.media = 0)) && (!decide (v.kind = 203) || decide (v.ssrc = 0))
set_option maxHeartbeats 4000000 in
theorem bare_200 (v : IV) (w : World) (hk : v.kind = 200) : Calls Try.prog 64 #[itm v] w (RetB w (bareV v)) := by
  have D := IBlk.new w v
  have c0 := D.c0
  have c7 := D.c7
  have c8 := D.c8
  have c9 := D.c9
  clear D
  unfold bareV sendV isRep
  obtain ⟨kind, ssrc, ntp, time, pks, ocs, ba, bn, bc, ga, gn, gc, media, pa, pn, pc⟩ := v
  simp only at *
  subst hk
  by_cases h7 : gn = 0
  case' neg => have h7' : (0 : Int) < gn := by omega
  case' pos =>
    subst h7
    by_cases h9 : pn = 0
    case' neg => have h9' : (0 : Int) < pn := by omega
    case' pos =>
      subst h9
      by_cases h8 : media = 0
      case' pos => subst h8
  all_goals
    go_enter Try.func64, Try.ntmps64
    go_wp2
    go_ret
    exact ⟨ret_bool (by rw [Bool.eq_iff_iff]; simp [*]), (Below.refl _ _).alloc (Nat.le_refl _) _⟩
set_option maxHeartbeats 4000000 in
theorem bare_201 (v : IV) (w : World) (hk : v.kind = 201) : Calls Try.prog 64 #[itm v] w (RetB w (bareV v)) := by
  have D := IBlk.new w v
  have c0 := D.c0
  have c2 := D.c2
  have c3 := D.c3
  have c4 := D.c4
  have c5 := D.c5
  have c7 := D.c7
  have c8 := D.c8
  have c9 := D.c9
  clear D
  unfold bareV sendV isRep
  obtain ⟨kind, ssrc, ntp, time, pks, ocs, ba, bn, bc, ga, gn, gc, media, pa, pn, pc⟩ := v
  simp only at *
  subst hk
  by_cases h2 : ntp = 0
  case' pos =>
    subst h2
    by_cases h3 : time = 0
    case' pos =>
      subst h3
      by_cases h4 : pks = 0
      case' pos =>
        subst h4
        by_cases h5 : ocs = 0
        case' pos =>
          subst h5
          by_cases h7 : gn = 0
          case' neg => have h7' : (0 : Int) < gn := by omega
          case' pos =>
            subst h7
            by_cases h9 : pn = 0
            case' neg => have h9' : (0 : Int) < pn := by omega
            case' pos =>
      subst h9
      by_cases h8 : media = 0
      case' pos => subst h8
  all_goals
    go_enter Try.func64, Try.ntmps64
    go_wp2
    go_ret
    exact ⟨ret_bool (by rw [Bool.eq_iff_iff]; simp [*]), (Below.refl _ _).alloc (Nat.le_refl _) _⟩
/-- MayItem of a report. -/
theorem rmay_rep (v : IV) (K : Int) (B n : Nat) (xs : List Blo) (w : World) (hk : v.kind = K) (hK : K = 200 ∨ K = 201) (hbn : v.bn = n) (h : RowRd bloL w B v.ba n xs) (hB : B ≤ w.heap.size) (hn : n ≤ 140737488351232) (CB : Hid (∀ W, Calls Try.prog 64 #[itm v] W (RetB W (bareV v)))) :
    Calls Try.prog 37 #[itm v] w (RetB w (bareV v && blosOkB xs)) := by
  have hl := h.1
  have HD := Lib.hid (IBlk.new w v)
  have HB := Lib.hid ((Below.refl w.heap.size w).alloc (Nat.le_refl _) (iobj v))
  have HK := Lib.hid hk
  have HBN := Lib.hid hbn
  have HR := Lib.hid h
  clear h hk hbn
  generalize bareV v = t at CB ⊢
  rcases t with _ | _
  · go_enter Try.func37, Try.ntmps37
    go_wp2_with fail
    refine (CB.out _).mono ?_
    rintro e w1 ⟨rfl, hb1⟩
    have HB1 := Lib.hid (HB.out.trans (hb1.mono HB.out.size))
    clear hb1
    go_wp2
    go_ret
    exact ⟨rfl, HB1.out⟩
  · rw [Bool.true_and]
    have HV : Hid (blosOkB xs = (decide (n ≤ 15) && xs.all totB)) := by unfold blosOkB; rw [hl]; exact rfl
    rcases hK with rfl | rfl
    all_goals
      go_enter Try.func37, Try.ntmps37
      go_wp2_with fail
      refine (CB.out _).mono ?_
      rintro e w1 ⟨rfl, hb1⟩
      have HB1 := Lib.hid (HB.out.trans (hb1.mono HB.out.size))
      have D1 := HD.out.bel hb1
      have HD1 := Lib.hid D1
      have c0 := D1.c0
      rw [HK.out] at c0
      have c6 := D1.c6
      rw [HBN.out] at c6
      clear hb1 D1 HD HB
      go_wp2
      clear c0 c6
      go_loopw [16] (fun sk wx => ∃ k : Nat, k ≤ n ∧ sk = .int .i64 k ∧ Hid (Below w.heap.size w wx) ∧ Hid (IBlk wx w.heap.size v) ∧ Hid ((xs.take k).all totB = true)) (fun sk _ => n - (intOf sk).toNat)
      case atStart => exact ⟨0, by omega, rfl, HB1.out, HD1.out, (by simp : (xs.take 0).all totB = true)⟩
      case round =>
        obtain ⟨k, hkn, rfl, hb, hd, ha⟩ := hrel
        rename World => wx
        clear HB1 HD1
        by_cases hlt : k < n
        · obtain ⟨b, off, x, ea, hbB, hx, d0, d1, d2, d3, d4, d5, d6⟩ := blo_at (HR.out.below (hb.out.mono hB)) hlt
          have HX := Lib.hid hx
          have hbA := (Below.refl wx.heap.size wx).alloc (Nat.le_refl _) (bloO x)
          have HB2 := Lib.hid (hb.out.trans (hbA.mono hb.out.size))
          have HD2 := Lib.hid (hd.out.bel hbA)
          clear hx hbA hb hd
          rw [ea]
          by_cases ht : x.total < 16777216
          · have ht' : ¬ (16777216 : Int) ≤ x.total := by omega
            go_wp2
            go_roundw
            case rel =>
              refine ⟨k + 1, by omega, by go_num, HB2.out, HD2.out, ?_⟩
              show (xs.take (k + 1)).all totB = true
              rw [List.take_add_one, HX.out, List.all_append, show (xs.take k).all totB = true from ha]
              simp [totB, ht]
            case measure => simp [intOf]; omega
          · have ht' : (16777216 : Int) ≤ x.total := by omega
            go_wp2
            go_ret
            refine ⟨ret_bool ?_, HB2.out⟩
            have hf : xs.all totB = false := by
              rw [List.all_eq_false]
              exact ⟨x, List.mem_of_getElem? HX.out, by simp [totB, ht]⟩
            rw [HV.out, hf, Bool.and_false]
        · obtain rfl : k = n := by omega
          have c6 := hd.out.c6
          rw [HBN.out] at c6
          go_wp2
          go_ret
          refine ⟨ret_bool ?_, hb.out⟩
          have ht : xs.all totB = true := by
            have := ha.out
            rwa [List.take_of_length_le (by omega)] at this
          rw [HV.out, ht, Bool.and_true, Bool.eq_iff_iff]
          simp
          try omega
theorem bare_rep (i : Itm) (l : ILoc) (hk : isRep i.kind = true) : (bareV (ivOf i l) && blosOkB i.blocks) = mayI i := by
  unfold bareV sendV isRep blosOkB mayI sendZ repMay ivOf
  have e : i.blocks.all totB = i.blocks.all (fun x => decide (x.total < 16777216)) := rfl
  rw [e]
  generalize i.blocks.all (fun x => decide (x.total < 16777216)) = t
  generalize decide (i.blocks.length ≤ 15) = s
  simp only [isRep, Bool.or_eq_true, decide_eq_true_eq] at hk
  simp only
  rcases hk with h0 | h0
  · simp only [h0]
    rw [Bool.eq_iff_iff]; simp
  · simp only [h0]
    rw [Bool.eq_iff_iff]; simp
theorem rmay_itm (w : World) (i : Itm) (l : ILoc) (B : Nat) (hk : isRep i.kind = true) (h : IRd w B i l) (hB : B ≤ w.heap.size) : Calls Try.prog 37 #[itm (ivOf i l)] w (RetB w (mayI i)) := by
  rw [← bare_rep i l hk]
  simp only [isRep, Bool.or_eq_true, decide_eq_true_eq] at hk
  refine rmay_rep (ivOf i l) i.kind B i.blocks.length i.blocks w rfl hk rfl h.blocks hB h.bn (fun W => ?_)
  rcases hk with hk | hk
  · exact bare_200 (ivOf i l) W hk
  · exact bare_201 (ivOf i l) W hk
end Go.Proofs.Ythmmafpmpnhleaa.Fbk
