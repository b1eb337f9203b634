/- RingFull walked. -/
import Derived.Test.YtkajajihjohenaaHi
import Derived.Deep.CutRange
import Derived.Deep.CutBlock
set_option maxRecDepth 100000
namespace Go.Proofs.Ytkajajihjohenaa.Rng
open Go.RowKit
open Go.Proofs.Ytkajajihjohenaa.Arn
set_option linter.unusedVariables false

theorem RIn.mono {w w' : World} {b g C : Nat} {L L' : List Cl} (h : RIn w b g C L) (e : L = L') : RIn w b g C L' := e ▸ h
theorem rep_push {C i : Nat} (x : Cl) (h : i < C) : pushL C (List.replicate i x) x = List.replicate (i + 1) x := by
  rw [pushL_yes (by rw [List.length_replicate]; exact h), List.replicate_succ']
/-- The ring at b, its places at g, and the law's cell at q. -/
structure Ful (w0 w : World) (b g q C : Nat) (x : Cl) (L : List Cl) : Prop where
  rg : RIn w b g C L
  bel : Below w0.heap.size w0 w
  cel : CBlk w q x
  sep : w0.heap.size ≤ b ∧ w0.heap.size ≤ g ∧ ¬ (q = b ∨ q = g)
section
variable {w0 w w' : World} {b g q C : Nat} {x : Cl} {L L' : List Cl}
theorem Ful.more (h : Ful w0 w b g q C x L) (hb : Below w.heap.size w w') : Ful w0 w' b g q C x L := ⟨h.rg.bel hb, h.bel.trans (hb.mono h.bel.size), h.cel.bel hb h.cel.lt, h.sep⟩
theorem Ful.step (h : Ful w0 w b g q C x L) (hr : RIn w' b g C L') (hu : Upd (fun k => k = b ∨ k = g) w w') : Ful w0 w' b g q C x L' := ⟨hr, h.bel.trans (hu.below h.bel.size (fun k hk => by have := h.sep; rcases hk with rfl | rfl; exact this.1; exact this.2.1)), h.cel.upd hu h.sep.2.2, h.sep⟩
theorem Ful.len (h : Ful w0 w b g q C x L) : Calls Try.prog 15 #[.pointer (some ⟨b, 0, none⟩)] w fun e w' => e = .returned (.int .i64 L.length) ∧ Ful w0 w' b g q C x L := by
  obtain ⟨f, P, hr⟩ := h.rg
  refine (len_any w b g C f P L hr).mono ?_
  rintro e w' ⟨rfl, hb⟩
  exact ⟨rfl, h.more hb⟩
theorem Ful.room (h : Ful w0 w b g q C x L) : Calls Try.prog 16 #[.pointer (some ⟨b, 0, none⟩)] w fun e w' => e = .returned (.int .i64 ((C - L.length : Nat) : Int)) ∧ Ful w0 w' b g q C x L := by
  obtain ⟨f, P, hr⟩ := h.rg
  refine (room_any w b g C f P L hr).mono ?_
  rintro e w' ⟨rfl, hb⟩
  exact ⟨rfl, h.more hb⟩
theorem Ful.push (h : Ful w0 w b g q C x L) (y : Cl) : Calls Try.prog 12 #[.pointer (some ⟨b, 0, none⟩), clV y] w fun e w' => e = .returned (.bool (decide (L.length < C))) ∧ Ful w0 w' b g q C x (pushL C L y) := by
  refine (push_any w b g C L y h.rg).mono ?_
  rintro e w' ⟨rfl, hr, hu⟩
  exact ⟨rfl, h.step hr hu⟩
theorem Ful.pop (h : Ful w0 w b g q C x L) : Calls Try.prog 10 #[.pointer (some ⟨b, 0, none⟩)] w fun e w' => e = .returned (.tuple #[clV (headV L), .bool (decide (0 < L.length))]) ∧ Ful w0 w' b g q C x L.tail := by
  refine (pop_any w b g C L h.rg).mono ?_
  rintro e w' ⟨rfl, hr, hu⟩
  exact ⟨rfl, h.step hr hu⟩
theorem Ful.all (h : Ful w0 w b g q C x L) : Calls Try.prog 18 #[.pointer (some ⟨b, 0, none⟩)] w fun e w' => ∃ A c, e = .returned (.slice A L.length c) ∧ Ful w0 w' b g q C x L := by
  refine (all_any w b g C L h.rg).mono ?_
  rintro e w' ⟨A, c, rfl, -, hb⟩
  exact ⟨A, c, rfl, h.more hb⟩
end

set_option maxHeartbeats 8000000 in
theorem full_any (w : World) (n r : Int) (x : Cl) (hn1 : -9223372036854775808 ≤ n) (hn2 : n ≤ 9223372036854775807) : Calls Try.prog 5 #[.int .i64 n, .int .i64 r, clV x] w fun e w' => e = .returned (.bool true) ∧ Below w.heap.size w w' := by
  have HB := Lib.hid ((Below.refl w.heap.size w).alloc (Nat.le_refl _) (clO x))
  have D := Lib.hid (CBlk.new w x)
  have CS := Lib.hid (fun W => shown_any W)
  have CN := Lib.hid (fun W => new_any W n hn1 hn2)
  obtain ⟨C, hC⟩ : ∃ C, capN n = C := ⟨_, rfl⟩
  have hC1 : 1 ≤ C ∧ C ≤ 256 := by rw [← hC]; exact capN_le n
  have HC := Lib.hid (And.intro hC (And.intro hn1 hn2))
  obtain ⟨q, hq⟩ : ∃ q, w.heap.size = q := ⟨_, rfl⟩
  rw [hq] at D
  have HQ := Lib.hid hq
  clear hn1 hn2 hC
  by_cases hr1 : r < 1
  · go_enter Try.func5, Try.ntmps5
    go_wp2_with fail
    refine (CS.out _).mono ?_
    rintro e w1 ⟨rfl, hb1⟩
    have H1 := Lib.hid (HB.out.trans (hb1.mono HB.out.size))
    clear hb1 HB D CS
    go_wp2
    go_ret
    exact ⟨rfl, H1.out⟩
  by_cases hr2 : 4 < r
  · go_enter Try.func5, Try.ntmps5
    go_wp2_with fail
    refine (CS.out _).mono ?_
    rintro e w1 ⟨rfl, hb1⟩
    have H1 := Lib.hid (HB.out.trans (hb1.mono HB.out.size))
    clear hb1 HB D CS
    go_wp2
    go_ret
    exact ⟨rfl, H1.out⟩
  obtain ⟨R, rfl⟩ := Int.eq_ofNat_of_zero_le (show 0 ≤ r by omega)
  have hR : 1 ≤ R ∧ R ≤ 4 := by omega
  have e1 : decide ((R : Int) < 1) = false := by simp; omega
  have e2 : decide ((4 : Int) < (R : Int)) = false := by simp; omega
  clear hr1 hr2
  go_enter Try.func5, Try.ntmps5
  go_wp2_with fail
  refine (CS.out _).mono ?_
  rintro e w1 ⟨rfl, hb1⟩
  have H1 := Lib.hid (HB.out.trans (hb1.mono HB.out.size))
  have D1 := Lib.hid (D.out.bel hb1 D.out.lt)
  clear hb1 HB D CS
  go_wp2_with fail
  refine (CN.out _).mono ?_
  rintro e w2 ⟨b, g, rfl, hA, hb, hg, hB⟩
  rw [HC.out.1] at hA
  have HF : Hid (Ful w w2 b g q C x []) := Lib.hid ⟨⟨_, _, hA⟩, H1.out.trans (hB.mono H1.out.size), D1.out.bel hB D1.out.lt, ⟨Nat.le_trans H1.out.size hb, Nat.le_trans H1.out.size hg, by have := D1.out.lt; omega⟩⟩
  clear hA hb hg hB H1 D1 CN
  go_upto_region 6 with fail
  go_cut [8] from 26 to 28 (fun sv wc => sv = .int .i64 C ∧ wc = w2)
  case first =>
    have h3 : n < 1 ∨ (1 ≤ n ∧ n ≤ 256) ∨ 256 < n := by omega
    have hC := HC.out.1
    unfold capN at hC
    rcases h3 with h | ⟨h, h'⟩ | h
    · obtain rfl : 1 = C := by omega
      go_wp2
      go_meet
      case rel => exact ⟨rfl, rfl⟩
    · obtain rfl : n = (C : Int) := by omega
      go_wp2
      go_meet
      case rel => exact ⟨rfl, rfl⟩
    · obtain rfl : 256 = C := by omega
      go_wp2
      go_meet
      case rel => exact ⟨rfl, rfl⟩
  case rest =>
    obtain ⟨rfl, rfl⟩ := hcut
    go_wp2
    go_loopw [9] (fun sk wx => ∃ k : Nat, k ≤ R ∧ sk = .int .i64 k ∧ Hid (Ful w wx b g q C x [])) (fun sk _ => R - (intOf sk).toNat)
    case atStart => exact ⟨0, by omega, rfl, HF⟩
    case round =>
      obtain ⟨k, hk, rfl, hF⟩ := hrel
      rename World => wx
      clear HF
      by_cases hlt : k < R
      · have hd : decide (k < R) = true := by simp; exact hlt
        go_wp2
        go_loopw [10] (fun si wy => ∃ i : Nat, i ≤ C ∧ si = .int .i64 i ∧ Hid (Ful w wy b g q C x (List.replicate i x))) (fun si _ => C - (intOf si).toNat)
        case atStart => exact ⟨0, by omega, rfl, hF⟩
        case round =>
          obtain ⟨i, hi, rfl, hG⟩ := hrel
          rename World => wy
          clear hF
          by_cases hil : i < C
          · have hd2 : decide (i < C) = true := by simp; exact hil
            obtain ⟨m, hm⟩ : ∃ m, C - i = m := ⟨_, rfl⟩
            have qw : IntKind.i64.wrap ((C : Int) - i) = (m : Int) := by rw [IntWalk.i64_in _ (by omega)]; omega
            have CR := Lib.hid hG.out.room
            rw [List.length_replicate, hm] at CR
            have HP := Lib.hid (rep_push x hil)
            clear hG hm
            go_wp2_with fail
            refine CR.out.mono ?_
            rintro e w3 ⟨rfl, hG⟩
            have CP := Lib.hid (hG.push x)
            rw [List.length_replicate, decide_eq_true hil, HP.out] at CP
            have d0 := hG.cel.c0
            have d1 := hG.cel.c1
            have d2 := hG.cel.c2
            have d3 := hG.cel.c3
            clear hG CR
            go_wp2_with fail
            refine CP.out.mono ?_
            rintro e w4 ⟨rfl, hG⟩
            have HG := Lib.hid hG
            clear hG CP d0 d1 d2 d3
            go_wp2
            go_roundw
            case rel => exact ⟨i + 1, by omega, by go_num, HG⟩
            case measure => simp [intOf]; omega
          · obtain rfl : i = C := by omega
            have hd2 : decide (i < i) = false := by simp
            have CP := Lib.hid (hG.out.push x)
            rw [List.length_replicate, decide_eq_false hil, pushL_no (by rw [List.length_replicate]; exact hil)] at CP
            have d0 := hG.out.cel.c0
            have d1 := hG.out.cel.c1
            have d2 := hG.out.cel.c2
            have d3 := hG.out.cel.c3
            clear hG
            go_wp2_with fail
            refine CP.out.mono ?_
            rintro e w4 ⟨rfl, hG⟩
            have CR := Lib.hid hG.room
            rw [List.length_replicate, Nat.sub_self] at CR
            clear hG CP d0 d1 d2 d3
            go_wp2_with fail
            refine CR.out.mono ?_
            rintro e w5 ⟨rfl, hG⟩
            have CL := Lib.hid hG.len
            rw [List.length_replicate] at CL
            clear hG CR
            go_wp2_with fail
            refine CL.out.mono ?_
            rintro e w6 ⟨rfl, hG⟩
            have CA := Lib.hid hG.all
            rw [List.length_replicate] at CA
            clear hG CL
            go_wp2_with fail
            refine CA.out.mono ?_
            rintro e w7 ⟨A, c, rfl, hG⟩
            have HG := Lib.hid hG
            clear hG CA
            go_wp2
            go_loopw [11] (fun sj wz => ∃ j : Nat, j ≤ i ∧ sj = .int .i64 j ∧ Hid (Ful w wz b g q i x (List.replicate (i - j) x))) (fun sj _ => i - (intOf sj).toNat)
            case atStart => exact ⟨0, by omega, rfl, HG⟩
            case round =>
              obtain ⟨j, hj, rfl, hG⟩ := hrel
              rename World => wz
              clear HG
              by_cases hjl : j < i
              · have hd3 : decide (j < i) = true := by simp; exact hjl
                have CP := Lib.hid hG.out.pop
                rw [show List.replicate (i - j) x = x :: List.replicate (i - (j + 1)) x from by rw [← List.replicate_succ]; congr 1; omega] at CP
                rw [show headV (x :: List.replicate (i - (j + 1)) x) = x from rfl, show decide (0 < (x :: List.replicate (i - (j + 1)) x).length) = true from by simp, List.tail_cons] at CP
                clear hG
                go_wp2_with fail
                refine CP.out.mono ?_
                rintro e w8 ⟨rfl, hG⟩
                have hbx : Below w8.heap.size w8 (w8.alloc (clO x)) := (Below.refl _ _).alloc (Nat.le_refl _) _
                have HG := Lib.hid (hG.more hbx)
                have E := CBlk.new w8 x
                have v0 := E.c0
                have v1 := E.c1
                have v2 := E.c2
                have v3 := E.c3
                have d0 := HG.out.cel.c0
                have d1 := HG.out.cel.c1
                have d2 := HG.out.cel.c2
                have d3 := HG.out.cel.c3
                have qn := neq_same x
                clear hG CP E hbx
                go_wp2_with fail
                clear v0 v1 v2 v3 d0 d1 d2 d3 qn
                go_roundw
                case rel => exact ⟨j + 1, by omega, by go_num, HG⟩
                case measure => simp [intOf]; omega
              · obtain rfl : j = i := by omega
                have hd3 : decide (j < j) = false := by simp
                have hG2 : Hid (Ful w wz b g q j x []) := by have := hG; rw [Nat.sub_self] at this; exact this
                clear hG
                go_wp2
                go_roundw
                case rel => exact ⟨k + 1, by omega, by go_num, hG2⟩
                case measure => simp [intOf]; omega
      · obtain rfl : k = R := by omega
        have hd : decide (k < k) = false := by simp
        have CP := Lib.hid hF.out.pop
        rw [show headV [] = cl0 from rfl, show decide (0 < ([] : List Cl).length) = false from rfl, show ([] : List Cl).tail = [] from rfl] at CP
        clear hF
        go_wp2_with fail
        refine CP.out.mono ?_
        rintro e w8 ⟨rfl, hG⟩
        have HG := Lib.hid (hG.more ((Below.refl _ _).alloc (Nat.le_refl _) (clO cl0)))
        have CL := Lib.hid HG.out.len
        rw [show (([] : List Cl).length : Int) = 0 from rfl] at CL
        clear hG CP HG
        go_wp2_with fail
        refine CL.out.mono ?_
        rintro e w9 ⟨rfl, hG⟩
        have HG := Lib.hid hG.bel
        clear hG CL
        go_wp2
        go_ret
        exact ⟨rfl, HG.out⟩
end Go.Proofs.Ytkajajihjohenaa.Rng
