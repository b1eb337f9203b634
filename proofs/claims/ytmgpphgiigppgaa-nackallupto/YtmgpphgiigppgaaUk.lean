/- NackAll walked: the program and the reference ask for the same numbers, and pack the same pairs. -/
import Derived.Test.YtmgpphgiigppgaaUh
import Derived.Test.YtmgpphgiigppgaaUe
import Derived.Test.YtmgpphgiigppgaaUg
namespace Go.Proofs.Ytmgpphgiigppgaa.Nck
open Go.RowKit Go.Proofs.Ytmgpphgiigppgaa.Fbk
set_option linter.unusedVariables false

set_option maxHeartbeats 4000000 in
theorem all_any (a am : Option Addr) (cap capm nm B : Nat) (xs : List (Int × Int)) (ms : List Int) (s : Int) (w : World) (hl : xs.length ≤ 1048576) (hlm : nm ≤ 1048576) (hr : RowRd pairL w B a xs.length xs) (hrm : RowRd w16L w B am nm ms) (hB : B ≤ w.heap.size) (hok : ∀ x ∈ xs, U16 x.1 ∧ U16 x.2) (hom : ∀ x ∈ ms, U16 x) (hs : U16 s) :
    Calls Try.prog 3 #[.slice a xs.length cap, .slice am nm capm, .int .u16 s] w fun e w' => e = .returned (.bool true) ∧ Below w.heap.size w w' := by
  obtain rfl : ms.length = nm := hrm.1
  have HR := Lib.hid hr
  have HRM := Lib.hid hrm
  have HO := Lib.hid hok
  have HOM := Lib.hid hom
  have HS := Lib.hid hs
  obtain ⟨n, hn⟩ : ∃ n, xs.length = n := ⟨_, rfl⟩
  have HN := Lib.hid hn
  rw [hn] at HR hl ⊢
  obtain ⟨m, hm⟩ : ∃ m, ms.length = m := ⟨_, rfl⟩
  have HM := Lib.hid hm
  rw [hm] at HRM hlm ⊢
  clear hr hrm hok hom hn hm hs
  go_enter Try.func3, Try.ntmps3
  go_wp2_with fail
  refine (shown_any w).mono ?_
  rintro e w0 ⟨rfl, hb0⟩
  have C1 : Hid (Calls Try.prog 9 #[.slice a n cap] w0 fun e w' => New16 w0 (expand xs) e w') := by
    have := expand_any a cap B xs w0 (by have := HN.out; omega) (by rw [HN.out]; exact HR.out.below (hb0.mono hB)) (Nat.le_trans hB hb0.size) HO.out
    rw [HN.out] at this
    exact this
  have HB0 := Lib.hid hb0
  clear hb0
  go_wp2_with fail
  refine C1.out.mono ?_
  rintro e w1 ⟨A1, c1, rfl, ho1, hb1⟩
  have HB1 := Lib.hid (HB0.out.trans (hb1.mono HB0.out.size))
  have HX1 := Lib.hid ho1
  have C2 : Hid (Calls Try.prog 10 #[.slice a n cap] w1 fun e w' => New16 w1 (expand xs) e w') := by
    have := rexpand_any a cap B xs w1 (by have := HN.out; omega) (by rw [HN.out]; exact HR.out.below (HB1.out.mono hB)) (Nat.le_trans hB HB1.out.size) HO.out
    rw [HN.out] at this
    exact this
  clear C1 ho1 hb1 HB0
  obtain ⟨E, hE⟩ : ∃ E, expand xs = E := ⟨_, rfl⟩
  have hEl := expand_len_le xs
  rw [HN.out, hE] at hEl
  have HE := Lib.hid hE
  rw [hE] at HX1 C2 ⊢
  clear hE
  obtain ⟨L, hL⟩ : ∃ L, E.length = L := ⟨_, rfl⟩
  have HL := Lib.hid hL
  rw [hL] at hEl HX1 ⊢
  clear hL
  go_wp2_with fail
  refine C2.out.mono ?_
  rintro e w2 ⟨A2, c2, rfl, ho2, hb2⟩
  rw [HL.out] at ho2 ⊢
  have HX2 := Lib.hid (HX1.out.bel hb2)
  have HY2 := Lib.hid ho2
  have HB2 := Lib.hid (HB1.out.trans (hb2.mono HB1.out.size))
  clear C2 HX1 HB1 hb2 ho2
  go_wp2_with fail
  go_loopw [9, 23] (fun sh sj wy => ∃ (i : Nat) (hv : Bool), i ≤ L ∧ sj = .int .i64 i ∧ sh = .bool hv ∧ Hid (hv = decide (s ∈ E.take i)) ∧ wy = w2) (fun _ sj _ => L - (intOf sj).toNat)
  case atStart => exact ⟨0, false, by omega, rfl, rfl, by simp [Lib.hid], rfl⟩
  case round =>
    obtain ⟨i, hv, hi, rfl, rfl, hh, rfl⟩ := hrel
    rename World => w2
    by_cases hil : i < L
    · obtain ⟨g1, o1, e, rfl, _, he, c0⟩ := u16_at HY2.out.rd hil
      have HT := Lib.hid (take_snoc' E i e he)
      clear he
      obtain ⟨d, hd⟩ : ∃ d, (e == s) = d := ⟨_, rfl⟩
      have HD := Lib.hid hd
      cases hv with
      | true =>
        go_wp2_with fail
        go_roundw
        case rel =>
          refine ⟨i + 1, true, by omega, by go_num, rfl, Lib.hid ?_, trivial⟩
          have h1 : s ∈ E.take i := of_decide_eq_true hh.out.symm
          rw [HT.out]
          simp [h1]
        case measure => simp [intOf]; omega
      | false =>
        go_wp2_with fail
        go_roundw
        case rel =>
          refine ⟨i + 1, d, by omega, by go_num, rfl, Lib.hid ?_, trivial⟩
          have h1 : ¬ s ∈ E.take i := of_decide_eq_false hh.out.symm
          rw [HT.out, ← HD.out]
          rw [Bool.eq_iff_iff]
          simp only [List.mem_append, List.mem_singleton, decide_eq_true_iff, beq_iff_eq]
          exact ⟨fun h => Or.inr h.symm, fun h => h.elim (fun h2 => absurd h2 h1) Eq.symm⟩
        case measure => simp [intOf]; omega
    · obtain rfl : i = L := by omega
      have hh2 := hh.out
      rw [List.take_of_length_le (by rw [HL.out]; exact Nat.le_refl _)] at hh2
      have HH := Lib.hid hh2
      clear hh hh2 hil hi
      have C3 : Hid (Calls Try.prog 11 #[.slice am m capm] w2 fun e w' => NewP w2 (pk ms) e w') := by
        have := pack_any am capm B ms w2 (by have := HM.out; omega) (by rw [HM.out]; exact HRM.out.below (HB2.out.mono hB)) (Nat.le_trans hB HB2.out.size) HOM.out
        rw [HM.out] at this
        exact this
      go_wp2_with fail
      refine C3.out.mono ?_
      rintro e w3 ⟨A3, c3, rfl, ho3, hb3⟩
      have HX3 := Lib.hid (HX2.out.bel hb3)
      have HY3 := Lib.hid (HY2.out.bel hb3)
      have HB3 := Lib.hid (HB2.out.trans (hb3.mono HB2.out.size))
      have HP3 := Lib.hid ho3
      clear C3 HX2 HY2 HB2 hb3 ho3
      have C4 : Hid (Calls Try.prog 12 #[.slice am m capm] w3 fun e w' => NewP w3 (pk ms) e w') := by
        have := rpack_any am capm B ms w3 (by have := HM.out; omega) (by rw [HM.out]; exact HRM.out.below (HB3.out.mono hB)) (Nat.le_trans hB HB3.out.size) HOM.out
        rw [HM.out] at this
        exact this
      obtain ⟨P, hP⟩ : ∃ P, pk ms = P := ⟨_, rfl⟩
      have hPl := pk_len ms
      rw [HM.out, hP] at hPl
      rw [hP] at HP3 C4 ⊢
      clear hP
      obtain ⟨N, hN⟩ : ∃ N, P.length = N := ⟨_, rfl⟩
      have HNN := Lib.hid hN
      rw [hN] at hPl HP3 ⊢
      clear hN
      go_wp2_with fail
      refine C4.out.mono ?_
      rintro e w4 ⟨A4, c4, rfl, ho4, hb4⟩
      rw [HNN.out] at ho4 ⊢
      have HX4 := Lib.hid (HX3.out.bel hb4)
      have HY4 := Lib.hid (HY3.out.bel hb4)
      have HP4 := Lib.hid (HP3.out.bel hb4)
      have HB4 := Lib.hid (HB3.out.trans (hb4.mono HB3.out.size))
      have HQ4 := Lib.hid ho4
      clear C4 HX3 HY3 HP3 HB3 hb4 ho4
      have C5 : Hid (Calls Try.prog 13 #[.slice A1 i c1, .slice A2 i c2] w4 fun e w' => e = .returned (.bool true) ∧ Below w4.heap.size w4 w') := by
        have := same_any A1 A2 c1 c2 w4.heap.size w4.heap.size E E w4 (by rw [HL.out]; exact HX4.out.rd) (by rw [HL.out]; exact HY4.out.rd) (Nat.le_refl _) (Nat.le_refl _) (by have := HL.out; omega) (by have := HL.out; omega)
        rw [decide_eq_true (rfl : E = E), HL.out] at this
        exact this
      go_wp2_with fail
      refine C5.out.mono ?_
      rintro e w5 ⟨rfl, hb5⟩
      have HP5 := Lib.hid (HP4.out.bel hb5)
      have HQ5 := Lib.hid (HQ4.out.bel hb5)
      have HB5 := Lib.hid (HB4.out.trans (hb5.mono HB4.out.size))
      clear C5 HX4 HY4 HP4 HQ4 HB4 hb5
      have C6 : Hid (Calls Try.prog 14 #[.slice a n cap, .int .u16 s] w5 fun e w' => e = .returned (.bool hv) ∧ Below w5.heap.size w5 w') := by
        have := has_any a cap B xs s w5 (by have := HN.out; omega) (by rw [HN.out]; exact HR.out.below (HB5.out.mono hB)) (Nat.le_trans hB HB5.out.size) HO.out HS.out
        rw [HN.out, HE.out, ← HH.out] at this
        exact this
      go_wp2_with fail
      refine C6.out.mono ?_
      rintro e w6 ⟨rfl, hb6⟩
      have HP6 := Lib.hid (HP5.out.bel hb6)
      have HQ6 := Lib.hid (HQ5.out.bel hb6)
      have HB6 := Lib.hid (HB5.out.trans (hb6.mono HB5.out.size))
      clear C6 HP5 HQ5 HB5 hb6 HH
      go_wp2_with fail
      go_loopw [58] (fun sj wy => ∃ i : Nat, i ≤ N ∧ sj = .int .i64 i ∧ Hid (Below w6.heap.size w6 wy)) (fun sj _ => N - (intOf sj).toNat)
      case atStart => exact ⟨0, by omega, rfl, Below.refl _ _⟩
      case round =>
        rename Nat => L
        obtain ⟨i, hi, rfl, hb7⟩ := hrel
        rename World => wy
        have HB7 := Lib.hid (HB6.out.trans (hb7.out.mono HB6.out.size))
        by_cases hil : i < N
        · obtain ⟨g1, o1, x, rfl, _, hx, a0, a1⟩ := pair_at (HP6.out.bel hb7.out).rd hil
          obtain ⟨g2, o2, y, rfl, _, hy, b0, b1⟩ := pair_at (HQ6.out.bel hb7.out).rd hil
          rw [hx] at hy
          simp only [Option.some.injEq] at hy
          subst hy
          clear hx
          obtain ⟨x0, x1⟩ := x
          simp only at a0 a1 b0 b1
          have hS : (fun W : World => (W.cell? ⟨g1, o1 + i * 2, none⟩ = some (.int .u16 x0) ∧ W.cell? ⟨g1, o1 + i * 2 + 1, none⟩ = some (.int .u16 x1)) ∧ W.cell? ⟨g2, o2 + i * 2, none⟩ = some (.int .u16 x0) ∧ W.cell? ⟨g2, o2 + i * 2 + 1, none⟩ = some (.int .u16 x1)) wy.drew := ⟨⟨a0, a1⟩, b0, b1⟩
          clear a0 a1 b0 b1
          go_wp2_with fail
          refine region_seq (fun W : World => (W.cell? ⟨g1, o1 + i * 2, none⟩ = some (.int .u16 x0) ∧ W.cell? ⟨g1, o1 + i * 2 + 1, none⟩ = some (.int .u16 x1)) ∧ W.cell? ⟨g2, o2 + i * 2, none⟩ = some (.int .u16 x0) ∧ W.cell? ⟨g2, o2 + i * 2 + 1, none⟩ = some (.int .u16 x1)) [(0, false), (1, false), (2, false), (3, false), (4, false), (5, false), (6, false), (7, false), (8, false)] (by kernel_rfl) (by kernel_rfl) rfl (by kernel_rfl) ?_
          iterate 9 (refine seq_read (v := _) rfl (fun _ _ _ h => h) hS (Or.inl ⟨by rfl, fun W hW => by have g1 := hW.1.1; have g2 := hW.1.2; have g3 := hW.2.1; have g4 := hW.2.2; go_simp <;> with_reducible rfl⟩) ?_; simp only [Act.put, List.setIfInBounds_toArray, List.set_cons_zero, List.set_cons_succ])
          refine seq_end ?_
          clear hS
          go_wp2_with fail
          go_roundw
          case rel => exact ⟨i + 1, by omega, by go_num, hb7.out.drew⟩
          case measure => simp [intOf]; omega
        · obtain rfl : i = N := by omega
          go_wp2_with fail
          go_ret
          exact ⟨rfl, HB7⟩
end Go.Proofs.Ytmgpphgiigppgaa.Nck
