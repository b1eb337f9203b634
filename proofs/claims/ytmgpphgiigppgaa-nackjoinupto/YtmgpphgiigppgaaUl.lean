/- NackJoin walked: two rows of pairs ask for what both ask for; each pair asks for one number and one more for each bit. -/
import Derived.Test.YtmgpphgiigppgaaUh
import Derived.Test.YtmgpphgiigppgaaUe
import Derived.Test.YtmgpphgiigppgaaXv
namespace Go.Proofs.Ytmgpphgiigppgaa.Nck
open Go.RowKit Go.Proofs.Ytmgpphgiigppgaa.Fbk
set_option linter.unusedVariables false

theorem and_one (x : Int) (h0 : 0 ≤ x) (h1 : x ≤ 65535) : bits BinOp.and IntKind.u16 x 1 = x % 2 := by
  have h := bits_mask .u16 16 (by decide) (fun n h0 h1 => by rw [wrap16]; omega) 1 (by decide) x h0 (by omega)
  have e : ((2 : Int) ^ 1 - 1) = 1 := by decide
  have e2 : ((2 : Int) ^ 1) = 2 := by decide
  rw [e, e2] at h
  exact h
theorem div_half (x : Int) (j : Nat) : x / 2 ^ j / 2 = x / 2 ^ (j + 1) := by
  rw [Int.pow_succ, Int.ediv_ediv_of_nonneg (Int.le_of_lt (p2_pos j))]
theorem div_low {x : Int} {j : Nat} (h0 : 0 ≤ x) (h : x / 2 ^ j = 0) : x < 2 ^ j := by
  have := Int.emod_add_mul_ediv x (2 ^ j)
  rw [h, Int.mul_zero, Int.add_zero] at this
  rw [← this]
  exact Int.emod_lt_of_pos _ (p2_pos j)
set_option maxHeartbeats 4000000 in
theorem join_any (a b : Option Addr) (cap capb B : Nat) (xs ys : List (Int × Int)) (w : World) (hl : xs.length ≤ 1048576) (hly : ys.length ≤ 1048576) (hr : RowRd pairL w B a xs.length xs) (hry : RowRd pairL w B b ys.length ys) (hB : B ≤ w.heap.size) (hok : ∀ x ∈ xs, U16 x.1 ∧ U16 x.2) (hoy : ∀ x ∈ ys, U16 x.1 ∧ U16 x.2) :
    Calls Try.prog 7 #[.slice a xs.length cap, .slice b ys.length capb] w fun e w' => e = .returned (.bool true) ∧ Below w.heap.size w w' := by
  obtain ⟨i0, hi0, hz0, hz1, hz2⟩ := info_parts infoP
  have HI := Lib.hid (And.intro hi0 (And.intro hz0 (And.intro hz1 hz2)))
  clear hi0 hz0 hz1 hz2
  obtain ⟨i1, hi0, hz0, hz1, hz2⟩ := info_parts info16
  have HJ := Lib.hid (And.intro hi0 (And.intro hz0 (And.intro hz1 hz2)))
  clear hi0 hz0 hz1 hz2
  have HR := Lib.hid hr
  have HRY := Lib.hid hry
  have HO := Lib.hid hok
  have HOY := Lib.hid hoy
  obtain ⟨n, hn⟩ : ∃ n, xs.length = n := ⟨_, rfl⟩
  have HN := Lib.hid hn
  rw [hn] at HR hl ⊢
  obtain ⟨m, hm⟩ : ∃ m, ys.length = m := ⟨_, rfl⟩
  have HM := Lib.hid hm
  rw [hm] at HRY hly ⊢
  clear hr hry hok hoy hn hm
  go_enter Try.func7, Try.ntmps7
  go_wp2_with fail
  refine (shown_any w).mono ?_
  rintro e w0 ⟨rfl, hb0⟩
  have HB0 := Lib.hid hb0
  clear hb0
  go_wp2_with fail
  go_loopw [5, 15] (fun sl sk wx => ∃ (j : Nat) (N : Int), j ≤ n ∧ sk = .int .i64 j ∧ sl = .int .i64 N ∧ Hid (N = ((expand (xs.take j)).length : Int)) ∧ Hid (Below w.heap.size w wx)) (fun _ sk _ => n - (intOf sk).toNat)
  case atStart => exact ⟨0, 0, by omega, rfl, rfl, by simp [Lib.hid, expand], HB0⟩
  case round =>
    clear HB0
    obtain ⟨k, N, hk, rfl, rfl, hN, hb⟩ := hrel
    rename World => wx
    by_cases hlt : k < n
    · obtain ⟨g, off, x, rfl, hbB, hx, c0, c1⟩ := pair_at (HR.out.below (hb.out.mono hB)) hlt
      have HX := Lib.hid (HO.out x (List.mem_of_getElem? hx))
      have HT := Lib.hid (show expand (xs.take (k + 1)) = expand (xs.take k) ++ exp1 x from by rw [take_snoc' xs k x hx, expand_snoc])
      have hNb : 0 ≤ N ∧ N ≤ 17 * k := by
        have h1 := expand_len_le (xs.take k)
        have h2 := List.length_take_le k xs
        have h3 := hN.out
        omega
      clear hx
      obtain ⟨x0, x1⟩ := x
      simp only at c0 c1 HX
      have d1 : (wx.alloc (pairO (x0, x1))).cell? ⟨wx.heap.size, 1, none⟩ = some (.int .u16 x1) := (PrBlk.new wx (x0, x1)).c1
      have HB1 : Hid (Below w.heap.size w (wx.alloc (pairO (x0, x1)))) := hb.out.alloc hb.out.size _
      go_wp2_with fail
      clear d1 c0 c1
      generalize wx.alloc (pairO (x0, x1)) = w1 at *
      go_loopw [5, 8] (fun sl sx wy => ∃ (j : Nat) (M X : Int), j ≤ 16 ∧ N + 1 ≤ M ∧ M ≤ N + 1 + j ∧ sl = .int .i64 M ∧ sx = .int .u16 X ∧ Hid (M = N + 1 + ((upTo x0 x1 j).length : Int)) ∧ Hid (X = x1 / 2 ^ j) ∧ 0 ≤ X ∧ X ≤ 65535 ∧ wy = w1) (fun _ sx _ => (intOf sx).toNat)
      case atStart => exact ⟨0, N + 1, x1, by omega, by omega, by omega, rfl, rfl, by simp [Lib.hid, upTo], by simp [Lib.hid], HX.out.2.1, HX.out.2.2, rfl⟩
      case round =>
        obtain ⟨j, M, X, hj, hM1, hM2, rfl, rfl, hM, hX, hX0, hX1, rfl⟩ := hrel
        rename World => w1
        by_cases hpos : 0 < X
        · have hj16 : j < 16 := by
            rcases Nat.lt_or_ge j 16 with h | h
            · exact h
            · obtain rfl : j = 16 := by omega
              have := hX.out
              have h2 := HX.out.2.1
              have h4 : x1 ≤ 65535 := HX.out.2.2
              have h3 : (2 : Int) ^ 16 = 65536 := by decide
              rw [h3] at this
              omega
          have q1 := and_one X hX0 hX1
          have q2 : IntKind.i64.wrap (X % 2) = X % 2 := by rw [IntKind.wrap_i64]; omega
          have q3 : IntKind.i64.wrap (M + X % 2) = M + X % 2 := by rw [IntKind.wrap_i64]; omega
          have HU := Lib.hid (upTo_len x0 x1 j)
          go_wp2_with fail
          go_roundw
          case rel =>
            refine ⟨j + 1, M + X % 2, X / 2, by omega, by omega, by omega, rfl, rfl, Lib.hid ?_, Lib.hid ?_, by omega, by omega, trivial⟩
            · rw [HU.out, hM.out, ← hX.out]; omega
            · rw [hX.out, div_half]
          case measure => simp [intOf]; omega
        · obtain rfl : X = 0 := by omega
          have HE := Lib.hid (show M = ((expand (xs.take (k + 1))).length : Int) from by
            have h1 := upTo_over x0 HX.out.2.1 (div_low HX.out.2.1 hX.out.symm) 16 hj
            rw [HT.out, List.length_append, exp1, h1, hM.out, hN.out]
            simp only [List.length_cons]
            omega)
          go_wp2_with fail
          go_roundw
          case rel => exact ⟨k + 1, M, by omega, by go_num, rfl, HE, HB1⟩
          case measure => simp [intOf]; omega
    · obtain rfl : k = n := by omega
      have hNx := hN.out
      rw [List.take_of_length_le (by rw [HN.out]; exact Nat.le_refl _)] at hNx
      have HNX := Lib.hid hNx
      clear hNx hN hlt hk
      obtain ⟨m, hm⟩ : ∃ m, ys.length = m := ⟨_, rfl⟩
      obtain rfl : m = _ := hm.symm.trans HM.out
      clear hm
      go_wp2_with (at_builtin; first
        | (refine wpList_append_all (L := pairL) (N := k) (by rfl) (.const (.slice none 0 0)) (.tmp 33) rfl Try.underlying22 HI.out.1 HI.out.2.1 HI.out.2.2.1 HI.out.2.2.2 rfl xs (Nat.zero_add _) (List.nil_append _) rfl rfl (RowOwn.nil _ wx.heap.size) (HR.out.below (hb.out.mono hB)) (Nat.le_refl _) (by unfold maxLen; omega) (by omega) ?_; intro A1 e1 w1 ho1 hb1; have HO1 := Lib.hid ho1; have HB1 := Lib.hid hb1; clear ho1 hb1)
        | (refine wpList_append_all (L := pairL) (N := k + m) (by rfl) (.tmp 34) (.tmp 35) rfl Try.underlying22 HI.out.1 HI.out.2.1 HI.out.2.2.1 HI.out.2.2.2 rfl (xs ++ ys) rfl rfl rfl rfl HO1.out ((HRY.out.below (hb.out.mono hB)).below (HB1.out.mono (Nat.le_trans hB hb.out.size))) HB1.out.size (by unfold maxLen; omega) (by omega) ?_; intro A2 e2 w2 ho2 hb2; have HO2 := Lib.hid ho2; have HB2 := Lib.hid (HB1.out.trans hb2); clear ho2 hb2))
      have HBW := Lib.hid (hb.out.trans (HB2.out.mono hb.out.size))
      have hs2 : w.heap.size ≤ w2.heap.size := HBW.out.size
      have C1 : Hid (Calls Try.prog 9 #[.slice a k cap] w2 fun e w' => New16 w2 (expand xs) e w') := by
        have := expand_any a cap B xs w2 (by have := HN.out; omega) (by rw [HN.out]; exact HR.out.below (HBW.out.mono hB)) (Nat.le_trans hB hs2) HO.out
        rw [HN.out] at this
        exact this
      have HEA := Lib.hid (expand_append xs ys)
      obtain ⟨E, hE⟩ : ∃ E, expand xs = E := ⟨_, rfl⟩
      have hEl := expand_len_le xs
      rw [HN.out, hE] at hEl
      rw [hE] at HNX C1 HEA
      clear hE HO1 HB1
      obtain ⟨F, hF⟩ : ∃ F, expand ys = F := ⟨_, rfl⟩
      have hFl := expand_len_le ys
      rw [HM.out, hF] at hFl
      have HF := Lib.hid hF
      rw [hF] at HEA
      clear hF
      obtain ⟨L, hL⟩ : ∃ L, E.length = L := ⟨_, rfl⟩
      have HL := Lib.hid hL
      rw [hL] at HNX hEl
      obtain rfl : N = (L : Int) := HNX.out
      clear hL HNX
      obtain ⟨L2, hL2⟩ : ∃ L, F.length = L := ⟨_, rfl⟩
      have HL2 := Lib.hid hL2
      rw [hL2] at hFl
      clear hL2
      refine C1.out.mono ?_
      rintro e w3 ⟨A3, c3, rfl, ho3, hb3⟩
      rw [HL.out] at ho3 ⊢
      have HX3 := Lib.hid ho3
      have HB3 := Lib.hid (HBW.out.trans (hb3.mono hs2))
      have HO3 := Lib.hid (HO2.out.bel hb3)
      clear ho3 hb3 HO2 HB2 HBW C1 hb
      have C2 : Hid (Calls Try.prog 9 #[.slice A2 (k + m) e2] w3 fun e w' => New16 w3 (E ++ F) e w') := by
        have hlm : (xs ++ ys).length = k + m := HO3.out.1
        have := expand_any A2 e2 w3.heap.size (xs ++ ys) w3 (by omega) (by rw [hlm]; exact HO3.out.rd) (Nat.le_refl _) (by
          intro x hx
          rcases List.mem_append.1 hx with hx | hx
          · exact HO.out x hx
          · exact HOY.out x hx)
        rw [hlm, HEA.out] at this
        exact this
      go_wp2_with fail
      refine C2.out.mono ?_
      rintro e w4 ⟨A4, c4, rfl, ho4, hb4⟩
      have HX4 := Lib.hid (HX3.out.bel hb4)
      have HB4 := Lib.hid (HB3.out.trans (hb4.mono HB3.out.size))
      rw [List.length_append, HL.out, HL2.out] at ho4 ⊢
      have HY4 := Lib.hid ho4.rd
      have hs4 : w.heap.size ≤ w4.heap.size := HB4.out.size
      clear ho4 hb4 C2 HX3 HB3 HO3
      go_wp2_with (at_builtin; refine wpList_append_all (L := w16L) (N := L) (by rfl) (.const (.slice none 0 0)) (.tmp 46) rfl Try.underlying23 HJ.out.1 HJ.out.2.1 HJ.out.2.2.1 HJ.out.2.2.2 rfl E (Nat.zero_add _) (List.nil_append _) rfl rfl (RowOwn.nil _ w4.heap.size) HX4.out.rd (Nat.le_refl _) (by unfold maxLen; omega) (by omega) ?_; intro A5 c5 w5 ho5 hb5)
      have HY5 := Lib.hid (HY4.out.below hb5)
      have HB5 := Lib.hid (HB4.out.trans (hb5.mono HB4.out.size))
      have HZ5 := Lib.hid ho5
      have hs5 : w4.heap.size ≤ w5.heap.size := hb5.size
      have C3 : Hid (Calls Try.prog 9 #[.slice b m capb] w5 fun e w' => New16 w5 F e w') := by
        have := expand_any b capb B ys w5 (by have := HM.out; omega) (by rw [HM.out]; exact HRY.out.below (HB5.out.mono hB)) (Nat.le_trans hB HB5.out.size) HOY.out
        rw [HM.out, HF.out] at this
        exact this
      clear ho5 hb5 HX4 HY4 HB4
      refine C3.out.mono ?_
      rintro e w6 ⟨A6, c6, rfl, ho6, hb6⟩
      rw [HL2.out] at ho6 ⊢
      have HY6 := Lib.hid (HY5.out.below (hb6.mono hs5))
      have HZ6 := Lib.hid (HZ5.out.bel hb6)
      have HB6 := Lib.hid (HB5.out.trans (hb6.mono HB5.out.size))
      have HW6 := Lib.hid ho6
      have hs6 : w5.heap.size ≤ w6.heap.size := hb6.size
      clear ho6 hb6 C3 HY5 HZ5
      go_wp2_with (at_builtin; refine wpList_append_all (L := w16L) (N := L + L2) (by rfl) (.tmp 47) (.tmp 49) rfl Try.underlying23 HJ.out.1 HJ.out.2.1 HJ.out.2.2.1 HJ.out.2.2.2 rfl (E ++ F) rfl rfl rfl rfl HZ6.out HW6.out.rd (Nat.le_trans hs5 hs6) (by unfold maxLen; omega) (by omega) ?_; intro A7 c7 w7 ho7 hb7)
      have hb46 : Below w4.heap.size w6 w7 := hb7
      have HZ7 := Lib.hid ho7
      have HY7 := Lib.hid (HY6.out.below hb46)
      have HB7 := Lib.hid (HB6.out.trans (hb7.mono hs4))
      clear ho7 hb7
      have C5 : Hid (Calls Try.prog 13 #[.slice A4 (L + L2) c4, .slice A7 (L + L2) c7] w7 fun e w' => e = .returned (.bool true) ∧ Below w7.heap.size w7 w') := by
        have hlm : (E ++ F).length = L + L2 := HZ7.out.1
        have := same_any A4 A7 c4 c7 w4.heap.size w7.heap.size (E ++ F) (E ++ F) w7 (by rw [hlm]; exact HY7.out) (by rw [hlm]; exact HZ7.out.rd) (Nat.le_trans hs5 (Nat.le_trans hs6 hb46.size)) (Nat.le_refl _) (by omega) (by omega)
        rw [decide_eq_true (rfl : E ++ F = E ++ F), hlm] at this
        exact this
      refine C5.out.mono ?_
      rintro e w8 ⟨rfl, hb8⟩
      have HB8 := Lib.hid (HB7.out.trans (hb8.mono HB7.out.size))
      clear hb8
      go_wp2_with fail
      go_ret
      exact ⟨rfl, HB8⟩
end Go.Proofs.Ytmgpphgiigppgaa.Nck
