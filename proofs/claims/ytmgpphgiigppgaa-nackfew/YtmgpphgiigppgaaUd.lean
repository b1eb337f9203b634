/- The contract of the reference's Expand. -/
import Derived.Test.YtmgpphgiigppgaaUc
namespace Go.Proofs.Ytmgpphgiigppgaa.Nck
open Go.RowKit Go.Proofs.Ytmgpphgiigppgaa.Fbk
set_option linter.unusedVariables false
set_option maxHeartbeats 4000000 in
theorem rexpand_any (a : Option Addr) (cap B : Nat) (xs : List (Int × Int)) (w : World) (hl : xs.length ≤ 1099511627776) (hr : RowRd pairL w B a xs.length xs) (hB : B ≤ w.heap.size) (hok : ∀ x ∈ xs, U16 x.1 ∧ U16 x.2) :
    Calls Try.prog 10 #[.slice a xs.length cap] w fun e w' => New16 w (expand xs) e w' := by
  obtain ⟨i0, hi0, hz0, hz1, hz2⟩ := info_parts info16
  have HI := Lib.hid (And.intro hi0 (And.intro hz0 (And.intro hz1 hz2)))
  clear hi0 hz0 hz1 hz2
  have HR := Lib.hid hr
  have HO := Lib.hid hok
  obtain ⟨n, hn⟩ : ∃ n, xs.length = n := ⟨_, rfl⟩
  have HN := Lib.hid hn
  rw [hn] at HR hl ⊢
  have fin : Hid (∀ A N c w1, RowOwn w16L w1 w.heap.size A N c (expand xs) → Below w.heap.size w w1 → New16 w (expand xs) (.returned (.slice A N c)) w1) := by
    intro A N c w1 ho hb
    obtain rfl := ho.1
    exact ⟨A, c, rfl, ho, hb⟩
  clear hr hok hn
  go_enter Try.func10, Try.ntmps10
  go_wp2
  go_loopw [3, 9] (fun sl sk wx => ∃ (k N : Nat) (A : Option Addr) (c : Nat), k ≤ n ∧ sk = .int .i64 k ∧ sl = .slice A N c ∧ Hid (RowOwn w16L wx w.heap.size A N c (expand (xs.take k))) ∧ Hid (Below w.heap.size w wx)) (fun _ sk _ => n - (intOf sk).toNat)
  case atStart => exact ⟨0, 0, none, 0, by omega, rfl, rfl, RowOwn.nil _ _, Below.refl _ _⟩
  case round =>
    obtain ⟨k, N, A, c, hk, rfl, rfl, ho, hb⟩ := hrel
    rename World => wx
    by_cases hlt : k < n
    · obtain ⟨b, off, x, rfl, hbB, hx, c0, c1⟩ := pair_at (HR.out.below (hb.out.mono hB)) hlt
      have hxo := HO.out x (List.mem_of_getElem? hx)
      have HT := Lib.hid (show expand (xs.take (k + 1)) = expand (xs.take k) ++ exp1 x from by rw [take_snoc' xs k x hx, expand_snoc])
      have HL := Lib.hid (show (expand (xs.take k)).length ≤ 17 * k from by have h1 := expand_len_le (xs.take k); have h2 := List.length_take_le k xs; omega)
      obtain ⟨Z, hZ⟩ : ∃ Z, expand (xs.take k) = Z := ⟨_, rfl⟩
      rw [hZ] at ho HT HL
      clear hx hZ
      obtain ⟨x0, x1⟩ := x
      simp only at c0 c1 hxo
      have HX := Lib.hid hxo
      clear hxo
      have HP : Hid (PrBlk (wx.alloc (pairO (x0, x1))) wx.heap.size (x0, x1)) := PrBlk.new wx (x0, x1)
      have HOw : Hid (RowOwn w16L (wx.alloc (pairO (x0, x1))) w.heap.size A N c Z) := ho.out.bel ((Below.refl _ _).alloc (Nat.le_refl _) _)
      have HB : Hid (Below w.heap.size w (wx.alloc (pairO (x0, x1)))) := hb.out.alloc hb.out.size _
      have HZ := Lib.hid (show Z.length = N from ho.out.1)
      have d0 : (wx.alloc (pairO (x0, x1))).cell? ⟨wx.heap.size, 0, none⟩ = some (.int .u16 x0) := HP.out.c0
      have HO2 : Hid (RowOwn w16L ((wx.alloc (pairO (x0, x1))).alloc (.cells #[.int .u16 x0] 24)) w.heap.size A N c Z) := HOw.out.bel ((Below.refl _ _).alloc (Nat.le_refl _) _)
      have HB2 : Hid (Below w.heap.size w ((wx.alloc (pairO (x0, x1))).alloc (.cells #[.int .u16 x0] 24))) := HB.out.alloc HB.out.size _
      have HP2 : Hid (PrBlk ((wx.alloc (pairO (x0, x1))).alloc (.cells #[.int .u16 x0] 24)) wx.heap.size (x0, x1)) := HP.out.bel ((Below.refl _ _).alloc (Nat.le_refl _) _)
      have R2 := Lib.hid (one16 (wx.alloc (pairO (x0, x1))) x0)
      rw [show (wx.alloc (pairO (x0, x1))).heap.size = wx.heap.size + 1 from by simp] at R2
      obtain ⟨q, hq⟩ : ∃ q, wx.heap.size = q := ⟨_, rfl⟩
      have HQ := Lib.hid hq
      rw [hq] at HP2
      clear HP HOw HB hq
      have hNk : N ≤ 17 * k := by have := HL.out; have := HZ.out; omega
      go_wp2_with (at_builtin; refine wpList_append_keep (L := w16L) (N := N + 1) rfl (.tmp 13) (.tmp 16) rfl Try.underlying23 HI.out.1 HI.out.2.1 HI.out.2.2.1 HI.out.2.2.2 rfl (Z ++ [x0]) rfl rfl rfl rfl HO2.out R2.out HB2.out.size (by unfold maxLen; omega) (by omega) ?_; intro A1 e1 w1 ho1 hb1 hk1)
      have HP1 : Hid (PrBlk w1 q (x0, x1)) := pr_kept HP2.out hk1 (by decide)
      have HB1 : Hid (Below w.heap.size w w1) := HB2.out.trans hb1
      have HO1 := Lib.hid ho1
      clear ho1 hb1 hk1 HP2 HB2 HO2 R2 c0 c1 d0
      rw [HQ.out]
      go_loopw [3, 6] (fun sl sj wy => ∃ (j : Nat) (M : Nat) (A : Option Addr) (c : Nat), j ≤ 16 ∧ M ≤ N + 1 + j ∧ sj = .int .i64 j ∧ sl = .slice A M c ∧ Hid (RowOwn w16L wy w.heap.size A M c (Z ++ [x0] ++ upTo x0 x1 j)) ∧ Hid (Below w.heap.size w wy) ∧ Hid (PrBlk wy q (x0, x1))) (fun _ sj _ => 17 - (intOf sj).toNat)
      case atStart => exact ⟨0, N + 1, A1, e1, by omega, by omega, rfl, rfl, by simpa [upTo] using HO1, HB1, HP1⟩
      case round =>
        obtain ⟨j, M, A2, c2, hj, hM, rfl, rfl, ho2, hb2, hp2⟩ := hrel
        rename World => wy
        by_cases hj16 : j < 16
        · have q1 : IntKind.u16.wrap (x0 + j) = (x0 + j) % 65536 := wrap16 _
          have q2 : IntKind.u16.wrap ((x0 + j) % 65536 + 1) = (x0 + j + 1) % 65536 := by rw [wrap16]; omega
          have q3 : IntKind.u16.wrap (j : Int) = j := by rw [wrap16]; omega
          have HU := Lib.hid (show upTo x0 x1 (j + 1) = upTo x0 x1 j ++ (if bitB x1 j then [(x0 + j + 1) % 65536] else []) from rfl)
          have hS : wy.cell? ⟨q, 1, none⟩ = some (.int .u16 x1) := hp2.out.c1
          have q4 : IntKind.u64.wrap (j : Int) = j := by simp [IntKind.wrap, IntKind.bits, IntKind.signed]; omega
          have hp1 := p2_16 hj16
          have hp0 := p2_pos j
          have q5 : IntKind.i64.wrap (1 * 2 ^ j) = 2 ^ j := by simp [IntKind.wrap, IntKind.bits, IntKind.signed]; omega
          have hx1 := HX.out.2
          have q6 : x1.tdiv (2 ^ j) = x1 / 2 ^ j := Int.tdiv_eq_ediv_of_nonneg hx1.1
          have hx2 : 0 ≤ x1 / 2 ^ j := Int.ediv_nonneg hx1.1 (Int.le_of_lt hp0)
          have q7 : (x1 / 2 ^ j).tmod 2 = x1 / 2 ^ j % 2 := Int.tmod_eq_emod_of_nonneg hx2
          have qb : bitB x1 j = decide (x1 / 2 ^ j % 2 = 1) := rfl
          have hx3 : x1 / 2 ^ j ≤ 65535 := by
            have := Int.ediv_le_self (2 ^ j) hx1.1
            have := hx1.2
            omega
          have hx4 : IntKind.i64.wrap x1 = x1 := by simp [IntKind.wrap, IntKind.bits, IntKind.signed]; have := hx1.1; have := hx1.2; omega
          have qe : (x1 / 2 ^ j % 2 == 1) = bitB x1 j := by rw [qb, Bool.eq_iff_iff]; simp
          clear qb hx1
          generalize bitB x1 j = bb at *
          have d0 : wy.cell? ⟨q, 0, none⟩ = some (.int .u16 x0) := hp2.out.c0
          generalize (x0 + j + 1) % 65536 = y at *
          have HO2 : Hid (RowOwn w16L (wy.alloc (.cells #[.int .u16 y] 24)) w.heap.size A2 M c2 (Z ++ [x0] ++ upTo x0 x1 j)) := ho2.out.bel ((Below.refl _ _).alloc (Nat.le_refl _) _)
          have HB2 : Hid (Below w.heap.size w (wy.alloc (.cells #[.int .u16 y] 24))) := hb2.out.alloc hb2.out.size _
          have HP2 : Hid (PrBlk (wy.alloc (.cells #[.int .u16 y] 24)) q (x0, x1)) := hp2.out.bel ((Below.refl _ _).alloc (Nat.le_refl _) _)
          have R2 := Lib.hid (one16 wy y)
          cases bb with
          | false =>
            go_wp2_with fail
            go_roundw
            case rel => exact ⟨j + 1, M, A2, c2, by omega, by omega, by go_num, rfl, by rw [HU.out]; simpa using ho2, hb2, hp2⟩
            case measure => simp [intOf]; omega
          | true =>
            clear hb2 hp2 ho2
            go_wp2_with (at_builtin; refine wpList_append_keep (L := w16L) (N := M + 1) rfl (.tmp 31) (.tmp 38) rfl Try.underlying23 HI.out.1 HI.out.2.1 HI.out.2.2.1 HI.out.2.2.2 rfl (Z ++ [x0] ++ upTo x0 x1 (j + 1)) rfl (by rw [HU.out]; simp) rfl rfl HO2.out R2.out HB2.out.size (by unfold maxLen; omega) (by omega) ?_; intro A4 e4 w4 ho4 hb4 hk4)
            go_roundw
            case rel => exact ⟨j + 1, M + 1, A4, e4, by omega, by omega, by go_num, rfl, ho4, HB2.out.trans hb4, pr_kept HP2.out hk4 (by decide)⟩
            case measure => simp [intOf]; omega
        · obtain rfl : j = 16 := by omega
          have ho3 : Hid (RowOwn w16L wy w.heap.size A2 M c2 (expand (xs.take (k + 1)))) := by
            have := ho2.out
            refine Lib.hid ?_
            rw [HT.out]
            simpa [exp1] using this
          clear ho2
          go_wp2_with fail
          go_roundw
          case rel => exact ⟨k + 1, M, A2, c2, by omega, by go_num, rfl, ho3, hb2⟩
          case measure => simp [intOf]; omega
    · obtain rfl : k = n := by omega
      go_wp2
      go_ret
      have := ho.out
      rw [List.take_of_length_le (by rw [HN.out]; exact Nat.le_refl _)] at this
      exact fin.out A N c wx this hb
end Go.Proofs.Ytmgpphgiigppgaa.Nck
