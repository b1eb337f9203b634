/- The contract of nack.Expand. -/
import Derived.Test.YtmgpphgiigppgaaUa
import Derived.Test.YtmgpphgiigppgaaXu
namespace Go.Proofs.Ytmgpphgiigppgaa.Nck
open Go.RowKit Go.Proofs.Ytmgpphgiigppgaa.Fbk
set_option linter.unusedVariables false

/-- A row of 16-bit numbers that the call made. -/
def New16 (w : World) (ys : List Int) (e : Ending) (w' : World) : Prop := ∃ A c, e = .returned (.slice A ys.length c) ∧ RowOwn w16L w' w.heap.size A ys.length c ys ∧ Below w.heap.size w w'
theorem pr_kept {t : TypeId} {w w' : World} {b : Nat} {x : Int × Int} (h : PrBlk w b x) (hk : Kept t w w') (ht : 31 ≠ t) : PrBlk w' b x := hk.2 b _ _ _ ht h
theorem one16 (w : World) (x : Int) : RowRd w16L (w.alloc (.cells #[.int .u16 x] 24)) (w.heap.size + 1) (some ⟨w.heap.size, 0, none⟩) 1 [x] := by
  have := rowRd_blk (L := w16L) (w := w.alloc (.cells #[.int .u16 x] 24)) (g := w.heap.size) (xs := [x]) (n := 1) (heap_alloc_new w _) rfl
  simpa using this
set_option maxHeartbeats 4000000 in
theorem expand_any (a : Option Addr) (cap B : Nat) (xs : List (Int × Int)) (w : World) (hl : xs.length ≤ 1099511627776) (hr : RowRd pairL w B a xs.length xs) (hB : B ≤ w.heap.size) (hok : ∀ x ∈ xs, U16 x.1 ∧ U16 x.2) :
    Calls Try.prog 9 #[.slice a xs.length cap] w fun e w' => New16 w (expand xs) e w' := by
  obtain ⟨i0, hi0, hz0, hz1, hz2⟩ := info_parts info16
  have HI := Lib.hid (And.intro hi0 (And.intro hz0 (And.intro hz1 hz2)))
  clear hi0 hz0 hz1 hz2
  have HR := Lib.hid hr
  have HO := Lib.hid hok
  obtain ⟨n, hn⟩ : ∃ n, xs.length = n := ⟨_, rfl⟩
  have HN := Lib.hid hn
  rw [hn] at HR hl ⊢
  have fin : Hid (∀ A N c w1, RowOwn w16L w1 w.heap.size A N c (expand xs) → Below w.heap.size w w1 → New16 w (expand xs) (.returned (.slice A N c)) w1) := by
    intro A N c w1 ho hb
    obtain rfl := ho.1
    exact ⟨A, c, rfl, ho, hb⟩
  clear hr hok hn
  go_enter Try.func9, Try.ntmps9
  go_wp2
  go_loopw [3, 9] (fun sl sk wx => ∃ (k N : Nat) (A : Option Addr) (c : Nat), k ≤ n ∧ sk = .int .i64 k ∧ sl = .slice A N c ∧ Hid (RowOwn w16L wx w.heap.size A N c (expand (xs.take k))) ∧ Hid (Below w.heap.size w wx)) (fun _ sk _ => n - (intOf sk).toNat)
  case atStart => exact ⟨0, 0, none, 0, by omega, rfl, rfl, RowOwn.nil _ _, Below.refl _ _⟩
  case round =>
    obtain ⟨k, N, A, c, hk, rfl, rfl, ho, hb⟩ := hrel
    rename World => wx
    by_cases hlt : k < n
    · obtain ⟨b, off, x, rfl, hbB, hx, c0, c1⟩ := pair_at (HR.out.below (hb.out.mono hB)) hlt
      have hxo := HO.out x (List.mem_of_getElem? hx)
      have HT := Lib.hid (show expand (xs.take (k + 1)) = expand (xs.take k) ++ exp1 x from by rw [take_snoc' xs k x hx, expand_snoc])
      have HL := Lib.hid (show (expand (xs.take k)).length ≤ 17 * k from by have h1 := expand_len_le (xs.take k); have h2 := List.length_take_le k xs; omega)
      obtain ⟨Z, hZ⟩ : ∃ Z, expand (xs.take k) = Z := ⟨_, rfl⟩
      rw [hZ] at ho HT HL
      clear hx hZ
      obtain ⟨x0, x1⟩ := x
      simp only at c0 c1 hxo
      have HX := Lib.hid hxo
      clear hxo
      have HP : Hid (PrBlk (wx.alloc (pairO (x0, x1))) wx.heap.size (x0, x1)) := PrBlk.new wx (x0, x1)
      have HOw : Hid (RowOwn w16L (wx.alloc (pairO (x0, x1))) w.heap.size A N c Z) := ho.out.bel ((Below.refl _ _).alloc (Nat.le_refl _) _)
      have HB : Hid (Below w.heap.size w (wx.alloc (pairO (x0, x1)))) := hb.out.alloc hb.out.size _
      have HZ := Lib.hid (show Z.length = N from ho.out.1)
      have d0 : (wx.alloc (pairO (x0, x1))).cell? ⟨wx.heap.size, 0, none⟩ = some (.int .u16 x0) := HP.out.c0
      have HO2 : Hid (RowOwn w16L ((wx.alloc (pairO (x0, x1))).alloc (.cells #[.int .u16 x0] 24)) w.heap.size A N c Z) := HOw.out.bel ((Below.refl _ _).alloc (Nat.le_refl _) _)
      have HB2 : Hid (Below w.heap.size w ((wx.alloc (pairO (x0, x1))).alloc (.cells #[.int .u16 x0] 24))) := HB.out.alloc HB.out.size _
      have HP2 : Hid (PrBlk ((wx.alloc (pairO (x0, x1))).alloc (.cells #[.int .u16 x0] 24)) wx.heap.size (x0, x1)) := HP.out.bel ((Below.refl _ _).alloc (Nat.le_refl _) _)
      have R2 := Lib.hid (one16 (wx.alloc (pairO (x0, x1))) x0)
      rw [show (wx.alloc (pairO (x0, x1))).heap.size = wx.heap.size + 1 from by simp] at R2
      obtain ⟨q, hq⟩ : ∃ q, wx.heap.size = q := ⟨_, rfl⟩
      have HQ := Lib.hid hq
      rw [hq] at HP2
      clear HP HOw HB hq
      have hNk : N ≤ 17 * k := by have := HL.out; have := HZ.out; omega
      go_wp2_with (at_builtin; refine wpList_append_keep (L := w16L) (N := N + 1) rfl (.tmp 13) (.tmp 16) rfl Try.underlying23 HI.out.1 HI.out.2.1 HI.out.2.2.1 HI.out.2.2.2 rfl (Z ++ [x0]) rfl rfl rfl rfl HO2.out R2.out HB2.out.size (by unfold maxLen; omega) (by omega) ?_; intro A1 e1 w1 ho1 hb1 hk1)
      have HP1 : Hid (PrBlk w1 q (x0, x1)) := pr_kept HP2.out hk1 (by decide)
      have HB1 : Hid (Below w.heap.size w w1) := HB2.out.trans hb1
      have HO1 := Lib.hid ho1
      clear ho1 hb1 hk1 HP2 HB2 HO2 R2 c0 c1 d0
      rw [HQ.out]
      go_loopw [3, 6] (fun sl sj wy => ∃ (j : Nat) (J : Int) (M : Nat) (A : Option Addr) (c : Nat), j ≤ 16 ∧ J = j + 1 ∧ M ≤ N + 1 + j ∧ sj = .int .u16 J ∧ sl = .slice A M c ∧ Hid (RowOwn w16L wy w.heap.size A M c (Z ++ [x0] ++ upTo x0 x1 j)) ∧ Hid (Below w.heap.size w wy) ∧ Hid (PrBlk wy q (x0, x1))) (fun _ sj _ => 17 - (intOf sj).toNat)
      case atStart => exact ⟨0, 1, N + 1, A1, e1, by omega, rfl, by omega, rfl, rfl, by simpa [upTo] using HO1, HB1, HP1⟩
      case round =>
        obtain ⟨j, J, M, A2, c2, hj, hJ, hM, rfl, rfl, ho2, hb2, hp2⟩ := hrel
        rename World => wy
        by_cases hj16 : j < 16
        · have hJ16 : J ≤ 16 := by omega
          have CB : Hid (∀ W, Calls Try.prog 16 #[.int .u16 J] W fun e w' => e = .returned (.int .u16 (2 ^ j)) ∧ W = w') := fun W => by
            have := bit_any j W hj16
            rw [show ((j + 1 : Nat) : Int) = J from by omega] at this
            exact this
          have qa := and_bit x1 j HX.out.2.1 HX.out.2.2 hj16
          have HU := Lib.hid (show upTo x0 x1 (j + 1) = upTo x0 x1 j ++ (if bitB x1 j then [(x0 + j + 1) % 65536] else []) from rfl)
          have qx : IntKind.u16.wrap (x0 + J) = (x0 + j + 1) % 65536 := by rw [wrap16, hJ, Int.add_assoc]
          have qj : IntKind.u16.wrap (J + 1) = J + 1 := by rw [wrap16]; omega
          generalize (2 : Int) ^ j = p at *
          generalize bitB x1 j = bb at *
          generalize (x0 + j + 1) % 65536 = y at *
          have HJ := Lib.hid hJ
          clear hJ
          have hS : Sc q 1 x1 wy.drew := hp2.out.c1
          have s1 : ∀ W, Sc q 1 x1 W → W.cell? ⟨q, 1, none⟩ = some (.int .u16 x1) := fun W h => h
          go_wp2_with fail
          refine region_seq (Sc q 1 x1) [(0, false), (1, false), (2, false), (3, true), (4, false), (5, false)] (by kernel_rfl) (by kernel_rfl) rfl (by kernel_rfl) ?_
          iterate 3 (refine seq_read (v := _) rfl (fun _ _ _ h => h) hS (Or.inl ⟨by rfl, fun W hW => by go_simp <;> with_reducible rfl⟩) ?_; simp only [Act.put, List.setIfInBounds_toArray, List.set_cons_zero, List.set_cons_succ])
          refine seq_do rfl (fun K hK => ?_)
          go_simp
          refine (CB.out _).mono ?_
          rintro e wz ⟨rfl, rfl⟩
          refine hK.out _ _ _ (fun W h => h) hS ?_
          clear hK K
          iterate 2 (refine seq_read (v := _) rfl (fun _ _ _ h => h) hS (Or.inl ⟨by rfl, fun W hW => by go_simp <;> with_reducible rfl⟩) ?_; simp only [Act.put, List.setIfInBounds_toArray, List.set_cons_zero, List.set_cons_succ])
          refine seq_end ?_
          clear hS s1 CB qa
          have hb3 : Hid (Below w.heap.size w wy.drew) := hb2.out.drew
          have hp3 : Hid (PrBlk wy.drew q (x0, x1)) := hp2
          have ho3 : Hid (RowOwn w16L wy.drew w.heap.size A2 M c2 (Z ++ [x0] ++ upTo x0 x1 j)) := ho2
          clear hb2 hp2 ho2
          generalize wy.drew = wz at *
          cases bb with
          | false =>
            go_wp2_with fail
            go_roundw
            case rel => exact ⟨j + 1, J + 1, M, A2, c2, by omega, by have := HJ.out; omega, by omega, rfl, rfl, by rw [HU.out]; simpa using ho3, hb3, hp3⟩
            case measure => simp [intOf]; have := HJ.out; omega
          | true =>
            have d0 : wz.cell? ⟨q, 0, none⟩ = some (.int .u16 x0) := hp3.out.c0
            have HO2 : Hid (RowOwn w16L (wz.alloc (.cells #[.int .u16 y] 24)) w.heap.size A2 M c2 (Z ++ [x0] ++ upTo x0 x1 j)) := ho3.out.bel ((Below.refl _ _).alloc (Nat.le_refl _) _)
            have HB2 : Hid (Below w.heap.size w (wz.alloc (.cells #[.int .u16 y] 24))) := hb3.out.alloc hb3.out.size _
            have HP2 : Hid (PrBlk (wz.alloc (.cells #[.int .u16 y] 24)) q (x0, x1)) := hp3.out.bel ((Below.refl _ _).alloc (Nat.le_refl _) _)
            have R2 := Lib.hid (one16 wz y)
            clear hb3 hp3 ho3
            go_wp2_with (at_builtin; refine wpList_append_keep (L := w16L) (N := M + 1) rfl (.tmp 28) (.tmp 33) rfl Try.underlying23 HI.out.1 HI.out.2.1 HI.out.2.2.1 HI.out.2.2.2 rfl (Z ++ [x0] ++ upTo x0 x1 (j + 1)) rfl (by rw [HU.out]; simp) rfl rfl HO2.out R2.out HB2.out.size (by unfold maxLen; omega) (by omega) ?_; intro A4 e4 w4 ho4 hb4 hk4)
            go_roundw
            case rel => exact ⟨j + 1, J + 1, M + 1, A4, e4, by omega, by have := HJ.out; omega, by omega, rfl, rfl, ho4, HB2.out.trans hb4, pr_kept HP2.out hk4 (by decide)⟩
            case measure => simp [intOf]; have := HJ.out; omega
        · have hJ16 : ¬ J ≤ 16 := by omega
          obtain rfl : j = 16 := by omega
          have ho3 : Hid (RowOwn w16L wy w.heap.size A2 M c2 (expand (xs.take (k + 1)))) := by
            have := ho2.out
            refine Lib.hid ?_
            rw [HT.out]
            simpa [exp1] using this
          clear ho2
          go_wp2_with fail
          go_roundw
          case rel => exact ⟨k + 1, M, A2, c2, by omega, by go_num, rfl, ho3, hb2⟩
          case measure => simp [intOf]; omega
    · obtain rfl : k = n := by omega
      go_wp2
      go_ret
      have := ho.out
      rw [List.take_of_length_le (by rw [HN.out]; exact Nat.le_refl _)] at this
      exact fin.out A N c wx this hb
end Go.Proofs.Ytmgpphgiigppgaa.Nck
