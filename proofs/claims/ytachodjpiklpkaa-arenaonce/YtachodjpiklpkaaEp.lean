/- ArenaLeast, walked; the low bits of whatever number. -/
import Derived.Test.YtachodjpiklpkaaEn
import Derived.Test.YtachodjpiklpkaaFr
set_option maxRecDepth 100000
namespace Go.Proofs.Ytachodjpiklpkaa.Arn
open Go.RowKit
set_option linter.unusedVariables false

/-- The low bits of a number of 64 bits, below 0 too. -/
theorem i64_mask (x : Int) (i : Nat) (hi : i ≤ 62) : bits BinOp.and IntKind.i64 x (2 ^ i - 1) = x % 2 ^ i := by
  have hpos : 0 < 2 ^ i := Nat.two_pow_pos i
  have hi2 : 2 ^ i ≤ 2 ^ 62 := Nat.pow_le_pow_right (by decide) hi
  have hc : ((2 : Int) ^ i - 1) = ((2 ^ i - 1 : Nat) : Int) := by rw [Int.natCast_sub hpos]; simp
  have hb : (2 ^ i - 1) % 2 ^ IntKind.i64.bits = 2 ^ i - 1 := Nat.mod_eq_of_lt (show 2 ^ i - 1 < 2 ^ 64 from by omega)
  have hm : (2 : Int) ^ i = ((2 ^ i : Nat) : Int) := by simp
  simp only [bits, hc, BitVec.ofInt_natCast, BitVec.toNat_and, BitVec.toNat_ofNat, BitVec.toNat_ofInt, hb]
  rw [Nat.and_two_pow_sub_one_eq_mod]
  have hd : ((2 ^ i : Nat) : Int) ∣ ((2 ^ 64 : Nat) : Int) := Int.natCast_dvd_natCast.2 (Nat.pow_dvd_pow 2 (by omega))
  have h1 : (((x % ((2 ^ IntKind.i64.bits : Nat) : Int)).toNat % 2 ^ i : Nat) : Int) = x % 2 ^ i := by
    show (((x % ((2 ^ 64 : Nat) : Int)).toNat % 2 ^ i : Nat) : Int) = x % 2 ^ i
    rw [Int.natCast_emod, Int.toNat_of_nonneg (Int.emod_nonneg _ (by decide)), Int.emod_emod_of_dvd _ hd, hm]
  rw [h1]
  have h2 : 0 ≤ x % 2 ^ i := Int.emod_nonneg _ (by rw [hm]; omega)
  have h3 : x % 2 ^ i < 2 ^ i := Int.emod_lt_of_pos _ (by rw [hm]; omega)
  exact IntWalk.i64_in _ ⟨by omega, by rw [hm] at h3; omega⟩

/-- The k-th number of a row of ints that came in. -/
theorem row64_at {w : World} {a : Option Addr} {len cap k : Nat} {z : List Int} (h : IsRow .i64 8 w a len cap z) (hk : k < len) : ∃ b off x, a = some ⟨b, off, none⟩ ∧ b < w.heap.size ∧ w.cell? ⟨b, off + k, none⟩ = some (.int .i64 x) ∧ -9223372036854775808 ≤ x ∧ x ≤ 9223372036854775807 := by
  obtain ⟨h1, h2, h3, h4, h5⟩ := h.cells
  obtain ⟨b, off, e, hlt, hc⟩ := h5 (by omega)
  have hx : (z.take len).getD k 0 ∈ z.take len := by
    rw [List.getD_eq_getElem?_getD, List.getElem?_eq_getElem (by rw [h3]; exact hk)]
    exact List.getElem_mem _
  have := wf_i64 (h4 _ hx)
  exact ⟨b, off, _, e, hlt, hc k hk, this.1, this.2⟩
theorem leastF_append : ∀ (L : List Slt) (x : Slt), leastF (L ++ [x]) = match leastF L with | some j => some j | none => if x.2 = 0 then some L.length else none
  | [], x => by simp [leastF]
  | y :: r, x => by
    rw [List.cons_append, leastF, leastF, leastF_append r x]
    by_cases hy : y.2 = 0
    · simp [hy]
    · rw [if_neg hy, if_neg hy]
      cases leastF r with
      | some j => rfl
      | none => simp only [Option.map_none]; split <;> simp
theorem idxV_snoc (L : List Slt) (x : Slt) : idxV (L ++ [x]) = if idxV L < 0 then (if x.2 = 0 then (L.length : Int) else -1) else idxV L := by
  unfold idxV
  rw [leastF_append]
  cases leastF L with
  | some j => simp; omega
  | none => by_cases h : x.2 = 0 <;> simp [h]
theorem idxV_ge (L : List Slt) : -1 ≤ idxV L ∧ idxV L < 0 → idxV L = -1 := fun h => by omega
theorem idxV_range (L : List Slt) : -1 ≤ idxV L ∧ idxV L < L.length := by
  rcases take_cases L with ⟨-, -, -, -, h⟩ | ⟨k, g, -, hk, -, -, -, h⟩
  · rw [h]; omega
  · rw [h]; have := (List.getElem?_eq_some_iff.1 hk).1; omega
set_option maxHeartbeats 8000000 in
theorem least_law (n : Int) (a : Option Addr) (len cap : Nat) (z : List Int) (w : World) (hn : -9223372036854775808 ≤ n ∧ n ≤ 9223372036854775807) (hz : IsRow .i64 8 w a len cap z) :
    Calls Try.prog 5 #[.int .i64 n, .slice a len cap] w fun e w' => e = .returned (.bool true) ∧ Below w.heap.size w w' := by
  have CS : Hid (∀ W, Calls Try.prog 7 #[] W fun e w' => e = .returned (.bool true) ∧ Below W.heap.size W w') := fun W => shown_any W
  have CN : Hid (∀ W, Calls Try.prog 8 #[.int .i64 n] W (RetA W n)) := fun W => new_any W n hn.1 hn.2
  have HZ := Lib.hid hz
  have hlen : len ≤ 140737488351232 := by have := hz.cells.2.1; omega
  have HN : Hid ((newL n).length ≤ 1024 ∧ 1 ≤ (newL n).length) := by have := newL_len n; exact ⟨by omega, by omega⟩
  have HK : Hid (OkS 1 (newL n)) := fun x hx => by
    rw [newL, List.mem_replicate] at hx
    rw [hx.2]; exact ⟨⟨by decide, by decide⟩, by decide, by decide⟩
  obtain ⟨L0, hL0⟩ : ∃ L0, newL n = L0 := ⟨_, rfl⟩
  obtain ⟨N, hN⟩ : ∃ N, L0.length = N := ⟨_, rfl⟩
  rw [hL0] at HN HK
  rw [hN] at HN
  have hN2 := HN.out
  have HL0 := Lib.hid hL0
  have HN0 := Lib.hid hN
  clear hz hL0 hN HN
  go_enter Try.func5, Try.ntmps5
  go_wp2_with fail
  refine (CS.out _).mono ?_
  rintro e w0 ⟨rfl, hb0⟩
  have HB0 := Lib.hid hb0
  clear hb0 CS
  go_wp2_with fail
  refine (CN.out _).mono ?_
  rintro e w1 ⟨b, g, rfl, hA, hb, hg, hB⟩
  rw [HL0.out] at hA
  have HA1 := Lib.hid hA
  have HB1 := Lib.hid (HB0.out.trans (hB.mono HB0.out.size))
  have HG := Lib.hid (Nat.le_trans HB0.out.size hg)
  clear hA hB hb hg CN HB0
  go_wp2
  go_loopw [6] (fun si wx => ∃ (i : Nat) (L : List Slt), i ≤ len ∧ i ≤ 60 ∧ si = .int .i64 i ∧ Hid (Ar wx b g L) ∧ Hid (L.length = N) ∧ Hid (OkS 1 L) ∧ Hid (Below w.heap.size w wx)) (fun si _ => len - (intOf si).toNat)
  case atStart => exact ⟨0, L0, by omega, by omega, rfl, HA1, HN0, HK, HB1⟩
  case round =>
    obtain ⟨i, L, hi, hi2, rfl, hA, hNL, hO, hB⟩ := hrel
    rename World => wx
    clear HA1 HB1 HK HN0 HL0
    by_cases hlt : i < len
    · by_cases hl6 : i < 60
      · have hd1 : decide (i < len) = true := by simp; exact hlt
        have hd2 : decide ((i : Int) < 60) = true := by simp; omega
        obtain ⟨db, dof, dx, rfl, hdb, hdc, hdx1, hdx2⟩ := row64_at HZ.out hlt
        have HD : Hid (∀ W, Below w.heap.size w W → W.cell? ⟨db, dof + i, none⟩ = some (.int .i64 dx)) := fun W hW => (hW.cell (p := ⟨db, dof + i, none⟩) hdb).trans hdc
        have CSl : Hid (∀ W M, Ar W b g M → M.length ≤ 1024 → Calls Try.prog 22 #[.pointer (some ⟨b, 0, none⟩)] W (RetS W M)) := fun W M h h2 => slots_any W b g M h h2
        clear hdc
        go_wp2_with fail
        refine (CSl.out wx L hA.out (by rw [hNL.out]; omega)).mono ?_
        rintro e w2 ⟨A, c, rfl, ho, hb2⟩
        rw [hNL.out] at ho ⊢
        have HR := Lib.hid ho.rd
        have HA2 := Lib.hid (hA.out.bel hb2)
        have HB2 := Lib.hid (hB.out.trans (hb2.mono hB.out.size))
        clear ho hb2 hA hB
        go_wp2
        go_loopw [7, 31] (fun sl sk wy => ∃ k : Nat, k ≤ N ∧ sk = .int .i64 k ∧ sl = .int .i64 (idxV (L.take k)) ∧ Hid (Below w2.heap.size w2 wy)) (fun _ sk _ => N - (intOf sk).toNat)
        case atStart => exact ⟨0, by omega, rfl, rfl, Below.refl _ _⟩
        case round =>
          obtain ⟨k, hk, rfl, rfl, hb3⟩ := hrel
          rename World => wy
          by_cases hkl : k < N
          · obtain ⟨sb, sof, x, rfl, hsb, hx, c0, c1⟩ := slot_at (HR.out.below hb3.out) hkl
            have hrg := idxV_range (L.take k)
            have hlk : (L.take k).length = k := by rw [List.length_take, hNL.out]; omega
            have HS := Lib.hid (show idxV (L.take (k + 1)) = if idxV (L.take k) < 0 then (if x.2 = 0 then (k : Int) else -1) else idxV (L.take k) from by rw [take_snoc hx, idxV_snoc, hlk])
            rw [hlk] at hrg
            have d1 : (wy.alloc (slO x)).cell? ⟨wy.heap.size, 1, none⟩ = some (.int .i64 x.2) := cell_of_row _ _ 1 _ _ _ (heap_alloc_new wy _)
            have HB4 := Lib.hid (hb3.out.alloc hb3.out.size (slO x))
            generalize idxV (L.take k) = v at *
            clear hb3 hlk
            by_cases h0 : x.2 = 0
            · have q0 : (x.2 == 0) = true := by simp [h0]
              rw [if_pos h0] at HS
              clear h0
              by_cases hv : v < 0
              · have q1 : decide (v < 0) = true := by simp; exact hv
                rw [if_pos hv] at HS
                clear hv
                go_wp2
                go_roundw
                case rel => exact ⟨k + 1, by omega, by go_num, by rw [HS.out], HB4⟩
                case measure => simp [intOf]; omega
              · have q1 : decide (v < 0) = false := by simp; omega
                rw [if_neg hv] at HS
                clear hv
                go_wp2
                go_roundw
                case rel => exact ⟨k + 1, by omega, by go_num, by rw [HS.out], HB4⟩
                case measure => simp [intOf]; omega
            · have q0 : (x.2 == 0) = false := by simp [h0]
              rw [if_neg h0] at HS
              have HS' : Hid (idxV (L.take (k + 1)) = v) := by
                refine Lib.hid ?_
                rw [HS.out]; split <;> omega
              clear h0 HS
              go_wp2
              go_roundw
              case rel => exact ⟨k + 1, by omega, by go_num, by rw [HS'.out], HB4⟩
              case measure => simp [intOf]; omega
          · obtain rfl : N = k := by omega
            have hfull : L.take N = L := List.take_of_length_le (by rw [hNL.out]; exact Nat.le_refl _)
            rw [hfull]
            have HA3 := Lib.hid (HA2.out.bel hb3.out)
            have HB3 := Lib.hid (HB2.out.trans (hb3.out.mono HB2.out.size))
            have CT : Hid (Calls Try.prog 11 #[.pointer (some ⟨b, 0, none⟩)] wy fun e w' => e = .returned (.tuple #[hnV (takeH L).1 (takeH L).2, .int .i64 (takeE L)]) ∧ Ar w' b g (takeL L) ∧ Upd (· = g) wy w') := take_any wy b g L HA3.out (by rw [hNL.out]; omega)
            have hqm := i64_mask dx 16 (by decide)
            rw [show (2 : Int) ^ 16 - 1 = 65535 from by decide, show (2 : Int) ^ 16 = 65536 from by decide] at hqm
            have hy : 0 ≤ dx % 65536 := by omega
            generalize dx % 65536 = y at *
            obtain ⟨yn, rfl⟩ := Int.eq_ofNat_of_zero_le hy
            have hqt : ((yn : Int).tmod N) = ((yn % N : Nat) : Int) := by rw [Int.ofNat_tmod]
            have hm : yn % N < N := Nat.mod_lt _ hN2.2
            generalize yn % N = m at *
            have hn0 : ((N : Int) == 0) = false := by simp; omega
            have hn1 : ¬ (N : Int) = 0 := by omega
            have HTN : Hid ((takeL L).length = N) := Lib.hid (by rw [takeL_len]; exact hNL.out)
            have HTO : Hid (OkS 1 (takeL L)) := Lib.hid (hO.out.take (Int.le_refl _))
            obtain ⟨T, hT⟩ : ∃ T, takeL L = T := ⟨_, rfl⟩
            rw [hT] at CT HTN HTO
            rcases take_cases L with ⟨-, e1, e2, -, e4⟩ | ⟨k, x, -, hk, e1, e2, -, e4⟩
            · rw [e1, e2] at CT
              rw [e4]
              clear e1 e2 e4 hT
              go_wp2_with fail
              refine CT.out.mono ?_
              rintro e w4 ⟨rfl, hA4, hU⟩
              clear CT
              have HA6 := Lib.hid (hA4.bel ((Below.refl _ _).alloc (Nat.le_refl _) (hnO 0 0)))
              have HB4 := HB3.out.trans (hU.below HB3.out.size (fun k hk => hk ▸ HG.out))
              have HB5 := Lib.hid (HB4.alloc HB4.size (hnO 0 0))
              have d0 : (w4.alloc (hnO 0 0)).cell? ⟨w4.heap.size, 0, none⟩ = some (.int .i64 0) := cell_of_row _ _ 0 _ _ _ (heap_alloc_new w4 _)
              clear hA4 hU HB4 HB3
              go_wp2_with fail
              refine (CSl.out _ T HA6.out (by rw [HTN.out]; exact hN2.1)).mono ?_
              rintro e w6 ⟨A2, c2, rfl, ho, hb6⟩
              rw [HTN.out] at ho ⊢
              have HA7 := Lib.hid (HA6.out.bel hb6)
              have HB7 := Lib.hid (HB5.out.trans (hb6.mono HB5.out.size))
              obtain ⟨sb, sof, x, rfl, -, hx, c0, c1⟩ := slot_at ho.rd hm
              have e0 := HD.out w6 HB7.out
              have hxo := HTO.out.at_ hx
              have hk1 : decide (m < N) = true := by simp; exact hm
              clear ho hb6 HA6 HB5 d0
              by_cases h0 : 0 < x.2
              · have q0 : decide (0 < x.2) = true := by simp; exact h0
                have hl : liveB T m x.1 = true := by rw [liveB_at _ hx]; simp; exact h0
                have CD : Hid (∀ W, Ar W b g T → Calls Try.prog 15 #[.pointer (some ⟨b, 0, none⟩), hnV m x.1] W fun e w' => e = .returned (.int .i64 0) ∧ Ar w' b g (dropL T m x.1) ∧ Upd (· = g) W w') := fun W h => by
                  have := drop_any W b g T m x.1 1 h (by rw [HTN.out]; exact hN2.1) HTO.out (by decide)
                  rw [callE_yes hl] at this
                  exact this
                clear h0 hl
                go_wp2_with fail
                refine (CD.out _ HA7.out).mono ?_
                rintro e w8 ⟨rfl, hA8, hU⟩
                have HA8 := Lib.hid hA8
                have HB8 := Lib.hid (HB7.out.trans (hU.below HB7.out.size (fun k hk => hk ▸ HG.out)))
                clear hA8 hU e0 c0 c1 HA7 HB7
                go_wp2
                go_roundw
                case rel => exact ⟨i + 1, dropL T m x.1, by omega, by omega, by go_num, HA8, Lib.hid (by rw [dropL_len]; exact HTN.out), Lib.hid (HTO.out.drop _ _), HB8⟩
                case measure => simp [intOf]; omega
              · have q0 : decide (0 < x.2) = false := by simp; omega
                clear h0
                go_wp2
                go_roundw
                case rel => exact ⟨i + 1, T, by omega, by omega, by go_num, HA7, HTN, HTO, HB7⟩
                case measure => simp [intOf]; omega
            · rw [e1, e2] at CT
              rw [e4]
              have hkk : decide (0 ≤ (k : Int)) = true := by simp
              clear e1 e2 e4 hT
              go_wp2_with fail
              refine CT.out.mono ?_
              rintro e w4 ⟨rfl, hA4, hU⟩
              clear CT
              have HA6 := Lib.hid (hA4.bel ((Below.refl _ _).alloc (Nat.le_refl _) (hnO (k : Int) x)))
              have HB4 := HB3.out.trans (hU.below HB3.out.size (fun k hk => hk ▸ HG.out))
              have HB5 := Lib.hid (HB4.alloc HB4.size (hnO (k : Int) x))
              have d0 : (w4.alloc (hnO (k : Int) x)).cell? ⟨w4.heap.size, 0, none⟩ = some (.int .i64 (k : Int)) := cell_of_row _ _ 0 _ _ _ (heap_alloc_new w4 _)
              clear hA4 hU HB4 HB3
              go_wp2_with fail
              refine (CSl.out _ T HA6.out (by rw [HTN.out]; exact hN2.1)).mono ?_
              rintro e w6 ⟨A2, c2, rfl, ho, hb6⟩
              rw [HTN.out] at ho ⊢
              have HA7 := Lib.hid (HA6.out.bel hb6)
              have HB7 := Lib.hid (HB5.out.trans (hb6.mono HB5.out.size))
              obtain ⟨sb, sof, xx, rfl, -, hx, c0, c1⟩ := slot_at ho.rd hm
              have e0 := HD.out w6 HB7.out
              have hxo := HTO.out.at_ hx
              have hk1 : decide (m < N) = true := by simp; exact hm
              clear ho hb6 HA6 HB5 d0
              by_cases h0 : 0 < xx.2
              · have q0 : decide (0 < xx.2) = true := by simp; exact h0
                have hl : liveB T m xx.1 = true := by rw [liveB_at _ hx]; simp; exact h0
                have CD : Hid (∀ W, Ar W b g T → Calls Try.prog 15 #[.pointer (some ⟨b, 0, none⟩), hnV m xx.1] W fun e w' => e = .returned (.int .i64 0) ∧ Ar w' b g (dropL T m xx.1) ∧ Upd (· = g) W w') := fun W h => by
                  have := drop_any W b g T m xx.1 1 h (by rw [HTN.out]; exact hN2.1) HTO.out (by decide)
                  rw [callE_yes hl] at this
                  exact this
                clear h0 hl
                go_wp2_with fail
                refine (CD.out _ HA7.out).mono ?_
                rintro e w8 ⟨rfl, hA8, hU⟩
                have HA8 := Lib.hid hA8
                have HB8 := Lib.hid (HB7.out.trans (hU.below HB7.out.size (fun k hk => hk ▸ HG.out)))
                clear hA8 hU e0 c0 c1 HA7 HB7
                go_wp2
                go_roundw
                case rel => exact ⟨i + 1, dropL T m xx.1, by omega, by omega, by go_num, HA8, Lib.hid (by rw [dropL_len]; exact HTN.out), Lib.hid (HTO.out.drop _ _), HB8⟩
                case measure => simp [intOf]; omega
              · have q0 : decide (0 < xx.2) = false := by simp; omega
                clear h0
                go_wp2
                go_roundw
                case rel => exact ⟨i + 1, T, by omega, by omega, by go_num, HA7, HTN, HTO, HB7⟩
                case measure => simp [intOf]; omega
      · have hd1 : decide (i < len) = true := by simp; exact hlt
        have hd2 : decide ((i : Int) < 60) = false := by simp; omega
        go_wp2
        go_ret
        exact ⟨rfl, hB.out⟩
    · have hd1 : decide (i < len) = false := by simp; omega
      go_wp2
      go_ret
      exact ⟨rfl, hB.out⟩
end Go.Proofs.Ytachodjpiklpkaa.Arn
