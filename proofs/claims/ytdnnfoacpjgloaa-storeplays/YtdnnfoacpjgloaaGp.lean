/- StorePlays, walked. Written by wip/gen/gp.py. -/
import Derived.Test.YtdnnfoacpjgloaaGo
set_option maxRecDepth 100000
namespace Go.Proofs.Ytdnnfoacpjgloaa.Stv
open Go.RowKit
open Arn (Slt Ar St OkS Upd hnV hnO HBlk refsV callE keepL dropL freeN liveB newL slcL hndL someH RetS I64)
open Pat (hasD applyL pch QBlk PF)
set_option linter.unusedVariables false

set_option maxHeartbeats 16000000 in
theorem plays_law (n : Int) (a : Option Addr) (cap : Nat) (xs : List Sact) (w : World) (hn : -9223372036854775808 ≤ n ∧ n ≤ 9223372036854775807) (hl : xs.length * 72 ≤ 140737488351232) (hok : ∀ x ∈ xs, SactOk w w.heap.size x) (hz : RowRd sactL w w.heap.size a xs.length xs) :
    Calls Try.prog 3 #[.int .i64 n, .slice a xs.length cap] w fun e w' => e = .returned (.bool true) ∧ Below w.heap.size w w' := by
  have CS : Hid (∀ W, Calls Try.prog 7 #[] W fun e w' => e = .returned (.bool true) ∧ Below W.heap.size W w') := fun W => shown_any W
  have CN : Hid (∀ W, Below w.heap.size w W → Calls Try.prog 8 #[.int .i64 n] W fun e w' => ∃ b ba ga g, e = .returned (.pointer (some ⟨b, 0, none⟩)) ∧ Hold w w' b ba ga g (newL n) (List.replicate (newL n).length [])) := fun W hW => new_hold w W n hW hn.1 hn.2
  have CM : Hid (∀ W, Calls Try.prog 9 #[.int .i64 n] W (RetRS W n)) := fun W => rnew_st W n hn.1 hn.2
  obtain ⟨len, hlen⟩ : ∃ len, xs.length = len := ⟨_, rfl⟩
  rw [hlen] at hl hz ⊢
  have HZ := Lib.hid hz
  have HX := Lib.hid hok
  have HN : Hid ((newL n).length ≤ 1024 ∧ 1 ≤ (newL n).length) := by have := Arn.newL_len n; exact ⟨by omega, by omega⟩
  have HK : Hid (OkS 1 (newL n)) := fun x hx => by
    rw [newL, List.mem_replicate] at hx
    rw [hx.2]; exact ⟨⟨by decide, by decide⟩, by decide, by decide⟩
  obtain ⟨L0, hL0⟩ : ∃ L0, newL n = L0 := ⟨_, rfl⟩
  obtain ⟨N, hN⟩ : ∃ N, L0.length = N := ⟨_, rfl⟩
  obtain ⟨D0, hD0⟩ : ∃ D0 : List (List Int), List.replicate N [] = D0 := ⟨_, rfl⟩
  rw [hL0] at HN HK CN
  rw [hN] at HN CN
  rw [hD0] at CN
  have hN2 := HN.out
  have HL0 := Lib.hid hL0
  have HN0 := Lib.hid hN
  have HD0 := Lib.hid hD0
  obtain ⟨i0, hi0, hz0, hz1, hz2⟩ := info_parts Arn.info_hnd
  have HI := Lib.hid (And.intro hi0 (And.intro hz0 (And.intro hz1 hz2)))
  clear hz hok hL0 hN HN hlen hi0 hz0 hz1 hz2 hD0
  go_enter Try.func3, Try.ntmps3
  go_wp2_with fail
  refine (CS.out _).mono ?_
  rintro e w0 ⟨rfl, hb0⟩
  have HB0 := Lib.hid hb0
  clear hb0 CS
  go_wp2_with fail
  refine (CN.out _ HB0.out).mono ?_
  rintro e w1 ⟨b, ba, ga, g, rfl, h⟩
  have H1 := Lib.hid h
  clear h CN HB0
  go_wp2_with fail
  refine (CM.out _).mono ?_
  rintro e w2 ⟨p, q, c, z, cB, rfl, hS, hp, hq, hzz, hB⟩
  rw [HL0.out, HN0.out, HD0.out] at hS
  have HH : Hid (Bst w w2 b ba ga g p q z c cB 0 0 none L0 D0 L0 D0 []) := by
    have hlt := H1.out.st.lt
    have hsz := H1.out.bel.size
    have hS' : RSt w2 w.heap.size p q c z cB (List.replicate N (none, 0, 0)) L0 D0 := by
      refine ⟨hS.st, ⟨hS.row.1, hS.row.2.1, hS.row.2.2.1, ?_⟩, hS.len, fun k e d he hd => ⟨(hS.each k e d he hd).1.lower hsz, (hS.each k e d he hd).2⟩⟩
      rcases hS.row.2.2.2 with h | ⟨g', T, e, hg', h2⟩
      · exact .inl h
      · exact .inr ⟨g', T, e, by omega, h2⟩
    exact ⟨H1.out.more hB, ⟨_, hS'⟩, RowOwn.nil _ _, ⟨by omega, by omega, by omega⟩, ⟨w1.heap.size, hlt.1, hlt.2.1, hlt.2.2.1, hlt.2.2.2, hp, hq, hzz⟩, by rw [HN0.out]; exact hN2.2⟩
  clear hS hB hp hq hzz CM H1 HL0 HD0
  go_wp2
  go_loopw [7, 8] (fun sT si wx => ∃ (i m cA : Nat) (A : Option Addr) (L : List Slt) (D : List (List Int)) (T : List (Int × Int)), i ≤ len ∧ i ≤ 40 ∧ m ≤ i ∧ si = .int .i64 i ∧ sT = .slice A m cA ∧ Hid (Bst w wx b ba ga g p q z c cB m cA A L D L D T) ∧ Hid (L.length = N) ∧ Hid (OkS (1 + i) L)) (fun _ si _ => 40 - (intOf si).toNat)
  case atStart => exact ⟨0, 0, 0, none, L0, D0, [], by omega, by omega, by omega, rfl, rfl, HH, HN0, HK⟩
  case round =>
    obtain ⟨i, m, cA, A, L, D, T, hi, hi2, hmi, rfl, rfl, hH, hNL, hO⟩ := hrel
    rename World => wx
    clear HH HK HN0
    by_cases hlt : i < len
    · by_cases hl6 : i < 40
      · have hd1 : decide (i < len) = true := by simp; exact hlt
        have hd2 : decide ((i : Int) < 40) = true := by simp; omega
        obtain ⟨db, dof, x, rfl, hdb, hx, hd⟩ := sact_at HZ.out hlt
        have hxo := HX.out x (List.mem_of_getElem? hx)
        have HD : Hid (∀ W, Below w.heap.size w W → ∀ j v, (sactC x)[j]? = some v → W.cell? ⟨db, dof + i * 9 + j, none⟩ = some v) := fun W hW j v hv => (hW.cell (p := ⟨db, dof + i * 9 + j, none⟩) hdb).trans (hd j v hv)
        obtain ⟨kd, xn, s', g', xq, xt, xr, xf, xa, xlen, xcap, ys⟩ := x
        simp only [sactC] at HD
        have HP : Hid (PF xq xt xr xf) := hxo.p
        have HRd : Hid (Rd w w.heap.size xa xlen ys) := hxo.b
        have hxn : I64 xn := hxo.nn
        have e1 : wx.cell? ⟨db, dof + i * 9 + 1, none⟩ = some (.int .i64 xn) := HD.out wx hH.out.st.bel 1 _ rfl
        have CO : Hid (Calls Try.prog 10 #[.slice A m cA, .int .i64 xn] wx fun e w' => e = .returned (hnV (someH T xn).1 (someH T xn).2) ∧ Below wx.heap.size wx w') := Arn.some_any wx T A m cA wx.heap.size xn hH.out.told.rd (Nat.le_refl _) (by omega) hxn
        clear hd hx hdb hxo
        go_wp2_with fail
        refine CO.out.mono ?_
        rintro e w3 ⟨rfl, hb3⟩
        obtain ⟨⟨s, gn⟩, hsg⟩ : ∃ h, someH T xn = h := ⟨_, rfl⟩
        rw [hsg]
        have hh3 := hH.out.more hb3
        have HT4 : Hid (A ≠ some ⟨w3.heap.size, 0, none⟩) := fun e => by have := (hh3.told.lt_at e).2; omega
        have HH4 := Lib.hid (hh3.more ((Below.refl _ _).alloc (Nat.le_refl _) (hnO s gn)))
        have HD4 := Lib.hid (HBlk.new w3 s gn)
        have HR : Hid (w.heap.size ≤ w3.heap.size) := hh3.st.bel.size
        have HA4 : Hid (∀ k, A = some ⟨k, 0, none⟩ → k < w3.heap.size) := fun k e => (hh3.told.lt_at e).2
        clear hb3 hH CO e1 hsg hh3
        obtain ⟨w4, hw4⟩ : ∃ w4, w3.alloc (hnO s gn) = w4 := ⟨_, rfl⟩
        obtain ⟨r, hr⟩ : ∃ r, w3.heap.size = r := ⟨_, rfl⟩
        rw [hw4] at HH4 HD4
        rw [hr] at HD4 HT4 HR HA4
        have e0 : w4.cell? ⟨db, dof + i * 9, none⟩ = some (.int .i64 kd) := HD.out _ HH4.out.st.bel 0 _ rfl
        have HLL := Lib.hid (show L.length ≤ 1024 from by rw [hNL.out]; exact hN2.1)
        go_upto_block 2 with fail
        clear hr hw4
        go_cut [7, 10, 11, 12] from 23 to 181 (fun sT se sf _ wc => ∃ (m' cA' : Nat) (A' : Option Addr) (L' : List Slt) (D' : List (List Int)) (T' : List (Int × Int)) (s'' g'' te : Int), sT = .slice A' m' cA' ∧ se = .int .i64 te ∧ sf = .int .i64 te ∧ m' ≤ i + 1 ∧ Hid (Bst w wc b ba ga g p q z c cB m' cA' A' L' D' L' D' T') ∧ Hid (L'.length = N) ∧ Hid (OkS (1 + (i + 1 : Nat)) L') ∧ Hid (HBlk wc r s'' g''))
        case first =>
          by_cases h0 : kd = 0
          · have hk0 : (kd == 0) = true := by simp [h0]
            clear h0
            have hbo := (Below.refl w4.heap.size w4).alloc (Nat.le_refl _) (hnO 0 0)
            have HH5 := Lib.hid (HH4.out.more hbo)
            have HD5 := Lib.hid (HD4.out.bel hbo HD4.out.lt)
            have HX5 := Lib.hid (HBlk.new w4 0 0)
            have HXA : Hid (A ≠ some ⟨w4.heap.size, 0, none⟩) := fun e => by have := (HH4.out.told.lt_at e).2; omega
            have HXN : Hid (r ≠ w4.heap.size) := Nat.ne_of_lt HD4.out.lt
            have HXS : Hid (w.heap.size ≤ w4.heap.size) := HH4.out.st.bel.size
            have e8 : (w4.alloc (hnO 0 0)).cell? ⟨db, dof + i * 9 + 8, none⟩ = some (.slice xa xlen xcap) := HD.out _ HH5.out.st.bel 8 _ rfl
            have CP := Lib.hid (HH5.out.put (cap := xcap) HLL.out HRd.out.1 HRd.out)
            have HO' := Lib.hid (OkS.put hO.out (by omega) xlen)
            have HN' := Lib.hid (show (putL L xlen).length = N from by rw [putL_len]; exact hNL.out)
            have HRP := Lib.hid (fun W (L1 : List Slt) (D1 : List (List Int)) (h : Bst w W b ba ga g p q z c cB m cA A L1 D1 L D T) => h.rput (cap := xcap) HLL.out HRd.out.1 HRd.out)
            obtain ⟨⟨hs, hg⟩, hsg'⟩ : ∃ h, putH L xlen = h := ⟨_, rfl⟩
            obtain ⟨te, hte⟩ : ∃ e, putE L xlen = e := ⟨_, rfl⟩
            obtain ⟨L', hL'⟩ : ∃ e, putL L xlen = e := ⟨_, rfl⟩
            obtain ⟨D', hD'⟩ : ∃ e, putD L D ys = e := ⟨_, rfl⟩
            rw [hsg', hte, hL', hD'] at CP HRP
            rw [hL'] at HO' HN'
            have qn : ∀ W, (binOp .neq 31 (hnV hs hg) (hnV hs hg)).run Try.prog W = .ok (.bool false) W := fun W => by have := Arn.neq_hnd hs hg hs hg W; simpa using this
            clear hsg' hte hL' hD' hbo
            go_wp2_with fail
            refine CP.out.mono ?_
            rintro e w5 ⟨rfl, h5, hu5⟩
            have HH6 := Lib.hid h5
            have HX6 := Lib.hid (HH5.out.hk HX5.out hu5)
            have HD6 := Lib.hid (HH5.out.hk HD5.out hu5)
            obtain ⟨xb, hxb⟩ : ∃ xb, w4.heap.size = xb := ⟨_, rfl⟩
            rw [hxb] at HX6 HXA HXN HXS ⊢
            clear h5 hu5 HH5 HX5 HD5 CP e8 hxb
            have d0 := HX6.out.c0
            have d1 := HX6.out.c1
            have z0 := HX6.out.frozen 0
            have z1 := HX6.out.frozen 1
            have HH7 := Lib.hid (HH6.out.hset HX6.out HXS.out HXA.out hs hg)
            have HX7 := Lib.hid (HX6.out.store hs hg)
            have HD7 := Lib.hid (hnd_set HD6.out HX6.out HXN.out hs hg)
            obtain ⟨w7, hw7⟩ : ∃ w7, (w5.setCell ⟨xb, 0, none⟩ (.int .i64 hs)).setCell ⟨xb, 1, none⟩ (.int .u32 hg) = w7 := ⟨_, rfl⟩
            rw [hw7] at HH7 HX7 HD7
            have e8 : w7.cell? ⟨db, dof + i * 9 + 8, none⟩ = some (.slice xa xlen xcap) := HD.out _ HH7.out.st.bel 8 _ rfl
            clear HH6 HX6 HD6
            go_wp2_with fail
            refine (HRP.out _ _ _ HH7.out).mono ?_
            rintro e w8 ⟨rfl, h8, hu8⟩
            have HH8 := Lib.hid h8
            have HX8 := Lib.hid (HH7.out.hkr HX7.out hu8)
            have HD8 := Lib.hid (HH7.out.hkr HD7.out hu8)
            clear h8 hu8 HH7 HX7 HD7 HRP e8 hw7 d0 d1 z0 z1
            have d0 := HD8.out.c0
            have d1 := HD8.out.c1
            have z0 := HD8.out.frozen 0
            have z1 := HD8.out.frozen 1
            have HH9 := Lib.hid (HH8.out.hset HD8.out HR.out HT4.out hs hg)
            have HD9 := Lib.hid (HD8.out.store hs hg)
            have HX9 := Lib.hid (hnd_set HX8.out HD8.out (Ne.symm HXN.out) hs hg)
            obtain ⟨w9, hw9⟩ : ∃ w9, (w8.setCell ⟨r, 0, none⟩ (.int .i64 hs)).setCell ⟨r, 1, none⟩ (.int .u32 hg) = w9 := ⟨_, rfl⟩
            rw [hw9] at HH9 HX9 HD9
            clear HH8 HX8 HD8
            have c0 := HX9.out.c0
            have c1 := HX9.out.c1
            have b0 := HD9.out.c0
            have b1 := HD9.out.c1
            have hbo := (Below.refl w9.heap.size w9).alloc (Nat.le_refl _) (hnO hs hg)
            have HHa := Lib.hid (HH9.out.more hbo)
            have HDa := Lib.hid (HD9.out.bel hbo HD9.out.lt)
            have HRD := Lib.hid (Arn.one_rec hndL w9 (hs, hg))
            have HSZ := Lib.hid (show w.heap.size ≤ (w9.alloc (hnO hs hg)).heap.size from HHa.out.st.bel.size)
            clear hbo
            go_wp2_with (at_builtin; refine Arn.wpList_append_upd (L := hndL) (N := m + 1) (by rfl) (.tmp 91) (.tmp 93) rfl Try.underlying28 HI.out.1 HI.out.2.1 HI.out.2.2.1 HI.out.2.2.2 rfl (T ++ [(hs, hg)]) rfl rfl rfl rfl HHa.out.told HRD.out HSZ.out (by unfold maxLen; omega) (by omega) ?_; intro Ab cb wb hob hub _)
            have HHb := Lib.hid (HHa.out.push hob hub)
            have HDb := Lib.hid (HDa.out.upd hub (fun e => HT4.out e))
            clear hob hub
            go_meet
            case rel => exact ⟨m + 1, cb, Ab, L', D', T ++ [(hs, hg)], hs, hg, te, rfl, rfl, rfl, by omega, HHb, HN', Lib.hid (HO'.out.mono (by omega)), HDb⟩
          · have hk0 : (kd == 0) = false := by simp [h0]
            have f0 : ∀ W, HBlk W r s gn → W.cell? ⟨r, 0, none⟩ = some (.int .i64 s) := fun W h => h.c0
            have f1 : ∀ W, HBlk W r s gn → W.cell? ⟨r, 1, none⟩ = some (.int .u32 gn) := fun W h => h.c1
            by_cases h1 : kd = 1
            · have hk1 : (kd == 1) = true := by simp [h1]
              clear h0 h1
              go_wp2_with fail
              refine region_seq (fun W => HBlk W r s gn) [(0, false), (1, false), (3, false), (4, false), (2, true), (5, true), (6, false), (7, false)] (by kernel_rfl) (by kernel_rfl) rfl (by kernel_rfl) ?_
              have hS : HBlk w4.drew r s gn := HD4.out
              have hH : Bst w w4.drew b ba ga g p q z c cB m cA A L D L D T := HH4.out.more (Below.refl _ _).drew
              obtain ⟨te, hte⟩ : ∃ e, callE L s gn = e := ⟨_, rfl⟩
              generalize w4.drew = wd at *
              iterate 4 (refine seq_read (v := _) rfl (fun _ _ _ h => h) hS (Or.inl ⟨by rfl, fun W hW => by go_simp <;> with_reducible rfl⟩) ?_; simp only [Act.put, List.setIfInBounds_toArray, List.set_cons_zero, List.set_cons_succ])
              refine seq_do rfl (fun K hK => ?_)
              go_simp
              refine (hH.keep (s := s) (gn := gn) HLL.out hO.out (by omega)).mono ?_
              rw [hte]
              rintro e w5 ⟨rfl, h5, hu5⟩
              have hS5 : HBlk w5 r s gn := hH.hk hS hu5
              clear hS hH
              have hS := hS5
              refine hK.out _ _ _ (fun W h => h) hS ?_
              clear hK K hS5 hu5
              refine seq_do rfl (fun K hK => ?_)
              go_simp
              refine (h5.rkeep (s := s) (gn := gn) HLL.out hO.out (by omega)).mono ?_
              rw [hte]
              rintro e w6 ⟨rfl, h6, hu6⟩
              have hS6 : HBlk w6 r s gn := h5.hkr hS hu6
              have HH6 := Lib.hid h6
              have HS6 := Lib.hid hS6
              clear hS
              have hS := hS6
              refine hK.out _ _ _ (fun W h => h) hS ?_
              clear hK K h5 h6 hu6 hS6 hte
              iterate 2 (refine seq_read (v := _) rfl (fun _ _ _ h => h) hS (Or.inl ⟨by rfl, fun W hW => by go_simp <;> with_reducible rfl⟩) ?_; simp only [Act.put, List.setIfInBounds_toArray, List.set_cons_zero, List.set_cons_succ])
              refine seq_end ?_
              go_wp2_with fail
              go_meet
              case rel => exact ⟨m, cA, A, keepL L s gn, D, T, s, gn, te, rfl, rfl, rfl, by omega, HH6, Lib.hid (by rw [Arn.keepL_len]; exact hNL.out), Lib.hid ((Arn.OkS.keep hO.out s gn).mono (by omega)), HS6⟩
            · have hk1 : (kd == 1) = false := by simp [h1]
              by_cases h2 : kd = 2
              · have hk2 : (kd == 2) = true := by simp [h2]
                clear h0 h1 h2
                go_wp2_with fail
                refine region_seq (fun W => HBlk W r s gn) [(0, false), (1, false), (3, false), (4, false), (2, true), (5, true), (6, false), (7, false)] (by kernel_rfl) (by kernel_rfl) rfl (by kernel_rfl) ?_
                have hS : HBlk w4.drew r s gn := HD4.out
                have hH : Bst w w4.drew b ba ga g p q z c cB m cA A L D L D T := HH4.out.more (Below.refl _ _).drew
                obtain ⟨te, hte⟩ : ∃ e, callE L s gn = e := ⟨_, rfl⟩
                generalize w4.drew = wd at *
                iterate 4 (refine seq_read (v := _) rfl (fun _ _ _ h => h) hS (Or.inl ⟨by rfl, fun W hW => by go_simp <;> with_reducible rfl⟩) ?_; simp only [Act.put, List.setIfInBounds_toArray, List.set_cons_zero, List.set_cons_succ])
                refine seq_do rfl (fun K hK => ?_)
                go_simp
                refine (hH.drop (s := s) (gn := gn) HLL.out hO.out (by omega)).mono ?_
                rw [hte]
                rintro e w5 ⟨rfl, h5, hu5⟩
                have hS5 : HBlk w5 r s gn := hH.hk hS hu5
                clear hS hH
                have hS := hS5
                refine hK.out _ _ _ (fun W h => h) hS ?_
                clear hK K hS5 hu5
                refine seq_do rfl (fun K hK => ?_)
                go_simp
                refine (h5.rdrop (s := s) (gn := gn) HLL.out hO.out (by omega)).mono ?_
                rw [hte]
                rintro e w6 ⟨rfl, h6, hu6⟩
                have hS6 : HBlk w6 r s gn := h5.hkr hS hu6
                have HH6 := Lib.hid h6
                have HS6 := Lib.hid hS6
                clear hS
                have hS := hS6
                refine hK.out _ _ _ (fun W h => h) hS ?_
                clear hK K h5 h6 hu6 hS6 hte
                iterate 2 (refine seq_read (v := _) rfl (fun _ _ _ h => h) hS (Or.inl ⟨by rfl, fun W hW => by go_simp <;> with_reducible rfl⟩) ?_; simp only [Act.put, List.setIfInBounds_toArray, List.set_cons_zero, List.set_cons_succ])
                refine seq_end ?_
                go_wp2_with fail
                go_meet
                case rel => exact ⟨m, cA, A, dropL L s gn, D, T, s, gn, te, rfl, rfl, rfl, by omega, HH6, Lib.hid (by rw [Arn.dropL_len]; exact hNL.out), Lib.hid ((Arn.OkS.drop hO.out s gn).mono (by omega)), HS6⟩
              · have hk2 : (kd == 2) = false := by simp [h2]
                by_cases h3 : kd = 3
                · have hk3 : (kd == 3) = true := by simp [h3]
                  clear h0 h1 h2 h3 f0 f1
                  go_wp2_with fail
                  have f0 : ∀ W, (HBlk W r s gn ∧ Below w.heap.size w W) → W.cell? ⟨r, 0, none⟩ = some (.int .i64 s) := fun W h => h.1.c0
                  have f1 : ∀ W, (HBlk W r s gn ∧ Below w.heap.size w W) → W.cell? ⟨r, 1, none⟩ = some (.int .u32 gn) := fun W h => h.1.c1
                  have y4 : ∀ W, (HBlk W r s gn ∧ Below w.heap.size w W) → W.cell? ⟨db, dof + i * 9 + 4, none⟩ = some (.int .u16 xq) := fun W h => HD.out W h.2 4 _ rfl
                  have y5 : ∀ W, (HBlk W r s gn ∧ Below w.heap.size w W) → W.cell? ⟨db, dof + i * 9 + 5, none⟩ = some (.int .u32 xt) := fun W h => HD.out W h.2 5 _ rfl
                  have y6 : ∀ W, (HBlk W r s gn ∧ Below w.heap.size w W) → W.cell? ⟨db, dof + i * 9 + 6, none⟩ = some (.int .u32 xr) := fun W h => HD.out W h.2 6 _ rfl
                  have y7 : ∀ W, (HBlk W r s gn ∧ Below w.heap.size w W) → W.cell? ⟨db, dof + i * 9 + 7, none⟩ = some (.int .u16 xf) := fun W h => HD.out W h.2 7 _ rfl
                  refine region_seq (fun W => HBlk W r s gn ∧ Below w.heap.size w W) [(0, false), (1, false), (2, false), (3, false), (4, false), (5, false), (6, false), (8, false), (9, false), (10, false), (11, false), (12, false), (13, false), (14, false), (7, true), (15, true), (16, false), (17, false)] (by kernel_rfl) (by kernel_rfl) rfl (by kernel_rfl) ?_
                  have hH : Bst w w4.drew b ba ga g p q z c cB m cA A L D L D T := HH4.out.more (Below.refl _ _).drew
                  have hS : HBlk w4.drew r s gn ∧ Below w.heap.size w w4.drew := ⟨HD4.out, hH.st.bel⟩
                  obtain ⟨te, hte⟩ : ∃ e, patchE L D s gn = e := ⟨_, rfl⟩
                  obtain ⟨D', hD'⟩ : ∃ e, patchD L D s gn xq xt xr xf = e := ⟨_, rfl⟩
                  generalize w4.drew = wd at *
                  iterate 14 (refine seq_read (v := _) rfl (fun _ _ _ h => h) hS (Or.inl ⟨by rfl, fun W hW => by go_simp <;> with_reducible rfl⟩) ?_; simp only [Act.put, List.setIfInBounds_toArray, List.set_cons_zero, List.set_cons_succ])
                  refine seq_do rfl (fun K hK => ?_)
                  go_simp
                  refine (hH.patch (s := s) (gn := gn) HLL.out hO.out HP.out).mono ?_
                  rw [hte, hD']
                  rintro e w6 ⟨rfl, h6, hu6⟩
                  have hS6 : HBlk w6 r s gn ∧ Below w.heap.size w w6 := ⟨hH.hk hS.1 hu6, h6.st.bel⟩
                  clear hS hH
                  have hS := hS6
                  refine hK.out _ _ _ (fun W h => h) hS ?_
                  clear hK K hS6 hu6
                  refine seq_do rfl (fun K hK => ?_)
                  go_simp
                  refine (h6.rpatch (s := s) (gn := gn) HLL.out hO.out HP.out).mono ?_
                  rw [hte, hD']
                  rintro e w7 ⟨rfl, h7, hu7⟩
                  have hS7 : HBlk w7 r s gn ∧ Below w.heap.size w w7 := ⟨h6.hkr hS.1 hu7, h7.st.bel⟩
                  have HH7 := Lib.hid h7
                  have HS7 := Lib.hid hS7.1
                  clear hS
                  have hS := hS7
                  refine hK.out _ _ _ (fun W h => h) hS ?_
                  clear hK K h6 h7 hu7 hS7 hte hD'
                  iterate 2 (refine seq_read (v := _) rfl (fun _ _ _ h => h) hS (Or.inl ⟨by rfl, fun W hW => by go_simp <;> with_reducible rfl⟩) ?_; simp only [Act.put, List.setIfInBounds_toArray, List.set_cons_zero, List.set_cons_succ])
                  refine seq_end ?_
                  go_wp2_with fail
                  go_meet
                  case rel => exact ⟨m, cA, A, L, D', T, s, gn, te, rfl, rfl, rfl, by omega, HH7, hNL, Lib.hid (Arn.OkS.mono hO.out (by omega)), HS7⟩
                · have hk3 : (kd == 3) = false := by simp [h3]
                  clear h0 h1 h2 h3 f0 f1
                  have e2 : w4.cell? ⟨db, dof + i * 9 + 2, none⟩ = some (.int .i64 s') := HD.out _ HH4.out.st.bel 2 _ rfl
                  have e3 : w4.cell? ⟨db, dof + i * 9 + 3, none⟩ = some (.int .u32 g') := HD.out _ HH4.out.st.bel 3 _ rfl
                  have z0 := HD4.out.frozen 0
                  have z1 := HD4.out.frozen 1
                  have d0 := HD4.out.c0
                  have d1 := HD4.out.c1
                  have HH5 := Lib.hid (HH4.out.hset HD4.out HR.out HT4.out s' g')
                  have HD5 := Lib.hid (HD4.out.store s' g')
                  obtain ⟨w5, hw5⟩ : ∃ w5, (w4.setCell ⟨r, 0, none⟩ (.int .i64 s')).setCell ⟨r, 1, none⟩ (.int .u32 g') = w5 := ⟨_, rfl⟩
                  rw [hw5] at HH5 HD5
                  clear HH4 HD4 e0
                  go_wp2_with fail
                  have f0 : ∀ W, (HBlk W r s' g' ∧ Below w.heap.size w W) → W.cell? ⟨r, 0, none⟩ = some (.int .i64 s') := fun W h => h.1.c0
                  have f1 : ∀ W, (HBlk W r s' g' ∧ Below w.heap.size w W) → W.cell? ⟨r, 1, none⟩ = some (.int .u32 g') := fun W h => h.1.c1
                  have y4 : ∀ W, (HBlk W r s' g' ∧ Below w.heap.size w W) → W.cell? ⟨db, dof + i * 9 + 4, none⟩ = some (.int .u16 xq) := fun W h => HD.out W h.2 4 _ rfl
                  have y5 : ∀ W, (HBlk W r s' g' ∧ Below w.heap.size w W) → W.cell? ⟨db, dof + i * 9 + 5, none⟩ = some (.int .u32 xt) := fun W h => HD.out W h.2 5 _ rfl
                  have y6 : ∀ W, (HBlk W r s' g' ∧ Below w.heap.size w W) → W.cell? ⟨db, dof + i * 9 + 6, none⟩ = some (.int .u32 xr) := fun W h => HD.out W h.2 6 _ rfl
                  have y7 : ∀ W, (HBlk W r s' g' ∧ Below w.heap.size w W) → W.cell? ⟨db, dof + i * 9 + 7, none⟩ = some (.int .u16 xf) := fun W h => HD.out W h.2 7 _ rfl
                  refine region_seq (fun W => HBlk W r s' g' ∧ Below w.heap.size w W) [(0, false), (1, false), (2, false), (3, false), (4, false), (5, false), (6, false), (8, false), (9, false), (10, false), (11, false), (12, false), (13, false), (14, false), (7, true), (15, true), (16, false), (17, false)] (by kernel_rfl) (by kernel_rfl) rfl (by kernel_rfl) ?_
                  have hH : Bst w w5.drew b ba ga g p q z c cB m cA A L D L D T := HH5.out.more (Below.refl _ _).drew
                  have hS : HBlk w5.drew r s' g' ∧ Below w.heap.size w w5.drew := ⟨HD5.out, hH.st.bel⟩
                  obtain ⟨te, hte⟩ : ∃ e, patchE L D s' g' = e := ⟨_, rfl⟩
                  obtain ⟨D', hD'⟩ : ∃ e, patchD L D s' g' xq xt xr xf = e := ⟨_, rfl⟩
                  generalize w5.drew = wd at *
                  iterate 14 (refine seq_read (v := _) rfl (fun _ _ _ h => h) hS (Or.inl ⟨by rfl, fun W hW => by go_simp <;> with_reducible rfl⟩) ?_; simp only [Act.put, List.setIfInBounds_toArray, List.set_cons_zero, List.set_cons_succ])
                  refine seq_do rfl (fun K hK => ?_)
                  go_simp
                  refine (hH.patch (s := s') (gn := g') HLL.out hO.out HP.out).mono ?_
                  rw [hte, hD']
                  rintro e w6 ⟨rfl, h6, hu6⟩
                  have hS6 : HBlk w6 r s' g' ∧ Below w.heap.size w w6 := ⟨hH.hk hS.1 hu6, h6.st.bel⟩
                  clear hS hH
                  have hS := hS6
                  refine hK.out _ _ _ (fun W h => h) hS ?_
                  clear hK K hS6 hu6
                  refine seq_do rfl (fun K hK => ?_)
                  go_simp
                  refine (h6.rpatch (s := s') (gn := g') HLL.out hO.out HP.out).mono ?_
                  rw [hte, hD']
                  rintro e w7 ⟨rfl, h7, hu7⟩
                  have hS7 : HBlk w7 r s' g' ∧ Below w.heap.size w w7 := ⟨h6.hkr hS.1 hu7, h7.st.bel⟩
                  have HH7 := Lib.hid h7
                  have HS7 := Lib.hid hS7.1
                  clear hS
                  have hS := hS7
                  refine hK.out _ _ _ (fun W h => h) hS ?_
                  clear hK K h6 h7 hu7 hS7 hte hD'
                  iterate 2 (refine seq_read (v := _) rfl (fun _ _ _ h => h) hS (Or.inl ⟨by rfl, fun W hW => by go_simp <;> with_reducible rfl⟩) ?_; simp only [Act.put, List.setIfInBounds_toArray, List.set_cons_zero, List.set_cons_succ])
                  refine seq_end ?_
                  go_wp2_with fail
                  go_meet
                  case rel => exact ⟨m, cA, A, L, D', T, s', g', te, rfl, rfl, rfl, by omega, HH7, hNL, Lib.hid (Arn.OkS.mono hO.out (by omega)), HS7⟩
        case rest =>
          clear HH4 HD4 HT4 HA4 e0 hO hNL hmi HLL
          obtain ⟨m, cA, A, L, D, T, s, gn, te, rfl, rfl, rfl, hmi, hH, hNL, hO, hD⟩ := hcut
          have HLL := Lib.hid (show L.length ≤ 1024 from by rw [hNL.out]; exact hN2.1)
          have CB1 := Lib.hid (hH.out.bytes (s := s) (gn := gn) HLL.out hO.out)
          have CB2 := Lib.hid (fun W (h : Bst w W b ba ga g p q z c cB m cA A L D L D T) => h.rbytes (s := s) (gn := gn) HLL.out)
          obtain ⟨bs, hbs⟩ : ∃ bs, bytesV L D s gn = bs := ⟨_, rfl⟩
          obtain ⟨be, hbe⟩ : ∃ be, callE L s gn = be := ⟨_, rfl⟩
          rw [hbs, hbe] at CB1 CB2
          obtain ⟨nb, hnb⟩ : ∃ nb, bs.length = nb := ⟨_, rfl⟩
          have c0 := hD.out.c0
          have c1 := hD.out.c1
          clear hbs hbe
          go_wp2_with fail
          refine CB1.out.mono ?_
          rintro e w6 ⟨A6, c6, rfl, ho6, hb6⟩
          rw [hnb] at ho6 ⊢
          have HH6 := Lib.hid (hH.out.more hb6)
          have HD6 := Lib.hid (hD.out.bel hb6 hD.out.lt)
          have HO6 := Lib.hid ho6
          clear c0 c1 ho6 hb6 hH hD CB1
          have c0 := HD6.out.c0
          have c1 := HD6.out.c1
          go_wp2_with fail
          refine (CB2.out _ HH6.out).mono ?_
          rintro e w7 ⟨A7, c7, rfl, ho7, hb7⟩
          rw [hnb] at ho7 ⊢
          have hH := Lib.hid (HH6.out.more hb7)
          have hD := Lib.hid (HD6.out.bel hb7 HD6.out.lt)
          have HO6 := Lib.hid (HO6.out.below hb7 (Nat.le_refl _))
          have HO7 := Lib.hid ho7
          clear c0 c1 ho7 hb7 HH6 HD6 CB2
          have f0 : ∀ W, Below w7.heap.size w7 W → W.cell? ⟨r, 0, none⟩ = some (.int .i64 s) := fun W h => (hD.out.bel h hD.out.lt).c0
          have f1 : ∀ W, Below w7.heap.size w7 W → W.cell? ⟨r, 1, none⟩ = some (.int .u32 gn) := fun W h => (hD.out.bel h hD.out.lt).c1
          have fp : ∀ W, Below w7.heap.size w7 W → W.cell? ⟨p, 0, none⟩ = some (.slice (some ⟨q, 0, none⟩) N c) := fun W h => by have := (hH.out.more h).ref_st.blk.c0; rwa [hNL.out] at this
          have k1 : ∀ W, Below w7.heap.size w7 W → (convert 36 9 (.slice A6 nb c6)).run Try.prog W = .ok (.string (strOfNums bs)) W := fun W h => str_run (HO6.out.below h (Nat.le_refl _)).rd
          have k2 : ∀ W, Below w7.heap.size w7 W → (convert 36 9 (.slice A7 nb c7)).run Try.prog W = .ok (.string (strOfNums bs)) W := fun W h => str_run (HO7.out.below h (Nat.le_refl _)).rd
          have hS : Below w7.heap.size w7 w7.drew := (Below.refl _ _).drew
          have CF1 := Lib.hid (fun W (h : Below w7.heap.size w7 W) => refs_st W b ba ga g L D s gn (1 + (i + 1 : Nat)) (hH.out.more h).st.st HLL.out hO.out)
          have CF2 := Lib.hid (fun W (h : Below w7.heap.size w7 W) => Arn.rrefs_any W p q c _ L s gn (1 + (i + 1 : Nat)) (hH.out.more h).ref_st HLL.out hO.out (by omega))
          have CF3 := Lib.hid (fun W (h : Below w7.heap.size w7 W) => free_st W b ba ga g L D (hH.out.more h).st.st HLL.out)
          have CF4 := Lib.hid (fun W (h : Below w7.heap.size w7 W) => Arn.rfree_any W p q c _ L (hH.out.more h).ref_st HLL.out)
          have CF5 := Lib.hid (fun W (h : Below w7.heap.size w7 W) => slots_st W b ba ga g L D (hH.out.more h).st.st HLL.out)
          have HST := Lib.hid (fun W (h : Below w7.heap.size w7 W) => (hH.out.more h).ref_st.row.rd)
          obtain ⟨rv, hrv⟩ : ∃ v, refsV L s gn = v := ⟨_, rfl⟩
          obtain ⟨fv, hfv⟩ : ∃ v, freeN L = v := ⟨_, rfl⟩
          obtain ⟨sb, hsb⟩ : ∃ v, strOfNums bs = v := ⟨_, rfl⟩
          have qs : (!(sb.toList == sb.toList)) = false := by simp
          rw [hrv] at CF1 CF2
          rw [hfv] at CF3 CF4
          rw [hsb] at k1 k2
          clear hrv hfv hsb HO6 HO7 hnb
          go_wp2_with fail
          refine region_seq (Below w7.heap.size w7) [(0, false), (1, false), (2, false), (3, false), (4, false), (5, false), (6, false), (7, false), (8, false), (9, false), (10, false), (11, false), (12, false), (13, false), (14, false), (15, false), (16, false), (17, false), (19, false), (20, false), (18, true), (21, true), (22, false), (23, false), (24, false), (25, false), (27, false), (26, true), (28, true), (29, false), (30, false), (31, false), (32, false), (34, false), (35, false), (36, false), (37, false), (33, true), (38, true), (39, false), (40, false)] (by kernel_rfl) (by kernel_rfl) rfl (by kernel_rfl) ?_
          generalize w7.drew = wd at *
          iterate 20 (refine seq_read (v := _) rfl (fun _ _ _ h => h) hS (Or.inl ⟨by rfl, fun W hW => by go_simp <;> with_reducible rfl⟩) ?_; simp only [Act.put, List.setIfInBounds_toArray, List.set_cons_zero, List.set_cons_succ])
          refine seq_do rfl (fun K hK => ?_)
          go_simp
          refine (CF1.out _ hS).mono ?_
          rintro e W' ⟨rfl, hb⟩
          have hS := hS.trans (hb.mono hS.size)
          refine hK.out _ _ _ (fun W h => h) hS ?_
          clear hK K
          refine seq_do rfl (fun K hK => ?_)
          go_simp
          refine (CF2.out _ hS).mono ?_
          rintro e W' ⟨rfl, hb⟩
          have hS := hS.trans (hb.mono hS.size)
          refine hK.out _ _ _ (fun W h => h) hS ?_
          clear hK K
          iterate 5 (refine seq_read (v := _) rfl (fun _ _ _ h => h) hS (Or.inl ⟨by rfl, fun W hW => by go_simp <;> with_reducible rfl⟩) ?_; simp only [Act.put, List.setIfInBounds_toArray, List.set_cons_zero, List.set_cons_succ])
          refine seq_do rfl (fun K hK => ?_)
          go_simp
          refine (CF3.out _ hS).mono ?_
          rintro e W' ⟨rfl, hb⟩
          have hS := hS.trans (hb.mono hS.size)
          refine hK.out _ _ _ (fun W h => h) hS ?_
          clear hK K
          refine seq_do rfl (fun K hK => ?_)
          go_simp
          refine (CF4.out _ hS).mono ?_
          rintro e W' ⟨rfl, hb⟩
          have hS := hS.trans (hb.mono hS.size)
          refine hK.out _ _ _ (fun W h => h) hS ?_
          clear hK K
          iterate 8 (refine seq_read (v := _) rfl (fun _ _ _ h => h) hS (Or.inl ⟨by rfl, fun W hW => by go_simp <;> with_reducible rfl⟩) ?_; simp only [Act.put, List.setIfInBounds_toArray, List.set_cons_zero, List.set_cons_succ])
          refine seq_do rfl (fun K hK => ?_)
          go_simp
          refine (CF5.out _ hS).mono ?_
          rintro e W' ⟨A2, c2, rfl, ho, hb⟩
          rw [hNL.out] at ho ⊢
          have hS := hS.trans (hb.mono hS.size)
          refine hK.out _ _ _ (fun W h => h) hS ?_
          clear hK K
          refine seq_do rfl (fun K hK => ?_)
          go_simp
          have hst := HST.out _ hS
          rw [hNL.out] at hst
          refine (Arn.same_any W' A2 _ N c2 c _ _ L ho.rd hst hN2.1).mono ?_
          rintro e W2 ⟨rfl, hb⟩
          have hS := hS.trans (hb.mono hS.size)
          refine hK.out _ _ _ (fun W h => h) hS ?_
          clear hK K
          iterate 2 (refine seq_read (v := _) rfl (fun _ _ _ h => h) hS (Or.inl ⟨by rfl, fun W hW => by go_simp <;> with_reducible rfl⟩) ?_; simp only [Act.put, List.setIfInBounds_toArray, List.set_cons_zero, List.set_cons_succ])
          refine seq_end ?_
          have HH9 := Lib.hid (hH.out.more hS)
          clear hst ho hS f0 f1 fp k1 k2
          go_wp2_with fail
          go_roundw
          case rel => exact ⟨i + 1, m, cA, A, L, D, T, by omega, by omega, hmi, by go_num, rfl, HH9, hNL, hO⟩
          case measure => simp [intOf]; omega
      · have hd1 : decide (i < len) = true := by simp; exact hlt
        have hd2 : decide ((i : Int) < 40) = false := by simp; omega
        have HB3 := Lib.hid hH.out.st.bel
        clear hH
        go_wp2_with fail
        go_ret
        exact ⟨rfl, HB3.out⟩
    · have hd1 : decide (i < len) = false := by simp; omega
      have HB3 := Lib.hid hH.out.st.bel
      clear hH
      go_wp2_with fail
      go_ret
      exact ⟨rfl, HB3.out⟩
end Go.Proofs.Ytdnnfoacpjgloaa.Stv
