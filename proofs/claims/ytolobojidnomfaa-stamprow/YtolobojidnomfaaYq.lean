/- StampRow walked. -/
import Derived.Test.YtolobojidnomfaaYr
import Derived.Deep.CutBlock
import Derived.Deep.Cut
import Derived.Deep.DeepCutAuto
import Derived.Deep.CutRange
set_option maxRecDepth 100000
namespace Go.Proofs.Ytolobojidnomfaa.Stp
open Go.RowKit Go.Proofs.Ytolobojidnomfaa.Gat Go.Proofs.Ytolobojidnomfaa.Crs Go.Proofs.Ytolobojidnomfaa.Clk Go.Proofs.Ytolobojidnomfaa.Rtp
set_option linter.unusedVariables false

set_option maxHeartbeats 16000000 in
theorem row_any (w : World) (pe so want : Int) (ad : Option Addr) (m cap : Nat) (xs : List Stact) (hok : ∀ x ∈ xs, StactOk x) (hr : RowRd stactL w w.heap.size ad m xs) :
    Calls Try.prog 6 #[.int .i64 pe, .int .i64 so, .int .i64 want, .slice ad m cap] w fun e w' => e = .returned (.bool true) ∧ Below w.heap.size w w' := by
  have CS := Lib.hid (fun W => shown_any W)
  have CN := Lib.hid (fun W => new_any W pe so want)
  have HR := Lib.hid hr
  have HO := Lib.hid hok
  obtain ⟨x0, hx0⟩ : ∃ x, newT pe so want = x := ⟨_, rfl⟩
  have HI : Hid (Inv x0 0 0 65535 0 0) := Lib.hid (by rw [← hx0]; exact Inv.start pe so want)
  rw [hx0] at CN
  have HB := Lib.hid (Below.refl w.heap.size w)
  clear hr hok hx0
  go_enter Try.func6, Try.ntmps6
  go_wp2_with fail
  refine (CS.out _).mono ?_
  rintro e w1 ⟨rfl, hb⟩
  replace HB := Lib.hid (HB.out.trans (hb.mono HB.out.size))
  clear hb CS 
  go_wp2_with fail
  refine (CN.out _).mono ?_
  rintro e w2 ⟨rfl, hb⟩
  replace HB := Lib.hid (HB.out.trans (hb.mono HB.out.size))
  clear hb CN 
  have LB := Lib.hid HB.out.size
  go_upto_region 4 with fail
  have hx := (Below.refl w2.heap.size w2).alloc (Nat.le_refl _) (trkO x0)
  replace HB := Lib.hid (HB.out.trans (hx.mono HB.out.size))
  have TB := Lib.hid (TBlk.new w2 x0)
  obtain ⟨bt, hbt⟩ : ∃ b, w2.heap.size = b := ⟨_, rfl⟩
  rw [hbt] at TB LB
  rw [hbt]
  clear hbt hx
  obtain ⟨w3, hw3⟩ : ∃ w3, w2.alloc (trkO x0) = w3 := ⟨_, rfl⟩
  rw [hw3] at TB
  rw [hw3] at HB
  rw [hw3]
  clear hw3
  have HC : Hid (Crr w w3 bt x0) := Lib.hid ⟨TB.out, HB.out, LB.out⟩
  clear TB HB LB
  go_wp2_with fail
  go_loopw [10, 11, 12, 13, 14, 15] (fun s10 s11 s12 s13 s14 s15 wx => ∃ (i : Nat) (n oc fr li lo : Int) (x : TV), i ≤ m ∧ i ≤ 150 ∧ s10 = .int .u32 n ∧ s11 = .int .u32 oc ∧ s12 = .int .u16 fr ∧ s13 = .int .u32 li ∧ s14 = .int .u32 lo ∧ s15 = .int .i64 i ∧ Hid (Crr w wx bt x ∧ Inv x n oc fr li lo ∧ (0 ≤ n ∧ n ≤ i) ∧ (0 ≤ lo ∧ lo ≤ 4294967295) ∧ (0 ≤ li ∧ li ≤ 4294967295))) (fun _ _ _ _ _ s15 _ => m - (intOf s15).toNat)
  case atStart => exact ⟨0, 0, 0, 65535, 0, 0, x0, by omega, by omega, rfl, rfl, rfl, rfl, rfl, rfl, Lib.hid ⟨HC.out, HI.out, by omega, by omega, by omega⟩⟩
  case round =>
    obtain ⟨k, n, oc, fr, li, lo, x, hkm, hk1, rfl, rfl, rfl, rfl, rfl, rfl, hz⟩ := hrel
    rename World => wx
    clear HC HI
    by_cases h1 : k < m
    · have hd1 : decide (k < m) = true := by simp; exact h1
      by_cases h2 : k < 150
      · have hd2 : decide ((k : Int) < 150) = true := by simp; omega
        obtain ⟨tb, toff, a, rfl, htb, hxa, t0, t1, t2, t3, t4, t5, t6⟩ := stact_at HR.out h1
        have HA := Lib.hid (HO.out a (List.mem_of_getElem? hxa))
        obtain ⟨kd, l, on, q, tm, st, by_⟩ := a
        simp only at t0 t1 t2 t3 t4 t5 t6
        have b0 := (hz.out.1.bel.cell (p := ⟨tb, toff + k * 7, none⟩) htb).trans t0
        have b1 := (hz.out.1.bel.cell (p := ⟨tb, toff + k * 7 + 1, none⟩) htb).trans t1
        have b2 := (hz.out.1.bel.cell (p := ⟨tb, toff + k * 7 + 2, none⟩) htb).trans t2
        have b3 := (hz.out.1.bel.cell (p := ⟨tb, toff + k * 7 + 3, none⟩) htb).trans t3
        have b4 := (hz.out.1.bel.cell (p := ⟨tb, toff + k * 7 + 4, none⟩) htb).trans t4
        have b5 := (hz.out.1.bel.cell (p := ⟨tb, toff + k * 7 + 5, none⟩) htb).trans t5
        have b6 := (hz.out.1.bel.cell (p := ⟨tb, toff + k * 7 + 6, none⟩) htb).trans t6
        clear t0 t1 t2 t3 t4 t5 t6 hxa htb
        go_upto_region 11 with fail
        have R := Lib.hid (hz.out.1.round ⟨kd, l, on, q, tm, st, by_⟩)
        have HZ := Lib.hid hz.out.2
        clear b0 b1 b2 b3 b4 b5 b6 hz
        obtain ⟨ba, hba⟩ : ∃ b, wx.heap.size = b := ⟨_, rfl⟩
        rw [hba] at R
        rw [hba]
        clear hba
        obtain ⟨wa, hwa⟩ : ∃ wa, wx.alloc (actO ⟨kd, l, on, q, tm, st, by_⟩) = wa := ⟨_, rfl⟩
        rw [hwa] at R
        rw [hwa]
        clear hwa
        have a0 := R.out.a.c0
        have a1 := R.out.a.c1
        have a2 := R.out.a.c2
        by_cases h3 : kd = 0
        · subst h3
          by_cases h4 : l < 0
          · have hd4 : decide (l < 0) = true := by simpa using h4
            go_upto_region 9 with fail
            clear a0 a1 a2
            go_wp2
            go_roundw
            case rel => exact ⟨k + 1, n, oc, fr, li, lo, x, by omega, by omega, rfl, rfl, rfl, rfl, rfl, by go_num, Lib.hid ⟨R.out.crr, HZ.out.1, by have := HZ.out.2.1; omega, HZ.out.2.2.1, HZ.out.2.2.2⟩⟩
            case measure => simp [intOf]; omega
          · have hd4 : decide (l < 0) = false := by simp; omega
            obtain ⟨m0, hm0⟩ : ∃ m, (if by_ < 0 then 0 else by_) = m := ⟨_, rfl⟩
            obtain ⟨N, hsz, hN⟩ : ∃ N : Nat, (if 300 < m0 then 300 else m0) = (N : Int) ∧ N ≤ 300 := by
              have h0 : 0 ≤ m0 := by rw [← hm0]; split <;> omega
              refine ⟨(if 300 < m0 then 300 else m0).toNat, ?_, ?_⟩
              · rw [Int.toNat_of_nonneg (by split <;> omega)]
              · split <;> omega
            have a6 := R.out.a.c6
            go_upto_region 20 with fail
            clear hm0 hsz a6 a0 a1 a2 hd4
            obtain ⟨y, r, v, hy⟩ : ∃ y r v, mda x q tm N (l, on, st, 0) = (y, r, v) := ⟨_, _, _, rfl⟩
            have HY := Lib.hid hy
            have HN := Lib.hid (And.intro hN (show 0 ≤ l by omega))
            clear hy hN h4
            go_cut [18, 19, 20, 80] from 81 to 99 (fun s18 s19 s20 s80 wc => ∃ b1 b2, s18 = .pointer (some ⟨b1, 0, none⟩) ∧ s19 = .pointer (some ⟨b2, 0, none⟩) ∧ s20 = .int .i64 v ∧ Hid (TBlk wc b1 y ∧ QBlk wc b2 r ∧ Below wa.heap.size wa wc))
            case first =>
              refine taken_any (w := w) _ rfl (fun _ _ _ _ _ h => h) R.out HN.out.1 HY.out ?_
              intro y80 y81 y82 y83 y84 y85 y86 y87 y88 y89 y90 y91 y92 y93 y94 y95 y96 y97 y98 y99 c1 c2 wc hF
              go_wp2_with fail
              go_meet
              case rel => exact ⟨c1, c2, rfl, rfl, rfl, Lib.hid hF⟩
            case rest =>
              obtain ⟨b1, b2, rfl, rfl, rfl, hc⟩ := hcut
              rename World => wc
              have TU := Lib.hid hc.out.1
              have QP := Lib.hid hc.out.2.1
              replace R := Lib.hid (R.out.more hc.out.2.2)
              clear hc
              by_cases hv : v = 1 ∨ v = 2
              · have SS := Lib.hid (mda_yes HZ.out.1 HY.out hv HN.out.2 ⟨HZ.out.2.1.1, by have := HZ.out.2.1; omega⟩ HZ.out.2.2.1 HZ.out.2.2.2 HA.out.time)
                have HV := Lib.hid hv
                go_upto_region 21 with fail
                go_cut [105] from 100 to 104 (fun s105 wd => s105 = .bool false ∧ wc = wd)
                case first =>
                  clear HV SS HY HZ
                  rcases hv with rfl | rfl
                  · go_wp2_with fail
                    go_meet
                    case rel => exact ⟨rfl, rfl⟩
                  · go_wp2_with fail
                    go_meet
                    case rel => exact ⟨rfl, rfl⟩
                case rest =>
                  obtain ⟨rfl, rfl⟩ := hcut
                  clear hv HY
                  obtain ⟨f1, hf1⟩ : ∃ f, frN fr st = f := ⟨_, rfl⟩
                  have HF := Lib.hid hf1
                  clear hf1
                  have a5 := R.out.a.c5
                  go_upto_if 115 with fail
                  go_cut [12] from 116 to 117 (fun s12 wd => s12 = .int .u16 f1 ∧ wc = wd)
                  case first =>
                    cases st with
                    | true =>
                      have q12 : IntKind.u16.wrap (fr + 1) = f1 := by rw [wr16, ← HF.out]; rfl
                      have q13 : (fr + 1) % 65536 = f1 := by rw [← HF.out]; rfl
                      go_wp2_with fail
                      go_meet
                      case rel => exact ⟨rfl, rfl⟩
                    | false =>
                      go_wp2_with fail
                      go_meet
                      case rel => exact ⟨by rw [← HF.out]; rfl, rfl⟩
                  case rest =>
                    obtain ⟨rfl, rfl⟩ := hcut
                    clear a5
                    obtain ⟨T, hT⟩ : ∃ T, tmN n lo li tm v = T := ⟨_, rfl⟩
                    have HT := Lib.hid hT
                    clear hT
                    obtain ⟨t1, ht1⟩ : ∃ t, (lo + tm) % 4294967296 = t := ⟨_, rfl⟩
                    obtain ⟨t2, ht2⟩ : ∃ t, (t1 - li) % 4294967296 = t := ⟨_, rfl⟩
                    have HT2 : Hid ((lo + tm - li) % 4294967296 = t2) := Lib.hid (by rw [← ht2, ← ht1]; omega)
                    have a4 := R.out.a.c4
                    have p1 : IntKind.u32.wrap (lo + tm) = t1 := by rw [wr32]; exact ht1
                    have p2 : IntKind.u32.wrap (t1 - li) = t2 := by rw [wr32]; exact ht2
                    go_upto_if 125 with fail
                    clear a4 p1 p2 ht1 ht2
                    go_cut [21] from 126 to 144 (fun s21 wd => s21 = .int .u32 T ∧ wc = wd)
                    case first =>
                      rcases HV.out with rfl | rfl
                      · have a3 := R.out.a.c3
                        have c5 := R.out.t.c5
                        have hh := SS.out.one rfl
                        obtain rfl : T = t2 := by rw [← HT.out, ← HT2.out]; rfl
                        go_wp2_with (go_at_call 22; refine (ahead16_any _ _ _).mono ?_; rintro e w' ⟨rfl, rfl⟩)
                        go_meet
                        case rel => exact ⟨rfl, rfl⟩
                      · obtain ⟨rfl, rfl⟩ := SS.out.two rfl
                        have a2 := R.out.a.c2
                        have a5 := R.out.a.c5
                        by_cases h0 : n = 0
                        · subst h0
                          have hTT : T = 0 := by rw [← HT.out]; rfl
                          go_wp2_with fail
                          go_meet
                          case rel => exact ⟨by rw [hTT], rfl⟩
                        · have q0 : (n == 0) = false := by simpa using h0
                          have hTT : (lo + 3000) % 4294967296 = T := by rw [← HT.out]; unfold tmN; rw [if_pos rfl, if_neg h0]
                          have p3 : IntKind.u32.wrap (lo + 3000) = T := by rw [wr32]; exact hTT
                          go_wp2_with fail
                          go_meet
                          case rel => exact ⟨rfl, rfl⟩
                    case rest =>
                      obtain ⟨rfl, rfl⟩ := hcut
                      clear HT2 HV
                      have hr := SS.out.r
                      rw [HF.out, HT.out] at hr
                      subst hr
                      have hI := SS.out.inv
                      rw [HF.out, HT.out] at hI
                      have HTB := Lib.hid (tmN_bd (n := n) (lo := lo) (li := li) (tm := tm) (v := v))
                      rw [HT.out] at HTB
                      obtain ⟨n1, hn1⟩ : ∃ z, n + 1 = z := ⟨_, rfl⟩
                      obtain ⟨o1, ho1⟩ : ∃ z, (oc + (N : Int)) % 4294967296 = z := ⟨_, rfl⟩
                      rw [hn1, ho1] at hI
                      have HI := Lib.hid hI
                      have HQ := Lib.hid SS.out.quiet
                      have HN1 := Lib.hid hn1
                      have hk0 := HZ.out.2.1
                      have p4 : IntKind.u16.wrap n = n := by rw [wr16]; omega
                      have p5 : IntKind.u32.wrap (n + 1) = n1 := by rw [wr32]; omega
                      have p6 : IntKind.u32.wrap (N : Int) = N := by rw [wr32]; have := HN.out.1; omega
                      have p7 : IntKind.u32.wrap (oc + (N : Int)) = o1 := by rw [wr32]; exact ho1
                      clear hI hn1 ho1 SS HF HT
                      have C6 := Lib.hid (fun W => Gat.quiet_any W x.g)
                      rw [HQ.out] at C6
                      have d0 := QP.out.c0
                      have d1 := QP.out.c1
                      have d2 := QP.out.c2
                      have d3 := QP.out.c3
                      have c11 := R.out.t.c11
                      have c0 := R.out.t.c0
                      have c1 := R.out.t.c1
                      have c2 := R.out.t.c2
                      have c3 := R.out.t.c3
                      go_wp2_with fail
                      refine (C6.out _).mono ?_
                      rintro e w6 ⟨rfl, hb⟩
                      replace R := Lib.hid (R.out.more hb)
                      replace TU := Lib.hid (TU.out.bel hb TU.out.lt)
                      replace QP := Lib.hid (QP.out.bel hb QP.out.lt)
                      clear hb C6 d0 d1 d2 d3 c11 p4 c0 c1 c2 c3
                      have a4 := R.out.a.c4
                      have d1 := QP.out.c1
                      go_upto_region 39 with fail
                      clear p5 p6 p7 a4 d1
                      have g4 : ∀ W, Below w6.heap.size w6 W → W.cell? ⟨ba, 4, none⟩ = some (.int .u32 tm) := fun W hW => (R.out.more hW).a.c4
                      have g1 : ∀ W, Below w6.heap.size w6 W → W.cell? ⟨b2, 1, none⟩ = some (.int .u32 T) := fun W hW => (QP.out.bel hW QP.out.lt).c1
                      have hS : Below w6.heap.size w6 w6.drew := (Below.refl _ _).drew
                      have R7 := Lib.hid (R.out.more hS)
                      have T7 := Lib.hid (TU.out.bel hS TU.out.lt)
                      refine region_seq (Below w6.heap.size w6) [(0, false), (1, false), (2, false), (3, false), (4, false), (5, false)] (by kernel_rfl) (by kernel_rfl) rfl (by kernel_rfl) ?_
                      obtain ⟨w7, hw7⟩ : ∃ w7, w6.drew = w7 := ⟨_, rfl⟩
                      rw [hw7] at hS
                      rw [hw7] at R7
                      rw [hw7] at T7
                      rw [hw7]
                      clear hw7
                      iterate 6 (refine seq_read (v := _) rfl (fun _ _ _ h => h) hS (Or.inl ⟨by rfl, fun W hW => by go_simp <;> with_reducible rfl⟩) ?_; simp only [Act.put, List.setIfInBounds_toArray, List.set_cons_zero, List.set_cons_succ])
                      refine seq_end ?_
                      clear g4 g1 hS R TU QP
                      have c0 := R7.out.t.c0
                      have c1 := R7.out.t.c1
                      have c2 := R7.out.t.c2
                      have c3 := R7.out.t.c3
                      have c4 := R7.out.t.c4
                      have c5 := R7.out.t.c5
                      have c6 := R7.out.t.c6
                      have c7 := R7.out.t.c7
                      have c8 := R7.out.t.c8
                      have c9 := R7.out.t.c9
                      have c10 := R7.out.t.c10
                      have c11 := R7.out.t.c11
                      have c12 := R7.out.t.c12
                      have c13 := R7.out.t.c13
                      have c14 := R7.out.t.c14
                      have e0 := R7.out.t.frozen 0
                      have e1 := R7.out.t.frozen 1
                      have e2 := R7.out.t.frozen 2
                      have e3 := R7.out.t.frozen 3
                      have e4 := R7.out.t.frozen 4
                      have e5 := R7.out.t.frozen 5
                      have e6 := R7.out.t.frozen 6
                      have e7 := R7.out.t.frozen 7
                      have e8 := R7.out.t.frozen 8
                      have e9 := R7.out.t.frozen 9
                      have e10 := R7.out.t.frozen 10
                      have e11 := R7.out.t.frozen 11
                      have e12 := R7.out.t.frozen 12
                      have e13 := R7.out.t.frozen 13
                      have e14 := R7.out.t.frozen 14
                      have d0 := T7.out.c0
                      have d1 := T7.out.c1
                      have d2 := T7.out.c2
                      have d3 := T7.out.c3
                      have d4 := T7.out.c4
                      have d5 := T7.out.c5
                      have d6 := T7.out.c6
                      have d7 := T7.out.c7
                      have d8 := T7.out.c8
                      have d9 := T7.out.c9
                      have d10 := T7.out.c10
                      have d11 := T7.out.c11
                      have d12 := T7.out.c12
                      have d13 := T7.out.c13
                      have d14 := T7.out.c14
                      go_upto_region 41 with fail
                      have R8 := Lib.hid (R7.out.put y)
                      dsimp only [putT] at R8
                      clear R7 T7 c0 c1 c2 c3 c4 c5 c6 c7 c8 c9 c10 c11 c12 c13 c14 e0 e1 e2 e3 e4 e5 e6 e7 e8 e9 e10 e11 e12 e13 e14 d0 d1 d2 d3 d4 d5 d6 d7 d8 d9 d10 d11 d12 d13 d14
                      obtain ⟨w8, hw8⟩ : ∃ w8, ((((((((((((((w7.setCell ⟨bt, 0, none⟩ (.int .i64 y.g.1)).setCell ⟨bt, 1, none⟩ (.int .i64 y.g.2.1)).setCell ⟨bt, 2, none⟩ (.bool y.g.2.2.1)).setCell ⟨bt, 3, none⟩ (.bool y.g.2.2.2)).setCell ⟨bt, 4, none⟩ (.bool y.c.1)).setCell ⟨bt, 5, none⟩ (.int .u16 y.c.2.1)).setCell ⟨bt, 6, none⟩ (.int .u16 y.c.2.2.1)).setCell ⟨bt, 7, none⟩ (.int .u16 y.c.2.2.2)).setCell ⟨bt, 8, none⟩ (.bool y.k.1)).setCell ⟨bt, 9, none⟩ (.int .u32 y.k.2.1)).setCell ⟨bt, 10, none⟩ (.int .u32 y.k.2.2)).setCell ⟨bt, 11, none⟩ (.int .u32 y.out)).setCell ⟨bt, 12, none⟩ (.int .u16 y.fr)).setCell ⟨bt, 13, none⟩ (.int .u32 y.sn)).setCell ⟨bt, 14, none⟩ (.int .u32 y.oc) = w8 := ⟨_, rfl⟩
                      rw [hw8] at R8
                      rw [hw8]
                      clear hw8
                      have c13 := R8.out.t.c13
                      have c14 := R8.out.t.c14
                      rw [HI.out.sn] at c13
                      rw [HI.out.oc] at c14
                      go_upto_region 9 with fail
                      clear c13 c14
                      go_wp2
                      go_roundw
                      case rel => exact ⟨k + 1, n1, o1, f1, tm, T, y, by omega, by omega, rfl, rfl, rfl, rfl, rfl, by go_num, Lib.hid ⟨R8.out.crr, HI.out, by have := HZ.out.2.1; have := HN1.out; omega, HTB.out, HA.out.time⟩⟩
                      case measure => simp [intOf]; omega
              · have e1 : v ≠ 1 := fun h => hv (.inl h)
                have e2 : v ≠ 2 := fun h => hv (.inr h)
                have q1 : (v != 1) = true := by simpa using e1
                have q2 : (v != 2) = true := by simpa using e2
                obtain ⟨rfl, rfl⟩ := mda_not HY.out e1 e2
                clear hv e1 e2 HY
                as_aux_lemma =>
                  have KT := tne_same x
                  have KP := pne_same pc0
                  have c0 := R.out.t.c0
                  have c1 := R.out.t.c1
                  have c2 := R.out.t.c2
                  have c3 := R.out.t.c3
                  have c4 := R.out.t.c4
                  have c5 := R.out.t.c5
                  have c6 := R.out.t.c6
                  have c7 := R.out.t.c7
                  have c8 := R.out.t.c8
                  have c9 := R.out.t.c9
                  have c10 := R.out.t.c10
                  have c11 := R.out.t.c11
                  have c12 := R.out.t.c12
                  have c13 := R.out.t.c13
                  have c14 := R.out.t.c14
                  have d0 := TU.out.c0
                  have d1 := TU.out.c1
                  have d2 := TU.out.c2
                  have d3 := TU.out.c3
                  have d4 := TU.out.c4
                  have d5 := TU.out.c5
                  have d6 := TU.out.c6
                  have d7 := TU.out.c7
                  have d8 := TU.out.c8
                  have d9 := TU.out.c9
                  have d10 := TU.out.c10
                  have d11 := TU.out.c11
                  have d12 := TU.out.c12
                  have d13 := TU.out.c13
                  have d14 := TU.out.c14
                  have g0 := QP.out.c0
                  have g1 := QP.out.c1
                  have g2 := QP.out.c2
                  have g3 := QP.out.c3
                  go_upto_region 9 with fail
                  clear c0 c1 c2 c3 c4 c5 c6 c7 c8 c9 c10 c11 c12 c13 c14 d0 d1 d2 d3 d4 d5 d6 d7 d8 d9 d10 d11 d12 d13 d14 g0 g1 g2 g3 q1 q2 KT KP
                  go_wp2
                  go_roundw
                  case rel => exact ⟨k + 1, n, oc, fr, li, lo, x, by omega, by omega, rfl, rfl, rfl, rfl, rfl, by go_num, Lib.hid ⟨R.out.crr, HZ.out.1, by have := HZ.out.2.1; omega, HZ.out.2.2.1, HZ.out.2.2.2⟩⟩
                  case measure => simp [intOf]; omega
        · have q0 : (kd == 0) = false := by simpa using h3
          by_cases h4 : kd = 1
          · as_aux_lemma =>
              subst h4
              have C1 := Lib.hid (fun W => Gat.pause_any W x.g on)
              obtain ⟨g, hg⟩ : ∃ g, pse x.g on = g := ⟨_, rfl⟩
              have HG : Hid (0 ≤ g.2.1 → 0 ≤ x.g.2.1) := Lib.hid (by rw [← hg]; unfold pse; cases on <;> simp)
              rw [hg] at C1
              clear hg
              have c0 := R.out.t.c0
              have c1 := R.out.t.c1
              have c2 := R.out.t.c2
              have c3 := R.out.t.c3
              go_wp2_with fail
              refine (C1.out _).mono ?_
              rintro e w5 ⟨rfl, hb⟩
              replace R := Lib.hid (R.out.more hb)
              clear hb C1 c0 c1 c2 c3 a0 a1 a2
              have c0 := R.out.t.c0
              have c1 := R.out.t.c1
              have c2 := R.out.t.c2
              have c3 := R.out.t.c3
              have e0 := R.out.t.frozen 0
              have e1 := R.out.t.frozen 1
              have e2 := R.out.t.frozen 2
              have e3 := R.out.t.frozen 3
              go_upto_region 9 with fail
              have R6 := Lib.hid (R.out.setG g)
              dsimp only [putG] at R6
              clear R c0 c1 c2 c3 e0 e1 e2 e3
              obtain ⟨w6, hw6⟩ : ∃ w6, (((w5.setCell ⟨bt, 0, none⟩ (.int .i64 g.1)).setCell ⟨bt, 1, none⟩ (.int .i64 g.2.1)).setCell ⟨bt, 2, none⟩ (.bool g.2.2.1)).setCell ⟨bt, 3, none⟩ (.bool g.2.2.2) = w6 := ⟨_, rfl⟩
              rw [hw6] at R6
              rw [hw6]
              clear hw6
              go_wp2
              go_roundw
              case rel => exact ⟨k + 1, n, oc, fr, li, lo, _, by omega, by omega, rfl, rfl, rfl, rfl, rfl, by go_num, Lib.hid ⟨R6.out.crr, HZ.out.1.gate g HG.out, by have := HZ.out.2.1; omega, HZ.out.2.2.1, HZ.out.2.2.2⟩⟩
              case measure => simp [intOf]; omega
          · have q1 : (kd == 1) = false := by simpa using h4
            by_cases h5 : kd = 2
            · as_aux_lemma =>
                subst h5
                have C1 := Lib.hid (fun W => Gat.mute_any W x.g on)
                obtain ⟨g, hg⟩ : ∃ g, mte x.g on = g := ⟨_, rfl⟩
                have HG : Hid (0 ≤ g.2.1 → 0 ≤ x.g.2.1) := Lib.hid (by rw [← hg]; unfold mte; cases on <;> simp)
                rw [hg] at C1
                clear hg
                have c0 := R.out.t.c0
                have c1 := R.out.t.c1
                have c2 := R.out.t.c2
                have c3 := R.out.t.c3
                go_wp2_with fail
                refine (C1.out _).mono ?_
                rintro e w5 ⟨rfl, hb⟩
                replace R := Lib.hid (R.out.more hb)
                clear hb C1 c0 c1 c2 c3 a0 a1 a2
                have c0 := R.out.t.c0
                have c1 := R.out.t.c1
                have c2 := R.out.t.c2
                have c3 := R.out.t.c3
                have e0 := R.out.t.frozen 0
                have e1 := R.out.t.frozen 1
                have e2 := R.out.t.frozen 2
                have e3 := R.out.t.frozen 3
                go_upto_region 9 with fail
                have R6 := Lib.hid (R.out.setG g)
                dsimp only [putG] at R6
                clear R c0 c1 c2 c3 e0 e1 e2 e3
                obtain ⟨w6, hw6⟩ : ∃ w6, (((w5.setCell ⟨bt, 0, none⟩ (.int .i64 g.1)).setCell ⟨bt, 1, none⟩ (.int .i64 g.2.1)).setCell ⟨bt, 2, none⟩ (.bool g.2.2.1)).setCell ⟨bt, 3, none⟩ (.bool g.2.2.2) = w6 := ⟨_, rfl⟩
                rw [hw6] at R6
                rw [hw6]
                clear hw6
                go_wp2
                go_roundw
                case rel => exact ⟨k + 1, n, oc, fr, li, lo, _, by omega, by omega, rfl, rfl, rfl, rfl, rfl, by go_num, Lib.hid ⟨R6.out.crr, HZ.out.1.gate g HG.out, by have := HZ.out.2.1; omega, HZ.out.2.2.1, HZ.out.2.2.2⟩⟩
                case measure => simp [intOf]; omega
            · have q2 : (kd == 2) = false := by simpa using h5
              as_aux_lemma =>
                have C1 := Lib.hid (fun W => Gat.want_any W x.g l)
                obtain ⟨g, hg⟩ : ∃ g, wnt x.g l = g := ⟨_, rfl⟩
                have HG : Hid (0 ≤ g.2.1 → 0 ≤ x.g.2.1) := Lib.hid (by rw [← hg]; unfold wnt; simp)
                rw [hg] at C1
                clear hg
                have c0 := R.out.t.c0
                have c1 := R.out.t.c1
                have c2 := R.out.t.c2
                have c3 := R.out.t.c3
                go_wp2_with fail
                refine (C1.out _).mono ?_
                rintro e w5 ⟨rfl, hb⟩
                replace R := Lib.hid (R.out.more hb)
                clear hb C1 c0 c1 c2 c3 a0 a1 a2
                have c0 := R.out.t.c0
                have c1 := R.out.t.c1
                have c2 := R.out.t.c2
                have c3 := R.out.t.c3
                have e0 := R.out.t.frozen 0
                have e1 := R.out.t.frozen 1
                have e2 := R.out.t.frozen 2
                have e3 := R.out.t.frozen 3
                go_upto_region 9 with fail
                have R6 := Lib.hid (R.out.setG g)
                dsimp only [putG] at R6
                clear R c0 c1 c2 c3 e0 e1 e2 e3
                obtain ⟨w6, hw6⟩ : ∃ w6, (((w5.setCell ⟨bt, 0, none⟩ (.int .i64 g.1)).setCell ⟨bt, 1, none⟩ (.int .i64 g.2.1)).setCell ⟨bt, 2, none⟩ (.bool g.2.2.1)).setCell ⟨bt, 3, none⟩ (.bool g.2.2.2) = w6 := ⟨_, rfl⟩
                rw [hw6] at R6
                rw [hw6]
                clear hw6
                go_wp2
                go_roundw
                case rel => exact ⟨k + 1, n, oc, fr, li, lo, _, by omega, by omega, rfl, rfl, rfl, rfl, rfl, by go_num, Lib.hid ⟨R6.out.crr, HZ.out.1.gate g HG.out, by have := HZ.out.2.1; omega, HZ.out.2.2.1, HZ.out.2.2.2⟩⟩
                case measure => simp [intOf]; omega
      · obtain rfl : k = 150 := by omega
        go_wp2
        go_ret
        exact ⟨rfl, hz.out.1.bel⟩
    · obtain rfl : k = m := by omega
      have hd1 : decide (k < k) = false := by simp
      go_wp2
      go_ret
      exact ⟨rfl, hz.out.1.bel⟩
end Go.Proofs.Ytolobojidnomfaa.Stp
