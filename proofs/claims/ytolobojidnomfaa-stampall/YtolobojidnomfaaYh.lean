/- The contract of the reference's Media. -/
import Derived.Test.YtolobojidnomfaaYf
import Derived.Test.YtolobojidnomfaaJo
import Derived.Test.YtolobojidnomfaaJr
import Derived.Test.YtolobojidnomfaaJh
import Derived.Deep.Cut
import Derived.Deep.DeepCutAuto
import Derived.Deep.CutRange
set_option maxRecDepth 100000
namespace Go.Proofs.Ytolobojidnomfaa.Stp
open Go.RowKit Go.Proofs.Ytolobojidnomfaa.Gat Go.Proofs.Ytolobojidnomfaa.Crs Go.Proofs.Ytolobojidnomfaa.Clk Go.Proofs.Ytolobojidnomfaa.Rtp
set_option linter.unusedVariables false

theorem tke_four (x : Gt) (l : Int) (k : Bool) {g : Gt} {v : Int} (h : tke x l k = (g, v)) : v = 4 ∨ v = 3 ∨ (v = 1 ∧ g = x) ∨ v = 2 := by
  unfold tke at h
  split at h
  · simp only [Prod.mk.injEq] at h; omega
  · split at h
    · simp only [Prod.mk.injEq] at h; omega
    · split at h
      · simp only [Prod.mk.injEq] at h; exact .inr (.inr (.inl ⟨h.2.symm, h.1.symm⟩))
      · simp only [Prod.mk.injEq] at h; omega
/-- The track ahead of a step: as it was, or as a switch leaves it. -/
structure Fore (t y0 : TV) (q tm pn : Int) (st : Bool) (v : Int) (y : TV) (r : Pc) (n : Int) : Prop where
  c : CoOk y0.c
  k : CkOk y0.k
  out : y0.out = t.out
  oc : y0.oc = t.oc
  no : refd y0.c q = true → t = y ∧ pc0 = r ∧ (5 : Int) = n
  yes : refd y0.c q = false → sntT y0 q tm pn st = y ∧ sntP y0 q tm st = r ∧ v = n
theorem fore_one {t y : TV} {q tm pn : Int} {st : Bool} {r : Pc} {n : Int} (hc : CoOk t.c) (hk : CkOk t.k) (h : snd t q tm pn st 1 = (y, r, n)) : Fore t t q tm pn st 1 y r n := by
  refine ⟨hc, hk, rfl, rfl, fun hr => ?_, fun hr => ?_⟩
  · unfold snd at h; rw [if_pos hr] at h; simpa using h
  · unfold snd at h; rw [if_neg (by rw [hr]; decide)] at h; simpa using h
theorem fore_two {t y : TV} {g : Gt} {q tm pn : Int} {st : Bool} {r : Pc} {n : Int} (hc : CoOk t.c) (hk : CkOk t.k) (h : snd (swT t g tm) q tm pn st 2 = (y, r, n)) : Fore t (swT t g tm) q tm pn st 2 y r n := by
  have hr : refd (swT t g tm).c q = false := by simp [swT, brk, refd]
  refine ⟨hc, ?_, rfl, rfl, fun hr2 => ?_, fun _ => ?_⟩
  · obtain ⟨h1, h2⟩ := hk
    exact ⟨⟨Int.emod_nonneg _ (by decide), by have := Int.emod_lt_of_pos (fst0 t.k - tm) (show (0 : Int) < 4294967296 by decide); simp only [swT, strt]; omega⟩, h2⟩
  · rw [hr] at hr2; cases hr2
  · unfold snd at h; rw [if_neg (by rw [hr]; decide)] at h; simpa using h
set_option maxHeartbeats 8000000 in
theorem rmedia_any (w : World) (t : TV) (p : PV) (d : Ds) (hc : CoOk t.c) (hk : CkOk t.k) (ho : 0 ≤ t.oc ∧ t.oc ≤ 4294967295) (hq : 0 ≤ p.seq ∧ p.seq ≤ 65535) (ht : 0 ≤ p.time ∧ p.time ≤ 4294967295) (hn : p.pn ≤ 140737488351232) :
    Calls Try.prog 10 #[trkV t, pkt p, dsV d] w fun e w' => e = .returned (mdV (mda t p.seq p.time p.pn d)) ∧ Below w.heap.size w w' := by
  obtain ⟨dl, dk, st, df⟩ := d
  have C1 := Lib.hid (fun W => Gat.rtake_any W t.g dl (dk && st))
  have H0 := Lib.hid (Five.lay w t p (dl, dk, st, df))
  have HP := Lib.hid (And.intro (And.intro hc hk) (And.intro ho (And.intro hq (And.intro ht hn))))
  clear hc hk ho hq ht hn
  unfold mda
  simp only
  obtain ⟨g, v, hr⟩ : ∃ g v, tke t.g dl (dk && st) = (g, v) := ⟨_, _, rfl⟩
  have HV := Lib.hid (tke_four _ _ _ hr)
  rw [hr] at C1 ⊢
  clear hr
  simp only
  obtain ⟨y, r, n, hy⟩ : ∃ y r n, (if v = 1 then snd t p.seq p.time p.pn st 1 else if v = 2 then snd (swT t g p.time) p.seq p.time p.pn st 2 else (t, pc0, v)) = (y, r, n) := ⟨_, _, _, rfl⟩
  rw [hy]
  have HY := Lib.hid hy
  clear hy
  go_enter Try.func10, Try.ntmps10
  go_upto_region 1 with fail
  obtain ⟨w1, hw1⟩ : ∃ w1, ((((w.alloc (trkO t)).alloc (pobj p)).alloc (dsO (dl, dk, st, df))).alloc (trkO tv0)).alloc (pcO pc0) = w1 := ⟨_, rfl⟩
  rw [hw1] at H0
  rw [hw1]
  clear hw1
  go_cut [9, 10, 17] from 18 to 30 (fun s9 s10 s17 wc => ∃ b, s9 = .pointer (some ⟨b, 0, none⟩) ∧ s10 = .int .i64 v ∧ Hid (Five w wc t p (dl, dk, st, df) tv0 pc0 ∧ Gat.CBlk wc b g ∧ w.heap.size + 1 + 1 + 1 + 1 < b))
  case first =>
    have c0 := H0.out.t.c0
    have c1 := H0.out.t.c1
    have c2 := H0.out.t.c2
    have c3 := H0.out.t.c3
    have d0 := H0.out.d.c0
    have d1 := H0.out.d.c1
    have d2 := H0.out.d.c2
    cases dk with
    | true =>
      rw [show (true && st) = st from rfl] at C1
      go_wp2_with fail
      refine (C1.out _).mono ?_
      rintro e w2 ⟨rfl, hb⟩
      have F1 := H0.out.more hb
      have hx := (Below.refl w2.heap.size w2).alloc (Nat.le_refl _) (gtO g)
      have H2 := Lib.hid (And.intro (F1.more hx) (And.intro (Gat.CBlk.new w2 g) F1.p.lt))
      clear hb hx F1 H0 C1 c0 c1 c2 c3 d0 d1 d2
      go_wp2_with fail
      go_meet
      case rel => exact ⟨w2.heap.size, rfl, rfl, H2⟩
    | false =>
      rw [show (false && st) = false from rfl] at C1
      go_wp2_with fail
      refine (C1.out _).mono ?_
      rintro e w2 ⟨rfl, hb⟩
      have F1 := H0.out.more hb
      have hx := (Below.refl w2.heap.size w2).alloc (Nat.le_refl _) (gtO g)
      have H2 := Lib.hid (And.intro (F1.more hx) (And.intro (Gat.CBlk.new w2 g) F1.p.lt))
      clear hb hx F1 H0 C1 c0 c1 c2 c3 d0 d1 d2
      go_wp2_with fail
      go_meet
      case rel => exact ⟨w2.heap.size, rfl, rfl, H2⟩
  case rest =>
    obtain ⟨b, rfl, rfl, hz⟩ := hcut
    rename World => wc
    clear H0 C1
    by_cases h34 : v = 4 ∨ v = 3
    · obtain ⟨rfl, rfl, rfl⟩ : t = y ∧ pc0 = r ∧ v = n := by
        have := HY.out
        rw [if_neg (by omega), if_neg (by omega)] at this
        simp only [Prod.mk.injEq] at this
        exact ⟨this.1, by rw [← this.2.1], this.2.2⟩
      have c0 := hz.out.1.t.c0
      have c1 := hz.out.1.t.c1
      have c2 := hz.out.1.t.c2
      have c3 := hz.out.1.t.c3
      have c4 := hz.out.1.t.c4
      have c5 := hz.out.1.t.c5
      have c6 := hz.out.1.t.c6
      have c7 := hz.out.1.t.c7
      have c8 := hz.out.1.t.c8
      have c9 := hz.out.1.t.c9
      have c10 := hz.out.1.t.c10
      have c11 := hz.out.1.t.c11
      have c12 := hz.out.1.t.c12
      have c13 := hz.out.1.t.c13
      have c14 := hz.out.1.t.c14
      have d0 := hz.out.1.u.c0
      have d1 := hz.out.1.u.c1
      have d2 := hz.out.1.u.c2
      have d3 := hz.out.1.u.c3
      have d4 := hz.out.1.u.c4
      have d5 := hz.out.1.u.c5
      have d6 := hz.out.1.u.c6
      have d7 := hz.out.1.u.c7
      have d8 := hz.out.1.u.c8
      have d9 := hz.out.1.u.c9
      have d10 := hz.out.1.u.c10
      have d11 := hz.out.1.u.c11
      have d12 := hz.out.1.u.c12
      have d13 := hz.out.1.u.c13
      have d14 := hz.out.1.u.c14
      have e0 := hz.out.1.u.frozen 0
      have e1 := hz.out.1.u.frozen 1
      have e2 := hz.out.1.u.frozen 2
      have e3 := hz.out.1.u.frozen 3
      have e4 := hz.out.1.u.frozen 4
      have e5 := hz.out.1.u.frozen 5
      have e6 := hz.out.1.u.frozen 6
      have e7 := hz.out.1.u.frozen 7
      have e8 := hz.out.1.u.frozen 8
      have e9 := hz.out.1.u.frozen 9
      have e10 := hz.out.1.u.frozen 10
      have e11 := hz.out.1.u.frozen 11
      have e12 := hz.out.1.u.frozen 12
      have e13 := hz.out.1.u.frozen 13
      have e14 := hz.out.1.u.frozen 14
      have g0 := hz.out.1.p.c0
      have g1 := hz.out.1.p.c1
      have g2 := hz.out.1.p.c2
      have g3 := hz.out.1.p.c3
      have k0 := hz.out.1.p.frozen 0
      have k1 := hz.out.1.p.frozen 1
      have k2 := hz.out.1.p.frozen 2
      have k3 := hz.out.1.p.frozen 3
      have HD := Lib.hid ((hz.out.1.putU t).putQ pc0)
      clear hz HY HV HP
      rcases h34 with rfl | rfl
      · go_wp2
        exact ret3_at Try.results10 HD.out.u HD.out.p ⟨rfl, HD.out.bel⟩
      · go_wp2
        exact ret3_at Try.results10 HD.out.u HD.out.p ⟨rfl, HD.out.bel⟩
    have hv : (v = 1 ∧ g = t.g) ∨ v = 2 := by
      rcases HV.out with h | h | h | h
      · exact absurd (.inl h) h34
      · exact absurd (.inr h) h34
      · exact .inl h
      · exact .inr h
    have q4 : (v == 4) = false := by simpa using fun h => h34 (.inl h)
    have q3 : (v == 3) = false := by simpa using fun h => h34 (.inr h)
    obtain ⟨y0, hy0⟩ : ∃ y0 : TV, (if v = 2 then swT t g p.time else t) = y0 := ⟨_, rfl⟩
    have FO : Hid (Fore t y0 p.seq p.time p.pn st v y r n) := by
      have h := HY.out
      rcases hv with ⟨rfl, rfl⟩ | rfl
      · rw [if_pos rfl] at h
        rw [if_neg (by decide)] at hy0
        subst hy0
        exact Lib.hid (fore_one HP.out.1.1 HP.out.1.2 h)
      · rw [if_neg (by decide), if_pos rfl] at h
        rw [if_pos rfl] at hy0
        subst hy0
        exact Lib.hid (fore_two HP.out.1.1 HP.out.1.2 h)
    have HY0 := Lib.hid hy0
    have HVV := Lib.hid hv
    clear hy0 hv h34 HY HV
    have c0 := hz.out.1.t.c0
    have c1 := hz.out.1.t.c1
    have c2 := hz.out.1.t.c2
    have c3 := hz.out.1.t.c3
    have c4 := hz.out.1.t.c4
    have c5 := hz.out.1.t.c5
    have c6 := hz.out.1.t.c6
    have c7 := hz.out.1.t.c7
    have c8 := hz.out.1.t.c8
    have c9 := hz.out.1.t.c9
    have c10 := hz.out.1.t.c10
    have c11 := hz.out.1.t.c11
    have c12 := hz.out.1.t.c12
    have c13 := hz.out.1.t.c13
    have c14 := hz.out.1.t.c14
    go_upto_region 5 with fail
    have S1 := Lib.hid (Six.new hz.out.1 t)
    have G1 := Lib.hid (hz.out.2.1.bel ((Below.refl wc.heap.size wc).alloc (Nat.le_refl _) (trkO t)) hz.out.2.1.lt)
    have N1 := hz.out.2.1.lt
    obtain ⟨b2, hb2⟩ : ∃ b2, wc.heap.size = b2 := ⟨_, rfl⟩
    rw [hb2] at S1 N1
    rw [hb2]
    clear hb2 hz c0 c1 c2 c3 c4 c5 c6 c7 c8 c9 c10 c11 c12 c13 c14 q4 q3
    obtain ⟨w2, hw2⟩ : ∃ w2, wc.alloc (trkO t) = w2 := ⟨_, rfl⟩
    rw [hw2] at S1
    rw [hw2] at G1
    rw [hw2]
    clear hw2
    have g0 := G1.out.c0
    have g1 := G1.out.c1
    have g2 := G1.out.c2
    have g3 := G1.out.c3
    have c0 := S1.out.y.c0
    have c1 := S1.out.y.c1
    have c2 := S1.out.y.c2
    have c3 := S1.out.y.c3
    have e0 := S1.out.y.frozen 0
    have e1 := S1.out.y.frozen 1
    have e2 := S1.out.y.frozen 2
    have e3 := S1.out.y.frozen 3
    go_upto_region 6 with fail
    have S2 := Lib.hid (S1.out.setG g)
    dsimp only [putG] at S2
    clear c0 c1 c2 c3 e0 e1 e2 e3 g0 g1 g2 g3 S1 G1 N1
    obtain ⟨w3, hw3⟩ : ∃ w3, (((w2.setCell ⟨b2, 0, none⟩ (.int .i64 g.1)).setCell ⟨b2, 1, none⟩ (.int .i64 g.2.1)).setCell ⟨b2, 2, none⟩ (.bool g.2.2.1)).setCell ⟨b2, 3, none⟩ (.bool g.2.2.2) = w3 := ⟨_, rfl⟩
    rw [hw3] at S2
    rw [hw3]
    clear hw3
    go_upto_if 44 with fail
    go_cut [] from 45 to 54 (fun wx => Hid (Six w wx t p (dl, dk, st, df) tv0 pc0 b2 y0))
    case first =>
      rcases HVV.out with ⟨rfl, rfl⟩ | rfl
      · go_wp2_with fail
        go_meet
        case rel =>
          have h := HY0.out
          rw [if_neg (by decide)] at h
          rw [← h]
          exact S2
      · have C4 := Lib.hid (fun W => Crs.rbrk_any W t.c)
        have C5 := Lib.hid (fun W => Clk.rstrt_any W t.k HP.out.1.2 p.time HP.out.2.2.2.1.1 HP.out.2.2.2.1.2)
        obtain ⟨c, hc⟩ : ∃ c, brk t.c = c := ⟨_, rfl⟩
        obtain ⟨k, hk⟩ : ∃ k, strt t.k p.time = k := ⟨_, rfl⟩
        have HS : Hid ((⟨g, c, k, t.out, t.fr, t.sn, t.oc⟩ : TV) = y0) := Lib.hid (by have h := HY0.out; rw [if_pos rfl] at h; rw [← hc, ← hk, ← h]; rfl)
        rw [hc] at C4
        rw [hk] at C5
        clear hc hk
        have c4 := S2.out.five.t.c4
        have c5 := S2.out.five.t.c5
        have c6 := S2.out.five.t.c6
        have c7 := S2.out.five.t.c7
        go_wp2_with fail
        refine (C4.out _).mono ?_
        rintro e w4 ⟨rfl, hb⟩
        have S3 := Lib.hid (S2.out.more hb)
        clear hb S2 C4 c4 c5 c6 c7
        have c4 := S3.out.y.c4
        have c5 := S3.out.y.c5
        have c6 := S3.out.y.c6
        have c7 := S3.out.y.c7
        have e4 := S3.out.y.frozen 4
        have e5 := S3.out.y.frozen 5
        have e6 := S3.out.y.frozen 6
        have e7 := S3.out.y.frozen 7
        go_upto_region 8 with fail
        have S4 := Lib.hid (S3.out.setC c)
        dsimp only [putC] at S4
        clear S3 c4 c5 c6 c7 e4 e5 e6 e7
        obtain ⟨w5, hw5⟩ : ∃ w5, (((w4.setCell ⟨b2, 4, none⟩ (.bool c.1)).setCell ⟨b2, 5, none⟩ (.int .u16 c.2.1)).setCell ⟨b2, 6, none⟩ (.int .u16 c.2.2.1)).setCell ⟨b2, 7, none⟩ (.int .u16 c.2.2.2) = w5 := ⟨_, rfl⟩
        rw [hw5] at S4
        rw [hw5]
        clear hw5
        have c8 := S4.out.five.t.c8
        have c9 := S4.out.five.t.c9
        have c10 := S4.out.five.t.c10
        have g3 := S4.out.five.q.c3
        go_wp2_with fail
        refine (C5.out _).mono ?_
        rintro e w6 ⟨rfl, hb⟩
        have S5 := Lib.hid (S4.out.more hb)
        clear hb S4 C5 g3 c8 c9 c10
        have c8 := S5.out.y.c8
        have c9 := S5.out.y.c9
        have c10 := S5.out.y.c10
        have e8 := S5.out.y.frozen 8
        have e9 := S5.out.y.frozen 9
        have e10 := S5.out.y.frozen 10
        have S6 := Lib.hid (S5.out.setK k)
        dsimp only [putK] at S6
        clear S5
        go_wp2_with fail
        go_meet
        case rel => rw [← HS.out]; exact S6
    case rest =>
      rename World => wx
      have S2 : Hid (Six w wx t p (dl, dk, st, df) tv0 pc0 b2 y0) := hcut
      clear hcut HY0 HVV
      have C6 := Lib.hid (fun W => Crs.rstep_any W y0.c p.seq FO.out.c HP.out.2.2.1.1 HP.out.2.2.1.2)
      have C7 := Lib.hid (fun W => Clk.rstep_any W y0.k FO.out.k p.time HP.out.2.2.2.1.1 HP.out.2.2.2.1.2)
      have C8 := Lib.hid (fun W => Clk.around_any W (t.oc + p.pn))
      have c4 := S2.out.y.c4
      have c5 := S2.out.y.c5
      have c6 := S2.out.y.c6
      have c7 := S2.out.y.c7
      have g2 := S2.out.five.q.c2
      by_cases h : refd y0.c p.seq = true
      · rw [stp_no h] at C6
        obtain ⟨rfl, rfl, rfl⟩ := FO.out.no h
        clear h FO C7 C8
        go_wp2_with fail
        refine (C6.out _).mono ?_
        rintro e w4 ⟨rfl, hb⟩
        have F1 := Lib.hid (S2.out.more hb).five
        clear hb S2 C6 g2 c4 c5 c6 c7
        go_upto_region 10 with fail
        have F2 := Lib.hid (F1.out.more ((Below.refl _ _).alloc (Nat.le_refl _) (coO y0.c)))
        obtain ⟨w5, hw5⟩ : ∃ w5, w4.alloc (coO y0.c) = w5 := ⟨_, rfl⟩
        rw [hw5] at F2
        rw [hw5]
        clear hw5
        have c0 := F2.out.t.c0
        have c1 := F2.out.t.c1
        have c2 := F2.out.t.c2
        have c3 := F2.out.t.c3
        have c4 := F2.out.t.c4
        have c5 := F2.out.t.c5
        have c6 := F2.out.t.c6
        have c7 := F2.out.t.c7
        have c8 := F2.out.t.c8
        have c9 := F2.out.t.c9
        have c10 := F2.out.t.c10
        have c11 := F2.out.t.c11
        have c12 := F2.out.t.c12
        have c13 := F2.out.t.c13
        have c14 := F2.out.t.c14
        have d0 := F2.out.u.c0
        have d1 := F2.out.u.c1
        have d2 := F2.out.u.c2
        have d3 := F2.out.u.c3
        have d4 := F2.out.u.c4
        have d5 := F2.out.u.c5
        have d6 := F2.out.u.c6
        have d7 := F2.out.u.c7
        have d8 := F2.out.u.c8
        have d9 := F2.out.u.c9
        have d10 := F2.out.u.c10
        have d11 := F2.out.u.c11
        have d12 := F2.out.u.c12
        have d13 := F2.out.u.c13
        have d14 := F2.out.u.c14
        have e0 := F2.out.u.frozen 0
        have e1 := F2.out.u.frozen 1
        have e2 := F2.out.u.frozen 2
        have e3 := F2.out.u.frozen 3
        have e4 := F2.out.u.frozen 4
        have e5 := F2.out.u.frozen 5
        have e6 := F2.out.u.frozen 6
        have e7 := F2.out.u.frozen 7
        have e8 := F2.out.u.frozen 8
        have e9 := F2.out.u.frozen 9
        have e10 := F2.out.u.frozen 10
        have e11 := F2.out.u.frozen 11
        have e12 := F2.out.u.frozen 12
        have e13 := F2.out.u.frozen 13
        have e14 := F2.out.u.frozen 14
        have g0 := F2.out.p.c0
        have g1 := F2.out.p.c1
        have g2 := F2.out.p.c2
        have g3 := F2.out.p.c3
        have k0 := F2.out.p.frozen 0
        have k1 := F2.out.p.frozen 1
        have k2 := F2.out.p.frozen 2
        have k3 := F2.out.p.frozen 3
        have HD := Lib.hid ((F2.out.putU t).putQ pc0)
        clear F1 F2
        go_wp2
        exact ret3_at Try.results10 HD.out.u HD.out.p ⟨rfl, HD.out.bel⟩
      have h : refd y0.c p.seq = false := by simpa using h
      obtain ⟨hy, hp, rfl⟩ := FO.out.yes h
      unfold sntT at hy
      unfold sntP at hp
      obtain ⟨c, m, hs⟩ : ∃ c m, stp y0.c p.seq = (c, m, true) := ⟨_, _, stp_yes h⟩
      rw [hs] at C6 hy hp
      obtain ⟨k, hk⟩ : ∃ k, stk y0.k p.time = k := ⟨_, rfl⟩
      rw [hk] at C7 hy
      obtain ⟨tt, htt⟩ : ∃ tt, tim y0.k p.time = tt := ⟨_, rfl⟩
      rw [htt] at C7 hp
      rw [FO.out.out] at hp
      rw [FO.out.oc] at hy
      simp only at hy hp
      have HE := Lib.hid (And.intro hy hp)
      clear hs hk htt h hy hp FO
      go_wp2_with fail
      refine (C6.out _).mono ?_
      rintro e w4 ⟨rfl, hb⟩
      have S3 := Lib.hid (S2.out.more hb)
      clear hb S2 C6 g2 c4 c5 c6 c7
      go_upto_region 10 with fail
      have hx := (Below.refl w4.heap.size w4).alloc (Nat.le_refl _) (coO c)
      have S4 := Lib.hid (S3.out.more hx)
      have D1 := Lib.hid (Crs.CBlk.new w4 c)
      have L1 := S3.out.y.lt
      obtain ⟨b3, hb3⟩ : ∃ b, w4.heap.size = b := ⟨_, rfl⟩
      rw [hb3] at D1 L1
      rw [hb3]
      clear hb3 hx S3
      obtain ⟨w5, hw5⟩ : ∃ w5, w4.alloc (coO c) = w5 := ⟨_, rfl⟩
      rw [hw5] at S4
      rw [hw5] at D1
      rw [hw5]
      clear hw5
      have d0 := D1.out.c0
      have d1 := D1.out.c1
      have d2 := D1.out.c2
      have d3 := D1.out.c3
      have c4 := S4.out.y.c4
      have c5 := S4.out.y.c5
      have c6 := S4.out.y.c6
      have c7 := S4.out.y.c7
      have e4 := S4.out.y.frozen 4
      have e5 := S4.out.y.frozen 5
      have e6 := S4.out.y.frozen 6
      have e7 := S4.out.y.frozen 7
      go_upto_region 13 with fail
      have S5 := Lib.hid (S4.out.setC c)
      dsimp only [putC] at S5
      clear S4 D1 L1 d0 d1 d2 d3 c4 c5 c6 c7 e4 e5 e6 e7
      obtain ⟨w6, hw6⟩ : ∃ w6, (((w5.setCell ⟨b2, 4, none⟩ (.bool c.1)).setCell ⟨b2, 5, none⟩ (.int .u16 c.2.1)).setCell ⟨b2, 6, none⟩ (.int .u16 c.2.2.1)).setCell ⟨b2, 7, none⟩ (.int .u16 c.2.2.2) = w6 := ⟨_, rfl⟩
      rw [hw6] at S5
      rw [hw6]
      clear hw6
      have c8 := S5.out.y.c8
      have c9 := S5.out.y.c9
      have c10 := S5.out.y.c10
      have g3 := S5.out.five.q.c3
      go_wp2_with fail
      refine (C7.out _).mono ?_
      rintro e w7 ⟨rfl, hb⟩
      have S6 := Lib.hid (S5.out.more hb)
      clear hb S5 C7 g3 c8 c9 c10
      go_upto_region 14 with fail
      have hx := (Below.refl w7.heap.size w7).alloc (Nat.le_refl _) (ckO k)
      have S7 := Lib.hid (S6.out.more hx)
      have D2 := Lib.hid (Clk.CBlk.new w7 k)
      have L2 := S6.out.y.lt
      obtain ⟨b4, hb4⟩ : ∃ b, w7.heap.size = b := ⟨_, rfl⟩
      rw [hb4] at D2 L2
      rw [hb4]
      clear hb4 hx S6
      obtain ⟨w8, hw8⟩ : ∃ w8, w7.alloc (ckO k) = w8 := ⟨_, rfl⟩
      rw [hw8] at S7
      rw [hw8] at D2
      rw [hw8]
      clear hw8
      have d0 := D2.out.c0
      have d1 := D2.out.c1
      have d2 := D2.out.c2
      have c8 := S7.out.y.c8
      have c9 := S7.out.y.c9
      have c10 := S7.out.y.c10
      have e8 := S7.out.y.frozen 8
      have e9 := S7.out.y.frozen 9
      have e10 := S7.out.y.frozen 10
      go_upto_region 15 with fail
      have S8 := Lib.hid (S7.out.setK k)
      dsimp only [putK] at S8
      clear S7 D2 L2 d0 d1 d2 c8 c9 c10 e8 e9 e10
      obtain ⟨u2, hu2⟩ : ∃ u2, ((w8.setCell ⟨b2, 8, none⟩ (.bool k.1)).setCell ⟨b2, 9, none⟩ (.int .u32 k.2.1)).setCell ⟨b2, 10, none⟩ (.int .u32 k.2.2) = u2 := ⟨_, rfl⟩
      rw [hu2] at S8
      rw [hu2]
      clear hu2
      obtain ⟨fr, hfr⟩ : ∃ fr, frN y0.fr st = fr := ⟨_, rfl⟩
      have HF := Lib.hid hfr
      rw [hfr] at HE
      clear hfr
      have g2 := S8.out.five.d.c2
      go_upto_if 81 with fail
      go_cut [] from 82 to 85 (fun wx => Hid (Six w wx t p (dl, dk, st, df) tv0 pc0 b2 ⟨y0.g, c, k, y0.out, fr, y0.sn, y0.oc⟩))
      case first =>
        cases st with
        | true =>
          have c12 := S8.out.y.c12
          have e12 := S8.out.y.frozen 12
          have q12 := wr16 (y0.fr + 1)
          have S9 := Lib.hid (S8.out.setF ((y0.fr + 1) % 65536))
          clear S8
          go_wp2_with fail
          go_meet
          case rel => rw [← HF.out]; exact S9
        | false =>
          go_wp2_with fail
          go_meet
          case rel => rw [← HF.out]; exact S8
      case rest =>
        rename World => u3
        have S9 : Hid (Six w u3 t p (dl, dk, st, df) tv0 pc0 b2 ⟨y0.g, c, k, y0.out, fr, y0.sn, y0.oc⟩) := hcut
        clear hcut S8 HF g2
        have c13 := S9.out.y.c13
        have e13 := S9.out.y.frozen 13
        have q13 := wr32 (y0.sn + 1)
        go_upto_region 18 with fail
        have S10 := Lib.hid (S9.out.setS ((y0.sn + 1) % 4294967296))
        clear c13 e13 q13 S9
        obtain ⟨u4, hu4⟩ : ∃ u4, u3.setCell ⟨b2, 13, none⟩ (.int .u32 ((y0.sn + 1) % 4294967296)) = u4 := ⟨_, rfl⟩
        rw [hu4] at S10
        rw [hu4]
        clear hu4
        have c14 := S10.out.five.t.c14
        have g9 := S10.out.five.q.c9
        have q15 : IntKind.i64.wrap t.oc = t.oc := IntWalk.i64_in _ (by have := HP.out.2.1; omega)
        have q16 : IntKind.i64.wrap (t.oc + (p.pn : Int)) = t.oc + p.pn := IntWalk.i64_in _ (by have := HP.out.2.1; have := HP.out.2.2.2.2; omega)
        obtain ⟨oc, hoc⟩ : ∃ oc, (t.oc + (p.pn : Int)) % 4294967296 = oc := ⟨_, rfl⟩
        rw [hoc] at C8 HE
        clear hoc
        go_wp2_with fail
        refine (C8.out _).mono ?_
        rintro e w9 ⟨rfl, rfl⟩
        clear c14 g9 q15 q16 C8
        have c14 := S10.out.y.c14
        have e14 := S10.out.y.frozen 14
        go_upto_region 19 with fail
        have S11 := Lib.hid (S10.out.setO oc)
        clear c14 e14 S10
        obtain ⟨u5, hu5⟩ : ∃ u5, u4.setCell ⟨b2, 14, none⟩ (.int .u32 oc) = u5 := ⟨_, rfl⟩
        rw [hu5] at S11
        rw [hu5]
        clear hu5
        replace S11 : Hid (Six w u5 t p (dl, dk, st, df) tv0 pc0 b2 y) := by rw [← HE.out.1]; exact S11
        have HR : Hid ((m, tt, t.out, y.fr) = r) := Lib.hid (by rw [← HE.out.2, ← HE.out.1])
        clear HE
        replace S11 := Lib.hid (S11.out.more (Below.refl _ _).drew)
        have f0 : ∀ W, TBlk W b2 y ∧ TBlk W w.heap.size t → W.cell? ⟨b2, 0, none⟩ = some (.int .i64 y.g.1) := fun W hW => hW.1.c0
        have f1 : ∀ W, TBlk W b2 y ∧ TBlk W w.heap.size t → W.cell? ⟨b2, 1, none⟩ = some (.int .i64 y.g.2.1) := fun W hW => hW.1.c1
        have f2 : ∀ W, TBlk W b2 y ∧ TBlk W w.heap.size t → W.cell? ⟨b2, 2, none⟩ = some (.bool y.g.2.2.1) := fun W hW => hW.1.c2
        have f3 : ∀ W, TBlk W b2 y ∧ TBlk W w.heap.size t → W.cell? ⟨b2, 3, none⟩ = some (.bool y.g.2.2.2) := fun W hW => hW.1.c3
        have f4 : ∀ W, TBlk W b2 y ∧ TBlk W w.heap.size t → W.cell? ⟨b2, 4, none⟩ = some (.bool y.c.1) := fun W hW => hW.1.c4
        have f5 : ∀ W, TBlk W b2 y ∧ TBlk W w.heap.size t → W.cell? ⟨b2, 5, none⟩ = some (.int .u16 y.c.2.1) := fun W hW => hW.1.c5
        have f6 : ∀ W, TBlk W b2 y ∧ TBlk W w.heap.size t → W.cell? ⟨b2, 6, none⟩ = some (.int .u16 y.c.2.2.1) := fun W hW => hW.1.c6
        have f7 : ∀ W, TBlk W b2 y ∧ TBlk W w.heap.size t → W.cell? ⟨b2, 7, none⟩ = some (.int .u16 y.c.2.2.2) := fun W hW => hW.1.c7
        have f8 : ∀ W, TBlk W b2 y ∧ TBlk W w.heap.size t → W.cell? ⟨b2, 8, none⟩ = some (.bool y.k.1) := fun W hW => hW.1.c8
        have f9 : ∀ W, TBlk W b2 y ∧ TBlk W w.heap.size t → W.cell? ⟨b2, 9, none⟩ = some (.int .u32 y.k.2.1) := fun W hW => hW.1.c9
        have f10 : ∀ W, TBlk W b2 y ∧ TBlk W w.heap.size t → W.cell? ⟨b2, 10, none⟩ = some (.int .u32 y.k.2.2) := fun W hW => hW.1.c10
        have f11 : ∀ W, TBlk W b2 y ∧ TBlk W w.heap.size t → W.cell? ⟨b2, 11, none⟩ = some (.int .u32 y.out) := fun W hW => hW.1.c11
        have f12 : ∀ W, TBlk W b2 y ∧ TBlk W w.heap.size t → W.cell? ⟨b2, 12, none⟩ = some (.int .u16 y.fr) := fun W hW => hW.1.c12
        have f13 : ∀ W, TBlk W b2 y ∧ TBlk W w.heap.size t → W.cell? ⟨b2, 13, none⟩ = some (.int .u32 y.sn) := fun W hW => hW.1.c13
        have f14 : ∀ W, TBlk W b2 y ∧ TBlk W w.heap.size t → W.cell? ⟨b2, 14, none⟩ = some (.int .u32 y.oc) := fun W hW => hW.1.c14
        have h11 : ∀ W, TBlk W b2 y ∧ TBlk W w.heap.size t → W.cell? ⟨w.heap.size, 11, none⟩ = some (.int .u32 t.out) := fun W hW => hW.2.c11
        refine region_seq (fun W => TBlk W b2 y ∧ TBlk W w.heap.size t) [(0, false), (1, false), (2, false), (3, false), (4, false), (5, false), (6, false), (7, false), (8, false), (9, true), (10, true), (11, false)] (by kernel_rfl) (by kernel_rfl) rfl (by kernel_rfl) ?_
        obtain ⟨ue, hue⟩ : ∃ ue, u5.drew = ue := ⟨_, rfl⟩
        rw [hue] at S11
        rw [hue]
        clear hue
        have F9 := Lib.hid S11.out.five
        have hS := And.intro S11.out.y F9.out.t
        have HL := S11.out.far
        have F10 := Lib.hid (F9.out.putU y)
        have hS1 : TBlk (putT ue (w.heap.size + 1 + 1 + 1) y) b2 y ∧ TBlk (putT ue (w.heap.size + 1 + 1 + 1) y) w.heap.size t := ⟨hS.1.beside (by omega) (beside_putT _ _ _), F10.out.t⟩
        have F11 := Lib.hid (F10.out.putQ (m, tt, t.out, y.fr))
        have hS2 : TBlk (putP (putT ue (w.heap.size + 1 + 1 + 1) y) (w.heap.size + 1 + 1 + 1 + 1) (m, tt, t.out, y.fr)) b2 y ∧ TBlk (putP (putT ue (w.heap.size + 1 + 1 + 1) y) (w.heap.size + 1 + 1 + 1 + 1) (m, tt, t.out, y.fr)) w.heap.size t := ⟨hS1.1.beside (by omega) (beside_putP _ _ _), F11.out.t⟩
        dsimp only [putT, putP] at F10 F11 hS1 hS2
        clear HL S11
        iterate 9 (refine seq_read (v := _) rfl (fun _ _ _ h => h) hS (Or.inl ⟨by rfl, fun W hW => by go_simp <;> with_reducible rfl⟩) ?_; simp only [Act.put, List.setIfInBounds_toArray, List.set_cons_zero, List.set_cons_succ])
        have d0 := F9.out.u.c0
        have d1 := F9.out.u.c1
        have d2 := F9.out.u.c2
        have d3 := F9.out.u.c3
        have d4 := F9.out.u.c4
        have d5 := F9.out.u.c5
        have d6 := F9.out.u.c6
        have d7 := F9.out.u.c7
        have d8 := F9.out.u.c8
        have d9 := F9.out.u.c9
        have d10 := F9.out.u.c10
        have d11 := F9.out.u.c11
        have d12 := F9.out.u.c12
        have d13 := F9.out.u.c13
        have d14 := F9.out.u.c14
        have e0 := F9.out.u.frozen 0
        have e1 := F9.out.u.frozen 1
        have e2 := F9.out.u.frozen 2
        have e3 := F9.out.u.frozen 3
        have e4 := F9.out.u.frozen 4
        have e5 := F9.out.u.frozen 5
        have e6 := F9.out.u.frozen 6
        have e7 := F9.out.u.frozen 7
        have e8 := F9.out.u.frozen 8
        have e9 := F9.out.u.frozen 9
        have e10 := F9.out.u.frozen 10
        have e11 := F9.out.u.frozen 11
        have e12 := F9.out.u.frozen 12
        have e13 := F9.out.u.frozen 13
        have e14 := F9.out.u.frozen 14
        refine seq_do rfl (fun K hK => ?_)
        go_simp
        refine hK.out _ _ _ (fun W h => h) hS1 ?_
        clear hK K hS F9 d0 d1 d2 d3 d4 d5 d6 d7 d8 d9 d10 d11 d12 d13 d14 e0 e1 e2 e3 e4 e5 e6 e7 e8 e9 e10 e11 e12 e13 e14
        obtain ⟨v1, hv1⟩ : ∃ v1, ((((((((((((((ue.setCell ⟨w.heap.size + 1 + 1 + 1, 0, none⟩ (.int .i64 y.g.1)).setCell ⟨w.heap.size + 1 + 1 + 1, 1, none⟩ (.int .i64 y.g.2.1)).setCell ⟨w.heap.size + 1 + 1 + 1, 2, none⟩ (.bool y.g.2.2.1)).setCell ⟨w.heap.size + 1 + 1 + 1, 3, none⟩ (.bool y.g.2.2.2)).setCell ⟨w.heap.size + 1 + 1 + 1, 4, none⟩ (.bool y.c.1)).setCell ⟨w.heap.size + 1 + 1 + 1, 5, none⟩ (.int .u16 y.c.2.1)).setCell ⟨w.heap.size + 1 + 1 + 1, 6, none⟩ (.int .u16 y.c.2.2.1)).setCell ⟨w.heap.size + 1 + 1 + 1, 7, none⟩ (.int .u16 y.c.2.2.2)).setCell ⟨w.heap.size + 1 + 1 + 1, 8, none⟩ (.bool y.k.1)).setCell ⟨w.heap.size + 1 + 1 + 1, 9, none⟩ (.int .u32 y.k.2.1)).setCell ⟨w.heap.size + 1 + 1 + 1, 10, none⟩ (.int .u32 y.k.2.2)).setCell ⟨w.heap.size + 1 + 1 + 1, 11, none⟩ (.int .u32 y.out)).setCell ⟨w.heap.size + 1 + 1 + 1, 12, none⟩ (.int .u16 y.fr)).setCell ⟨w.heap.size + 1 + 1 + 1, 13, none⟩ (.int .u32 y.sn)).setCell ⟨w.heap.size + 1 + 1 + 1, 14, none⟩ (.int .u32 y.oc) = v1 := ⟨_, rfl⟩
        rw [hv1] at F10
        rw [hv1] at F11
        rw [hv1] at hS1
        rw [hv1] at hS2
        rw [hv1]
        clear hv1
        have d0 := F10.out.p.c0
        have d1 := F10.out.p.c1
        have d2 := F10.out.p.c2
        have d3 := F10.out.p.c3
        have e0 := F10.out.p.frozen 0
        have e1 := F10.out.p.frozen 1
        have e2 := F10.out.p.frozen 2
        have e3 := F10.out.p.frozen 3
        have hS := hS1
        refine seq_do rfl (fun K hK => ?_)
        go_simp
        refine hK.out _ _ _ (fun W h => h) hS2 ?_
        clear hK K hS hS1 F10 d0 d1 d2 d3 e0 e1 e2 e3
        obtain ⟨v2, hv2⟩ : ∃ v2, (((v1.setCell ⟨w.heap.size + 1 + 1 + 1 + 1, 0, none⟩ (.int .u16 m)).setCell ⟨w.heap.size + 1 + 1 + 1 + 1, 1, none⟩ (.int .u32 tt)).setCell ⟨w.heap.size + 1 + 1 + 1 + 1, 2, none⟩ (.int .u32 t.out)).setCell ⟨w.heap.size + 1 + 1 + 1 + 1, 3, none⟩ (.int .u16 y.fr) = v2 := ⟨_, rfl⟩
        rw [hv2] at F11
        rw [hv2] at hS2
        rw [hv2]
        clear hv2
        have hS := hS2
        iterate 1 (refine seq_read (v := _) rfl (fun _ _ _ h => h) hS (Or.inl ⟨by rfl, fun W hW => by go_simp <;> with_reducible rfl⟩) ?_; simp only [Act.put, List.setIfInBounds_toArray, List.set_cons_zero, List.set_cons_succ])
        refine seq_end ?_
        go_wp2
        exact ret3_at Try.results10 F11.out.u F11.out.p ⟨by rw [← HR.out], F11.out.bel⟩
end Go.Proofs.Ytolobojidnomfaa.Stp
