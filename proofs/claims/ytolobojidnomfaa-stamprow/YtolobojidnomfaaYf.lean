/- The contract of stamp.Media. -/
import Derived.Test.YtolobojidnomfaaYe
set_option maxRecDepth 100000
namespace Go.Proofs.Ytolobojidnomfaa.Stp
open Go.RowKit Go.Proofs.Ytolobojidnomfaa.Gat Go.Proofs.Ytolobojidnomfaa.Crs Go.Proofs.Ytolobojidnomfaa.Clk Go.Proofs.Ytolobojidnomfaa.Rtp
set_option linter.unusedVariables false

/-- What becomes of a packet: the track behind it, what is other in it, the verdict. -/
def swT (t : TV) (g : Gt) (tm : Int) : TV := ⟨g, brk t.c, strt t.k tm, t.out, t.fr, t.sn, t.oc⟩
def mda (t : TV) (q tm pn : Int) (d : Ds) : TV × Pc × Int :=
  if (tke t.g d.1 (d.2.1 && d.2.2.1)).2 = 1 then snd t q tm pn d.2.2.1 1
  else if (tke t.g d.1 (d.2.1 && d.2.2.1)).2 = 2 then snd (swT t (tke t.g d.1 (d.2.1 && d.2.2.1)).1 tm) q tm pn d.2.2.1 2
  else (t, pc0, (tke t.g d.1 (d.2.1 && d.2.2.1)).2)
theorem Five.off {w0 w w' : World} {t u : TV} {q : PV} {d : Ds} {p : Pc} {b : Nat} (h : Five w0 w t q d u p) (hl : w0.heap.size + 1 + 1 + 1 + 1 < b) (hw : Beside b w w') (hb : Below w0.heap.size w0 w') : Five w0 w' t q d u p :=
  ⟨h.t.beside (by omega) hw, PBlk_beside h.q (by omega) hw, h.d.beside (by omega) hw, h.u.beside (by omega) hw, h.p.beside (by omega) hw, hb⟩
/-- The same, and a further track beside them. -/
structure Six (w0 w : World) (t : TV) (q : PV) (d : Ds) (u : TV) (p : Pc) (b : Nat) (y : TV) : Prop where
  five : Five w0 w t q d u p
  far : w0.heap.size + 1 + 1 + 1 + 1 < b
  y : TBlk w b y
section
variable {w0 w w' : World} {t u y : TV} {q : PV} {d : Ds} {p : Pc} {b : Nat}
theorem Six.more (h : Six w0 w t q d u p b y) (hb : Below w.heap.size w w') : Six w0 w' t q d u p b y := ⟨h.five.more hb, h.far, h.y.bel hb h.y.lt⟩
theorem Six.new (h : Five w0 w t q d u p) (y : TV) : Six w0 (w.alloc (trkO y)) t q d u p w.heap.size y := ⟨h.more ((Below.refl _ _).alloc (Nat.le_refl _) _), h.p.lt, TBlk.new w y⟩
theorem Six.setG (h : Six w0 w t q d u p b y) (x : Gt) : Six w0 (putG w b x) t q d u p b ⟨x, y.c, y.k, y.out, y.fr, y.sn, y.oc⟩ := ⟨h.five.off h.far (beside_putG w b x) (bel_putG h.five.bel (by have := h.far; omega) x), h.far, h.y.setG x⟩
theorem Six.setC (h : Six w0 w t q d u p b y) (x : Co) : Six w0 (putC w b x) t q d u p b ⟨y.g, x, y.k, y.out, y.fr, y.sn, y.oc⟩ := ⟨h.five.off h.far (beside_putC w b x) (bel_putC h.five.bel (by have := h.far; omega) x), h.far, h.y.setC x⟩
theorem Six.setK (h : Six w0 w t q d u p b y) (x : Ck) : Six w0 (putK w b x) t q d u p b ⟨y.g, y.c, x, y.out, y.fr, y.sn, y.oc⟩ := ⟨h.five.off h.far (beside_putK w b x) (bel_putK h.five.bel (by have := h.far; omega) x), h.far, h.y.setK x⟩
theorem Six.setF (h : Six w0 w t q d u p b y) (x : Int) : Six w0 (w.setCell ⟨b, 12, none⟩ (.int .u16 x)) t q d u p b ⟨y.g, y.c, y.k, y.out, x, y.sn, y.oc⟩ := ⟨h.five.off h.far ((Beside.refl b w).set _) (h.five.bel.setCell (p := ⟨b, 12, none⟩) (by have := h.far; show _ ≤ b; omega) _), h.far, h.y.setF x⟩
theorem Six.setS (h : Six w0 w t q d u p b y) (x : Int) : Six w0 (w.setCell ⟨b, 13, none⟩ (.int .u32 x)) t q d u p b ⟨y.g, y.c, y.k, y.out, y.fr, x, y.oc⟩ := ⟨h.five.off h.far ((Beside.refl b w).set _) (h.five.bel.setCell (p := ⟨b, 13, none⟩) (by have := h.far; show _ ≤ b; omega) _), h.far, h.y.setS x⟩
theorem Six.setO (h : Six w0 w t q d u p b y) (x : Int) : Six w0 (w.setCell ⟨b, 14, none⟩ (.int .u32 x)) t q d u p b ⟨y.g, y.c, y.k, y.out, y.fr, y.sn, x⟩ := ⟨h.five.off h.far ((Beside.refl b w).set _) (h.five.bel.setCell (p := ⟨b, 14, none⟩) (by have := h.far; show _ ≤ b; omega) _), h.far, h.y.setO x⟩
end
set_option maxHeartbeats 8000000 in
theorem media_any (w : World) (t : TV) (p : PV) (d : Ds) : Calls Try.prog 9 #[trkV t, pkt p, dsV d] w fun e w' => e = .returned (mdV (mda t p.seq p.time p.pn d)) ∧ Below w.heap.size w w' := by
  obtain ⟨dl, dk, st, df⟩ := d
  have C1 := Lib.hid (fun W => Gat.take_any W t.g dl (dk && st))
  have H0 := Lib.hid (Five.lay w t p (dl, dk, st, df))
  unfold mda
  simp only
  obtain ⟨g, v, hr⟩ : ∃ g v, tke t.g dl (dk && st) = (g, v) := ⟨_, _, rfl⟩
  rw [hr] at C1 ⊢
  clear hr
  simp only
  obtain ⟨y, r, n, hy⟩ : ∃ y r n, (if v = 1 then snd t p.seq p.time p.pn st 1 else if v = 2 then snd (swT t g p.time) p.seq p.time p.pn st 2 else (t, pc0, v)) = (y, r, n) := ⟨_, _, _, rfl⟩
  rw [hy]
  have HY := Lib.hid hy
  clear hy
  go_enter Try.func9, Try.ntmps9
  go_upto_region 1 with fail
  obtain ⟨w1, hw1⟩ : ∃ w1, ((((w.alloc (trkO t)).alloc (pobj p)).alloc (dsO (dl, dk, st, df))).alloc (trkO tv0)).alloc (pcO pc0) = w1 := ⟨_, rfl⟩
  rw [hw1] at H0
  rw [hw1]
  clear hw1
  go_cut [9, 10, 12] from 13 to 25 (fun s9 s10 s12 wc => ∃ b, s9 = .pointer (some ⟨b, 0, none⟩) ∧ s10 = .int .i64 v ∧ Hid (Five w wc t p (dl, dk, st, df) tv0 pc0 ∧ Gat.CBlk wc b g ∧ w.heap.size + 1 + 1 + 1 + 1 < b))
  case first =>
    have c0 := H0.out.t.c0
    have c1 := H0.out.t.c1
    have c2 := H0.out.t.c2
    have c3 := H0.out.t.c3
    have d0 := H0.out.d.c0
    have d1 := H0.out.d.c1
    have d2 := H0.out.d.c2
    cases dk with
    | true =>
      rw [show (true && st) = st from rfl] at C1
      go_wp2_with fail
      refine (C1.out _).mono ?_
      rintro e w2 ⟨rfl, hb⟩
      have F1 := H0.out.more hb
      have hx := (Below.refl w2.heap.size w2).alloc (Nat.le_refl _) (gtO g)
      have H2 := Lib.hid (And.intro (F1.more hx) (And.intro (Gat.CBlk.new w2 g) F1.p.lt))
      clear hb hx F1 H0 C1 c0 c1 c2 c3 d0 d1 d2
      go_wp2_with fail
      go_meet
      case rel => exact ⟨w2.heap.size, rfl, rfl, H2⟩
    | false =>
      rw [show (false && st) = false from rfl] at C1
      go_wp2_with fail
      refine (C1.out _).mono ?_
      rintro e w2 ⟨rfl, hb⟩
      have F1 := H0.out.more hb
      have hx := (Below.refl w2.heap.size w2).alloc (Nat.le_refl _) (gtO g)
      have H2 := Lib.hid (And.intro (F1.more hx) (And.intro (Gat.CBlk.new w2 g) F1.p.lt))
      clear hb hx F1 H0 C1 c0 c1 c2 c3 d0 d1 d2
      go_wp2_with fail
      go_meet
      case rel => exact ⟨w2.heap.size, rfl, rfl, H2⟩
  case rest =>
    obtain ⟨b, rfl, rfl, hz⟩ := hcut
    rename World => wc
    clear H0 C1
    by_cases h1 : v = 1
    · subst h1
      have C3 := Lib.hid (fun W => send_any W t p (dl, dk, st, df) 1)
      rw [show snd t p.seq p.time p.pn (dl, dk, st, df).2.2.1 1 = (y, r, n) from by rw [← HY.out]; rfl] at C3
      have c0 := hz.out.1.t.c0
      have c1 := hz.out.1.t.c1
      have c2 := hz.out.1.t.c2
      have c3 := hz.out.1.t.c3
      have c4 := hz.out.1.t.c4
      have c5 := hz.out.1.t.c5
      have c6 := hz.out.1.t.c6
      have c7 := hz.out.1.t.c7
      have c8 := hz.out.1.t.c8
      have c9 := hz.out.1.t.c9
      have c10 := hz.out.1.t.c10
      have c11 := hz.out.1.t.c11
      have c12 := hz.out.1.t.c12
      have c13 := hz.out.1.t.c13
      have c14 := hz.out.1.t.c14
      have g0 := hz.out.1.q.c0
      have g1 := hz.out.1.q.c1
      have g2 := hz.out.1.q.c2
      have g3 := hz.out.1.q.c3
      have g4 := hz.out.1.q.c4
      have g5 := hz.out.1.q.c5
      have g6 := hz.out.1.q.c6
      have g7 := hz.out.1.q.c7
      have g8 := hz.out.1.q.c8
      have g9 := hz.out.1.q.c9
      have g10 := hz.out.1.q.c10
      have d0 := hz.out.1.d.c0
      have d1 := hz.out.1.d.c1
      have d2 := hz.out.1.d.c2
      have d3 := hz.out.1.d.c3
      go_wp2_with fail
      refine (C3.out _).mono ?_
      rintro e w2 ⟨rfl, hb⟩
      have F2 := Lib.hid (hz.out.1.more hb)
      clear hb hz C3 c0 c1 c2 c3 c4 c5 c6 c7 c8 c9 c10 c11 c12 c13 c14 g0 g1 g2 g3 g4 g5 g6 g7 g8 g9 g10 d0 d1 d2 d3
      have c0 := F2.out.u.c0
      have c1 := F2.out.u.c1
      have c2 := F2.out.u.c2
      have c3 := F2.out.u.c3
      have c4 := F2.out.u.c4
      have c5 := F2.out.u.c5
      have c6 := F2.out.u.c6
      have c7 := F2.out.u.c7
      have c8 := F2.out.u.c8
      have c9 := F2.out.u.c9
      have c10 := F2.out.u.c10
      have c11 := F2.out.u.c11
      have c12 := F2.out.u.c12
      have c13 := F2.out.u.c13
      have c14 := F2.out.u.c14
      have e0 := F2.out.u.frozen 0
      have e1 := F2.out.u.frozen 1
      have e2 := F2.out.u.frozen 2
      have e3 := F2.out.u.frozen 3
      have e4 := F2.out.u.frozen 4
      have e5 := F2.out.u.frozen 5
      have e6 := F2.out.u.frozen 6
      have e7 := F2.out.u.frozen 7
      have e8 := F2.out.u.frozen 8
      have e9 := F2.out.u.frozen 9
      have e10 := F2.out.u.frozen 10
      have e11 := F2.out.u.frozen 11
      have e12 := F2.out.u.frozen 12
      have e13 := F2.out.u.frozen 13
      have e14 := F2.out.u.frozen 14
      have g0 := F2.out.p.c0
      have g1 := F2.out.p.c1
      have g2 := F2.out.p.c2
      have g3 := F2.out.p.c3
      have k0 := F2.out.p.frozen 0
      have k1 := F2.out.p.frozen 1
      have k2 := F2.out.p.frozen 2
      have k3 := F2.out.p.frozen 3
      have HD := Lib.hid ((F2.out.putU y).putQ r)
      clear F2
      go_wp2
      exact ret3_at Try.results9 HD.out.u HD.out.p ⟨rfl, HD.out.bel⟩
    have q1 : (v == 1) = false := by simpa using h1
    rw [if_neg h1] at HY
    by_cases h2 : v = 2
    · subst h2
      rw [if_pos rfl] at HY
      have C3 := Lib.hid (fun W => send_any W (swT t g p.time) p (dl, dk, st, df) 2)
      rw [show snd (swT t g p.time) p.seq p.time p.pn (dl, dk, st, df).2.2.1 2 = (y, r, n) from by rw [← HY.out]] at C3
      unfold swT at C3
      have C4 := Lib.hid (fun W => Crs.brk_any W t.c)
      have C5 := Lib.hid (fun W => Clk.strt_any W t.k p.time)
      obtain ⟨c, hc⟩ : ∃ c, brk t.c = c := ⟨_, rfl⟩
      obtain ⟨k, hk⟩ : ∃ k, strt t.k p.time = k := ⟨_, rfl⟩
      rw [hc] at C3 C4
      rw [hk] at C3 C5
      clear hc hk h1 HY
      have c0 := hz.out.1.t.c0
      have c1 := hz.out.1.t.c1
      have c2 := hz.out.1.t.c2
      have c3 := hz.out.1.t.c3
      have c4 := hz.out.1.t.c4
      have c5 := hz.out.1.t.c5
      have c6 := hz.out.1.t.c6
      have c7 := hz.out.1.t.c7
      have c8 := hz.out.1.t.c8
      have c9 := hz.out.1.t.c9
      have c10 := hz.out.1.t.c10
      have c11 := hz.out.1.t.c11
      have c12 := hz.out.1.t.c12
      have c13 := hz.out.1.t.c13
      have c14 := hz.out.1.t.c14
      go_upto_region 7 with fail
      have S1 := Lib.hid (Six.new hz.out.1 t)
      have G1 := Lib.hid (hz.out.2.1.bel ((Below.refl wc.heap.size wc).alloc (Nat.le_refl _) (trkO t)) hz.out.2.1.lt)
      have N1 := hz.out.2.1.lt
      obtain ⟨b2, hb2⟩ : ∃ b2, wc.heap.size = b2 := ⟨_, rfl⟩
      rw [hb2] at S1 N1
      rw [hb2]
      clear hb2 hz c0 c1 c2 c3 c4 c5 c6 c7 c8 c9 c10 c11 c12 c13 c14
      obtain ⟨w2, hw2⟩ : ∃ w2, wc.alloc (trkO t) = w2 := ⟨_, rfl⟩
      rw [hw2] at S1
      rw [hw2] at G1
      rw [hw2]
      clear hw2
      have g0 := G1.out.c0
      have g1 := G1.out.c1
      have g2 := G1.out.c2
      have g3 := G1.out.c3
      have c0 := S1.out.y.c0
      have c1 := S1.out.y.c1
      have c2 := S1.out.y.c2
      have c3 := S1.out.y.c3
      have e0 := S1.out.y.frozen 0
      have e1 := S1.out.y.frozen 1
      have e2 := S1.out.y.frozen 2
      have e3 := S1.out.y.frozen 3
      go_upto_region 8 with fail
      have S2 := Lib.hid (S1.out.setG g)
      dsimp only [putG] at S2
      clear c0 c1 c2 c3 e0 e1 e2 e3 g0 g1 g2 g3 S1 G1 N1
      obtain ⟨w3, hw3⟩ : ∃ w3, (((w2.setCell ⟨b2, 0, none⟩ (.int .i64 g.1)).setCell ⟨b2, 1, none⟩ (.int .i64 g.2.1)).setCell ⟨b2, 2, none⟩ (.bool g.2.2.1)).setCell ⟨b2, 3, none⟩ (.bool g.2.2.2) = w3 := ⟨_, rfl⟩
      rw [hw3] at S2
      rw [hw3]
      clear hw3
      have c4 := S2.out.five.t.c4
      have c5 := S2.out.five.t.c5
      have c6 := S2.out.five.t.c6
      have c7 := S2.out.five.t.c7
      go_wp2_with fail
      refine (C4.out _).mono ?_
      rintro e w4 ⟨rfl, hb⟩
      have S3 := Lib.hid (S2.out.more hb)
      clear hb S2 C4 c4 c5 c6 c7
      have c4 := S3.out.y.c4
      have c5 := S3.out.y.c5
      have c6 := S3.out.y.c6
      have c7 := S3.out.y.c7
      have e4 := S3.out.y.frozen 4
      have e5 := S3.out.y.frozen 5
      have e6 := S3.out.y.frozen 6
      have e7 := S3.out.y.frozen 7
      go_upto_region 9 with fail
      have S4 := Lib.hid (S3.out.setC c)
      dsimp only [putC] at S4
      clear S3 c4 c5 c6 c7 e4 e5 e6 e7
      obtain ⟨w5, hw5⟩ : ∃ w5, (((w4.setCell ⟨b2, 4, none⟩ (.bool c.1)).setCell ⟨b2, 5, none⟩ (.int .u16 c.2.1)).setCell ⟨b2, 6, none⟩ (.int .u16 c.2.2.1)).setCell ⟨b2, 7, none⟩ (.int .u16 c.2.2.2) = w5 := ⟨_, rfl⟩
      rw [hw5] at S4
      rw [hw5]
      clear hw5
      have c8 := S4.out.five.t.c8
      have c9 := S4.out.five.t.c9
      have c10 := S4.out.five.t.c10
      have g3 := S4.out.five.q.c3
      go_wp2_with fail
      refine (C5.out _).mono ?_
      rintro e w6 ⟨rfl, hb⟩
      have S5 := Lib.hid (S4.out.more hb)
      clear hb S4 C5 g3 c8 c9 c10
      have c8 := S5.out.y.c8
      have c9 := S5.out.y.c9
      have c10 := S5.out.y.c10
      have e8 := S5.out.y.frozen 8
      have e9 := S5.out.y.frozen 9
      have e10 := S5.out.y.frozen 10
      go_upto_region 10 with fail
      have S6 := Lib.hid (S5.out.setK k)
      dsimp only [putK] at S6
      clear S5 c8 c9 c10 e8 e9 e10
      obtain ⟨w7, hw7⟩ : ∃ w7, ((w6.setCell ⟨b2, 8, none⟩ (.bool k.1)).setCell ⟨b2, 9, none⟩ (.int .u32 k.2.1)).setCell ⟨b2, 10, none⟩ (.int .u32 k.2.2) = w7 := ⟨_, rfl⟩
      rw [hw7] at S6
      rw [hw7]
      clear hw7
      have c0 := S6.out.y.c0
      have c1 := S6.out.y.c1
      have c2 := S6.out.y.c2
      have c3 := S6.out.y.c3
      have c4 := S6.out.y.c4
      have c5 := S6.out.y.c5
      have c6 := S6.out.y.c6
      have c7 := S6.out.y.c7
      have c8 := S6.out.y.c8
      have c9 := S6.out.y.c9
      have c10 := S6.out.y.c10
      have c11 := S6.out.y.c11
      have c12 := S6.out.y.c12
      have c13 := S6.out.y.c13
      have c14 := S6.out.y.c14
      have g0 := S6.out.five.q.c0
      have g1 := S6.out.five.q.c1
      have g2 := S6.out.five.q.c2
      have g3 := S6.out.five.q.c3
      have g4 := S6.out.five.q.c4
      have g5 := S6.out.five.q.c5
      have g6 := S6.out.five.q.c6
      have g7 := S6.out.five.q.c7
      have g8 := S6.out.five.q.c8
      have g9 := S6.out.five.q.c9
      have g10 := S6.out.five.q.c10
      have d0 := S6.out.five.d.c0
      have d1 := S6.out.five.d.c1
      have d2 := S6.out.five.d.c2
      have d3 := S6.out.five.d.c3
      go_wp2_with fail
      refine (C3.out _).mono ?_
      rintro e w8 ⟨rfl, hb⟩
      have F2 := Lib.hid (S6.out.more hb).five
      clear hb S6 C3 c0 c1 c2 c3 c4 c5 c6 c7 c8 c9 c10 c11 c12 c13 c14 g0 g1 g2 g3 g4 g5 g6 g7 g8 g9 g10 d0 d1 d2 d3
      have c0 := F2.out.u.c0
      have c1 := F2.out.u.c1
      have c2 := F2.out.u.c2
      have c3 := F2.out.u.c3
      have c4 := F2.out.u.c4
      have c5 := F2.out.u.c5
      have c6 := F2.out.u.c6
      have c7 := F2.out.u.c7
      have c8 := F2.out.u.c8
      have c9 := F2.out.u.c9
      have c10 := F2.out.u.c10
      have c11 := F2.out.u.c11
      have c12 := F2.out.u.c12
      have c13 := F2.out.u.c13
      have c14 := F2.out.u.c14
      have e0 := F2.out.u.frozen 0
      have e1 := F2.out.u.frozen 1
      have e2 := F2.out.u.frozen 2
      have e3 := F2.out.u.frozen 3
      have e4 := F2.out.u.frozen 4
      have e5 := F2.out.u.frozen 5
      have e6 := F2.out.u.frozen 6
      have e7 := F2.out.u.frozen 7
      have e8 := F2.out.u.frozen 8
      have e9 := F2.out.u.frozen 9
      have e10 := F2.out.u.frozen 10
      have e11 := F2.out.u.frozen 11
      have e12 := F2.out.u.frozen 12
      have e13 := F2.out.u.frozen 13
      have e14 := F2.out.u.frozen 14
      have g0 := F2.out.p.c0
      have g1 := F2.out.p.c1
      have g2 := F2.out.p.c2
      have g3 := F2.out.p.c3
      have k0 := F2.out.p.frozen 0
      have k1 := F2.out.p.frozen 1
      have k2 := F2.out.p.frozen 2
      have k3 := F2.out.p.frozen 3
      have HD := Lib.hid ((F2.out.putU y).putQ r)
      clear F2
      go_wp2
      exact ret3_at Try.results9 HD.out.u HD.out.p ⟨rfl, HD.out.bel⟩
    have q2 : (v == 2) = false := by simpa using h2
    rw [if_neg h2] at HY
    obtain ⟨rfl, rfl, rfl⟩ : t = y ∧ pc0 = r ∧ v = n := by
      have := HY.out
      simp only [Prod.mk.injEq] at this
      exact ⟨this.1, by rw [← this.2.1], this.2.2⟩
    have c0 := hz.out.1.t.c0
    have c1 := hz.out.1.t.c1
    have c2 := hz.out.1.t.c2
    have c3 := hz.out.1.t.c3
    have c4 := hz.out.1.t.c4
    have c5 := hz.out.1.t.c5
    have c6 := hz.out.1.t.c6
    have c7 := hz.out.1.t.c7
    have c8 := hz.out.1.t.c8
    have c9 := hz.out.1.t.c9
    have c10 := hz.out.1.t.c10
    have c11 := hz.out.1.t.c11
    have c12 := hz.out.1.t.c12
    have c13 := hz.out.1.t.c13
    have c14 := hz.out.1.t.c14
    have d0 := hz.out.1.u.c0
    have d1 := hz.out.1.u.c1
    have d2 := hz.out.1.u.c2
    have d3 := hz.out.1.u.c3
    have d4 := hz.out.1.u.c4
    have d5 := hz.out.1.u.c5
    have d6 := hz.out.1.u.c6
    have d7 := hz.out.1.u.c7
    have d8 := hz.out.1.u.c8
    have d9 := hz.out.1.u.c9
    have d10 := hz.out.1.u.c10
    have d11 := hz.out.1.u.c11
    have d12 := hz.out.1.u.c12
    have d13 := hz.out.1.u.c13
    have d14 := hz.out.1.u.c14
    have e0 := hz.out.1.u.frozen 0
    have e1 := hz.out.1.u.frozen 1
    have e2 := hz.out.1.u.frozen 2
    have e3 := hz.out.1.u.frozen 3
    have e4 := hz.out.1.u.frozen 4
    have e5 := hz.out.1.u.frozen 5
    have e6 := hz.out.1.u.frozen 6
    have e7 := hz.out.1.u.frozen 7
    have e8 := hz.out.1.u.frozen 8
    have e9 := hz.out.1.u.frozen 9
    have e10 := hz.out.1.u.frozen 10
    have e11 := hz.out.1.u.frozen 11
    have e12 := hz.out.1.u.frozen 12
    have e13 := hz.out.1.u.frozen 13
    have e14 := hz.out.1.u.frozen 14
    have g0 := hz.out.1.p.c0
    have g1 := hz.out.1.p.c1
    have g2 := hz.out.1.p.c2
    have g3 := hz.out.1.p.c3
    have k0 := hz.out.1.p.frozen 0
    have k1 := hz.out.1.p.frozen 1
    have k2 := hz.out.1.p.frozen 2
    have k3 := hz.out.1.p.frozen 3
    have HD := Lib.hid ((hz.out.1.putU t).putQ pc0)
    clear hz HY
    go_wp2
    exact ret3_at Try.results9 HD.out.u HD.out.p ⟨rfl, HD.out.bel⟩
end Go.Proofs.Ytolobojidnomfaa.Stp
