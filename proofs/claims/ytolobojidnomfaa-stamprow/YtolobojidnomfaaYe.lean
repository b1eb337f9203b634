/- The contract of stamp.send. -/
import Derived.Test.YtolobojidnomfaaYa
import Derived.Deep.Cut
import Derived.Deep.DeepCutAuto
import Derived.Deep.CutRange
set_option maxRecDepth 100000
namespace Go.Proofs.Ytolobojidnomfaa.Stp
open Go.RowKit Go.Proofs.Ytolobojidnomfaa.Gat Go.Proofs.Ytolobojidnomfaa.Crs Go.Proofs.Ytolobojidnomfaa.Clk Go.Proofs.Ytolobojidnomfaa.Rtp
set_option linter.unusedVariables false

theorem wr16 (x : Int) : IntKind.u16.wrap x = x % 65536 := by simp [IntKind.wrap, IntKind.bits, IntKind.signed]
theorem wr32 (x : Int) : IntKind.u32.wrap x = x % 4294967296 := by simp [IntKind.wrap, IntKind.bits, IntKind.signed]
def frN (fr : Int) (st : Bool) : Int := if st then (fr + 1) % 65536 else fr
/-- A packet that goes on: the track behind it, what is other in it. -/
def sntT (t : TV) (q tm pn : Int) (st : Bool) : TV := ⟨t.g, (stp t.c q).1, stk t.k tm, t.out, frN t.fr st, (t.sn + 1) % 4294967296, (t.oc + pn) % 4294967296⟩
def sntP (t : TV) (q tm : Int) (st : Bool) : Pc := ((stp t.c q).2.1, tim t.k tm, t.out, frN t.fr st)
def snd (t : TV) (q tm pn : Int) (st : Bool) (v : Int) : TV × Pc × Int := if refd t.c q then (t, pc0, 5) else (sntT t q tm pn st, sntP t q tm st, v)
abbrev mdV (r : TV × Pc × Int) : Value := .tuple #[trkV r.1, pcV r.2.1, .int .i64 r.2.2]
set_option maxHeartbeats 8000000 in
theorem send_any (w : World) (t : TV) (p : PV) (d : Ds) (v : Int) : Calls Try.prog 25 #[trkV t, pkt p, dsV d, .int .i64 v] w fun e w' => e = .returned (mdV (snd t p.seq p.time p.pn d.2.2.1 v)) ∧ Below w.heap.size w w' := by
  have C1 := Lib.hid (fun W => Crs.step_any W t.c p.seq)
  have C2 := Lib.hid (fun W => Clk.step_any W t.k p.time)
  obtain ⟨dl, dk, st, df⟩ := d
  have H0 := Lib.hid (Five.lay w t p (dl, dk, st, df))
  unfold snd
  by_cases h : refd t.c p.seq = true
  · rw [if_pos h]
    rw [stp_no h] at C1
    clear h C2
    go_enter Try.func25, Try.ntmps25
    go_wp2_with fail
    refine (C1.out _).mono ?_
    rintro e w1 ⟨rfl, hb⟩
    have F1 := Lib.hid (H0.out.more hb)
    clear hb H0 C1
    go_upto_region 2 with fail
    have F2 := Lib.hid (F1.out.more ((Below.refl _ _).alloc (Nat.le_refl _) (coO t.c)))
    obtain ⟨w2, hw2⟩ : ∃ w2, w1.alloc (coO t.c) = w2 := ⟨_, rfl⟩
    rw [hw2] at F2
    rw [hw2]
    clear hw2
    have c0 := F2.out.t.c0
    have c1 := F2.out.t.c1
    have c2 := F2.out.t.c2
    have c3 := F2.out.t.c3
    have c4 := F2.out.t.c4
    have c5 := F2.out.t.c5
    have c6 := F2.out.t.c6
    have c7 := F2.out.t.c7
    have c8 := F2.out.t.c8
    have c9 := F2.out.t.c9
    have c10 := F2.out.t.c10
    have c11 := F2.out.t.c11
    have c12 := F2.out.t.c12
    have c13 := F2.out.t.c13
    have c14 := F2.out.t.c14
    have d0 := F2.out.u.c0
    have d1 := F2.out.u.c1
    have d2 := F2.out.u.c2
    have d3 := F2.out.u.c3
    have d4 := F2.out.u.c4
    have d5 := F2.out.u.c5
    have d6 := F2.out.u.c6
    have d7 := F2.out.u.c7
    have d8 := F2.out.u.c8
    have d9 := F2.out.u.c9
    have d10 := F2.out.u.c10
    have d11 := F2.out.u.c11
    have d12 := F2.out.u.c12
    have d13 := F2.out.u.c13
    have d14 := F2.out.u.c14
    have e0 := F2.out.u.frozen 0
    have e1 := F2.out.u.frozen 1
    have e2 := F2.out.u.frozen 2
    have e3 := F2.out.u.frozen 3
    have e4 := F2.out.u.frozen 4
    have e5 := F2.out.u.frozen 5
    have e6 := F2.out.u.frozen 6
    have e7 := F2.out.u.frozen 7
    have e8 := F2.out.u.frozen 8
    have e9 := F2.out.u.frozen 9
    have e10 := F2.out.u.frozen 10
    have e11 := F2.out.u.frozen 11
    have e12 := F2.out.u.frozen 12
    have e13 := F2.out.u.frozen 13
    have e14 := F2.out.u.frozen 14
    have g0 := F2.out.p.c0
    have g1 := F2.out.p.c1
    have g2 := F2.out.p.c2
    have g3 := F2.out.p.c3
    have k0 := F2.out.p.frozen 0
    have k1 := F2.out.p.frozen 1
    have k2 := F2.out.p.frozen 2
    have k3 := F2.out.p.frozen 3
    have HD := Lib.hid ((F2.out.putU t).putQ pc0)
    clear F1 F2
    go_wp2
    exact ret3_at Try.results25 HD.out.u HD.out.p ⟨rfl, HD.out.bel⟩
  have h : refd t.c p.seq = false := by simpa using h
  rw [if_neg (by rw [h]; decide)]
  unfold sntT sntP
  obtain ⟨c, n, hs⟩ : ∃ c n, stp t.c p.seq = (c, n, true) := ⟨_, _, stp_yes h⟩
  rw [hs] at C1 ⊢
  obtain ⟨k, hk⟩ : ∃ k, stk t.k p.time = k := ⟨_, rfl⟩
  rw [hk] at C2 ⊢
  obtain ⟨m, hm⟩ : ∃ m, tim t.k p.time = m := ⟨_, rfl⟩
  rw [hm] at C2 ⊢
  clear hs hk hm h
  go_enter Try.func25, Try.ntmps25
  go_wp2_with fail
  refine (C1.out _).mono ?_
  rintro e w1 ⟨rfl, hb⟩
  have F1 := Lib.hid (H0.out.more hb)
  clear hb H0 C1
  go_upto_region 2 with fail
  have hx := (Below.refl w1.heap.size w1).alloc (Nat.le_refl _) (coO c)
  have F2 := Lib.hid (F1.out.more hx)
  have D1 := Lib.hid (Crs.CBlk.new w1 c)
  have L1 := F1.out.p.lt
  obtain ⟨b1, hb1⟩ : ∃ b, w1.heap.size = b := ⟨_, rfl⟩
  rw [hb1] at D1 L1
  rw [hb1]
  clear hb1 hx F1
  obtain ⟨w2, hw2⟩ : ∃ w2, w1.alloc (coO c) = w2 := ⟨_, rfl⟩
  rw [hw2] at F2
  rw [hw2] at D1
  rw [hw2]
  clear hw2
  have c8 := F2.out.t.c8
  have c9 := F2.out.t.c9
  have c10 := F2.out.t.c10
  have g3 := F2.out.q.c3
  go_wp2_with fail
  refine (C2.out _).mono ?_
  rintro e w3 ⟨rfl, hb⟩
  clear c8 c9 c10 g3
  have F3 := Lib.hid (F2.out.more hb)
  replace D1 := Lib.hid (D1.out.bel hb D1.out.lt)
  clear hb F2 C2
  go_upto_region 5 with fail
  have hx := (Below.refl w3.heap.size w3).alloc (Nat.le_refl _) (ckO k)
  have F4 := Lib.hid (F3.out.more hx)
  have D2 := Lib.hid (Clk.CBlk.new w3 k)
  have L2 := D1.out.lt
  replace D1 := Lib.hid (D1.out.bel hx D1.out.lt)
  obtain ⟨b2, hb2⟩ : ∃ b, w3.heap.size = b := ⟨_, rfl⟩
  rw [hb2] at D2 L2
  rw [hb2]
  clear hb2 hx F3
  obtain ⟨w4, hw4⟩ : ∃ w4, w3.alloc (ckO k) = w4 := ⟨_, rfl⟩
  rw [hw4] at F4
  rw [hw4] at D1
  rw [hw4] at D2
  rw [hw4]
  clear hw4
  replace F4 := Lib.hid (F4.out.more (Below.refl _ _).drew)
  replace D1 := Lib.hid (D1.out.bel (Below.refl _ _).drew D1.out.lt)
  replace D2 := Lib.hid (D2.out.bel (Below.refl _ _).drew D2.out.lt)
  have f0 : ∀ W, Crs.CBlk W b1 c ∧ Clk.CBlk W b2 k → W.cell? ⟨b1, 0, none⟩ = some (.bool c.1) := fun W hW => hW.1.c0
  have f1 : ∀ W, Crs.CBlk W b1 c ∧ Clk.CBlk W b2 k → W.cell? ⟨b1, 1, none⟩ = some (.int .u16 c.2.1) := fun W hW => hW.1.c1
  have f2 : ∀ W, Crs.CBlk W b1 c ∧ Clk.CBlk W b2 k → W.cell? ⟨b1, 2, none⟩ = some (.int .u16 c.2.2.1) := fun W hW => hW.1.c2
  have f3 : ∀ W, Crs.CBlk W b1 c ∧ Clk.CBlk W b2 k → W.cell? ⟨b1, 3, none⟩ = some (.int .u16 c.2.2.2) := fun W hW => hW.1.c3
  have k0 : ∀ W, Crs.CBlk W b1 c ∧ Clk.CBlk W b2 k → W.cell? ⟨b2, 0, none⟩ = some (.bool k.1) := fun W hW => hW.2.c0
  have k1 : ∀ W, Crs.CBlk W b1 c ∧ Clk.CBlk W b2 k → W.cell? ⟨b2, 1, none⟩ = some (.int .u32 k.2.1) := fun W hW => hW.2.c1
  have k2 : ∀ W, Crs.CBlk W b1 c ∧ Clk.CBlk W b2 k → W.cell? ⟨b2, 2, none⟩ = some (.int .u32 k.2.2) := fun W hW => hW.2.c2
  refine region_seq (fun W => Crs.CBlk W b1 c ∧ Clk.CBlk W b2 k) [(0, false), (1, false), (2, false), (3, true), (4, false), (5, true)] (by kernel_rfl) (by kernel_rfl) rfl (by kernel_rfl) ?_
  obtain ⟨we, hwe⟩ : ∃ we, w4.drew = we := ⟨_, rfl⟩
  rw [hwe] at F4
  rw [hwe] at D1
  rw [hwe] at D2
  rw [hwe]
  clear hwe
  have hS := And.intro D1.out D2.out
  have hS1 : Crs.CBlk (putC we w.heap.size c) b1 c ∧ Clk.CBlk (putC we w.heap.size c) b2 k := ⟨Co_beside D1.out (by omega) (beside_putC we _ c), Ck_beside D2.out (by omega) (beside_putC we _ c)⟩
  have hS2 : Crs.CBlk (putK (putC we w.heap.size c) w.heap.size k) b1 c ∧ Clk.CBlk (putK (putC we w.heap.size c) w.heap.size k) b2 k := ⟨Co_beside hS1.1 (by omega) (beside_putK _ _ k), Ck_beside hS1.2 (by omega) (beside_putK _ _ k)⟩
  have F5 := Lib.hid (F4.out.setC c)
  have F6 := Lib.hid (F5.out.setK k)
  dsimp only [putC, putK] at hS1 hS2 F5 F6
  clear D1 D2
  iterate 3 (refine seq_read (v := _) rfl (fun _ _ _ h => h) hS (Or.inl ⟨by rfl, fun W hW => by go_simp <;> with_reducible rfl⟩) ?_; simp only [Act.put, List.setIfInBounds_toArray, List.set_cons_zero, List.set_cons_succ])
  have d4 := F4.out.t.c4
  have d5 := F4.out.t.c5
  have d6 := F4.out.t.c6
  have d7 := F4.out.t.c7
  have e4 := F4.out.t.frozen 4
  have e5 := F4.out.t.frozen 5
  have e6 := F4.out.t.frozen 6
  have e7 := F4.out.t.frozen 7
  refine seq_do rfl (fun K hK => ?_)
  go_simp
  refine hK.out _ _ _ (fun W h => h) hS1 ?_
  clear hK K hS F4 d4 d5 d6 d7 e4 e5 e6 e7
  obtain ⟨u1, hu1⟩ : ∃ u1, (((we.setCell ⟨w.heap.size, 4, none⟩ (.bool c.1)).setCell ⟨w.heap.size, 5, none⟩ (.int .u16 c.2.1)).setCell ⟨w.heap.size, 6, none⟩ (.int .u16 c.2.2.1)).setCell ⟨w.heap.size, 7, none⟩ (.int .u16 c.2.2.2) = u1 := ⟨_, rfl⟩
  rw [hu1] at F5
  rw [hu1] at F6
  rw [hu1] at hS1
  rw [hu1] at hS2
  rw [hu1]
  clear hu1
  have d8 := F5.out.t.c8
  have d9 := F5.out.t.c9
  have d10 := F5.out.t.c10
  have e8 := F5.out.t.frozen 8
  have e9 := F5.out.t.frozen 9
  have e10 := F5.out.t.frozen 10
  have hS := hS1
  iterate 1 (refine seq_read (v := _) rfl (fun _ _ _ h => h) hS (Or.inl ⟨by rfl, fun W hW => by go_simp <;> with_reducible rfl⟩) ?_; simp only [Act.put, List.setIfInBounds_toArray, List.set_cons_zero, List.set_cons_succ])
  refine seq_do rfl (fun K hK => ?_)
  go_simp
  refine hK.out _ _ _ (fun W h => h) hS2 ?_
  clear hK K hS hS1 hS2 F5 d8 d9 d10 e8 e9 e10 f0 f1 f2 f3 k0 k1 k2
  obtain ⟨u2, hu2⟩ : ∃ u2, ((u1.setCell ⟨w.heap.size, 8, none⟩ (.bool k.1)).setCell ⟨w.heap.size, 9, none⟩ (.int .u32 k.2.1)).setCell ⟨w.heap.size, 10, none⟩ (.int .u32 k.2.2) = u2 := ⟨_, rfl⟩
  rw [hu2] at F6
  rw [hu2]
  clear hu2
  refine seq_end ?_
  cases st with
  | true =>
    have c12 := F6.out.t.c12
    have e12 := F6.out.t.frozen 12
    have g2 := F6.out.d.c2
    have q12 := wr16 (t.fr + 1)
    go_upto_region 8 with fail
    have F7 := Lib.hid (F6.out.setF ((t.fr + 1) % 65536))
    clear c12 e12 g2 q12 F6
    obtain ⟨u3, hu3⟩ : ∃ u3, u2.setCell ⟨w.heap.size, 12, none⟩ (.int .u16 ((t.fr + 1) % 65536)) = u3 := ⟨_, rfl⟩
    rw [hu3] at F7
    rw [hu3]
    clear hu3
    have c13 := F7.out.t.c13
    have e13 := F7.out.t.frozen 13
    have q13 := wr32 (t.sn + 1)
    go_upto_region 9 with fail
    have F8 := Lib.hid (F7.out.setS ((t.sn + 1) % 4294967296))
    clear c13 e13 q13 F7
    obtain ⟨u4, hu4⟩ : ∃ u4, u3.setCell ⟨w.heap.size, 13, none⟩ (.int .u32 ((t.sn + 1) % 4294967296)) = u4 := ⟨_, rfl⟩
    rw [hu4] at F8
    rw [hu4]
    clear hu4
    have c14 := F8.out.t.c14
    have e14 := F8.out.t.frozen 14
    have g9 := F8.out.q.c9
    have q14 : (t.oc + (p.pn : Int) % 4294967296) % 4294967296 = (t.oc + p.pn) % 4294967296 := by omega
    have q15 := wr32 (p.pn : Int)
    have q16 := wr32 (t.oc + (p.pn : Int) % 4294967296)
    rw [q14] at q16
    go_upto_region 10 with fail
    have F9 := Lib.hid (F8.out.setO ((t.oc + p.pn) % 4294967296))
    clear c14 e14 g9 q14 q15 q16 F8
    obtain ⟨u5, hu5⟩ : ∃ u5, u4.setCell ⟨w.heap.size, 14, none⟩ (.int .u32 ((t.oc + p.pn) % 4294967296)) = u5 := ⟨_, rfl⟩
    rw [hu5] at F9
    rw [hu5]
    clear hu5
    obtain ⟨y, hy⟩ : ∃ y : TV, ⟨t.g, c, k, t.out, (t.fr + 1) % 65536, (t.sn + 1) % 4294967296, (t.oc + p.pn) % 4294967296⟩ = y := ⟨_, rfl⟩
    replace F9 : Hid (Five w u5 y p (dl, dk, true, df) tv0 pc0) := by rw [← hy]; exact F9
    replace F9 := Lib.hid (F9.out.more (Below.refl _ _).drew)
    have HY := Lib.hid hy
    clear hy
    have f0 : ∀ W, TBlk W w.heap.size y → W.cell? ⟨w.heap.size, 0, none⟩ = some (.int .i64 y.g.1) := fun W hW => hW.c0
    have f1 : ∀ W, TBlk W w.heap.size y → W.cell? ⟨w.heap.size, 1, none⟩ = some (.int .i64 y.g.2.1) := fun W hW => hW.c1
    have f2 : ∀ W, TBlk W w.heap.size y → W.cell? ⟨w.heap.size, 2, none⟩ = some (.bool y.g.2.2.1) := fun W hW => hW.c2
    have f3 : ∀ W, TBlk W w.heap.size y → W.cell? ⟨w.heap.size, 3, none⟩ = some (.bool y.g.2.2.2) := fun W hW => hW.c3
    have f4 : ∀ W, TBlk W w.heap.size y → W.cell? ⟨w.heap.size, 4, none⟩ = some (.bool y.c.1) := fun W hW => hW.c4
    have f5 : ∀ W, TBlk W w.heap.size y → W.cell? ⟨w.heap.size, 5, none⟩ = some (.int .u16 y.c.2.1) := fun W hW => hW.c5
    have f6 : ∀ W, TBlk W w.heap.size y → W.cell? ⟨w.heap.size, 6, none⟩ = some (.int .u16 y.c.2.2.1) := fun W hW => hW.c6
    have f7 : ∀ W, TBlk W w.heap.size y → W.cell? ⟨w.heap.size, 7, none⟩ = some (.int .u16 y.c.2.2.2) := fun W hW => hW.c7
    have f8 : ∀ W, TBlk W w.heap.size y → W.cell? ⟨w.heap.size, 8, none⟩ = some (.bool y.k.1) := fun W hW => hW.c8
    have f9 : ∀ W, TBlk W w.heap.size y → W.cell? ⟨w.heap.size, 9, none⟩ = some (.int .u32 y.k.2.1) := fun W hW => hW.c9
    have f10 : ∀ W, TBlk W w.heap.size y → W.cell? ⟨w.heap.size, 10, none⟩ = some (.int .u32 y.k.2.2) := fun W hW => hW.c10
    have f11 : ∀ W, TBlk W w.heap.size y → W.cell? ⟨w.heap.size, 11, none⟩ = some (.int .u32 y.out) := fun W hW => hW.c11
    have f12 : ∀ W, TBlk W w.heap.size y → W.cell? ⟨w.heap.size, 12, none⟩ = some (.int .u16 y.fr) := fun W hW => hW.c12
    have f13 : ∀ W, TBlk W w.heap.size y → W.cell? ⟨w.heap.size, 13, none⟩ = some (.int .u32 y.sn) := fun W hW => hW.c13
    have f14 : ∀ W, TBlk W w.heap.size y → W.cell? ⟨w.heap.size, 14, none⟩ = some (.int .u32 y.oc) := fun W hW => hW.c14
    refine region_seq (fun W => TBlk W w.heap.size y) [(0, false), (1, false), (2, false), (3, false), (4, false), (5, false), (6, false), (7, false), (8, false), (9, true), (10, true), (11, false)] (by kernel_rfl) (by kernel_rfl) rfl (by kernel_rfl) ?_
    obtain ⟨ue, hue⟩ : ∃ ue, u5.drew = ue := ⟨_, rfl⟩
    rw [hue] at F9
    rw [hue]
    clear hue
    have hS := F9.out.t
    have F10 := Lib.hid (F9.out.putU y)
    have hS1 := F10.out.t
    have F11 := Lib.hid (F10.out.putQ (n, m, y.out, y.fr))
    have hS2 := F11.out.t
    dsimp only [putT, putP] at F10 F11 hS1 hS2
    iterate 9 (refine seq_read (v := _) rfl (fun _ _ _ h => h) hS (Or.inl ⟨by rfl, fun W hW => by go_simp <;> with_reducible rfl⟩) ?_; simp only [Act.put, List.setIfInBounds_toArray, List.set_cons_zero, List.set_cons_succ])
    have d0 := F9.out.u.c0
    have d1 := F9.out.u.c1
    have d2 := F9.out.u.c2
    have d3 := F9.out.u.c3
    have d4 := F9.out.u.c4
    have d5 := F9.out.u.c5
    have d6 := F9.out.u.c6
    have d7 := F9.out.u.c7
    have d8 := F9.out.u.c8
    have d9 := F9.out.u.c9
    have d10 := F9.out.u.c10
    have d11 := F9.out.u.c11
    have d12 := F9.out.u.c12
    have d13 := F9.out.u.c13
    have d14 := F9.out.u.c14
    have e0 := F9.out.u.frozen 0
    have e1 := F9.out.u.frozen 1
    have e2 := F9.out.u.frozen 2
    have e3 := F9.out.u.frozen 3
    have e4 := F9.out.u.frozen 4
    have e5 := F9.out.u.frozen 5
    have e6 := F9.out.u.frozen 6
    have e7 := F9.out.u.frozen 7
    have e8 := F9.out.u.frozen 8
    have e9 := F9.out.u.frozen 9
    have e10 := F9.out.u.frozen 10
    have e11 := F9.out.u.frozen 11
    have e12 := F9.out.u.frozen 12
    have e13 := F9.out.u.frozen 13
    have e14 := F9.out.u.frozen 14
    refine seq_do rfl (fun K hK => ?_)
    go_simp
    refine hK.out _ _ _ (fun W h => h) hS1 ?_
    clear hK K hS F9 d0 d1 d2 d3 d4 d5 d6 d7 d8 d9 d10 d11 d12 d13 d14 e0 e1 e2 e3 e4 e5 e6 e7 e8 e9 e10 e11 e12 e13 e14
    obtain ⟨v1, hv1⟩ : ∃ v1, ((((((((((((((ue.setCell ⟨w.heap.size + 1 + 1 + 1, 0, none⟩ (.int .i64 y.g.1)).setCell ⟨w.heap.size + 1 + 1 + 1, 1, none⟩ (.int .i64 y.g.2.1)).setCell ⟨w.heap.size + 1 + 1 + 1, 2, none⟩ (.bool y.g.2.2.1)).setCell ⟨w.heap.size + 1 + 1 + 1, 3, none⟩ (.bool y.g.2.2.2)).setCell ⟨w.heap.size + 1 + 1 + 1, 4, none⟩ (.bool y.c.1)).setCell ⟨w.heap.size + 1 + 1 + 1, 5, none⟩ (.int .u16 y.c.2.1)).setCell ⟨w.heap.size + 1 + 1 + 1, 6, none⟩ (.int .u16 y.c.2.2.1)).setCell ⟨w.heap.size + 1 + 1 + 1, 7, none⟩ (.int .u16 y.c.2.2.2)).setCell ⟨w.heap.size + 1 + 1 + 1, 8, none⟩ (.bool y.k.1)).setCell ⟨w.heap.size + 1 + 1 + 1, 9, none⟩ (.int .u32 y.k.2.1)).setCell ⟨w.heap.size + 1 + 1 + 1, 10, none⟩ (.int .u32 y.k.2.2)).setCell ⟨w.heap.size + 1 + 1 + 1, 11, none⟩ (.int .u32 y.out)).setCell ⟨w.heap.size + 1 + 1 + 1, 12, none⟩ (.int .u16 y.fr)).setCell ⟨w.heap.size + 1 + 1 + 1, 13, none⟩ (.int .u32 y.sn)).setCell ⟨w.heap.size + 1 + 1 + 1, 14, none⟩ (.int .u32 y.oc) = v1 := ⟨_, rfl⟩
    rw [hv1] at F10
    rw [hv1] at F11
    rw [hv1] at hS1
    rw [hv1] at hS2
    rw [hv1]
    clear hv1
    have d0 := F10.out.p.c0
    have d1 := F10.out.p.c1
    have d2 := F10.out.p.c2
    have d3 := F10.out.p.c3
    have e0 := F10.out.p.frozen 0
    have e1 := F10.out.p.frozen 1
    have e2 := F10.out.p.frozen 2
    have e3 := F10.out.p.frozen 3
    have hS := hS1
    refine seq_do rfl (fun K hK => ?_)
    go_simp
    refine hK.out _ _ _ (fun W h => h) hS2 ?_
    clear hK K hS hS1 F10 d0 d1 d2 d3 e0 e1 e2 e3
    obtain ⟨v2, hv2⟩ : ∃ v2, (((v1.setCell ⟨w.heap.size + 1 + 1 + 1 + 1, 0, none⟩ (.int .u16 n)).setCell ⟨w.heap.size + 1 + 1 + 1 + 1, 1, none⟩ (.int .u32 m)).setCell ⟨w.heap.size + 1 + 1 + 1 + 1, 2, none⟩ (.int .u32 y.out)).setCell ⟨w.heap.size + 1 + 1 + 1 + 1, 3, none⟩ (.int .u16 y.fr) = v2 := ⟨_, rfl⟩
    rw [hv2] at F11
    rw [hv2] at hS2
    rw [hv2]
    clear hv2
    have hS := hS2
    iterate 1 (refine seq_read (v := _) rfl (fun _ _ _ h => h) hS (Or.inl ⟨by rfl, fun W hW => by go_simp <;> with_reducible rfl⟩) ?_; simp only [Act.put, List.setIfInBounds_toArray, List.set_cons_zero, List.set_cons_succ])
    refine seq_end ?_
    go_wp2
    exact ret3_at Try.results25 F11.out.u F11.out.p ⟨by rw [← HY.out]; rfl, F11.out.bel⟩
  | false =>
    have g2 := F6.out.d.c2
    go_upto_region 8 with fail
    clear g2
    have c13 := F6.out.t.c13
    have e13 := F6.out.t.frozen 13
    have q13 := wr32 (t.sn + 1)
    go_upto_region 9 with fail
    have F8 := Lib.hid (F6.out.setS ((t.sn + 1) % 4294967296))
    clear c13 e13 q13 F6
    obtain ⟨u4, hu4⟩ : ∃ u4, u2.setCell ⟨w.heap.size, 13, none⟩ (.int .u32 ((t.sn + 1) % 4294967296)) = u4 := ⟨_, rfl⟩
    rw [hu4] at F8
    rw [hu4]
    clear hu4
    have c14 := F8.out.t.c14
    have e14 := F8.out.t.frozen 14
    have g9 := F8.out.q.c9
    have q14 : (t.oc + (p.pn : Int) % 4294967296) % 4294967296 = (t.oc + p.pn) % 4294967296 := by omega
    have q15 := wr32 (p.pn : Int)
    have q16 := wr32 (t.oc + (p.pn : Int) % 4294967296)
    rw [q14] at q16
    go_upto_region 10 with fail
    have F9 := Lib.hid (F8.out.setO ((t.oc + p.pn) % 4294967296))
    clear c14 e14 g9 q14 q15 q16 F8
    obtain ⟨u5, hu5⟩ : ∃ u5, u4.setCell ⟨w.heap.size, 14, none⟩ (.int .u32 ((t.oc + p.pn) % 4294967296)) = u5 := ⟨_, rfl⟩
    rw [hu5] at F9
    rw [hu5]
    clear hu5
    obtain ⟨y, hy⟩ : ∃ y : TV, ⟨t.g, c, k, t.out, t.fr, (t.sn + 1) % 4294967296, (t.oc + p.pn) % 4294967296⟩ = y := ⟨_, rfl⟩
    replace F9 : Hid (Five w u5 y p (dl, dk, false, df) tv0 pc0) := by rw [← hy]; exact F9
    replace F9 := Lib.hid (F9.out.more (Below.refl _ _).drew)
    have HY := Lib.hid hy
    clear hy
    have f0 : ∀ W, TBlk W w.heap.size y → W.cell? ⟨w.heap.size, 0, none⟩ = some (.int .i64 y.g.1) := fun W hW => hW.c0
    have f1 : ∀ W, TBlk W w.heap.size y → W.cell? ⟨w.heap.size, 1, none⟩ = some (.int .i64 y.g.2.1) := fun W hW => hW.c1
    have f2 : ∀ W, TBlk W w.heap.size y → W.cell? ⟨w.heap.size, 2, none⟩ = some (.bool y.g.2.2.1) := fun W hW => hW.c2
    have f3 : ∀ W, TBlk W w.heap.size y → W.cell? ⟨w.heap.size, 3, none⟩ = some (.bool y.g.2.2.2) := fun W hW => hW.c3
    have f4 : ∀ W, TBlk W w.heap.size y → W.cell? ⟨w.heap.size, 4, none⟩ = some (.bool y.c.1) := fun W hW => hW.c4
    have f5 : ∀ W, TBlk W w.heap.size y → W.cell? ⟨w.heap.size, 5, none⟩ = some (.int .u16 y.c.2.1) := fun W hW => hW.c5
    have f6 : ∀ W, TBlk W w.heap.size y → W.cell? ⟨w.heap.size, 6, none⟩ = some (.int .u16 y.c.2.2.1) := fun W hW => hW.c6
    have f7 : ∀ W, TBlk W w.heap.size y → W.cell? ⟨w.heap.size, 7, none⟩ = some (.int .u16 y.c.2.2.2) := fun W hW => hW.c7
    have f8 : ∀ W, TBlk W w.heap.size y → W.cell? ⟨w.heap.size, 8, none⟩ = some (.bool y.k.1) := fun W hW => hW.c8
    have f9 : ∀ W, TBlk W w.heap.size y → W.cell? ⟨w.heap.size, 9, none⟩ = some (.int .u32 y.k.2.1) := fun W hW => hW.c9
    have f10 : ∀ W, TBlk W w.heap.size y → W.cell? ⟨w.heap.size, 10, none⟩ = some (.int .u32 y.k.2.2) := fun W hW => hW.c10
    have f11 : ∀ W, TBlk W w.heap.size y → W.cell? ⟨w.heap.size, 11, none⟩ = some (.int .u32 y.out) := fun W hW => hW.c11
    have f12 : ∀ W, TBlk W w.heap.size y → W.cell? ⟨w.heap.size, 12, none⟩ = some (.int .u16 y.fr) := fun W hW => hW.c12
    have f13 : ∀ W, TBlk W w.heap.size y → W.cell? ⟨w.heap.size, 13, none⟩ = some (.int .u32 y.sn) := fun W hW => hW.c13
    have f14 : ∀ W, TBlk W w.heap.size y → W.cell? ⟨w.heap.size, 14, none⟩ = some (.int .u32 y.oc) := fun W hW => hW.c14
    refine region_seq (fun W => TBlk W w.heap.size y) [(0, false), (1, false), (2, false), (3, false), (4, false), (5, false), (6, false), (7, false), (8, false), (9, true), (10, true), (11, false)] (by kernel_rfl) (by kernel_rfl) rfl (by kernel_rfl) ?_
    obtain ⟨ue, hue⟩ : ∃ ue, u5.drew = ue := ⟨_, rfl⟩
    rw [hue] at F9
    rw [hue]
    clear hue
    have hS := F9.out.t
    have F10 := Lib.hid (F9.out.putU y)
    have hS1 := F10.out.t
    have F11 := Lib.hid (F10.out.putQ (n, m, y.out, y.fr))
    have hS2 := F11.out.t
    dsimp only [putT, putP] at F10 F11 hS1 hS2
    iterate 9 (refine seq_read (v := _) rfl (fun _ _ _ h => h) hS (Or.inl ⟨by rfl, fun W hW => by go_simp <;> with_reducible rfl⟩) ?_; simp only [Act.put, List.setIfInBounds_toArray, List.set_cons_zero, List.set_cons_succ])
    have d0 := F9.out.u.c0
    have d1 := F9.out.u.c1
    have d2 := F9.out.u.c2
    have d3 := F9.out.u.c3
    have d4 := F9.out.u.c4
    have d5 := F9.out.u.c5
    have d6 := F9.out.u.c6
    have d7 := F9.out.u.c7
    have d8 := F9.out.u.c8
    have d9 := F9.out.u.c9
    have d10 := F9.out.u.c10
    have d11 := F9.out.u.c11
    have d12 := F9.out.u.c12
    have d13 := F9.out.u.c13
    have d14 := F9.out.u.c14
    have e0 := F9.out.u.frozen 0
    have e1 := F9.out.u.frozen 1
    have e2 := F9.out.u.frozen 2
    have e3 := F9.out.u.frozen 3
    have e4 := F9.out.u.frozen 4
    have e5 := F9.out.u.frozen 5
    have e6 := F9.out.u.frozen 6
    have e7 := F9.out.u.frozen 7
    have e8 := F9.out.u.frozen 8
    have e9 := F9.out.u.frozen 9
    have e10 := F9.out.u.frozen 10
    have e11 := F9.out.u.frozen 11
    have e12 := F9.out.u.frozen 12
    have e13 := F9.out.u.frozen 13
    have e14 := F9.out.u.frozen 14
    refine seq_do rfl (fun K hK => ?_)
    go_simp
    refine hK.out _ _ _ (fun W h => h) hS1 ?_
    clear hK K hS F9 d0 d1 d2 d3 d4 d5 d6 d7 d8 d9 d10 d11 d12 d13 d14 e0 e1 e2 e3 e4 e5 e6 e7 e8 e9 e10 e11 e12 e13 e14
    obtain ⟨v1, hv1⟩ : ∃ v1, ((((((((((((((ue.setCell ⟨w.heap.size + 1 + 1 + 1, 0, none⟩ (.int .i64 y.g.1)).setCell ⟨w.heap.size + 1 + 1 + 1, 1, none⟩ (.int .i64 y.g.2.1)).setCell ⟨w.heap.size + 1 + 1 + 1, 2, none⟩ (.bool y.g.2.2.1)).setCell ⟨w.heap.size + 1 + 1 + 1, 3, none⟩ (.bool y.g.2.2.2)).setCell ⟨w.heap.size + 1 + 1 + 1, 4, none⟩ (.bool y.c.1)).setCell ⟨w.heap.size + 1 + 1 + 1, 5, none⟩ (.int .u16 y.c.2.1)).setCell ⟨w.heap.size + 1 + 1 + 1, 6, none⟩ (.int .u16 y.c.2.2.1)).setCell ⟨w.heap.size + 1 + 1 + 1, 7, none⟩ (.int .u16 y.c.2.2.2)).setCell ⟨w.heap.size + 1 + 1 + 1, 8, none⟩ (.bool y.k.1)).setCell ⟨w.heap.size + 1 + 1 + 1, 9, none⟩ (.int .u32 y.k.2.1)).setCell ⟨w.heap.size + 1 + 1 + 1, 10, none⟩ (.int .u32 y.k.2.2)).setCell ⟨w.heap.size + 1 + 1 + 1, 11, none⟩ (.int .u32 y.out)).setCell ⟨w.heap.size + 1 + 1 + 1, 12, none⟩ (.int .u16 y.fr)).setCell ⟨w.heap.size + 1 + 1 + 1, 13, none⟩ (.int .u32 y.sn)).setCell ⟨w.heap.size + 1 + 1 + 1, 14, none⟩ (.int .u32 y.oc) = v1 := ⟨_, rfl⟩
    rw [hv1] at F10
    rw [hv1] at F11
    rw [hv1] at hS1
    rw [hv1] at hS2
    rw [hv1]
    clear hv1
    have d0 := F10.out.p.c0
    have d1 := F10.out.p.c1
    have d2 := F10.out.p.c2
    have d3 := F10.out.p.c3
    have e0 := F10.out.p.frozen 0
    have e1 := F10.out.p.frozen 1
    have e2 := F10.out.p.frozen 2
    have e3 := F10.out.p.frozen 3
    have hS := hS1
    refine seq_do rfl (fun K hK => ?_)
    go_simp
    refine hK.out _ _ _ (fun W h => h) hS2 ?_
    clear hK K hS hS1 F10 d0 d1 d2 d3 e0 e1 e2 e3
    obtain ⟨v2, hv2⟩ : ∃ v2, (((v1.setCell ⟨w.heap.size + 1 + 1 + 1 + 1, 0, none⟩ (.int .u16 n)).setCell ⟨w.heap.size + 1 + 1 + 1 + 1, 1, none⟩ (.int .u32 m)).setCell ⟨w.heap.size + 1 + 1 + 1 + 1, 2, none⟩ (.int .u32 y.out)).setCell ⟨w.heap.size + 1 + 1 + 1 + 1, 3, none⟩ (.int .u16 y.fr) = v2 := ⟨_, rfl⟩
    rw [hv2] at F11
    rw [hv2] at hS2
    rw [hv2]
    clear hv2
    have hS := hS2
    iterate 1 (refine seq_read (v := _) rfl (fun _ _ _ h => h) hS (Or.inl ⟨by rfl, fun W hW => by go_simp <;> with_reducible rfl⟩) ?_; simp only [Act.put, List.setIfInBounds_toArray, List.set_cons_zero, List.set_cons_succ])
    refine seq_end ?_
    go_wp2
    exact ret3_at Try.results25 F11.out.u F11.out.p ⟨by rw [← HY.out]; rfl, F11.out.bel⟩
end Go.Proofs.Ytolobojidnomfaa.Stp
