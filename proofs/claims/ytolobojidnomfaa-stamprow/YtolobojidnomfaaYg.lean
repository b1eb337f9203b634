/- The contracts of Report: the program's, the reference's. -/
import Derived.Test.YtolobojidnomfaaYa
import Derived.Test.YtolobojidnomfaaQb
import Derived.Test.YtolobojidnomfaaJo
import Derived.Test.YtolobojidnomfaaJh
import Derived.Deep.Cut
import Derived.Deep.DeepCutAuto
import Derived.Deep.CutRange
set_option maxRecDepth 100000
namespace Go.Proofs.Ytolobojidnomfaa.Stp
open Go.RowKit Go.Proofs.Ytolobojidnomfaa.Gat Go.Proofs.Ytolobojidnomfaa.Crs Go.Proofs.Ytolobojidnomfaa.Clk Go.Proofs.Ytolobojidnomfaa.Rtp Go.Proofs.Ytolobojidnomfaa.Fbk
set_option linter.unusedVariables false

/-- What is told of a report: the item, the verdict. -/
def rprV (t : TV) (ntp time : Int) : IV := ⟨200, t.out, ntp, tim t.k time, t.sn, t.oc, none, 0, 0, none, 0, 0, 0, none, 0, 0⟩
def rpr (t : TV) (i : IV) (l : Int) : IV × Int :=
  if qui t.g then (ziv, 4) else if l ≠ t.g.2.1 ∨ i.kind ≠ 200 then (ziv, 3) else (rprV t i.ntp i.time, 1)
/-- The blocks of a report: the track, the item, the item that is told. -/
structure Thr (w0 w : World) (t : TV) (i u : IV) : Prop where
  t : TBlk w w0.heap.size t
  i : IBlk w (w0.heap.size + 1) i
  u : IBlk w (w0.heap.size + 1 + 1) u
  bel : Below w0.heap.size w0 w
section
variable {w0 w w' : World} {t : TV} {i u : IV}
theorem Thr.more (h : Thr w0 w t i u) (hb : Below w.heap.size w w') : Thr w0 w' t i u := ⟨h.t.bel hb h.t.lt, h.i.bel hb, h.u.bel hb, h.bel.trans (hb.mono h.bel.size)⟩
theorem Thr.lay (w0 : World) (t : TV) (i : IV) : Thr w0 (((w0.alloc (trkO t)).alloc (iobj i)).alloc (iobj ziv)) t i ziv := by
  have s1 : (w0.alloc (trkO t)).heap.size = w0.heap.size + 1 := by simp
  have s2 : ((w0.alloc (trkO t)).alloc (iobj i)).heap.size = w0.heap.size + 1 + 1 := by simp
  have h1 := TBlk.new w0 t
  have h2 := IBlk.new (w0.alloc (trkO t)) i
  have h3 := IBlk.new ((w0.alloc (trkO t)).alloc (iobj i)) ziv
  have b2 : Below (w0.heap.size + 1) (w0.alloc (trkO t)) ((w0.alloc (trkO t)).alloc (iobj i)) := (Below.refl _ _).alloc (by omega) _
  have b3 : Below (w0.heap.size + 1 + 1) ((w0.alloc (trkO t)).alloc (iobj i)) (((w0.alloc (trkO t)).alloc (iobj i)).alloc (iobj ziv)) := (Below.refl _ _).alloc (by omega) _
  rw [s1] at h2
  rw [s2] at h3
  have k1 := (((Below.refl w0.heap.size w0).alloc (Nat.le_refl _) (trkO t)).alloc (by omega) (iobj i)).alloc (by omega) (iobj ziv)
  exact ⟨(h1.bel b2 (by omega)).bel b3 (by omega), h2.below b3 (by omega), h3, k1⟩
theorem Thr.put (h : Thr w0 w t i u) (x : IV) : Thr w0 ((((((((((w.setCell ⟨(w0.heap.size + 1 + 1), 0, none⟩ (.int .i64 x.kind)).setCell ⟨(w0.heap.size + 1 + 1), 1, none⟩ (.int .u32 x.ssrc)).setCell ⟨(w0.heap.size + 1 + 1), 2, none⟩ (.int .u64 x.ntp)).setCell ⟨(w0.heap.size + 1 + 1), 3, none⟩ (.int .u32 x.time)).setCell ⟨(w0.heap.size + 1 + 1), 4, none⟩ (.int .u32 x.pks)).setCell ⟨(w0.heap.size + 1 + 1), 5, none⟩ (.int .u32 x.ocs)).setCell ⟨(w0.heap.size + 1 + 1), 6, none⟩ (.slice x.ba x.bn x.bc)).setCell ⟨(w0.heap.size + 1 + 1), 7, none⟩ (.slice x.ga x.gn x.gc)).setCell ⟨(w0.heap.size + 1 + 1), 8, none⟩ (.int .u32 x.media)).setCell ⟨(w0.heap.size + 1 + 1), 9, none⟩ (.slice x.pa x.pn x.pc)) t i x := by
  have hw : Beside (w0.heap.size + 1 + 1) w ((((((((((w.setCell ⟨(w0.heap.size + 1 + 1), 0, none⟩ (.int .i64 x.kind)).setCell ⟨(w0.heap.size + 1 + 1), 1, none⟩ (.int .u32 x.ssrc)).setCell ⟨(w0.heap.size + 1 + 1), 2, none⟩ (.int .u64 x.ntp)).setCell ⟨(w0.heap.size + 1 + 1), 3, none⟩ (.int .u32 x.time)).setCell ⟨(w0.heap.size + 1 + 1), 4, none⟩ (.int .u32 x.pks)).setCell ⟨(w0.heap.size + 1 + 1), 5, none⟩ (.int .u32 x.ocs)).setCell ⟨(w0.heap.size + 1 + 1), 6, none⟩ (.slice x.ba x.bn x.bc)).setCell ⟨(w0.heap.size + 1 + 1), 7, none⟩ (.slice x.ga x.gn x.gc)).setCell ⟨(w0.heap.size + 1 + 1), 8, none⟩ (.int .u32 x.media)).setCell ⟨(w0.heap.size + 1 + 1), 9, none⟩ (.slice x.pa x.pn x.pc)) := ((((((((((Beside.refl _ w).set _).set _).set _).set _).set _).set _).set _).set _).set _).set _
  exact ⟨h.t.beside (by omega) hw, (hw.1 _ (by omega)).trans h.i, h.u.store x, below_istore h.bel (by omega) _ _ _ _ _ _ _ _ _ _⟩
end
theorem retI_at {f : Func} {R : Ending → World → Prop} {W : World} {b : Nat} {x : IV} {n : Int} {tmps : Array Value} (hf : f.results = #[.cell 6 48, .tmp 7]) (D : IBlk W b x) (hR : R (.returned (.tuple #[itm x, .int .i64 n])) W)
    (h1 : tmps[6]?.getD undef = .pointer (some ⟨b, 0, none⟩) := by rfl) (h3 : tmps[7]?.getD undef = .int .i64 n := by rfl) : bodyPost Try.prog f R .ret ⟨tmps, []⟩ W := by
  have c0 := D.c0
  have c1 := D.c1
  have c2 := D.c2
  have c3 := D.c3
  have c4 := D.c4
  have c5 := D.c5
  have c6 := D.c6
  have c7 := D.c7
  have c8 := D.c8
  have c9 := D.c9
  exact bodyPost_ret (v := .tuple #[itm x, .int .i64 n]) (by simp [results, hf, go_sem, h1, h3, c0, c1, c2, c3, c4, c5, c6, c7, c8, c9]) rfl hR
set_option maxHeartbeats 8000000 in
theorem report_any (w : World) (t : TV) (i : IV) (l : Int) : Calls Try.prog 11 #[trkV t, itm i, .int .i64 l] w fun e w' => e = .returned (.tuple #[itm (rpr t i l).1, .int .i64 (rpr t i l).2]) ∧ Below w.heap.size w w' := by
  have C1 := Lib.hid (fun W => Gat.quiet_any W t.g)
  have C2 := Lib.hid (fun W => Clk.out_any W t.k i.time)
  have H0 := Lib.hid (Thr.lay w t i)
  unfold rpr
  by_cases hq : qui t.g = true
  · rw [if_pos hq]
    rw [hq] at C1
    clear hq C2
    go_enter Try.func11, Try.ntmps11
    go_wp2_with fail
    refine (C1.out _).mono ?_
    rintro e w1 ⟨rfl, hb⟩
    have F1 := Lib.hid (H0.out.more hb)
    clear hb H0 C1
    have d0 := F1.out.u.c0
    have d1 := F1.out.u.c1
    have d2 := F1.out.u.c2
    have d3 := F1.out.u.c3
    have d4 := F1.out.u.c4
    have d5 := F1.out.u.c5
    have d6 := F1.out.u.c6
    have d7 := F1.out.u.c7
    have d8 := F1.out.u.c8
    have d9 := F1.out.u.c9
    have e0 := F1.out.u.frozen 0
    have e1 := F1.out.u.frozen 1
    have e2 := F1.out.u.frozen 2
    have e3 := F1.out.u.frozen 3
    have e4 := F1.out.u.frozen 4
    have e5 := F1.out.u.frozen 5
    have e6 := F1.out.u.frozen 6
    have e7 := F1.out.u.frozen 7
    have e8 := F1.out.u.frozen 8
    have e9 := F1.out.u.frozen 9
    have HD := Lib.hid (F1.out.put ziv)
    clear F1
    go_wp2
    exact retI_at Try.results11 HD.out.u ⟨rfl, HD.out.bel⟩
  rw [if_neg hq]
  have hq : qui t.g = false := by simpa using hq
  rw [hq] at C1
  clear hq
  by_cases h1 : l = t.g.2.1
  · have q1 : (l != t.g.2.1) = false := by simpa using h1
    by_cases h2 : i.kind = 200
    · have q2 : (i.kind != 200) = false := by simpa using h2
      rw [if_neg (by rintro (h | h); exact h h1; exact h h2)]
      unfold rprV
      obtain ⟨m, hm⟩ : ∃ m, tim t.k i.time = m := ⟨_, rfl⟩
      rw [hm] at C2 ⊢
      clear hm h1 h2
      go_enter Try.func11, Try.ntmps11
      go_wp2_with fail
      refine (C1.out _).mono ?_
      rintro e w1 ⟨rfl, hb⟩
      have F1 := Lib.hid (H0.out.more hb)
      clear hb H0 C1
      have c1 := F1.out.t.c1
      have d0 := F1.out.i.c0
      go_upto_region 5 with fail
      clear c1 d0 q1 q2
      replace F1 := Lib.hid (F1.out.more (Below.refl _ _).drew)
      have f8 : ∀ W, TBlk W w.heap.size t ∧ IBlk W (w.heap.size + 1) i → W.cell? ⟨w.heap.size, 8, none⟩ = some (.bool t.k.1) := fun W hW => hW.1.c8
      have f9 : ∀ W, TBlk W w.heap.size t ∧ IBlk W (w.heap.size + 1) i → W.cell? ⟨w.heap.size, 9, none⟩ = some (.int .u32 t.k.2.1) := fun W hW => hW.1.c9
      have f10 : ∀ W, TBlk W w.heap.size t ∧ IBlk W (w.heap.size + 1) i → W.cell? ⟨w.heap.size, 10, none⟩ = some (.int .u32 t.k.2.2) := fun W hW => hW.1.c10
      have f11 : ∀ W, TBlk W w.heap.size t ∧ IBlk W (w.heap.size + 1) i → W.cell? ⟨w.heap.size, 11, none⟩ = some (.int .u32 t.out) := fun W hW => hW.1.c11
      have f12 : ∀ W, TBlk W w.heap.size t ∧ IBlk W (w.heap.size + 1) i → W.cell? ⟨w.heap.size, 12, none⟩ = some (.int .u16 t.fr) := fun W hW => hW.1.c12
      have f13 : ∀ W, TBlk W w.heap.size t ∧ IBlk W (w.heap.size + 1) i → W.cell? ⟨w.heap.size, 13, none⟩ = some (.int .u32 t.sn) := fun W hW => hW.1.c13
      have f14 : ∀ W, TBlk W w.heap.size t ∧ IBlk W (w.heap.size + 1) i → W.cell? ⟨w.heap.size, 14, none⟩ = some (.int .u32 t.oc) := fun W hW => hW.1.c14
      have g2 : ∀ W, TBlk W w.heap.size t ∧ IBlk W (w.heap.size + 1) i → W.cell? ⟨w.heap.size + 1, 2, none⟩ = some (.int .u64 i.ntp) := fun W hW => hW.2.c2
      have g3 : ∀ W, TBlk W w.heap.size t ∧ IBlk W (w.heap.size + 1) i → W.cell? ⟨w.heap.size + 1, 3, none⟩ = some (.int .u32 i.time) := fun W hW => hW.2.c3
      refine region_seq (fun W => TBlk W w.heap.size t ∧ IBlk W (w.heap.size + 1) i) [(0, false), (1, false), (2, false), (3, false), (4, false), (5, false), (6, false), (7, false), (9, false), (10, false), (11, false), (12, false), (8, true), (13, false), (14, true), (15, false)] (by kernel_rfl) (by kernel_rfl) rfl (by kernel_rfl) ?_
      obtain ⟨ue, hue⟩ : ∃ ue, w1.drew = ue := ⟨_, rfl⟩
      rw [hue] at F1
      rw [hue]
      clear hue
      have hS := And.intro F1.out.t F1.out.i
      iterate 12 (refine seq_read (v := _) rfl (fun _ _ _ h => h) hS (Or.inl ⟨by rfl, fun W hW => by go_simp <;> with_reducible rfl⟩) ?_; simp only [Act.put, List.setIfInBounds_toArray, List.set_cons_zero, List.set_cons_succ])
      refine seq_do rfl (fun K hK => ?_)
      go_simp
      refine (C2.out _).mono ?_
      rintro e w2 ⟨rfl, hb⟩
      have F2 := Lib.hid (F1.out.more hb)
      have hS := And.intro F2.out.t F2.out.i
      clear hb F1 C2
      refine hK.out _ _ _ (fun W h => h) hS ?_
      clear hK K
      iterate 1 (refine seq_read (v := _) rfl (fun _ _ _ h => h) hS (Or.inl ⟨by rfl, fun W hW => by go_simp <;> with_reducible rfl⟩) ?_; simp only [Act.put, List.setIfInBounds_toArray, List.set_cons_zero, List.set_cons_succ])
      have F3 := Lib.hid (F2.out.put ⟨200, t.out, i.ntp, m, t.sn, t.oc, none, 0, 0, none, 0, 0, 0, none, 0, 0⟩)
      have hS2 := And.intro F3.out.t F3.out.i
      simp only at F3 hS2
      have d0 := F2.out.u.c0
      have d1 := F2.out.u.c1
      have d2 := F2.out.u.c2
      have d3 := F2.out.u.c3
      have d4 := F2.out.u.c4
      have d5 := F2.out.u.c5
      have d6 := F2.out.u.c6
      have d7 := F2.out.u.c7
      have d8 := F2.out.u.c8
      have d9 := F2.out.u.c9
      have e0 := F2.out.u.frozen 0
      have e1 := F2.out.u.frozen 1
      have e2 := F2.out.u.frozen 2
      have e3 := F2.out.u.frozen 3
      have e4 := F2.out.u.frozen 4
      have e5 := F2.out.u.frozen 5
      have e6 := F2.out.u.frozen 6
      have e7 := F2.out.u.frozen 7
      have e8 := F2.out.u.frozen 8
      have e9 := F2.out.u.frozen 9
      clear F2 hS
      refine seq_do rfl (fun K hK => ?_)
      go_simp
      refine hK.out _ _ _ (fun W h => h) hS2 ?_
      clear hK K d0 d1 d2 d3 d4 d5 d6 d7 d8 d9 e0 e1 e2 e3 e4 e5 e6 e7 e8 e9
      obtain ⟨v2, hv2⟩ : ∃ v2, (((((((((w2.setCell ⟨w.heap.size + 1 + 1, 0, none⟩ (.int .i64 200)).setCell ⟨w.heap.size + 1 + 1, 1, none⟩ (.int .u32 t.out)).setCell ⟨w.heap.size + 1 + 1, 2, none⟩ (.int .u64 i.ntp)).setCell ⟨w.heap.size + 1 + 1, 3, none⟩ (.int .u32 m)).setCell ⟨w.heap.size + 1 + 1, 4, none⟩ (.int .u32 t.sn)).setCell ⟨w.heap.size + 1 + 1, 5, none⟩ (.int .u32 t.oc)).setCell ⟨w.heap.size + 1 + 1, 6, none⟩ (.slice none 0 0)).setCell ⟨w.heap.size + 1 + 1, 7, none⟩ (.slice none 0 0)).setCell ⟨w.heap.size + 1 + 1, 8, none⟩ (.int .u32 0)).setCell ⟨w.heap.size + 1 + 1, 9, none⟩ (.slice none 0 0) = v2 := ⟨_, rfl⟩
      rw [hv2] at F3
      rw [hv2] at hS2
      rw [hv2]
      clear hv2
      have hS := hS2
      iterate 1 (refine seq_read (v := _) rfl (fun _ _ _ h => h) hS (Or.inl ⟨by rfl, fun W hW => by go_simp <;> with_reducible rfl⟩) ?_; simp only [Act.put, List.setIfInBounds_toArray, List.set_cons_zero, List.set_cons_succ])
      refine seq_end ?_
      go_wp2
      exact retI_at Try.results11 F3.out.u ⟨rfl, F3.out.bel⟩
    · have q2 : (i.kind != 200) = true := by simpa using h2
      rw [if_pos (.inr h2)]
      clear h1 h2 C2
      go_enter Try.func11, Try.ntmps11
      go_wp2_with fail
      refine (C1.out _).mono ?_
      rintro e w1 ⟨rfl, hb⟩
      have F1 := Lib.hid (H0.out.more hb)
      clear hb H0 C1
      have c1 := F1.out.t.c1
      have g0 := F1.out.i.c0
      have d0 := F1.out.u.c0
      have d1 := F1.out.u.c1
      have d2 := F1.out.u.c2
      have d3 := F1.out.u.c3
      have d4 := F1.out.u.c4
      have d5 := F1.out.u.c5
      have d6 := F1.out.u.c6
      have d7 := F1.out.u.c7
      have d8 := F1.out.u.c8
      have d9 := F1.out.u.c9
      have e0 := F1.out.u.frozen 0
      have e1 := F1.out.u.frozen 1
      have e2 := F1.out.u.frozen 2
      have e3 := F1.out.u.frozen 3
      have e4 := F1.out.u.frozen 4
      have e5 := F1.out.u.frozen 5
      have e6 := F1.out.u.frozen 6
      have e7 := F1.out.u.frozen 7
      have e8 := F1.out.u.frozen 8
      have e9 := F1.out.u.frozen 9
      have HD := Lib.hid (F1.out.put ziv)
      clear F1
      go_wp2
      exact retI_at Try.results11 HD.out.u ⟨rfl, HD.out.bel⟩
  · have q1 : (l != t.g.2.1) = true := by simpa using h1
    rw [if_pos (.inl h1)]
    clear h1 C2
    go_enter Try.func11, Try.ntmps11
    go_wp2_with fail
    refine (C1.out _).mono ?_
    rintro e w1 ⟨rfl, hb⟩
    have F1 := Lib.hid (H0.out.more hb)
    clear hb H0 C1
    have c1 := F1.out.t.c1
    have g0 := F1.out.i.c0
    have d0 := F1.out.u.c0
    have d1 := F1.out.u.c1
    have d2 := F1.out.u.c2
    have d3 := F1.out.u.c3
    have d4 := F1.out.u.c4
    have d5 := F1.out.u.c5
    have d6 := F1.out.u.c6
    have d7 := F1.out.u.c7
    have d8 := F1.out.u.c8
    have d9 := F1.out.u.c9
    have e0 := F1.out.u.frozen 0
    have e1 := F1.out.u.frozen 1
    have e2 := F1.out.u.frozen 2
    have e3 := F1.out.u.frozen 3
    have e4 := F1.out.u.frozen 4
    have e5 := F1.out.u.frozen 5
    have e6 := F1.out.u.frozen 6
    have e7 := F1.out.u.frozen 7
    have e8 := F1.out.u.frozen 8
    have e9 := F1.out.u.frozen 9
    have HD := Lib.hid (F1.out.put ziv)
    clear F1
    go_wp2
    exact retI_at Try.results11 HD.out.u ⟨rfl, HD.out.bel⟩
set_option maxHeartbeats 8000000 in
theorem rreport_any (w : World) (t : TV) (i : IV) (l : Int) (hk : CkOk t.k) (ht : 0 ≤ i.time ∧ i.time ≤ 4294967295) : Calls Try.prog 12 #[trkV t, itm i, .int .i64 l] w fun e w' => e = .returned (.tuple #[itm (rpr t i l).1, .int .i64 (rpr t i l).2]) ∧ Below w.heap.size w w' := by
  have C1 := Lib.hid (fun W => Gat.rquiet_any W t.g)
  have C2 := Lib.hid (fun W => Clk.rout_any W t.k hk i.time ht.1 ht.2)
  have H0 := Lib.hid (Thr.lay w t i)
  unfold rpr
  by_cases hq : qui t.g = true
  · rw [if_pos hq]
    rw [hq] at C1
    clear hq C2
    go_enter Try.func12, Try.ntmps12
    go_wp2_with fail
    refine (C1.out _).mono ?_
    rintro e w1 ⟨rfl, hb⟩
    have F1 := Lib.hid (H0.out.more hb)
    clear hb H0 C1
    have d0 := F1.out.u.c0
    have d1 := F1.out.u.c1
    have d2 := F1.out.u.c2
    have d3 := F1.out.u.c3
    have d4 := F1.out.u.c4
    have d5 := F1.out.u.c5
    have d6 := F1.out.u.c6
    have d7 := F1.out.u.c7
    have d8 := F1.out.u.c8
    have d9 := F1.out.u.c9
    have e0 := F1.out.u.frozen 0
    have e1 := F1.out.u.frozen 1
    have e2 := F1.out.u.frozen 2
    have e3 := F1.out.u.frozen 3
    have e4 := F1.out.u.frozen 4
    have e5 := F1.out.u.frozen 5
    have e6 := F1.out.u.frozen 6
    have e7 := F1.out.u.frozen 7
    have e8 := F1.out.u.frozen 8
    have e9 := F1.out.u.frozen 9
    have HD := Lib.hid (F1.out.put ziv)
    clear F1
    go_wp2
    exact retI_at Try.results12 HD.out.u ⟨rfl, HD.out.bel⟩
  rw [if_neg hq]
  have hq : qui t.g = false := by simpa using hq
  rw [hq] at C1
  clear hq
  by_cases h1 : l = t.g.2.1
  · have q1 : (l != t.g.2.1) = false := by simpa using h1
    by_cases h2 : i.kind = 200
    · have q2 : (i.kind != 200) = false := by simpa using h2
      rw [if_neg (by rintro (h | h); exact h h1; exact h h2)]
      unfold rprV
      obtain ⟨m, hm⟩ : ∃ m, tim t.k i.time = m := ⟨_, rfl⟩
      rw [hm] at C2 ⊢
      clear hm h1 h2
      go_enter Try.func12, Try.ntmps12
      go_wp2_with fail
      refine (C1.out _).mono ?_
      rintro e w1 ⟨rfl, hb⟩
      have F1 := Lib.hid (H0.out.more hb)
      clear hb H0 C1
      have c1 := F1.out.t.c1
      have d0 := F1.out.i.c0
      go_upto_region 5 with fail
      clear c1 d0 q1 q2
      replace F1 := Lib.hid (F1.out.more (Below.refl _ _).drew)
      have f8 : ∀ W, TBlk W w.heap.size t ∧ IBlk W (w.heap.size + 1) i → W.cell? ⟨w.heap.size, 8, none⟩ = some (.bool t.k.1) := fun W hW => hW.1.c8
      have f9 : ∀ W, TBlk W w.heap.size t ∧ IBlk W (w.heap.size + 1) i → W.cell? ⟨w.heap.size, 9, none⟩ = some (.int .u32 t.k.2.1) := fun W hW => hW.1.c9
      have f10 : ∀ W, TBlk W w.heap.size t ∧ IBlk W (w.heap.size + 1) i → W.cell? ⟨w.heap.size, 10, none⟩ = some (.int .u32 t.k.2.2) := fun W hW => hW.1.c10
      have f11 : ∀ W, TBlk W w.heap.size t ∧ IBlk W (w.heap.size + 1) i → W.cell? ⟨w.heap.size, 11, none⟩ = some (.int .u32 t.out) := fun W hW => hW.1.c11
      have f12 : ∀ W, TBlk W w.heap.size t ∧ IBlk W (w.heap.size + 1) i → W.cell? ⟨w.heap.size, 12, none⟩ = some (.int .u16 t.fr) := fun W hW => hW.1.c12
      have f13 : ∀ W, TBlk W w.heap.size t ∧ IBlk W (w.heap.size + 1) i → W.cell? ⟨w.heap.size, 13, none⟩ = some (.int .u32 t.sn) := fun W hW => hW.1.c13
      have f14 : ∀ W, TBlk W w.heap.size t ∧ IBlk W (w.heap.size + 1) i → W.cell? ⟨w.heap.size, 14, none⟩ = some (.int .u32 t.oc) := fun W hW => hW.1.c14
      have g2 : ∀ W, TBlk W w.heap.size t ∧ IBlk W (w.heap.size + 1) i → W.cell? ⟨w.heap.size + 1, 2, none⟩ = some (.int .u64 i.ntp) := fun W hW => hW.2.c2
      have g3 : ∀ W, TBlk W w.heap.size t ∧ IBlk W (w.heap.size + 1) i → W.cell? ⟨w.heap.size + 1, 3, none⟩ = some (.int .u32 i.time) := fun W hW => hW.2.c3
      refine region_seq (fun W => TBlk W w.heap.size t ∧ IBlk W (w.heap.size + 1) i) [(0, false), (1, false), (2, false), (3, false), (4, false), (5, false), (6, false), (7, false), (9, false), (10, false), (11, false), (12, false), (8, true), (13, false), (14, true), (15, false)] (by kernel_rfl) (by kernel_rfl) rfl (by kernel_rfl) ?_
      obtain ⟨ue, hue⟩ : ∃ ue, w1.drew = ue := ⟨_, rfl⟩
      rw [hue] at F1
      rw [hue]
      clear hue
      have hS := And.intro F1.out.t F1.out.i
      iterate 12 (refine seq_read (v := _) rfl (fun _ _ _ h => h) hS (Or.inl ⟨by rfl, fun W hW => by go_simp <;> with_reducible rfl⟩) ?_; simp only [Act.put, List.setIfInBounds_toArray, List.set_cons_zero, List.set_cons_succ])
      refine seq_do rfl (fun K hK => ?_)
      go_simp
      refine (C2.out _).mono ?_
      rintro e w2 ⟨rfl, hb⟩
      have F2 := Lib.hid (F1.out.more hb)
      have hS := And.intro F2.out.t F2.out.i
      clear hb F1 C2
      refine hK.out _ _ _ (fun W h => h) hS ?_
      clear hK K
      iterate 1 (refine seq_read (v := _) rfl (fun _ _ _ h => h) hS (Or.inl ⟨by rfl, fun W hW => by go_simp <;> with_reducible rfl⟩) ?_; simp only [Act.put, List.setIfInBounds_toArray, List.set_cons_zero, List.set_cons_succ])
      have F3 := Lib.hid (F2.out.put ⟨200, t.out, i.ntp, m, t.sn, t.oc, none, 0, 0, none, 0, 0, 0, none, 0, 0⟩)
      have hS2 := And.intro F3.out.t F3.out.i
      simp only at F3 hS2
      have d0 := F2.out.u.c0
      have d1 := F2.out.u.c1
      have d2 := F2.out.u.c2
      have d3 := F2.out.u.c3
      have d4 := F2.out.u.c4
      have d5 := F2.out.u.c5
      have d6 := F2.out.u.c6
      have d7 := F2.out.u.c7
      have d8 := F2.out.u.c8
      have d9 := F2.out.u.c9
      have e0 := F2.out.u.frozen 0
      have e1 := F2.out.u.frozen 1
      have e2 := F2.out.u.frozen 2
      have e3 := F2.out.u.frozen 3
      have e4 := F2.out.u.frozen 4
      have e5 := F2.out.u.frozen 5
      have e6 := F2.out.u.frozen 6
      have e7 := F2.out.u.frozen 7
      have e8 := F2.out.u.frozen 8
      have e9 := F2.out.u.frozen 9
      clear F2 hS
      refine seq_do rfl (fun K hK => ?_)
      go_simp
      refine hK.out _ _ _ (fun W h => h) hS2 ?_
      clear hK K d0 d1 d2 d3 d4 d5 d6 d7 d8 d9 e0 e1 e2 e3 e4 e5 e6 e7 e8 e9
      obtain ⟨v2, hv2⟩ : ∃ v2, (((((((((w2.setCell ⟨w.heap.size + 1 + 1, 0, none⟩ (.int .i64 200)).setCell ⟨w.heap.size + 1 + 1, 1, none⟩ (.int .u32 t.out)).setCell ⟨w.heap.size + 1 + 1, 2, none⟩ (.int .u64 i.ntp)).setCell ⟨w.heap.size + 1 + 1, 3, none⟩ (.int .u32 m)).setCell ⟨w.heap.size + 1 + 1, 4, none⟩ (.int .u32 t.sn)).setCell ⟨w.heap.size + 1 + 1, 5, none⟩ (.int .u32 t.oc)).setCell ⟨w.heap.size + 1 + 1, 6, none⟩ (.slice none 0 0)).setCell ⟨w.heap.size + 1 + 1, 7, none⟩ (.slice none 0 0)).setCell ⟨w.heap.size + 1 + 1, 8, none⟩ (.int .u32 0)).setCell ⟨w.heap.size + 1 + 1, 9, none⟩ (.slice none 0 0) = v2 := ⟨_, rfl⟩
      rw [hv2] at F3
      rw [hv2] at hS2
      rw [hv2]
      clear hv2
      have hS := hS2
      iterate 1 (refine seq_read (v := _) rfl (fun _ _ _ h => h) hS (Or.inl ⟨by rfl, fun W hW => by go_simp <;> with_reducible rfl⟩) ?_; simp only [Act.put, List.setIfInBounds_toArray, List.set_cons_zero, List.set_cons_succ])
      refine seq_end ?_
      go_wp2
      exact retI_at Try.results12 F3.out.u ⟨rfl, F3.out.bel⟩
    · have q2 : (i.kind != 200) = true := by simpa using h2
      rw [if_pos (.inr h2)]
      clear h1 h2 C2
      go_enter Try.func12, Try.ntmps12
      go_wp2_with fail
      refine (C1.out _).mono ?_
      rintro e w1 ⟨rfl, hb⟩
      have F1 := Lib.hid (H0.out.more hb)
      clear hb H0 C1
      have c1 := F1.out.t.c1
      have g0 := F1.out.i.c0
      have d0 := F1.out.u.c0
      have d1 := F1.out.u.c1
      have d2 := F1.out.u.c2
      have d3 := F1.out.u.c3
      have d4 := F1.out.u.c4
      have d5 := F1.out.u.c5
      have d6 := F1.out.u.c6
      have d7 := F1.out.u.c7
      have d8 := F1.out.u.c8
      have d9 := F1.out.u.c9
      have e0 := F1.out.u.frozen 0
      have e1 := F1.out.u.frozen 1
      have e2 := F1.out.u.frozen 2
      have e3 := F1.out.u.frozen 3
      have e4 := F1.out.u.frozen 4
      have e5 := F1.out.u.frozen 5
      have e6 := F1.out.u.frozen 6
      have e7 := F1.out.u.frozen 7
      have e8 := F1.out.u.frozen 8
      have e9 := F1.out.u.frozen 9
      have HD := Lib.hid (F1.out.put ziv)
      clear F1
      go_wp2
      exact retI_at Try.results12 HD.out.u ⟨rfl, HD.out.bel⟩
  · have q1 : (l != t.g.2.1) = true := by simpa using h1
    rw [if_pos (.inl h1)]
    clear h1 C2
    go_enter Try.func12, Try.ntmps12
    go_wp2_with fail
    refine (C1.out _).mono ?_
    rintro e w1 ⟨rfl, hb⟩
    have F1 := Lib.hid (H0.out.more hb)
    clear hb H0 C1
    have c1 := F1.out.t.c1
    have g0 := F1.out.i.c0
    have d0 := F1.out.u.c0
    have d1 := F1.out.u.c1
    have d2 := F1.out.u.c2
    have d3 := F1.out.u.c3
    have d4 := F1.out.u.c4
    have d5 := F1.out.u.c5
    have d6 := F1.out.u.c6
    have d7 := F1.out.u.c7
    have d8 := F1.out.u.c8
    have d9 := F1.out.u.c9
    have e0 := F1.out.u.frozen 0
    have e1 := F1.out.u.frozen 1
    have e2 := F1.out.u.frozen 2
    have e3 := F1.out.u.frozen 3
    have e4 := F1.out.u.frozen 4
    have e5 := F1.out.u.frozen 5
    have e6 := F1.out.u.frozen 6
    have e7 := F1.out.u.frozen 7
    have e8 := F1.out.u.frozen 8
    have e9 := F1.out.u.frozen 9
    have HD := Lib.hid (F1.out.put ziv)
    clear F1
    go_wp2
    exact retI_at Try.results12 HD.out.u ⟨rfl, HD.out.bel⟩
end Go.Proofs.Ytolobojidnomfaa.Stp
