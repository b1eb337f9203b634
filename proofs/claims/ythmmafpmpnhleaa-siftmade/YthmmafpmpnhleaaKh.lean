/- The contract of rtp.Get where nothing is wrong. -/
import Derived.Test.YthmmafpmpnhleaaKg
import Derived.Test.YthmmafpmpnhleaaSeq
set_option maxRecDepth 100000
namespace Go.Proofs.Ythmmafpmpnhleaa.Rtp
open Go.RowKit
set_option linter.unusedVariables false

set_option maxHeartbeats 40000000 in
theorem get_yes (b off len cap c x f t : Nat) (x0 x1 ty seq time ssrc prof : Int) (mrk he : Bool) (cs es ps : List Int) (w : World) (hl : len ≤ 512) (h12 : 12 ≤ len) (hb : b < w.heap.size)
    (o1 : 12 ≤ c) (o2 : c ≤ x) (o3 : x ≤ f) (o4 : f ≤ t) (o5 : t ≤ len) (o6 : len ≤ cap)
    (e1 : (bits BinOp.and IntKind.u8 x1 128 != 0) = mrk) (e2 : bits BinOp.and IntKind.u8 x1 127 = ty) (e3 : (bits BinOp.and IntKind.u8 x0 16 != 0) = he) (e4 : 0 ≤ ty ∧ ty ≤ 127)
    (bs : 0 ≤ seq ∧ seq ≤ 65535) (bt : 0 ≤ time ∧ time ≤ 4294967295) (bz : 0 ≤ ssrc ∧ ssrc ≤ 4294967295) (bp : 0 ≤ prof ∧ prof ≤ 65535)
    (C0 : Hid (∀ W, Below w.heap.size w W → W.cell? ⟨b, off, none⟩ = some (.int .u8 x0))) (C1 : Hid (∀ W, Below w.heap.size w W → W.cell? ⟨b, off + 1, none⟩ = some (.int .u8 x1)))
    (CL : Hid (∀ W, Below w.heap.size w W → Calls Try.prog 39 #[.slice (some ⟨b, off, none⟩) len cap] W (RetL W c x f t 0)))
    (CS : Hid (∀ W, Below w.heap.size w W → Calls Try.prog 40 #[.slice (some ⟨b, off, none⟩) len cap, .int .i64 2, .int .i64 2] W fun e w' => e = .returned (.int .u64 seq) ∧ W = w'))
    (CT : Hid (∀ W, Below w.heap.size w W → Calls Try.prog 40 #[.slice (some ⟨b, off, none⟩) len cap, .int .i64 4, .int .i64 4] W fun e w' => e = .returned (.int .u64 time) ∧ W = w'))
    (CZ : Hid (∀ W, Below w.heap.size w W → Calls Try.prog 40 #[.slice (some ⟨b, off, none⟩) len cap, .int .i64 8, .int .i64 4] W fun e w' => e = .returned (.int .u64 ssrc) ∧ W = w'))
    (CF : Hid (he = true → ∀ W, Below w.heap.size w W → Calls Try.prog 40 #[.slice (some ⟨b, off, none⟩) len cap, .int .i64 c, .int .i64 2] W fun e w' => e = .returned (.int .u64 prof) ∧ W = w'))
    (CW : Hid (∀ W X, Below w.heap.size w W → (cap ≠ 12 → X = some ⟨b, off + 12, none⟩) → Calls Try.prog 41 #[.slice X (c - 12) (cap - 12)] W (NewW W cs)))
    (CE : Hid (∀ W X, Below w.heap.size w W → (cap ≠ x → X = some ⟨b, off + x, none⟩) → Calls Try.prog 42 #[.slice X (f - x) (cap - x)] W (NewRow W es)))
    (CP : Hid (∀ W X, Below w.heap.size w W → (cap ≠ f → X = some ⟨b, off + f, none⟩) → Calls Try.prog 42 #[.slice X (t - f) (cap - f)] W (NewRow W ps)))
    (pad : Int) (hpad : (len : Int) - t = pad) (hcs : cs.length ≤ 15) (hes : es.length ≤ 512) (hps : ps.length ≤ 512) :
    Calls Try.prog 19 #[.slice (some ⟨b, off, none⟩) len cap] w (GRet w ⟨mrk, ty, seq, time, ssrc, cs, he, if he then prof else 0, es, ps, pad⟩ 0) := by
  obtain ⟨X1, HX1, s1⟩ := cut_run b off len cap 12 c 12 c rfl rfl o1 (by omega)
  obtain ⟨X2, HX2, s2⟩ := cut_run b off len cap x f x f rfl rfl o3 (by omega)
  obtain ⟨X3, HX3, s3⟩ := cut_run b off len cap f t f t rfl rfl o4 (by omega)
  have HX1 := Lib.hid HX1
  have HX2 := Lib.hid HX2
  have HX3 := Lib.hid HX3
  have q1 : IntKind.u16.wrap seq = seq := by simp [IntKind.wrap, IntKind.bits, IntKind.signed]; omega
  have q2 : IntKind.u32.wrap time = time := by simp [IntKind.wrap, IntKind.bits, IntKind.signed]; omega
  have q3 : IntKind.u32.wrap ssrc = ssrc := by simp [IntKind.wrap, IntKind.bits, IntKind.signed]; omega
  have q4 : IntKind.u16.wrap prof = prof := by simp [IntKind.wrap, IntKind.bits, IntKind.signed]; omega
  have q5 : IntKind.i64.wrap ty = ty := IntWalk.i64_in _ (by omega)
  have q0 : IntKind.i64.wrap ((len : Int) - t) = pad := by rw [IntWalk.i64_in _ (by omega)]; exact hpad
  have HO := Lib.hid (show 12 ≤ c ∧ c ≤ x ∧ x ≤ f ∧ f ≤ t ∧ t ≤ len ∧ len ≤ cap from ⟨o1, o2, o3, o4, o5, o6⟩)
  have HL := Lib.hid (show cs.length ≤ 15 ∧ es.length ≤ 512 ∧ ps.length ≤ 512 from ⟨hcs, hes, hps⟩)
  have hp0 : 0 < len := by omega
  have hp1 : 1 < len := by omega
  have hi1 : (1 : Int) < len := by omega
  clear o1 o2 o3 o4 o6 hcs hes hps hpad
  obtain ⟨R, hR⟩ : ∃ R : Ending → World → Prop, R = GRet w ⟨mrk, ty, seq, time, ssrc, cs, he, if he then prof else 0, es, ps, pad⟩ 0 := ⟨_, rfl⟩
  have HR : Hid (∀ A1 k1 A2 k2 A3 k3 W, OwnW W w.heap.size A1 cs.length k1 cs → Own W w.heap.size A2 es.length k2 es → Own W w.heap.size A3 ps.length k3 ps → Below w.heap.size w W →
      R (.returned (.tuple #[pkt ⟨mrk, ty, seq, time, ssrc, A1, cs.length, k1, he, if he then prof else 0, A2, es.length, k2, A3, ps.length, k3, pad⟩, .int .i64 0])) W) := by
    intro A1 k1 A2 k2 A3 k3 W h1 h2 h3 hB
    have hL := HL.out
    rw [hR]
    exact ⟨⟨A1, k1, A2, k2, A3, k3⟩, rfl, ⟨h1.rd, h2.rd, h3.rd, by show cs.length ≤ _; omega, by show es.length ≤ _; omega, by show ps.length ≤ _; omega, h1.2.2.1, h2.2.2.1, h3.2.2.1⟩, hB⟩
  rw [← hR]
  clear hR HL
  go_enter Try.func19, Try.ntmps19
  go_wp2_with fail
  have hb0 := (Below.refl w.heap.size w).alloc (Nat.le_refl _) (pobj zpv)
  refine (CL.out _ hb0).mono ?_
  rintro e w1 ⟨rfl, hb1⟩
  have D1 : PBlk w1 w.heap.size zpv := (PBlk.new w zpv).below hb1 (by simp)
  have hbw : Below w.heap.size w w1 := hb0.trans (hb1.mono (by simp))
  clear hb1 hb0 CL
  go_wp2_with fail
  have E2 := LBlk.new w1 c x f t
  have D2 := D1.below ((Below.refl w1.heap.size w1).alloc (Nat.le_refl _) (.cells #[.int .i64 c, .int .i64 x, .int .i64 f, .int .i64 t] 83)) D1.lt
  have hb2 := hbw.alloc hbw.size (.cells #[.int .i64 c, .int .i64 x, .int .i64 f, .int .i64 t] 83)
  generalize w1.alloc (.cells #[.int .i64 c, .int .i64 x, .int .i64 f, .int .i64 t] 83) = w2 at *
  generalize w1.heap.size = q at *
  clear D1 hbw w1
  have hS : Sg w q c x f t w2.drew := ⟨hb2.drew, E2⟩
  have HD : Hid (PBlk w2.drew w.heap.size zpv) := D2
  have c0 : ∀ W, Sg w q c x f t W → W.cell? ⟨q, 0, none⟩ = some (.int .i64 c) := fun W hW => hW.2.c0
  have c1 : ∀ W, Sg w q c x f t W → W.cell? ⟨q, 1, none⟩ = some (.int .i64 x) := fun W hW => hW.2.c1
  have c2 : ∀ W, Sg w q c x f t W → W.cell? ⟨q, 2, none⟩ = some (.int .i64 f) := fun W hW => hW.2.c2
  have c3 : ∀ W, Sg w q c x f t W → W.cell? ⟨q, 3, none⟩ = some (.int .i64 t) := fun W hW => hW.2.c3
  have b0 : ∀ W, Sg w q c x f t W → W.cell? ⟨b, off, none⟩ = some (.int .u8 x0) := fun W hW => C0.out W hW.1
  have b1 : ∀ W, Sg w q c x f t W → W.cell? ⟨b, off + 1, none⟩ = some (.int .u8 x1) := fun W hW => C1.out W hW.1
  clear hb2 C0 C1 D2 E2
  refine region_tree (Sg w q c x f t) (.rd 0 (.rd 1 (.rd 2 (.rd 3 (.rd 4 (.rd 5 (.rd 6 (.rd 7 (.rd 8 (.rd 9 (.rd 10 (.rd 13 (.rd 16 (.rd 19 (.rd 20 (.rd 21 (.rd 22 (.rd 24 (.rd 25 (.rd 26 (.rd 27 (.rd 28 (.rd 29 (.rd 30 (.rd 31 (.rd 32 (.rd 33 (.rd 34 (.rd 36 (.rd 37 (.rd 38 (.rd 39 (.rd 40 (.rd 41 (.rd 43 (.rd 44 (.rd 45 (.rd 46 (.rd 47 (.fk 11 49 (.rd 12 (.fk 14 49 (.rd 15 (.fk 17 49 (.rd 18 (.fk 23 49 (.fk 35 49 (.fk 42 49 (.rd 48 (.dn 49 (.dn 50 .nil))) (.dn 42 (.rd 48 (.dn 50 .nil)))) (.dn 35 (.dn 42 (.rd 48 (.dn 50 .nil))))) (.dn 23 (.dn 35 (.dn 42 (.rd 48 (.dn 50 .nil))))))) (.dn 17 (.rd 18 (.dn 23 (.dn 35 (.dn 42 (.rd 48 (.dn 50 .nil))))))))) (.dn 14 (.rd 15 (.dn 17 (.rd 18 (.dn 23 (.dn 35 (.dn 42 (.rd 48 (.dn 50 .nil))))))))))) (.dn 11 (.rd 12 (.dn 14 (.rd 15 (.dn 17 (.rd 18 (.dn 23 (.dn 35 (.dn 42 (.rd 48 (.dn 50 .nil))))))))))))))))))))))))))))))))))))))))))))))))))) (by kernel_rfl) (by kernel_rfl) rfl (by kernel_rfl) ?_
  generalize w2.drew = u at *
  clear w2
  iterate 39 (refine seqT_read (v := _) rfl (fun _ _ _ h => h) hS (Or.inl ⟨by rfl, fun W hW => by go_simp <;> with_reducible rfl⟩) ?_; simp only [Act.put, List.setIfInBounds_toArray, List.set_cons_zero, List.set_cons_succ])
  clear c0 c1 c2 c3 b0 b1 s1 s2 s3 e1 e2 e3 q0 q5 o5 hl h12 hb e4 bs bt bz bp hp0 hp1 hi1
  refine seqT_fork rfl rfl (fun K hK => ?_) (fun K hK => ?_)
  · go_simp
    refine (CS.out _ hS.1).mono ?_
    rintro e w' ⟨rfl, rfl⟩
    refine hK.out _ _ (Sg w q c x f t) (fun W h => h) hS ?_
    clear hK K CS
    iterate 1 (refine seqT_read (v := _) rfl (fun _ _ _ h => h) hS (Or.inl ⟨by rfl, fun W hW => by go_simp <;> with_reducible rfl⟩) ?_; simp only [Act.put, List.setIfInBounds_toArray, List.set_cons_zero, List.set_cons_succ])
    refine seqT_fork rfl rfl (fun K hK => ?_) (fun K hK => ?_)
    · go_simp
      refine (CT.out _ hS.1).mono ?_
      rintro e w' ⟨rfl, rfl⟩
      refine hK.out _ _ (Sg w q c x f t) (fun W h => h) hS ?_
      clear hK K CT
      iterate 1 (refine seqT_read (v := _) rfl (fun _ _ _ h => h) hS (Or.inl ⟨by rfl, fun W hW => by go_simp <;> with_reducible rfl⟩) ?_; simp only [Act.put, List.setIfInBounds_toArray, List.set_cons_zero, List.set_cons_succ])
      refine seqT_fork rfl rfl (fun K hK => ?_) (fun K hK => ?_)
      · go_simp
        refine (CZ.out _ hS.1).mono ?_
        rintro e w' ⟨rfl, rfl⟩
        refine hK.out _ _ (Sg w q c x f t) (fun W h => h) hS ?_
        clear hK K CZ
        iterate 1 (refine seqT_read (v := _) rfl (fun _ _ _ h => h) hS (Or.inl ⟨by rfl, fun W hW => by go_simp <;> with_reducible rfl⟩) ?_; simp only [Act.put, List.setIfInBounds_toArray, List.set_cons_zero, List.set_cons_succ])
        refine seqT_fork rfl rfl (fun K hK => ?_) (fun K hK => ?_)
        · go_simp
          refine (CW.out _ _ hS.1 HX1.out).mono ?_
          rintro e u1 ⟨A1, k1, rfl, ho, hb⟩
          refine hK.out _ _ (Sg w q c x f t) (fun W h => h) (hS.below hb) ?_
          clear hK K CW HX1
          have HO1 := Lib.hid (ho.lower hS.1.size)
          clear ho
          replace hS : Sg w q c x f t u1 := hS.below hb
          replace HD := Lib.hid (HD.out.below hb HD.out.lt)
          clear hb u
          refine seqT_fork rfl rfl (fun K hK => ?_) (fun K hK => ?_)
          · go_simp
            refine (CE.out _ _ hS.1 HX2.out).mono ?_
            rintro e u2 ⟨A2, k2, rfl, ho, hb⟩
            refine hK.out _ _ (Sg w q c x f t) (fun W h => h) (hS.below hb) ?_
            clear hK K CE HX2
            have HO2 := Lib.hid (ho.lower hS.1.size)
            clear ho
            replace hS : Sg w q c x f t u2 := hS.below hb
            replace HD := Lib.hid (HD.out.below hb HD.out.lt)
            replace HO1 := Lib.hid (HO1.out.below hb (Nat.le_refl _))
            clear hb u1
            refine seqT_fork rfl rfl (fun K hK => ?_) (fun K hK => ?_)
            · go_simp
              refine (CP.out _ _ hS.1 HX3.out).mono ?_
              rintro e u3 ⟨A3, k3, rfl, ho, hb⟩
              refine hK.out _ _ (Sg w q c x f t) (fun W h => h) (hS.below hb) ?_
              clear hK K CP HX3
              have HO3 := Lib.hid (ho.lower hS.1.size)
              clear ho
              replace hS : Sg w q c x f t u3 := hS.below hb
              replace HD := Lib.hid (HD.out.below hb HD.out.lt)
              replace HO1 := Lib.hid (HO1.out.below hb (Nat.le_refl _))
              replace HO2 := Lib.hid (HO2.out.below hb (Nat.le_refl _))
              clear hb u2
              iterate 1 (refine seqT_read (v := _) rfl (fun _ _ _ h => h) hS (Or.inl ⟨by rfl, fun W hW => by go_simp <;> with_reducible rfl⟩) ?_; simp only [Act.put, List.setIfInBounds_toArray, List.set_cons_zero, List.set_cons_succ])
              refine seqT_do rfl (fun K hK => ?_)
              go_simp
              have hbA := (Below.refl u3.heap.size u3).alloc (Nat.le_refl _) (.cells #[.bool false, .int .i64 0, .int .u16 0, .int .u32 0, .int .u32 0, .slice none 0 0, .bool false, .int .u16 0, .slice none 0 0, .slice none 0 0, .int .i64 0] 33)
              refine hK.out _ _ (Sg w q c x f t) (fun W h => h) (hS.below hbA) ?_
              clear hK K
              have HP := Lib.hid (PBlk.new u3 zpv)
              have HQ := Lib.hid HD.out.lt
              generalize u3.alloc (.cells #[.bool false, .int .i64 0, .int .u16 0, .int .u32 0, .int .u32 0, .slice none 0 0, .bool false, .int .u16 0, .slice none 0 0, .slice none 0 0, .int .i64 0] 33) = u4 at *
              replace hS : Sg w q c x f t u4 := hS.below hbA
              replace HD := Lib.hid (HD.out.below hbA HD.out.lt)
              replace HO1 := Lib.hid (HO1.out.below hbA (Nat.le_refl _))
              replace HO2 := Lib.hid (HO2.out.below hbA (Nat.le_refl _))
              replace HO3 := Lib.hid (HO3.out.below hbA (Nat.le_refl _))
              generalize u3.heap.size = q6 at *
              clear hbA u3
              have D6 := HP.out
              obtain ⟨f0, f1, f2, f3, f4, f5, f6, f7, f8, f9, f10, g0, g1, g2, g3, g4, g5, g6, g7, g8, g9, g10⟩ := D6.cf
              refine seqT_do rfl (fun K hK => ?_)
              go_simp
              have hO := off_pstore q6 u4 (.bool mrk) (.int .i64 ty) (.int .u16 seq) (.int .u32 time) (.int .u32 ssrc) (.slice A1 cs.length k1) (.bool he) (.int .u16 0) (.slice A2 es.length k2) (.slice A3 ps.length k3) (.int .i64 pad)
              have D7 := D6.store ⟨mrk, ty, seq, time, ssrc, A1, cs.length, k1, he, 0, A2, es.length, k2, A3, ps.length, k3, pad⟩
              have hB7 := below_pstore hS.1 (Nat.le_of_lt HQ.out) (.bool mrk) (.int .i64 ty) (.int .u16 seq) (.int .u32 time) (.int .u32 ssrc) (.slice A1 cs.length k1) (.bool he) (.int .u16 0) (.slice A2 es.length k2) (.slice A3 ps.length k3) (.int .i64 pad)
              have L7 := hS.2.offb (D6.ne_lblk hS.2) hO
              replace HD := Lib.hid (HD.out.offb (Nat.ne_of_lt HQ.out) hO)
              replace HO1 := Lib.hid (HO1.out.off D6 hO)
              replace HO2 := Lib.hid (HO2.out.off D6 hO)
              replace HO3 := Lib.hid (HO3.out.off D6 hO)
              refine hK.out _ _ (Sg w q c x f t) (fun W h => h) ⟨hB7, L7⟩ ?_
              clear hK K hS HP D6 hO f0 g0 f1 g1 f2 g2 f3 g3 f4 g4 f5 g5 f6 g6 f7 g7 f8 g8 f9 g9 f10 g10
              refine seqT_end ?_
              generalize (((((((((((u4.setCell ⟨q6, 0, none⟩ (.bool mrk)).setCell ⟨q6, 1, none⟩ (.int .i64 ty)).setCell ⟨q6, 2, none⟩ (.int .u16 seq)).setCell ⟨q6, 3, none⟩ (.int .u32 time)).setCell ⟨q6, 4, none⟩ (.int .u32 ssrc)).setCell ⟨q6, 5, none⟩ (.slice A1 cs.length k1)).setCell ⟨q6, 6, none⟩ (.bool he)).setCell ⟨q6, 7, none⟩ (.int .u16 0)).setCell ⟨q6, 8, none⟩ (.slice A2 es.length k2)).setCell ⟨q6, 9, none⟩ (.slice A3 ps.length k3)).setCell ⟨q6, 10, none⟩ (.int .i64 pad)) = y at *
              clear u4
              have c6 := D7.c6
              rcases he with _ | _
              · clear CF q4
                have DD := HD.out
                obtain ⟨c0, c1, c2, c3, c4, c5, c6, c7, c8, c9, c10⟩ := D7.cells
                obtain ⟨f0, f1, f2, f3, f4, f5, f6, f7, f8, f9, f10, g0, g1, g2, g3, g4, g5, g6, g7, g8, g9, g10⟩ := DD.cf
                go_wp2
                have hO := off_pstore w.heap.size y (.bool mrk) (.int .i64 ty) (.int .u16 seq) (.int .u32 time) (.int .u32 ssrc) (.slice A1 cs.length k1) (.bool false) (.int .u16 0) (.slice A2 es.length k2) (.slice A3 ps.length k3) (.int .i64 pad)
                exact retP_at (DD.store ⟨mrk, ty, seq, time, ssrc, A1, cs.length, k1, false, 0, A2, es.length, k2, A3, ps.length, k3, pad⟩) (HR.out A1 k1 A2 k2 A3 k3 _ (HO1.out.off DD hO) (HO2.out.off DD hO) (HO3.out.off DD hO) (below_pstore hB7 (Nat.le_refl _) _ _ _ _ _ _ _ _ _ _ _))
              · have l0 := L7.c0
                go_wp2_with fail
                refine (CF.out (by first | rfl | trivial) _ hB7).mono ?_
                rintro e w' ⟨rfl, rfl⟩
                have j7 := D7.frozen 7
                have i7 := D7.c7
                have D8 := D7.set7 prof
                have hO7 := (Off.refl q6 y).set (k := 7) (.int .u16 prof)
                have DD := HD.out.offb (Nat.ne_of_lt HQ.out) hO7
                have hB8 := hB7.setCell (p := ⟨q6, 7, none⟩) (Nat.le_of_lt HQ.out) (.int .u16 prof)
                obtain ⟨c0, c1, c2, c3, c4, c5, c6, c7, c8, c9, c10⟩ := D8.cells
                obtain ⟨f0, f1, f2, f3, f4, f5, f6, f7, f8, f9, f10, g0, g1, g2, g3, g4, g5, g6, g7, g8, g9, g10⟩ := DD.cf
                go_wp2
                have hO := off_pstore w.heap.size (y.setCell ⟨q6, 7, none⟩ (.int .u16 prof)) (.bool mrk) (.int .i64 ty) (.int .u16 seq) (.int .u32 time) (.int .u32 ssrc) (.slice A1 cs.length k1) (.bool true) (.int .u16 prof) (.slice A2 es.length k2) (.slice A3 ps.length k3) (.int .i64 pad)
                exact retP_at (DD.store ⟨mrk, ty, seq, time, ssrc, A1, cs.length, k1, true, prof, A2, es.length, k2, A3, ps.length, k3, pad⟩) (HR.out A1 k1 A2 k2 A3 k3 _ ((HO1.out.off D7 hO7).off DD hO) ((HO2.out.off D7 hO7).off DD hO) ((HO3.out.off D7 hO7).off DD hO) (below_pstore hB8 (Nat.le_refl _) _ _ _ _ _ _ _ _ _ _ _))
            · go_simp
              have hbA := (Below.refl u2.heap.size u2).alloc (Nat.le_refl _) (.cells #[.bool false, .int .i64 0, .int .u16 0, .int .u32 0, .int .u32 0, .slice none 0 0, .bool false, .int .u16 0, .slice none 0 0, .slice none 0 0, .int .i64 0] 33)
              refine hK.out _ _ (Sg w q c x f t) (fun W h => h) (hS.below hbA) ?_
              clear hK K
              have HP := Lib.hid (PBlk.new u2 zpv)
              have HQ := Lib.hid HD.out.lt
              generalize u2.alloc (.cells #[.bool false, .int .i64 0, .int .u16 0, .int .u32 0, .int .u32 0, .slice none 0 0, .bool false, .int .u16 0, .slice none 0 0, .slice none 0 0, .int .i64 0] 33) = u5 at *
              replace hS : Sg w q c x f t u5 := hS.below hbA
              replace HD := Lib.hid (HD.out.below hbA HD.out.lt)
              replace HO1 := Lib.hid (HO1.out.below hbA (Nat.le_refl _))
              replace HO2 := Lib.hid (HO2.out.below hbA (Nat.le_refl _))
              generalize u2.heap.size = q6 at *
              clear hbA u2
              refine seqT_do rfl (fun K hK => ?_)
              go_simp
              refine (CP.out _ _ hS.1 HX3.out).mono ?_
              rintro e u6 ⟨A3, k3, rfl, ho, hb⟩
              refine hK.out _ _ (Sg w q c x f t) (fun W h => h) (hS.below hb) ?_
              clear hK K CP HX3
              have HO3 := Lib.hid (ho.lower hS.1.size)
              clear ho
              replace hS : Sg w q c x f t u6 := hS.below hb
              replace HD := Lib.hid (HD.out.below hb HD.out.lt)
              replace HO1 := Lib.hid (HO1.out.below hb (Nat.le_refl _))
              replace HO2 := Lib.hid (HO2.out.below hb (Nat.le_refl _))
              replace HP := Lib.hid (HP.out.below hb HP.out.lt)
              clear hb u5
              iterate 1 (refine seqT_read (v := _) rfl (fun _ _ _ h => h) hS (Or.inl ⟨by rfl, fun W hW => by go_simp <;> with_reducible rfl⟩) ?_; simp only [Act.put, List.setIfInBounds_toArray, List.set_cons_zero, List.set_cons_succ])
              have D6 := HP.out
              obtain ⟨f0, f1, f2, f3, f4, f5, f6, f7, f8, f9, f10, g0, g1, g2, g3, g4, g5, g6, g7, g8, g9, g10⟩ := D6.cf
              refine seqT_do rfl (fun K hK => ?_)
              go_simp
              have hO := off_pstore q6 u6 (.bool mrk) (.int .i64 ty) (.int .u16 seq) (.int .u32 time) (.int .u32 ssrc) (.slice A1 cs.length k1) (.bool he) (.int .u16 0) (.slice A2 es.length k2) (.slice A3 ps.length k3) (.int .i64 pad)
              have D7 := D6.store ⟨mrk, ty, seq, time, ssrc, A1, cs.length, k1, he, 0, A2, es.length, k2, A3, ps.length, k3, pad⟩
              have hB7 := below_pstore hS.1 (Nat.le_of_lt HQ.out) (.bool mrk) (.int .i64 ty) (.int .u16 seq) (.int .u32 time) (.int .u32 ssrc) (.slice A1 cs.length k1) (.bool he) (.int .u16 0) (.slice A2 es.length k2) (.slice A3 ps.length k3) (.int .i64 pad)
              have L7 := hS.2.offb (D6.ne_lblk hS.2) hO
              replace HD := Lib.hid (HD.out.offb (Nat.ne_of_lt HQ.out) hO)
              replace HO1 := Lib.hid (HO1.out.off D6 hO)
              replace HO2 := Lib.hid (HO2.out.off D6 hO)
              replace HO3 := Lib.hid (HO3.out.off D6 hO)
              refine hK.out _ _ (Sg w q c x f t) (fun W h => h) ⟨hB7, L7⟩ ?_
              clear hK K hS HP D6 hO f0 g0 f1 g1 f2 g2 f3 g3 f4 g4 f5 g5 f6 g6 f7 g7 f8 g8 f9 g9 f10 g10
              refine seqT_end ?_
              generalize (((((((((((u6.setCell ⟨q6, 0, none⟩ (.bool mrk)).setCell ⟨q6, 1, none⟩ (.int .i64 ty)).setCell ⟨q6, 2, none⟩ (.int .u16 seq)).setCell ⟨q6, 3, none⟩ (.int .u32 time)).setCell ⟨q6, 4, none⟩ (.int .u32 ssrc)).setCell ⟨q6, 5, none⟩ (.slice A1 cs.length k1)).setCell ⟨q6, 6, none⟩ (.bool he)).setCell ⟨q6, 7, none⟩ (.int .u16 0)).setCell ⟨q6, 8, none⟩ (.slice A2 es.length k2)).setCell ⟨q6, 9, none⟩ (.slice A3 ps.length k3)).setCell ⟨q6, 10, none⟩ (.int .i64 pad)) = y at *
              clear u6
              have c6 := D7.c6
              rcases he with _ | _
              · clear CF q4
                have DD := HD.out
                obtain ⟨c0, c1, c2, c3, c4, c5, c6, c7, c8, c9, c10⟩ := D7.cells
                obtain ⟨f0, f1, f2, f3, f4, f5, f6, f7, f8, f9, f10, g0, g1, g2, g3, g4, g5, g6, g7, g8, g9, g10⟩ := DD.cf
                go_wp2
                have hO := off_pstore w.heap.size y (.bool mrk) (.int .i64 ty) (.int .u16 seq) (.int .u32 time) (.int .u32 ssrc) (.slice A1 cs.length k1) (.bool false) (.int .u16 0) (.slice A2 es.length k2) (.slice A3 ps.length k3) (.int .i64 pad)
                exact retP_at (DD.store ⟨mrk, ty, seq, time, ssrc, A1, cs.length, k1, false, 0, A2, es.length, k2, A3, ps.length, k3, pad⟩) (HR.out A1 k1 A2 k2 A3 k3 _ (HO1.out.off DD hO) (HO2.out.off DD hO) (HO3.out.off DD hO) (below_pstore hB7 (Nat.le_refl _) _ _ _ _ _ _ _ _ _ _ _))
              · have l0 := L7.c0
                go_wp2_with fail
                refine (CF.out (by first | rfl | trivial) _ hB7).mono ?_
                rintro e w' ⟨rfl, rfl⟩
                have j7 := D7.frozen 7
                have i7 := D7.c7
                have D8 := D7.set7 prof
                have hO7 := (Off.refl q6 y).set (k := 7) (.int .u16 prof)
                have DD := HD.out.offb (Nat.ne_of_lt HQ.out) hO7
                have hB8 := hB7.setCell (p := ⟨q6, 7, none⟩) (Nat.le_of_lt HQ.out) (.int .u16 prof)
                obtain ⟨c0, c1, c2, c3, c4, c5, c6, c7, c8, c9, c10⟩ := D8.cells
                obtain ⟨f0, f1, f2, f3, f4, f5, f6, f7, f8, f9, f10, g0, g1, g2, g3, g4, g5, g6, g7, g8, g9, g10⟩ := DD.cf
                go_wp2
                have hO := off_pstore w.heap.size (y.setCell ⟨q6, 7, none⟩ (.int .u16 prof)) (.bool mrk) (.int .i64 ty) (.int .u16 seq) (.int .u32 time) (.int .u32 ssrc) (.slice A1 cs.length k1) (.bool true) (.int .u16 prof) (.slice A2 es.length k2) (.slice A3 ps.length k3) (.int .i64 pad)
                exact retP_at (DD.store ⟨mrk, ty, seq, time, ssrc, A1, cs.length, k1, true, prof, A2, es.length, k2, A3, ps.length, k3, pad⟩) (HR.out A1 k1 A2 k2 A3 k3 _ ((HO1.out.off D7 hO7).off DD hO) ((HO2.out.off D7 hO7).off DD hO) ((HO3.out.off D7 hO7).off DD hO) (below_pstore hB8 (Nat.le_refl _) _ _ _ _ _ _ _ _ _ _ _))
          · go_simp
            have hbA := (Below.refl u1.heap.size u1).alloc (Nat.le_refl _) (.cells #[.bool false, .int .i64 0, .int .u16 0, .int .u32 0, .int .u32 0, .slice none 0 0, .bool false, .int .u16 0, .slice none 0 0, .slice none 0 0, .int .i64 0] 33)
            refine hK.out _ _ (Sg w q c x f t) (fun W h => h) (hS.below hbA) ?_
            clear hK K
            have HP := Lib.hid (PBlk.new u1 zpv)
            have HQ := Lib.hid HD.out.lt
            generalize u1.alloc (.cells #[.bool false, .int .i64 0, .int .u16 0, .int .u32 0, .int .u32 0, .slice none 0 0, .bool false, .int .u16 0, .slice none 0 0, .slice none 0 0, .int .i64 0] 33) = u7 at *
            replace hS : Sg w q c x f t u7 := hS.below hbA
            replace HD := Lib.hid (HD.out.below hbA HD.out.lt)
            replace HO1 := Lib.hid (HO1.out.below hbA (Nat.le_refl _))
            generalize u1.heap.size = q6 at *
            clear hbA u1
            refine seqT_do rfl (fun K hK => ?_)
            go_simp
            refine (CE.out _ _ hS.1 HX2.out).mono ?_
            rintro e u8 ⟨A2, k2, rfl, ho, hb⟩
            refine hK.out _ _ (Sg w q c x f t) (fun W h => h) (hS.below hb) ?_
            clear hK K CE HX2
            have HO2 := Lib.hid (ho.lower hS.1.size)
            clear ho
            replace hS : Sg w q c x f t u8 := hS.below hb
            replace HD := Lib.hid (HD.out.below hb HD.out.lt)
            replace HO1 := Lib.hid (HO1.out.below hb (Nat.le_refl _))
            replace HP := Lib.hid (HP.out.below hb HP.out.lt)
            clear hb u7
            refine seqT_do rfl (fun K hK => ?_)
            go_simp
            refine (CP.out _ _ hS.1 HX3.out).mono ?_
            rintro e u9 ⟨A3, k3, rfl, ho, hb⟩
            refine hK.out _ _ (Sg w q c x f t) (fun W h => h) (hS.below hb) ?_
            clear hK K CP HX3
            have HO3 := Lib.hid (ho.lower hS.1.size)
            clear ho
            replace hS : Sg w q c x f t u9 := hS.below hb
            replace HD := Lib.hid (HD.out.below hb HD.out.lt)
            replace HO1 := Lib.hid (HO1.out.below hb (Nat.le_refl _))
            replace HO2 := Lib.hid (HO2.out.below hb (Nat.le_refl _))
            replace HP := Lib.hid (HP.out.below hb HP.out.lt)
            clear hb u8
            iterate 1 (refine seqT_read (v := _) rfl (fun _ _ _ h => h) hS (Or.inl ⟨by rfl, fun W hW => by go_simp <;> with_reducible rfl⟩) ?_; simp only [Act.put, List.setIfInBounds_toArray, List.set_cons_zero, List.set_cons_succ])
            have D6 := HP.out
            obtain ⟨f0, f1, f2, f3, f4, f5, f6, f7, f8, f9, f10, g0, g1, g2, g3, g4, g5, g6, g7, g8, g9, g10⟩ := D6.cf
            refine seqT_do rfl (fun K hK => ?_)
            go_simp
            have hO := off_pstore q6 u9 (.bool mrk) (.int .i64 ty) (.int .u16 seq) (.int .u32 time) (.int .u32 ssrc) (.slice A1 cs.length k1) (.bool he) (.int .u16 0) (.slice A2 es.length k2) (.slice A3 ps.length k3) (.int .i64 pad)
            have D7 := D6.store ⟨mrk, ty, seq, time, ssrc, A1, cs.length, k1, he, 0, A2, es.length, k2, A3, ps.length, k3, pad⟩
            have hB7 := below_pstore hS.1 (Nat.le_of_lt HQ.out) (.bool mrk) (.int .i64 ty) (.int .u16 seq) (.int .u32 time) (.int .u32 ssrc) (.slice A1 cs.length k1) (.bool he) (.int .u16 0) (.slice A2 es.length k2) (.slice A3 ps.length k3) (.int .i64 pad)
            have L7 := hS.2.offb (D6.ne_lblk hS.2) hO
            replace HD := Lib.hid (HD.out.offb (Nat.ne_of_lt HQ.out) hO)
            replace HO1 := Lib.hid (HO1.out.off D6 hO)
            replace HO2 := Lib.hid (HO2.out.off D6 hO)
            replace HO3 := Lib.hid (HO3.out.off D6 hO)
            refine hK.out _ _ (Sg w q c x f t) (fun W h => h) ⟨hB7, L7⟩ ?_
            clear hK K hS HP D6 hO f0 g0 f1 g1 f2 g2 f3 g3 f4 g4 f5 g5 f6 g6 f7 g7 f8 g8 f9 g9 f10 g10
            refine seqT_end ?_
            generalize (((((((((((u9.setCell ⟨q6, 0, none⟩ (.bool mrk)).setCell ⟨q6, 1, none⟩ (.int .i64 ty)).setCell ⟨q6, 2, none⟩ (.int .u16 seq)).setCell ⟨q6, 3, none⟩ (.int .u32 time)).setCell ⟨q6, 4, none⟩ (.int .u32 ssrc)).setCell ⟨q6, 5, none⟩ (.slice A1 cs.length k1)).setCell ⟨q6, 6, none⟩ (.bool he)).setCell ⟨q6, 7, none⟩ (.int .u16 0)).setCell ⟨q6, 8, none⟩ (.slice A2 es.length k2)).setCell ⟨q6, 9, none⟩ (.slice A3 ps.length k3)).setCell ⟨q6, 10, none⟩ (.int .i64 pad)) = y at *
            clear u9
            have c6 := D7.c6
            rcases he with _ | _
            · clear CF q4
              have DD := HD.out
              obtain ⟨c0, c1, c2, c3, c4, c5, c6, c7, c8, c9, c10⟩ := D7.cells
              obtain ⟨f0, f1, f2, f3, f4, f5, f6, f7, f8, f9, f10, g0, g1, g2, g3, g4, g5, g6, g7, g8, g9, g10⟩ := DD.cf
              go_wp2
              have hO := off_pstore w.heap.size y (.bool mrk) (.int .i64 ty) (.int .u16 seq) (.int .u32 time) (.int .u32 ssrc) (.slice A1 cs.length k1) (.bool false) (.int .u16 0) (.slice A2 es.length k2) (.slice A3 ps.length k3) (.int .i64 pad)
              exact retP_at (DD.store ⟨mrk, ty, seq, time, ssrc, A1, cs.length, k1, false, 0, A2, es.length, k2, A3, ps.length, k3, pad⟩) (HR.out A1 k1 A2 k2 A3 k3 _ (HO1.out.off DD hO) (HO2.out.off DD hO) (HO3.out.off DD hO) (below_pstore hB7 (Nat.le_refl _) _ _ _ _ _ _ _ _ _ _ _))
            · have l0 := L7.c0
              go_wp2_with fail
              refine (CF.out (by first | rfl | trivial) _ hB7).mono ?_
              rintro e w' ⟨rfl, rfl⟩
              have j7 := D7.frozen 7
              have i7 := D7.c7
              have D8 := D7.set7 prof
              have hO7 := (Off.refl q6 y).set (k := 7) (.int .u16 prof)
              have DD := HD.out.offb (Nat.ne_of_lt HQ.out) hO7
              have hB8 := hB7.setCell (p := ⟨q6, 7, none⟩) (Nat.le_of_lt HQ.out) (.int .u16 prof)
              obtain ⟨c0, c1, c2, c3, c4, c5, c6, c7, c8, c9, c10⟩ := D8.cells
              obtain ⟨f0, f1, f2, f3, f4, f5, f6, f7, f8, f9, f10, g0, g1, g2, g3, g4, g5, g6, g7, g8, g9, g10⟩ := DD.cf
              go_wp2
              have hO := off_pstore w.heap.size (y.setCell ⟨q6, 7, none⟩ (.int .u16 prof)) (.bool mrk) (.int .i64 ty) (.int .u16 seq) (.int .u32 time) (.int .u32 ssrc) (.slice A1 cs.length k1) (.bool true) (.int .u16 prof) (.slice A2 es.length k2) (.slice A3 ps.length k3) (.int .i64 pad)
              exact retP_at (DD.store ⟨mrk, ty, seq, time, ssrc, A1, cs.length, k1, true, prof, A2, es.length, k2, A3, ps.length, k3, pad⟩) (HR.out A1 k1 A2 k2 A3 k3 _ ((HO1.out.off D7 hO7).off DD hO) ((HO2.out.off D7 hO7).off DD hO) ((HO3.out.off D7 hO7).off DD hO) (below_pstore hB8 (Nat.le_refl _) _ _ _ _ _ _ _ _ _ _ _))
        · go_simp
          have hbA := (Below.refl u.heap.size u).alloc (Nat.le_refl _) (.cells #[.bool false, .int .i64 0, .int .u16 0, .int .u32 0, .int .u32 0, .slice none 0 0, .bool false, .int .u16 0, .slice none 0 0, .slice none 0 0, .int .i64 0] 33)
          refine hK.out _ _ (Sg w q c x f t) (fun W h => h) (hS.below hbA) ?_
          clear hK K
          have HP := Lib.hid (PBlk.new u zpv)
          have HQ := Lib.hid HD.out.lt
          generalize u.alloc (.cells #[.bool false, .int .i64 0, .int .u16 0, .int .u32 0, .int .u32 0, .slice none 0 0, .bool false, .int .u16 0, .slice none 0 0, .slice none 0 0, .int .i64 0] 33) = u10 at *
          replace hS : Sg w q c x f t u10 := hS.below hbA
          replace HD := Lib.hid (HD.out.below hbA HD.out.lt)
          generalize u.heap.size = q6 at *
          clear hbA u
          refine seqT_do rfl (fun K hK => ?_)
          go_simp
          refine (CW.out _ _ hS.1 HX1.out).mono ?_
          rintro e u11 ⟨A1, k1, rfl, ho, hb⟩
          refine hK.out _ _ (Sg w q c x f t) (fun W h => h) (hS.below hb) ?_
          clear hK K CW HX1
          have HO1 := Lib.hid (ho.lower hS.1.size)
          clear ho
          replace hS : Sg w q c x f t u11 := hS.below hb
          replace HD := Lib.hid (HD.out.below hb HD.out.lt)
          replace HP := Lib.hid (HP.out.below hb HP.out.lt)
          clear hb u10
          refine seqT_do rfl (fun K hK => ?_)
          go_simp
          refine (CE.out _ _ hS.1 HX2.out).mono ?_
          rintro e u12 ⟨A2, k2, rfl, ho, hb⟩
          refine hK.out _ _ (Sg w q c x f t) (fun W h => h) (hS.below hb) ?_
          clear hK K CE HX2
          have HO2 := Lib.hid (ho.lower hS.1.size)
          clear ho
          replace hS : Sg w q c x f t u12 := hS.below hb
          replace HD := Lib.hid (HD.out.below hb HD.out.lt)
          replace HO1 := Lib.hid (HO1.out.below hb (Nat.le_refl _))
          replace HP := Lib.hid (HP.out.below hb HP.out.lt)
          clear hb u11
          refine seqT_do rfl (fun K hK => ?_)
          go_simp
          refine (CP.out _ _ hS.1 HX3.out).mono ?_
          rintro e u13 ⟨A3, k3, rfl, ho, hb⟩
          refine hK.out _ _ (Sg w q c x f t) (fun W h => h) (hS.below hb) ?_
          clear hK K CP HX3
          have HO3 := Lib.hid (ho.lower hS.1.size)
          clear ho
          replace hS : Sg w q c x f t u13 := hS.below hb
          replace HD := Lib.hid (HD.out.below hb HD.out.lt)
          replace HO1 := Lib.hid (HO1.out.below hb (Nat.le_refl _))
          replace HO2 := Lib.hid (HO2.out.below hb (Nat.le_refl _))
          replace HP := Lib.hid (HP.out.below hb HP.out.lt)
          clear hb u12
          iterate 1 (refine seqT_read (v := _) rfl (fun _ _ _ h => h) hS (Or.inl ⟨by rfl, fun W hW => by go_simp <;> with_reducible rfl⟩) ?_; simp only [Act.put, List.setIfInBounds_toArray, List.set_cons_zero, List.set_cons_succ])
          have D6 := HP.out
          obtain ⟨f0, f1, f2, f3, f4, f5, f6, f7, f8, f9, f10, g0, g1, g2, g3, g4, g5, g6, g7, g8, g9, g10⟩ := D6.cf
          refine seqT_do rfl (fun K hK => ?_)
          go_simp
          have hO := off_pstore q6 u13 (.bool mrk) (.int .i64 ty) (.int .u16 seq) (.int .u32 time) (.int .u32 ssrc) (.slice A1 cs.length k1) (.bool he) (.int .u16 0) (.slice A2 es.length k2) (.slice A3 ps.length k3) (.int .i64 pad)
          have D7 := D6.store ⟨mrk, ty, seq, time, ssrc, A1, cs.length, k1, he, 0, A2, es.length, k2, A3, ps.length, k3, pad⟩
          have hB7 := below_pstore hS.1 (Nat.le_of_lt HQ.out) (.bool mrk) (.int .i64 ty) (.int .u16 seq) (.int .u32 time) (.int .u32 ssrc) (.slice A1 cs.length k1) (.bool he) (.int .u16 0) (.slice A2 es.length k2) (.slice A3 ps.length k3) (.int .i64 pad)
          have L7 := hS.2.offb (D6.ne_lblk hS.2) hO
          replace HD := Lib.hid (HD.out.offb (Nat.ne_of_lt HQ.out) hO)
          replace HO1 := Lib.hid (HO1.out.off D6 hO)
          replace HO2 := Lib.hid (HO2.out.off D6 hO)
          replace HO3 := Lib.hid (HO3.out.off D6 hO)
          refine hK.out _ _ (Sg w q c x f t) (fun W h => h) ⟨hB7, L7⟩ ?_
          clear hK K hS HP D6 hO f0 g0 f1 g1 f2 g2 f3 g3 f4 g4 f5 g5 f6 g6 f7 g7 f8 g8 f9 g9 f10 g10
          refine seqT_end ?_
          generalize (((((((((((u13.setCell ⟨q6, 0, none⟩ (.bool mrk)).setCell ⟨q6, 1, none⟩ (.int .i64 ty)).setCell ⟨q6, 2, none⟩ (.int .u16 seq)).setCell ⟨q6, 3, none⟩ (.int .u32 time)).setCell ⟨q6, 4, none⟩ (.int .u32 ssrc)).setCell ⟨q6, 5, none⟩ (.slice A1 cs.length k1)).setCell ⟨q6, 6, none⟩ (.bool he)).setCell ⟨q6, 7, none⟩ (.int .u16 0)).setCell ⟨q6, 8, none⟩ (.slice A2 es.length k2)).setCell ⟨q6, 9, none⟩ (.slice A3 ps.length k3)).setCell ⟨q6, 10, none⟩ (.int .i64 pad)) = y at *
          clear u13
          have c6 := D7.c6
          rcases he with _ | _
          · clear CF q4
            have DD := HD.out
            obtain ⟨c0, c1, c2, c3, c4, c5, c6, c7, c8, c9, c10⟩ := D7.cells
            obtain ⟨f0, f1, f2, f3, f4, f5, f6, f7, f8, f9, f10, g0, g1, g2, g3, g4, g5, g6, g7, g8, g9, g10⟩ := DD.cf
            go_wp2
            have hO := off_pstore w.heap.size y (.bool mrk) (.int .i64 ty) (.int .u16 seq) (.int .u32 time) (.int .u32 ssrc) (.slice A1 cs.length k1) (.bool false) (.int .u16 0) (.slice A2 es.length k2) (.slice A3 ps.length k3) (.int .i64 pad)
            exact retP_at (DD.store ⟨mrk, ty, seq, time, ssrc, A1, cs.length, k1, false, 0, A2, es.length, k2, A3, ps.length, k3, pad⟩) (HR.out A1 k1 A2 k2 A3 k3 _ (HO1.out.off DD hO) (HO2.out.off DD hO) (HO3.out.off DD hO) (below_pstore hB7 (Nat.le_refl _) _ _ _ _ _ _ _ _ _ _ _))
          · have l0 := L7.c0
            go_wp2_with fail
            refine (CF.out (by first | rfl | trivial) _ hB7).mono ?_
            rintro e w' ⟨rfl, rfl⟩
            have j7 := D7.frozen 7
            have i7 := D7.c7
            have D8 := D7.set7 prof
            have hO7 := (Off.refl q6 y).set (k := 7) (.int .u16 prof)
            have DD := HD.out.offb (Nat.ne_of_lt HQ.out) hO7
            have hB8 := hB7.setCell (p := ⟨q6, 7, none⟩) (Nat.le_of_lt HQ.out) (.int .u16 prof)
            obtain ⟨c0, c1, c2, c3, c4, c5, c6, c7, c8, c9, c10⟩ := D8.cells
            obtain ⟨f0, f1, f2, f3, f4, f5, f6, f7, f8, f9, f10, g0, g1, g2, g3, g4, g5, g6, g7, g8, g9, g10⟩ := DD.cf
            go_wp2
            have hO := off_pstore w.heap.size (y.setCell ⟨q6, 7, none⟩ (.int .u16 prof)) (.bool mrk) (.int .i64 ty) (.int .u16 seq) (.int .u32 time) (.int .u32 ssrc) (.slice A1 cs.length k1) (.bool true) (.int .u16 prof) (.slice A2 es.length k2) (.slice A3 ps.length k3) (.int .i64 pad)
            exact retP_at (DD.store ⟨mrk, ty, seq, time, ssrc, A1, cs.length, k1, true, prof, A2, es.length, k2, A3, ps.length, k3, pad⟩) (HR.out A1 k1 A2 k2 A3 k3 _ ((HO1.out.off D7 hO7).off DD hO) ((HO2.out.off D7 hO7).off DD hO) ((HO3.out.off D7 hO7).off DD hO) (below_pstore hB8 (Nat.le_refl _) _ _ _ _ _ _ _ _ _ _ _))
      · go_simp
        have hbA := (Below.refl u.heap.size u).alloc (Nat.le_refl _) (.cells #[.bool false, .int .i64 0, .int .u16 0, .int .u32 0, .int .u32 0, .slice none 0 0, .bool false, .int .u16 0, .slice none 0 0, .slice none 0 0, .int .i64 0] 33)
        refine hK.out _ _ (Sg w q c x f t) (fun W h => h) (hS.below hbA) ?_
        clear hK K
        have HP := Lib.hid (PBlk.new u zpv)
        have HQ := Lib.hid HD.out.lt
        generalize u.alloc (.cells #[.bool false, .int .i64 0, .int .u16 0, .int .u32 0, .int .u32 0, .slice none 0 0, .bool false, .int .u16 0, .slice none 0 0, .slice none 0 0, .int .i64 0] 33) = u14 at *
        replace hS : Sg w q c x f t u14 := hS.below hbA
        replace HD := Lib.hid (HD.out.below hbA HD.out.lt)
        generalize u.heap.size = q6 at *
        clear hbA u
        refine seqT_do rfl (fun K hK => ?_)
        go_simp
        refine (CZ.out _ hS.1).mono ?_
        rintro e w' ⟨rfl, rfl⟩
        refine hK.out _ _ (Sg w q c x f t) (fun W h => h) hS ?_
        clear hK K CZ
        iterate 1 (refine seqT_read (v := _) rfl (fun _ _ _ h => h) hS (Or.inl ⟨by rfl, fun W hW => by go_simp <;> with_reducible rfl⟩) ?_; simp only [Act.put, List.setIfInBounds_toArray, List.set_cons_zero, List.set_cons_succ])
        refine seqT_do rfl (fun K hK => ?_)
        go_simp
        refine (CW.out _ _ hS.1 HX1.out).mono ?_
        rintro e u15 ⟨A1, k1, rfl, ho, hb⟩
        refine hK.out _ _ (Sg w q c x f t) (fun W h => h) (hS.below hb) ?_
        clear hK K CW HX1
        have HO1 := Lib.hid (ho.lower hS.1.size)
        clear ho
        replace hS : Sg w q c x f t u15 := hS.below hb
        replace HD := Lib.hid (HD.out.below hb HD.out.lt)
        replace HP := Lib.hid (HP.out.below hb HP.out.lt)
        clear hb u14
        refine seqT_do rfl (fun K hK => ?_)
        go_simp
        refine (CE.out _ _ hS.1 HX2.out).mono ?_
        rintro e u16 ⟨A2, k2, rfl, ho, hb⟩
        refine hK.out _ _ (Sg w q c x f t) (fun W h => h) (hS.below hb) ?_
        clear hK K CE HX2
        have HO2 := Lib.hid (ho.lower hS.1.size)
        clear ho
        replace hS : Sg w q c x f t u16 := hS.below hb
        replace HD := Lib.hid (HD.out.below hb HD.out.lt)
        replace HO1 := Lib.hid (HO1.out.below hb (Nat.le_refl _))
        replace HP := Lib.hid (HP.out.below hb HP.out.lt)
        clear hb u15
        refine seqT_do rfl (fun K hK => ?_)
        go_simp
        refine (CP.out _ _ hS.1 HX3.out).mono ?_
        rintro e u17 ⟨A3, k3, rfl, ho, hb⟩
        refine hK.out _ _ (Sg w q c x f t) (fun W h => h) (hS.below hb) ?_
        clear hK K CP HX3
        have HO3 := Lib.hid (ho.lower hS.1.size)
        clear ho
        replace hS : Sg w q c x f t u17 := hS.below hb
        replace HD := Lib.hid (HD.out.below hb HD.out.lt)
        replace HO1 := Lib.hid (HO1.out.below hb (Nat.le_refl _))
        replace HO2 := Lib.hid (HO2.out.below hb (Nat.le_refl _))
        replace HP := Lib.hid (HP.out.below hb HP.out.lt)
        clear hb u16
        iterate 1 (refine seqT_read (v := _) rfl (fun _ _ _ h => h) hS (Or.inl ⟨by rfl, fun W hW => by go_simp <;> with_reducible rfl⟩) ?_; simp only [Act.put, List.setIfInBounds_toArray, List.set_cons_zero, List.set_cons_succ])
        have D6 := HP.out
        obtain ⟨f0, f1, f2, f3, f4, f5, f6, f7, f8, f9, f10, g0, g1, g2, g3, g4, g5, g6, g7, g8, g9, g10⟩ := D6.cf
        refine seqT_do rfl (fun K hK => ?_)
        go_simp
        have hO := off_pstore q6 u17 (.bool mrk) (.int .i64 ty) (.int .u16 seq) (.int .u32 time) (.int .u32 ssrc) (.slice A1 cs.length k1) (.bool he) (.int .u16 0) (.slice A2 es.length k2) (.slice A3 ps.length k3) (.int .i64 pad)
        have D7 := D6.store ⟨mrk, ty, seq, time, ssrc, A1, cs.length, k1, he, 0, A2, es.length, k2, A3, ps.length, k3, pad⟩
        have hB7 := below_pstore hS.1 (Nat.le_of_lt HQ.out) (.bool mrk) (.int .i64 ty) (.int .u16 seq) (.int .u32 time) (.int .u32 ssrc) (.slice A1 cs.length k1) (.bool he) (.int .u16 0) (.slice A2 es.length k2) (.slice A3 ps.length k3) (.int .i64 pad)
        have L7 := hS.2.offb (D6.ne_lblk hS.2) hO
        replace HD := Lib.hid (HD.out.offb (Nat.ne_of_lt HQ.out) hO)
        replace HO1 := Lib.hid (HO1.out.off D6 hO)
        replace HO2 := Lib.hid (HO2.out.off D6 hO)
        replace HO3 := Lib.hid (HO3.out.off D6 hO)
        refine hK.out _ _ (Sg w q c x f t) (fun W h => h) ⟨hB7, L7⟩ ?_
        clear hK K hS HP D6 hO f0 g0 f1 g1 f2 g2 f3 g3 f4 g4 f5 g5 f6 g6 f7 g7 f8 g8 f9 g9 f10 g10
        refine seqT_end ?_
        generalize (((((((((((u17.setCell ⟨q6, 0, none⟩ (.bool mrk)).setCell ⟨q6, 1, none⟩ (.int .i64 ty)).setCell ⟨q6, 2, none⟩ (.int .u16 seq)).setCell ⟨q6, 3, none⟩ (.int .u32 time)).setCell ⟨q6, 4, none⟩ (.int .u32 ssrc)).setCell ⟨q6, 5, none⟩ (.slice A1 cs.length k1)).setCell ⟨q6, 6, none⟩ (.bool he)).setCell ⟨q6, 7, none⟩ (.int .u16 0)).setCell ⟨q6, 8, none⟩ (.slice A2 es.length k2)).setCell ⟨q6, 9, none⟩ (.slice A3 ps.length k3)).setCell ⟨q6, 10, none⟩ (.int .i64 pad)) = y at *
        clear u17
        have c6 := D7.c6
        rcases he with _ | _
        · clear CF q4
          have DD := HD.out
          obtain ⟨c0, c1, c2, c3, c4, c5, c6, c7, c8, c9, c10⟩ := D7.cells
          obtain ⟨f0, f1, f2, f3, f4, f5, f6, f7, f8, f9, f10, g0, g1, g2, g3, g4, g5, g6, g7, g8, g9, g10⟩ := DD.cf
          go_wp2
          have hO := off_pstore w.heap.size y (.bool mrk) (.int .i64 ty) (.int .u16 seq) (.int .u32 time) (.int .u32 ssrc) (.slice A1 cs.length k1) (.bool false) (.int .u16 0) (.slice A2 es.length k2) (.slice A3 ps.length k3) (.int .i64 pad)
          exact retP_at (DD.store ⟨mrk, ty, seq, time, ssrc, A1, cs.length, k1, false, 0, A2, es.length, k2, A3, ps.length, k3, pad⟩) (HR.out A1 k1 A2 k2 A3 k3 _ (HO1.out.off DD hO) (HO2.out.off DD hO) (HO3.out.off DD hO) (below_pstore hB7 (Nat.le_refl _) _ _ _ _ _ _ _ _ _ _ _))
        · have l0 := L7.c0
          go_wp2_with fail
          refine (CF.out (by first | rfl | trivial) _ hB7).mono ?_
          rintro e w' ⟨rfl, rfl⟩
          have j7 := D7.frozen 7
          have i7 := D7.c7
          have D8 := D7.set7 prof
          have hO7 := (Off.refl q6 y).set (k := 7) (.int .u16 prof)
          have DD := HD.out.offb (Nat.ne_of_lt HQ.out) hO7
          have hB8 := hB7.setCell (p := ⟨q6, 7, none⟩) (Nat.le_of_lt HQ.out) (.int .u16 prof)
          obtain ⟨c0, c1, c2, c3, c4, c5, c6, c7, c8, c9, c10⟩ := D8.cells
          obtain ⟨f0, f1, f2, f3, f4, f5, f6, f7, f8, f9, f10, g0, g1, g2, g3, g4, g5, g6, g7, g8, g9, g10⟩ := DD.cf
          go_wp2
          have hO := off_pstore w.heap.size (y.setCell ⟨q6, 7, none⟩ (.int .u16 prof)) (.bool mrk) (.int .i64 ty) (.int .u16 seq) (.int .u32 time) (.int .u32 ssrc) (.slice A1 cs.length k1) (.bool true) (.int .u16 prof) (.slice A2 es.length k2) (.slice A3 ps.length k3) (.int .i64 pad)
          exact retP_at (DD.store ⟨mrk, ty, seq, time, ssrc, A1, cs.length, k1, true, prof, A2, es.length, k2, A3, ps.length, k3, pad⟩) (HR.out A1 k1 A2 k2 A3 k3 _ ((HO1.out.off D7 hO7).off DD hO) ((HO2.out.off D7 hO7).off DD hO) ((HO3.out.off D7 hO7).off DD hO) (below_pstore hB8 (Nat.le_refl _) _ _ _ _ _ _ _ _ _ _ _))
    · go_simp
      have hbA := (Below.refl u.heap.size u).alloc (Nat.le_refl _) (.cells #[.bool false, .int .i64 0, .int .u16 0, .int .u32 0, .int .u32 0, .slice none 0 0, .bool false, .int .u16 0, .slice none 0 0, .slice none 0 0, .int .i64 0] 33)
      refine hK.out _ _ (Sg w q c x f t) (fun W h => h) (hS.below hbA) ?_
      clear hK K
      have HP := Lib.hid (PBlk.new u zpv)
      have HQ := Lib.hid HD.out.lt
      generalize u.alloc (.cells #[.bool false, .int .i64 0, .int .u16 0, .int .u32 0, .int .u32 0, .slice none 0 0, .bool false, .int .u16 0, .slice none 0 0, .slice none 0 0, .int .i64 0] 33) = u18 at *
      replace hS : Sg w q c x f t u18 := hS.below hbA
      replace HD := Lib.hid (HD.out.below hbA HD.out.lt)
      generalize u.heap.size = q6 at *
      clear hbA u
      refine seqT_do rfl (fun K hK => ?_)
      go_simp
      refine (CT.out _ hS.1).mono ?_
      rintro e w' ⟨rfl, rfl⟩
      refine hK.out _ _ (Sg w q c x f t) (fun W h => h) hS ?_
      clear hK K CT
      iterate 1 (refine seqT_read (v := _) rfl (fun _ _ _ h => h) hS (Or.inl ⟨by rfl, fun W hW => by go_simp <;> with_reducible rfl⟩) ?_; simp only [Act.put, List.setIfInBounds_toArray, List.set_cons_zero, List.set_cons_succ])
      refine seqT_do rfl (fun K hK => ?_)
      go_simp
      refine (CZ.out _ hS.1).mono ?_
      rintro e w' ⟨rfl, rfl⟩
      refine hK.out _ _ (Sg w q c x f t) (fun W h => h) hS ?_
      clear hK K CZ
      iterate 1 (refine seqT_read (v := _) rfl (fun _ _ _ h => h) hS (Or.inl ⟨by rfl, fun W hW => by go_simp <;> with_reducible rfl⟩) ?_; simp only [Act.put, List.setIfInBounds_toArray, List.set_cons_zero, List.set_cons_succ])
      refine seqT_do rfl (fun K hK => ?_)
      go_simp
      refine (CW.out _ _ hS.1 HX1.out).mono ?_
      rintro e u19 ⟨A1, k1, rfl, ho, hb⟩
      refine hK.out _ _ (Sg w q c x f t) (fun W h => h) (hS.below hb) ?_
      clear hK K CW HX1
      have HO1 := Lib.hid (ho.lower hS.1.size)
      clear ho
      replace hS : Sg w q c x f t u19 := hS.below hb
      replace HD := Lib.hid (HD.out.below hb HD.out.lt)
      replace HP := Lib.hid (HP.out.below hb HP.out.lt)
      clear hb u18
      refine seqT_do rfl (fun K hK => ?_)
      go_simp
      refine (CE.out _ _ hS.1 HX2.out).mono ?_
      rintro e u20 ⟨A2, k2, rfl, ho, hb⟩
      refine hK.out _ _ (Sg w q c x f t) (fun W h => h) (hS.below hb) ?_
      clear hK K CE HX2
      have HO2 := Lib.hid (ho.lower hS.1.size)
      clear ho
      replace hS : Sg w q c x f t u20 := hS.below hb
      replace HD := Lib.hid (HD.out.below hb HD.out.lt)
      replace HO1 := Lib.hid (HO1.out.below hb (Nat.le_refl _))
      replace HP := Lib.hid (HP.out.below hb HP.out.lt)
      clear hb u19
      refine seqT_do rfl (fun K hK => ?_)
      go_simp
      refine (CP.out _ _ hS.1 HX3.out).mono ?_
      rintro e u21 ⟨A3, k3, rfl, ho, hb⟩
      refine hK.out _ _ (Sg w q c x f t) (fun W h => h) (hS.below hb) ?_
      clear hK K CP HX3
      have HO3 := Lib.hid (ho.lower hS.1.size)
      clear ho
      replace hS : Sg w q c x f t u21 := hS.below hb
      replace HD := Lib.hid (HD.out.below hb HD.out.lt)
      replace HO1 := Lib.hid (HO1.out.below hb (Nat.le_refl _))
      replace HO2 := Lib.hid (HO2.out.below hb (Nat.le_refl _))
      replace HP := Lib.hid (HP.out.below hb HP.out.lt)
      clear hb u20
      iterate 1 (refine seqT_read (v := _) rfl (fun _ _ _ h => h) hS (Or.inl ⟨by rfl, fun W hW => by go_simp <;> with_reducible rfl⟩) ?_; simp only [Act.put, List.setIfInBounds_toArray, List.set_cons_zero, List.set_cons_succ])
      have D6 := HP.out
      obtain ⟨f0, f1, f2, f3, f4, f5, f6, f7, f8, f9, f10, g0, g1, g2, g3, g4, g5, g6, g7, g8, g9, g10⟩ := D6.cf
      refine seqT_do rfl (fun K hK => ?_)
      go_simp
      have hO := off_pstore q6 u21 (.bool mrk) (.int .i64 ty) (.int .u16 seq) (.int .u32 time) (.int .u32 ssrc) (.slice A1 cs.length k1) (.bool he) (.int .u16 0) (.slice A2 es.length k2) (.slice A3 ps.length k3) (.int .i64 pad)
      have D7 := D6.store ⟨mrk, ty, seq, time, ssrc, A1, cs.length, k1, he, 0, A2, es.length, k2, A3, ps.length, k3, pad⟩
      have hB7 := below_pstore hS.1 (Nat.le_of_lt HQ.out) (.bool mrk) (.int .i64 ty) (.int .u16 seq) (.int .u32 time) (.int .u32 ssrc) (.slice A1 cs.length k1) (.bool he) (.int .u16 0) (.slice A2 es.length k2) (.slice A3 ps.length k3) (.int .i64 pad)
      have L7 := hS.2.offb (D6.ne_lblk hS.2) hO
      replace HD := Lib.hid (HD.out.offb (Nat.ne_of_lt HQ.out) hO)
      replace HO1 := Lib.hid (HO1.out.off D6 hO)
      replace HO2 := Lib.hid (HO2.out.off D6 hO)
      replace HO3 := Lib.hid (HO3.out.off D6 hO)
      refine hK.out _ _ (Sg w q c x f t) (fun W h => h) ⟨hB7, L7⟩ ?_
      clear hK K hS HP D6 hO f0 g0 f1 g1 f2 g2 f3 g3 f4 g4 f5 g5 f6 g6 f7 g7 f8 g8 f9 g9 f10 g10
      refine seqT_end ?_
      generalize (((((((((((u21.setCell ⟨q6, 0, none⟩ (.bool mrk)).setCell ⟨q6, 1, none⟩ (.int .i64 ty)).setCell ⟨q6, 2, none⟩ (.int .u16 seq)).setCell ⟨q6, 3, none⟩ (.int .u32 time)).setCell ⟨q6, 4, none⟩ (.int .u32 ssrc)).setCell ⟨q6, 5, none⟩ (.slice A1 cs.length k1)).setCell ⟨q6, 6, none⟩ (.bool he)).setCell ⟨q6, 7, none⟩ (.int .u16 0)).setCell ⟨q6, 8, none⟩ (.slice A2 es.length k2)).setCell ⟨q6, 9, none⟩ (.slice A3 ps.length k3)).setCell ⟨q6, 10, none⟩ (.int .i64 pad)) = y at *
      clear u21
      have c6 := D7.c6
      rcases he with _ | _
      · clear CF q4
        have DD := HD.out
        obtain ⟨c0, c1, c2, c3, c4, c5, c6, c7, c8, c9, c10⟩ := D7.cells
        obtain ⟨f0, f1, f2, f3, f4, f5, f6, f7, f8, f9, f10, g0, g1, g2, g3, g4, g5, g6, g7, g8, g9, g10⟩ := DD.cf
        go_wp2
        have hO := off_pstore w.heap.size y (.bool mrk) (.int .i64 ty) (.int .u16 seq) (.int .u32 time) (.int .u32 ssrc) (.slice A1 cs.length k1) (.bool false) (.int .u16 0) (.slice A2 es.length k2) (.slice A3 ps.length k3) (.int .i64 pad)
        exact retP_at (DD.store ⟨mrk, ty, seq, time, ssrc, A1, cs.length, k1, false, 0, A2, es.length, k2, A3, ps.length, k3, pad⟩) (HR.out A1 k1 A2 k2 A3 k3 _ (HO1.out.off DD hO) (HO2.out.off DD hO) (HO3.out.off DD hO) (below_pstore hB7 (Nat.le_refl _) _ _ _ _ _ _ _ _ _ _ _))
      · have l0 := L7.c0
        go_wp2_with fail
        refine (CF.out (by first | rfl | trivial) _ hB7).mono ?_
        rintro e w' ⟨rfl, rfl⟩
        have j7 := D7.frozen 7
        have i7 := D7.c7
        have D8 := D7.set7 prof
        have hO7 := (Off.refl q6 y).set (k := 7) (.int .u16 prof)
        have DD := HD.out.offb (Nat.ne_of_lt HQ.out) hO7
        have hB8 := hB7.setCell (p := ⟨q6, 7, none⟩) (Nat.le_of_lt HQ.out) (.int .u16 prof)
        obtain ⟨c0, c1, c2, c3, c4, c5, c6, c7, c8, c9, c10⟩ := D8.cells
        obtain ⟨f0, f1, f2, f3, f4, f5, f6, f7, f8, f9, f10, g0, g1, g2, g3, g4, g5, g6, g7, g8, g9, g10⟩ := DD.cf
        go_wp2
        have hO := off_pstore w.heap.size (y.setCell ⟨q6, 7, none⟩ (.int .u16 prof)) (.bool mrk) (.int .i64 ty) (.int .u16 seq) (.int .u32 time) (.int .u32 ssrc) (.slice A1 cs.length k1) (.bool true) (.int .u16 prof) (.slice A2 es.length k2) (.slice A3 ps.length k3) (.int .i64 pad)
        exact retP_at (DD.store ⟨mrk, ty, seq, time, ssrc, A1, cs.length, k1, true, prof, A2, es.length, k2, A3, ps.length, k3, pad⟩) (HR.out A1 k1 A2 k2 A3 k3 _ ((HO1.out.off D7 hO7).off DD hO) ((HO2.out.off D7 hO7).off DD hO) ((HO3.out.off D7 hO7).off DD hO) (below_pstore hB8 (Nat.le_refl _) _ _ _ _ _ _ _ _ _ _ _))
  · go_simp
    have hbA := (Below.refl u.heap.size u).alloc (Nat.le_refl _) (.cells #[.bool false, .int .i64 0, .int .u16 0, .int .u32 0, .int .u32 0, .slice none 0 0, .bool false, .int .u16 0, .slice none 0 0, .slice none 0 0, .int .i64 0] 33)
    refine hK.out _ _ (Sg w q c x f t) (fun W h => h) (hS.below hbA) ?_
    clear hK K
    have HP := Lib.hid (PBlk.new u zpv)
    have HQ := Lib.hid HD.out.lt
    generalize u.alloc (.cells #[.bool false, .int .i64 0, .int .u16 0, .int .u32 0, .int .u32 0, .slice none 0 0, .bool false, .int .u16 0, .slice none 0 0, .slice none 0 0, .int .i64 0] 33) = u22 at *
    replace hS : Sg w q c x f t u22 := hS.below hbA
    replace HD := Lib.hid (HD.out.below hbA HD.out.lt)
    generalize u.heap.size = q6 at *
    clear hbA u
    refine seqT_do rfl (fun K hK => ?_)
    go_simp
    refine (CS.out _ hS.1).mono ?_
    rintro e w' ⟨rfl, rfl⟩
    refine hK.out _ _ (Sg w q c x f t) (fun W h => h) hS ?_
    clear hK K CS
    iterate 1 (refine seqT_read (v := _) rfl (fun _ _ _ h => h) hS (Or.inl ⟨by rfl, fun W hW => by go_simp <;> with_reducible rfl⟩) ?_; simp only [Act.put, List.setIfInBounds_toArray, List.set_cons_zero, List.set_cons_succ])
    refine seqT_do rfl (fun K hK => ?_)
    go_simp
    refine (CT.out _ hS.1).mono ?_
    rintro e w' ⟨rfl, rfl⟩
    refine hK.out _ _ (Sg w q c x f t) (fun W h => h) hS ?_
    clear hK K CT
    iterate 1 (refine seqT_read (v := _) rfl (fun _ _ _ h => h) hS (Or.inl ⟨by rfl, fun W hW => by go_simp <;> with_reducible rfl⟩) ?_; simp only [Act.put, List.setIfInBounds_toArray, List.set_cons_zero, List.set_cons_succ])
    refine seqT_do rfl (fun K hK => ?_)
    go_simp
    refine (CZ.out _ hS.1).mono ?_
    rintro e w' ⟨rfl, rfl⟩
    refine hK.out _ _ (Sg w q c x f t) (fun W h => h) hS ?_
    clear hK K CZ
    iterate 1 (refine seqT_read (v := _) rfl (fun _ _ _ h => h) hS (Or.inl ⟨by rfl, fun W hW => by go_simp <;> with_reducible rfl⟩) ?_; simp only [Act.put, List.setIfInBounds_toArray, List.set_cons_zero, List.set_cons_succ])
    refine seqT_do rfl (fun K hK => ?_)
    go_simp
    refine (CW.out _ _ hS.1 HX1.out).mono ?_
    rintro e u23 ⟨A1, k1, rfl, ho, hb⟩
    refine hK.out _ _ (Sg w q c x f t) (fun W h => h) (hS.below hb) ?_
    clear hK K CW HX1
    have HO1 := Lib.hid (ho.lower hS.1.size)
    clear ho
    replace hS : Sg w q c x f t u23 := hS.below hb
    replace HD := Lib.hid (HD.out.below hb HD.out.lt)
    replace HP := Lib.hid (HP.out.below hb HP.out.lt)
    clear hb u22
    refine seqT_do rfl (fun K hK => ?_)
    go_simp
    refine (CE.out _ _ hS.1 HX2.out).mono ?_
    rintro e u24 ⟨A2, k2, rfl, ho, hb⟩
    refine hK.out _ _ (Sg w q c x f t) (fun W h => h) (hS.below hb) ?_
    clear hK K CE HX2
    have HO2 := Lib.hid (ho.lower hS.1.size)
    clear ho
    replace hS : Sg w q c x f t u24 := hS.below hb
    replace HD := Lib.hid (HD.out.below hb HD.out.lt)
    replace HO1 := Lib.hid (HO1.out.below hb (Nat.le_refl _))
    replace HP := Lib.hid (HP.out.below hb HP.out.lt)
    clear hb u23
    refine seqT_do rfl (fun K hK => ?_)
    go_simp
    refine (CP.out _ _ hS.1 HX3.out).mono ?_
    rintro e u25 ⟨A3, k3, rfl, ho, hb⟩
    refine hK.out _ _ (Sg w q c x f t) (fun W h => h) (hS.below hb) ?_
    clear hK K CP HX3
    have HO3 := Lib.hid (ho.lower hS.1.size)
    clear ho
    replace hS : Sg w q c x f t u25 := hS.below hb
    replace HD := Lib.hid (HD.out.below hb HD.out.lt)
    replace HO1 := Lib.hid (HO1.out.below hb (Nat.le_refl _))
    replace HO2 := Lib.hid (HO2.out.below hb (Nat.le_refl _))
    replace HP := Lib.hid (HP.out.below hb HP.out.lt)
    clear hb u24
    iterate 1 (refine seqT_read (v := _) rfl (fun _ _ _ h => h) hS (Or.inl ⟨by rfl, fun W hW => by go_simp <;> with_reducible rfl⟩) ?_; simp only [Act.put, List.setIfInBounds_toArray, List.set_cons_zero, List.set_cons_succ])
    have D6 := HP.out
    obtain ⟨f0, f1, f2, f3, f4, f5, f6, f7, f8, f9, f10, g0, g1, g2, g3, g4, g5, g6, g7, g8, g9, g10⟩ := D6.cf
    refine seqT_do rfl (fun K hK => ?_)
    go_simp
    have hO := off_pstore q6 u25 (.bool mrk) (.int .i64 ty) (.int .u16 seq) (.int .u32 time) (.int .u32 ssrc) (.slice A1 cs.length k1) (.bool he) (.int .u16 0) (.slice A2 es.length k2) (.slice A3 ps.length k3) (.int .i64 pad)
    have D7 := D6.store ⟨mrk, ty, seq, time, ssrc, A1, cs.length, k1, he, 0, A2, es.length, k2, A3, ps.length, k3, pad⟩
    have hB7 := below_pstore hS.1 (Nat.le_of_lt HQ.out) (.bool mrk) (.int .i64 ty) (.int .u16 seq) (.int .u32 time) (.int .u32 ssrc) (.slice A1 cs.length k1) (.bool he) (.int .u16 0) (.slice A2 es.length k2) (.slice A3 ps.length k3) (.int .i64 pad)
    have L7 := hS.2.offb (D6.ne_lblk hS.2) hO
    replace HD := Lib.hid (HD.out.offb (Nat.ne_of_lt HQ.out) hO)
    replace HO1 := Lib.hid (HO1.out.off D6 hO)
    replace HO2 := Lib.hid (HO2.out.off D6 hO)
    replace HO3 := Lib.hid (HO3.out.off D6 hO)
    refine hK.out _ _ (Sg w q c x f t) (fun W h => h) ⟨hB7, L7⟩ ?_
    clear hK K hS HP D6 hO f0 g0 f1 g1 f2 g2 f3 g3 f4 g4 f5 g5 f6 g6 f7 g7 f8 g8 f9 g9 f10 g10
    refine seqT_end ?_
    generalize (((((((((((u25.setCell ⟨q6, 0, none⟩ (.bool mrk)).setCell ⟨q6, 1, none⟩ (.int .i64 ty)).setCell ⟨q6, 2, none⟩ (.int .u16 seq)).setCell ⟨q6, 3, none⟩ (.int .u32 time)).setCell ⟨q6, 4, none⟩ (.int .u32 ssrc)).setCell ⟨q6, 5, none⟩ (.slice A1 cs.length k1)).setCell ⟨q6, 6, none⟩ (.bool he)).setCell ⟨q6, 7, none⟩ (.int .u16 0)).setCell ⟨q6, 8, none⟩ (.slice A2 es.length k2)).setCell ⟨q6, 9, none⟩ (.slice A3 ps.length k3)).setCell ⟨q6, 10, none⟩ (.int .i64 pad)) = y at *
    clear u25
    have c6 := D7.c6
    rcases he with _ | _
    · clear CF q4
      have DD := HD.out
      obtain ⟨c0, c1, c2, c3, c4, c5, c6, c7, c8, c9, c10⟩ := D7.cells
      obtain ⟨f0, f1, f2, f3, f4, f5, f6, f7, f8, f9, f10, g0, g1, g2, g3, g4, g5, g6, g7, g8, g9, g10⟩ := DD.cf
      go_wp2
      have hO := off_pstore w.heap.size y (.bool mrk) (.int .i64 ty) (.int .u16 seq) (.int .u32 time) (.int .u32 ssrc) (.slice A1 cs.length k1) (.bool false) (.int .u16 0) (.slice A2 es.length k2) (.slice A3 ps.length k3) (.int .i64 pad)
      exact retP_at (DD.store ⟨mrk, ty, seq, time, ssrc, A1, cs.length, k1, false, 0, A2, es.length, k2, A3, ps.length, k3, pad⟩) (HR.out A1 k1 A2 k2 A3 k3 _ (HO1.out.off DD hO) (HO2.out.off DD hO) (HO3.out.off DD hO) (below_pstore hB7 (Nat.le_refl _) _ _ _ _ _ _ _ _ _ _ _))
    · have l0 := L7.c0
      go_wp2_with fail
      refine (CF.out (by first | rfl | trivial) _ hB7).mono ?_
      rintro e w' ⟨rfl, rfl⟩
      have j7 := D7.frozen 7
      have i7 := D7.c7
      have D8 := D7.set7 prof
      have hO7 := (Off.refl q6 y).set (k := 7) (.int .u16 prof)
      have DD := HD.out.offb (Nat.ne_of_lt HQ.out) hO7
      have hB8 := hB7.setCell (p := ⟨q6, 7, none⟩) (Nat.le_of_lt HQ.out) (.int .u16 prof)
      obtain ⟨c0, c1, c2, c3, c4, c5, c6, c7, c8, c9, c10⟩ := D8.cells
      obtain ⟨f0, f1, f2, f3, f4, f5, f6, f7, f8, f9, f10, g0, g1, g2, g3, g4, g5, g6, g7, g8, g9, g10⟩ := DD.cf
      go_wp2
      have hO := off_pstore w.heap.size (y.setCell ⟨q6, 7, none⟩ (.int .u16 prof)) (.bool mrk) (.int .i64 ty) (.int .u16 seq) (.int .u32 time) (.int .u32 ssrc) (.slice A1 cs.length k1) (.bool true) (.int .u16 prof) (.slice A2 es.length k2) (.slice A3 ps.length k3) (.int .i64 pad)
      exact retP_at (DD.store ⟨mrk, ty, seq, time, ssrc, A1, cs.length, k1, true, prof, A2, es.length, k2, A3, ps.length, k3, pad⟩) (HR.out A1 k1 A2 k2 A3 k3 _ ((HO1.out.off D7 hO7).off DD hO) ((HO2.out.off D7 hO7).off DD hO) ((HO3.out.off D7 hO7).off DD hO) (below_pstore hB8 (Nat.le_refl _) _ _ _ _ _ _ _ _ _ _ _))
end Go.Proofs.Ythmmafpmpnhleaa.Rtp
