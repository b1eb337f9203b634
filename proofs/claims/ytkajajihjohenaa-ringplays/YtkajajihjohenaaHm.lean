/- The program's ring and the reference's beside each other. -/
import Derived.Test.YtkajajihjohenaaHl
import Derived.Test.YtkajajihjohenaaHh
set_option maxRecDepth 100000
namespace Go.Proofs.Ytkajajihjohenaa.Rng
open Go.RowKit
open Go.Proofs.Ytkajajihjohenaa.Arn
set_option linter.unusedVariables false

/-- The program's ring at b with L, the reference's at rb with M. -/
structure Ply (w0 w : World) (base b g C rb : Nat) (L M : List Cl) : Prop where
  rg : RIn w b g C L
  rf : RrIn w base rb C M
  bel : Below w0.heap.size w0 w
  lo : w0.heap.size ≤ b ∧ w0.heap.size ≤ g ∧ b < base ∧ g < base ∧ base ≤ rb ∧ w0.heap.size ≤ base
  most : C ≤ 256
section
variable {w0 w w' : World} {base b g C rb : Nat} {L M L' M' : List Cl}
theorem Ply.rlt (h : Ply w0 w base b g C rb L M) : rb < w.heap.size := by obtain ⟨A, c, hr⟩ := h.rf; exact hr.lt
theorem Ply.more (h : Ply w0 w base b g C rb L M) (hb : Below w.heap.size w w') : Ply w0 w' base b g C rb L M := ⟨h.rg.bel hb, h.rf.bel hb, h.bel.trans (hb.mono h.bel.size), h.lo, h.most⟩
theorem Ply.step (h : Ply w0 w base b g C rb L M) (hr : RIn w' b g C L') (hu : Upd (fun k => k = b ∨ k = g) w w') : Ply w0 w' base b g C rb L' M := by
  have hlo := h.lo
  exact ⟨hr, h.rf.upd hu (fun k hk => by omega), h.bel.trans (hu.below h.bel.size (fun k hk => by omega)), h.lo, h.most⟩
theorem Ply.rstep (h : Ply w0 w base b g C rb L M) (hr : RrIn w' base rb C M') (hu : Upd (fun k => base ≤ k) w w') : Ply w0 w' base b g C rb L M' := by
  have hlo := h.lo
  exact ⟨h.rg.upd hu (by omega) (by omega), hr, h.bel.trans (hu.below h.bel.size (fun k hk => by omega)), h.lo, h.most⟩
theorem Ply.push (h : Ply w0 w base b g C rb L M) (y : Cl) : Calls Try.prog 12 #[.pointer (some ⟨b, 0, none⟩), clV y] w fun e w' => e = .returned (.bool (decide (L.length < C))) ∧ Ply w0 w' base b g C rb (pushL C L y) M := by
  refine (push_any w b g C L y h.rg).mono ?_
  rintro e w' ⟨rfl, hr, hu⟩
  exact ⟨rfl, h.step hr hu⟩
theorem Ply.rpush (h : Ply w0 w base b g C rb L M) (y : Cl) : Calls Try.prog 13 #[.pointer (some ⟨rb, 0, none⟩), clV y] w fun e w' => e = .returned (.bool (decide (M.length < C))) ∧ Ply w0 w' base b g C rb L (pushL C M y) := by
  refine (rpush_any w base rb C M y h.rf h.most).mono ?_
  rintro e w' ⟨rfl, hr, hu⟩
  exact ⟨rfl, h.rstep hr hu⟩
theorem Ply.pop (h : Ply w0 w base b g C rb L M) : Calls Try.prog 10 #[.pointer (some ⟨b, 0, none⟩)] w fun e w' => e = .returned (.tuple #[clV (headV L), .bool (decide (0 < L.length))]) ∧ Ply w0 w' base b g C rb L.tail M := by
  refine (pop_any w b g C L h.rg).mono ?_
  rintro e w' ⟨rfl, hr, hu⟩
  exact ⟨rfl, h.step hr hu⟩
theorem Ply.rpop (h : Ply w0 w base b g C rb L M) : Calls Try.prog 11 #[.pointer (some ⟨rb, 0, none⟩)] w fun e w' => e = .returned (.tuple #[clV (headV M), .bool (decide (0 < M.length))]) ∧ Ply w0 w' base b g C rb L M.tail ∧ Upd (fun k => k = rb) w w' := by
  refine (rpop_any w base rb C M h.rf h.lo.2.2.2.2.1).mono ?_
  rintro e w' ⟨rfl, hr, hu⟩
  exact ⟨rfl, h.rstep hr (hu.mono fun k hk => by rw [hk]; exact h.lo.2.2.2.2.1), hu⟩
theorem Ply.head (h : Ply w0 w base b g C rb L M) : Calls Try.prog 14 #[.pointer (some ⟨b, 0, none⟩)] w fun e w' => e = .returned (.tuple #[clV (headV L), .bool (decide (0 < L.length))]) ∧ Ply w0 w' base b g C rb L M ∧ Below w.heap.size w w' := by
  refine (head_any w b g C L h.rg).mono ?_
  rintro e w' ⟨rfl, hb⟩
  exact ⟨rfl, h.more hb, hb⟩
theorem Ply.len (h : Ply w0 w base b g C rb L M) : Calls Try.prog 15 #[.pointer (some ⟨b, 0, none⟩)] w fun e w' => e = .returned (.int .i64 L.length) ∧ Below w.heap.size w w' := by
  obtain ⟨f, P, hr⟩ := h.rg
  exact len_any w b g C f P L hr
theorem Ply.room (h : Ply w0 w base b g C rb L M) : Calls Try.prog 16 #[.pointer (some ⟨b, 0, none⟩)] w fun e w' => e = .returned (.int .i64 ((C - L.length : Nat) : Int)) ∧ Below w.heap.size w w' := by
  obtain ⟨f, P, hr⟩ := h.rg
  exact room_any w b g C f P L hr
theorem Ply.all (h : Ply w0 w base b g C rb L M) : Calls Try.prog 18 #[.pointer (some ⟨b, 0, none⟩)] w fun e w' => ∃ A c, e = .returned (.slice A L.length c) ∧ RowRd celL w' w'.heap.size A L.length L ∧ Below w.heap.size w w' := by
  refine (all_any w b g C L h.rg).mono ?_
  rintro e w' ⟨A, c, rfl, hr, hb⟩
  exact ⟨A, c, rfl, hr.rd, hb⟩
end

set_option maxHeartbeats 8000000 in
theorem plays_any (w : World) (n : Int) (a : Option Addr) (cap : Nat) (xs : List Ract) (hn1 : -9223372036854775808 ≤ n) (hn2 : n ≤ 9223372036854775807) (hr : RowRd ractL w w.heap.size a xs.length xs) (hc : xs.length ≤ cap) (hb : xs.length * 40 ≤ 140737488351232) :
    Calls Try.prog 3 #[.int .i64 n, .slice a xs.length cap] w fun e w' => e = .returned (.bool true) ∧ Below w.heap.size w w' := by
  have CS := Lib.hid (shown_any w)
  have CN := Lib.hid (fun W => new_any W n hn1 hn2)
  have CR := Lib.hid (fun W => rnew_any W n hn1 hn2)
  obtain ⟨C, hC⟩ : ∃ C, capN n = C := ⟨_, rfl⟩
  have hC1 : C ≤ 256 := by rw [← hC]; exact (capN_le n).2
  have HC := Lib.hid hC
  have HR := Lib.hid hr
  obtain ⟨m, hm⟩ : ∃ m, xs.length = m := ⟨_, rfl⟩
  rw [hm] at hc hb ⊢
  have HM := Lib.hid hm
  clear hC hr hm hn1 hn2 hc
  go_enter Try.func3, Try.ntmps3
  go_wp2_with fail
  refine CS.out.mono ?_
  rintro e w1 ⟨rfl, hb1⟩
  have H1 := Lib.hid hb1
  clear hb1 CS
  go_wp2_with fail
  refine (CN.out _).mono ?_
  rintro e w2 ⟨b, g, rfl, hA, hbb, hg, hB⟩
  rw [HC.out] at hA
  have HA : Hid (RIn w2 b g C []) := Lib.hid ⟨_, _, hA⟩
  have HL := Lib.hid (And.intro (Nat.le_trans H1.out.size hbb) (And.intro (Nat.le_trans H1.out.size hg) (And.intro hA.lt.1 hA.lt.2)))
  have H2 := Lib.hid (H1.out.trans (hB.mono H1.out.size))
  clear hA hbb hg hB H1 CN
  go_wp2_with fail
  refine (CR.out _).mono ?_
  rintro e w3 ⟨rb, rfl, hR, hB⟩
  rw [HC.out] at hR
  have HF : Hid (Ply w w3 w2.heap.size b g C rb [] []) := Lib.hid ⟨HA.out.bel hB, hR, H2.out.trans (hB.mono H2.out.size), ⟨HL.out.1, HL.out.2.1, HL.out.2.2.1, HL.out.2.2.2, by obtain ⟨A, c, h⟩ := hR; exact h.lo, H2.out.size⟩, hC1⟩
  clear hR hB HL HA H2 CR
  obtain ⟨base, hbase⟩ : ∃ base, w2.heap.size = base := ⟨_, rfl⟩
  rw [hbase] at HF
  clear hbase
  go_wp2
  go_loopw [7] (fun s7 wx => ∃ (i : Nat) (L : List Cl), i ≤ m ∧ i ≤ 400 ∧ s7 = .int .i64 i ∧ Hid (Ply w wx base b g C rb L L)) (fun s7 _ => m - (intOf s7).toNat)
  case atStart => exact ⟨0, [], by omega, by omega, rfl, HF⟩
  case round =>
    obtain ⟨i, L, him, hi4, rfl, hF⟩ := hrel
    rename World => wx
    clear HF
    by_cases h1 : i < m
    · have hd1 : decide (i < m) = true := by simp; exact h1
      by_cases h2 : i < 400
      · have hd2 : decide ((i : Int) < 400) = true := by simp; omega
        obtain ⟨tb, toff, ⟨pb, x⟩, rfl, htb, hx, a0, a1, a2, a3, a4⟩ := ract_at (by have := HR.out; rw [HM.out] at this; exact this) h1
        have T0 := Lib.hid (fun (W : World) (hW : Below w.heap.size w W) => (hW.cell (p := ⟨tb, toff + i * 5, none⟩) htb).trans a0)
        have T1 := Lib.hid (fun (W : World) (hW : Below w.heap.size w W) => (hW.cell (p := ⟨tb, toff + i * 5 + 1, none⟩) htb).trans a1)
        have T2 := Lib.hid (fun (W : World) (hW : Below w.heap.size w W) => (hW.cell (p := ⟨tb, toff + i * 5 + 2, none⟩) htb).trans a2)
        have T3 := Lib.hid (fun (W : World) (hW : Below w.heap.size w W) => (hW.cell (p := ⟨tb, toff + i * 5 + 3, none⟩) htb).trans a3)
        have T4 := Lib.hid (fun (W : World) (hW : Below w.heap.size w W) => (hW.cell (p := ⟨tb, toff + i * 5 + 4, none⟩) htb).trans a4)
        have b0 := T0.out wx hF.out.bel
        clear a0 a1 a2 a3 a4 hx htb
        go_upto_if 34 with fail
        go_cut [8, 9, 10, 11] from 20 to 118 (fun _ _ _ _ wc => ∃ L' : List Cl, Hid (Ply w wc base b g C rb L' L'))
        case first =>
          cases pb with
          | true =>
            have CP := Lib.hid hF.out.pop
            obtain ⟨hv, hhv⟩ : ∃ hv, headV L = hv := ⟨_, rfl⟩
            obtain ⟨ok, hok⟩ : ∃ ok, decide (0 < L.length) = ok := ⟨_, rfl⟩
            have HV := Lib.hid (And.intro hhv hok)
            rw [hhv, hok] at CP
            clear hF hhv hok b0
            go_wp2_with fail
            refine CP.out.mono ?_
            rintro e w3 ⟨rfl, hF⟩
            have HRB := Lib.hid hF.rlt
            have hF3 := hF.more ((Below.refl _ _).alloc (Nat.le_refl _) (clO hv))
            have CQ := Lib.hid hF3.rpop
            rw [HV.out.1, HV.out.2] at CQ
            have E3 := Lib.hid (CBlk.new w3 hv)
            clear hF CP hF3
            go_wp2_with fail
            refine CQ.out.mono ?_
            rintro e w4 ⟨rfl, hF, hu⟩
            have e4 := E3.out.upd hu (by have := HRB.out; show ¬ (w3.heap.size = rb); omega)
            have E5 := e4.bel ((Below.refl _ _).alloc (Nat.le_refl _) (clO hv)) e4.lt
            have HF5 := Lib.hid (hF.more ((Below.refl _ _).alloc (Nat.le_refl _) (clO hv)))
            have G5 := CBlk.new w4 hv
            have u0 := E5.c0
            have u1 := E5.c1
            have u2 := E5.c2
            have u3 := E5.c3
            have v0 := G5.c0
            have v1 := G5.c1
            have v2 := G5.c2
            have v3 := G5.c3
            have qn := neq_same hv
            clear hF hu e4 E5 G5 E3 CQ
            go_wp2_with fail
            go_meet
            case rel => exact ⟨L.tail, HF5⟩
          | false =>
            have f1 := T1.out
            have f2 := T2.out
            have f3 := T3.out
            have f4 := T4.out
            have hS : Below w.heap.size w wx.drew := hF.out.bel.drew
            have CP := Lib.hid ((hF.out.more (Below.refl _ _).drew).push x)
            clear hF b0
            go_wp2_with fail
            refine region_seq (Below w.heap.size w) [(0, false), (1, false), (2, false), (3, false), (4, false), (5, false), (7, false), (8, false), (9, false), (10, false), (11, false), (12, false), (6, true), (13, true), (14, false)] (by kernel_rfl) (by kernel_rfl) rfl (by kernel_rfl) ?_
            iterate 12 (refine seq_read (v := _) rfl (fun _ _ _ h => h) hS (Or.inl ⟨by rfl, fun W hW => by go_simp <;> with_reducible rfl⟩) ?_; simp only [Act.put, List.setIfInBounds_toArray, List.set_cons_zero, List.set_cons_succ])
            refine seq_do rfl (fun K hK => ?_)
            go_simp
            refine CP.out.mono ?_
            rintro e w3 ⟨rfl, hF⟩
            have hS := hF.bel
            refine hK.out _ _ _ (fun W h => h) hS ?_
            have CQ := Lib.hid (hF.rpush x)
            clear hK K hF CP
            refine seq_do rfl (fun K hK => ?_)
            go_simp
            refine CQ.out.mono ?_
            rintro e w4 ⟨rfl, hF⟩
            have hS := hF.bel
            refine hK.out _ _ _ (fun W h => h) hS ?_
            have HF := Lib.hid hF
            clear hK K hF CQ
            iterate 1 (refine seq_read (v := _) rfl (fun _ _ _ h => h) hS (Or.inl ⟨by rfl, fun W hW => by go_simp <;> with_reducible rfl⟩) ?_; simp only [Act.put, List.setIfInBounds_toArray, List.set_cons_zero, List.set_cons_succ])
            refine seq_end ?_
            clear f1 f2 f3 f4 hS
            go_wp2_with fail
            go_meet
            case rel => exact ⟨_, HF⟩
        case rest =>
          obtain ⟨L, hF⟩ := hcut
          clear T0 T1 T2 T3 T4 b0
          have CH := Lib.hid hF.out.head
          clear hF
          rcases L with _ | ⟨y, r⟩
          · rw [show headV [] = cl0 from rfl, show decide (0 < ([] : List Cl).length) = false from rfl] at CH
            go_wp2_with fail
            refine CH.out.mono ?_
            rintro e w3 ⟨rfl, hF, -⟩
            obtain ⟨w4, hw4⟩ : ∃ w4, w3.alloc (.cells #[.int .i64 0, .int .i64 0, .int .i64 0, .int .u32 0] 32 (0, 0)) = w4 := ⟨_, rfl⟩
            have HW4 := Lib.hid hw4
            have HF4 : Hid (Ply w w4 base b g C rb [] []) := by rw [← hw4]; exact Lib.hid (hF.more ((Below.refl _ _).alloc (Nat.le_refl _) (clO cl0)))
            clear hF CH hw4
            obtain ⟨A, c, hrf⟩ := HF4.out.rf
            have f0 : ∀ W, Below w4.heap.size w4 W → W.cell? ⟨rb, 0, none⟩ = some (.int .i64 C) := fun W hW => (hrf.bel hW).c0
            have f1 : ∀ W, Below w4.heap.size w4 W → W.cell? ⟨rb, 1, none⟩ = some (.slice A 0 c) := fun W hW => (hrf.bel hW).c1
            have CL := Lib.hid (fun W (hW : Below w4.heap.size w4 W) => (HF4.out.more hW).len)
            have CM := Lib.hid (fun W (hW : Below w4.heap.size w4 W) => (HF4.out.more hW).room)
            rw [show ((([] : List Cl).length : Nat) : Int) = 0 from rfl] at CL
            rw [show (([] : List Cl).length) = 0 from rfl, Nat.sub_zero] at CM
            have qw : IntKind.i64.wrap (C : Int) = C := IntWalk.i64_in _ (by omega)
            clear hrf
            go_wp2_with fail
            rw [HW4.out]
            clear HW4
            have hS : Below w4.heap.size w4 w4.drew := (Below.refl _ _).drew
            refine region_seq (Below w4.heap.size w4) [(0, false), (1, false), (2, false), (3, false), (4, false), (5, false), (6, false), (7, false), (8, false), (9, false), (10, false), (11, false), (12, false), (13, false), (14, false), (15, false), (16, false), (17, false), (18, false), (19, false), (20, false), (21, false), (22, false), (24, false), (25, false), (26, false), (27, false), (28, false), (23, true), (29, false), (30, false), (31, false), (32, false), (34, false), (35, false), (36, false), (37, false), (38, false), (39, false), (40, false), (41, false), (42, false), (43, false), (33, true), (44, false), (45, false)] (by kernel_rfl) (by kernel_rfl) rfl (by kernel_rfl) ?_
            iterate 11 (refine seq_read (v := _) rfl (fun _ _ _ h => h) hS (Or.inl ⟨by rfl, fun W hW => by go_simp <;> with_reducible rfl⟩) ?_; simp only [Act.put, List.setIfInBounds_toArray, List.set_cons_zero, List.set_cons_succ])
            iterate 8 (refine seq_read (v := undef) rfl (fun _ _ _ h => h) hS (Or.inr ⟨by rfl, rfl⟩) ?_; simp only [Act.put, List.setIfInBounds_toArray, List.set_cons_zero, List.set_cons_succ])
            iterate 9 (refine seq_read (v := _) rfl (fun _ _ _ h => h) hS (Or.inl ⟨by rfl, fun W hW => by go_simp <;> with_reducible rfl⟩) ?_; simp only [Act.put, List.setIfInBounds_toArray, List.set_cons_zero, List.set_cons_succ])
            refine seq_do rfl (fun K hK => ?_)
            go_simp
            refine (CL.out _ hS).mono ?_
            rintro e w5 ⟨rfl, hb5⟩
            have hS : Below w4.heap.size w4 w5 := hS.trans (hb5.mono hS.size)
            refine hK.out _ _ _ (fun W h => h) hS ?_
            clear hK K hb5
            iterate 14 (refine seq_read (v := _) rfl (fun _ _ _ h => h) hS (Or.inl ⟨by rfl, fun W hW => by go_simp <;> with_reducible rfl⟩) ?_; simp only [Act.put, List.setIfInBounds_toArray, List.set_cons_zero, List.set_cons_succ])
            refine seq_do rfl (fun K hK => ?_)
            go_simp
            refine (CM.out _ hS).mono ?_
            rintro e w6 ⟨rfl, hb6⟩
            have hS : Below w4.heap.size w4 w6 := hS.trans (hb6.mono hS.size)
            refine hK.out _ _ _ (fun W h => h) hS ?_
            clear hK K hb6
            iterate 2 (refine seq_read (v := _) rfl (fun _ _ _ h => h) hS (Or.inl ⟨by rfl, fun W hW => by go_simp <;> with_reducible rfl⟩) ?_; simp only [Act.put, List.setIfInBounds_toArray, List.set_cons_zero, List.set_cons_succ])
            refine seq_end ?_
            have HF6 := Lib.hid (HF4.out.more hS)
            clear hS CL CM f0 f1 HF4 qw
            go_wp2_with fail
            go_roundw
            case rel => exact ⟨i + 1, [], by omega, by omega, by go_num, HF6⟩
            case measure => simp [intOf]; omega
          · rw [show headV (y :: r) = y from rfl, show decide (0 < (y :: r).length) = true from by simp] at CH
            go_wp2_with fail
            refine CH.out.mono ?_
            rintro e w3 ⟨rfl, hF, -⟩
            obtain ⟨w4, hw4⟩ : ∃ w4, w3.alloc (.cells #[.int .i64 y.1, .int .i64 y.2.1, .int .i64 y.2.2.1, .int .u32 y.2.2.2] 32 (0, 0)) = w4 := ⟨_, rfl⟩
            have HW4 := Lib.hid hw4
            have HF4 : Hid (Ply w w4 base b g C rb (y :: r) (y :: r)) := by rw [← hw4]; exact Lib.hid (hF.more ((Below.refl _ _).alloc (Nat.le_refl _) (clO y)))
            obtain ⟨p, hp⟩ : ∃ p, w3.heap.size = p := ⟨_, rfl⟩
            have HP := Lib.hid hp
            have E4 : CBlk w4 p y := by rw [← hw4, ← hp]; exact CBlk.new w3 y
            clear hF CH hw4 hp
            have d0 : ∀ W, Below w4.heap.size w4 W → W.cell? ⟨p, 0, none⟩ = some (.int .i64 y.1) := fun W hW => (E4.bel hW E4.lt).c0
            have d1 : ∀ W, Below w4.heap.size w4 W → W.cell? ⟨p, 1, none⟩ = some (.int .i64 y.2.1) := fun W hW => (E4.bel hW E4.lt).c1
            have d2 : ∀ W, Below w4.heap.size w4 W → W.cell? ⟨p, 2, none⟩ = some (.int .i64 y.2.2.1) := fun W hW => (E4.bel hW E4.lt).c2
            have d3 : ∀ W, Below w4.heap.size w4 W → W.cell? ⟨p, 3, none⟩ = some (.int .u32 y.2.2.2) := fun W hW => (E4.bel hW E4.lt).c3
            obtain ⟨A, c, hrf⟩ := HF4.out.rf
            obtain ⟨l, hl⟩ : ∃ l, (y :: r).length = l := ⟨_, rfl⟩
            have hl0 : 0 < l := by rw [← hl]; simp
            have hlC : l ≤ C := by rw [← hl]; exact HF4.out.rg.fit.1
            have f0 : ∀ W, Below w4.heap.size w4 W → W.cell? ⟨rb, 0, none⟩ = some (.int .i64 C) := fun W hW => (hrf.bel hW).c0
            have f1 : ∀ W, Below w4.heap.size w4 W → W.cell? ⟨rb, 1, none⟩ = some (.slice A l c) := fun W hW => by rw [← hl]; exact (hrf.bel hW).c1
            obtain ⟨gb, off, y', hAA, hgB, hy', e0, e1, e2, e3⟩ := cell_at hrf.row.rd (show 0 < (y :: r).length by simp)
            rw [hAA] at f1
            obtain rfl : y = y' := by simpa using hy'
            rw [Nat.zero_mul, Nat.add_zero] at e0 e1 e2 e3
            have g0 : ∀ W, Below w4.heap.size w4 W → W.cell? ⟨gb, off, none⟩ = some (.int .i64 y.1) := fun W hW => (hW.cell (p := ⟨gb, off, none⟩) hgB).trans e0
            have g1 : ∀ W, Below w4.heap.size w4 W → W.cell? ⟨gb, off + 1, none⟩ = some (.int .i64 y.2.1) := fun W hW => (hW.cell (p := ⟨gb, off + 1, none⟩) hgB).trans e1
            have g2 : ∀ W, Below w4.heap.size w4 W → W.cell? ⟨gb, off + 2, none⟩ = some (.int .i64 y.2.2.1) := fun W hW => (hW.cell (p := ⟨gb, off + 2, none⟩) hgB).trans e2
            have g3 : ∀ W, Below w4.heap.size w4 W → W.cell? ⟨gb, off + 3, none⟩ = some (.int .u32 y.2.2.2) := fun W hW => (hW.cell (p := ⟨gb, off + 3, none⟩) hgB).trans e3
            have CL := Lib.hid (fun W (hW : Below w4.heap.size w4 W) => (HF4.out.more hW).len)
            have CM := Lib.hid (fun W (hW : Below w4.heap.size w4 W) => (HF4.out.more hW).room)
            obtain ⟨m2, hm2⟩ : ∃ m2, C - l = m2 := ⟨_, rfl⟩
            rw [hl] at CL CM
            rw [hm2] at CM
            have qw : IntKind.i64.wrap ((C : Int) - l) = m2 := by rw [IntWalk.i64_in _ (by omega)]; omega
            have hd5 : decide (0 < l) = true := by simp; exact hl0
            have qn := neq_same y
            clear hrf E4 hAA hgB hy' e0 e1 e2 e3 hm2 hl hlC
            go_wp2_with fail
            rw [HW4.out, HP.out]
            clear HW4 HP
            have hS : Below w4.heap.size w4 w4.drew := (Below.refl _ _).drew
            refine region_seq (Below w4.heap.size w4) [(0, false), (1, false), (2, false), (3, false), (4, false), (5, false), (6, false), (7, false), (8, false), (9, false), (10, false), (11, false), (12, false), (13, false), (14, false), (15, false), (16, false), (17, false), (18, false), (19, false), (20, false), (21, false), (22, false), (24, false), (25, false), (26, false), (27, false), (28, false), (23, true), (29, false), (30, false), (31, false), (32, false), (34, false), (35, false), (36, false), (37, false), (38, false), (39, false), (40, false), (41, false), (42, false), (43, false), (33, true), (44, false), (45, false)] (by kernel_rfl) (by kernel_rfl) rfl (by kernel_rfl) ?_
            iterate 28 (refine seq_read (v := _) rfl (fun _ _ _ h => h) hS (Or.inl ⟨by rfl, fun W hW => by go_simp <;> with_reducible rfl⟩) ?_; simp only [Act.put, List.setIfInBounds_toArray, List.set_cons_zero, List.set_cons_succ])
            refine seq_do rfl (fun K hK => ?_)
            go_simp
            refine (CL.out _ hS).mono ?_
            rintro e w5 ⟨rfl, hb5⟩
            have hS : Below w4.heap.size w4 w5 := hS.trans (hb5.mono hS.size)
            refine hK.out _ _ _ (fun W h => h) hS ?_
            clear hK K hb5
            iterate 14 (refine seq_read (v := _) rfl (fun _ _ _ h => h) hS (Or.inl ⟨by rfl, fun W hW => by go_simp <;> with_reducible rfl⟩) ?_; simp only [Act.put, List.setIfInBounds_toArray, List.set_cons_zero, List.set_cons_succ])
            refine seq_do rfl (fun K hK => ?_)
            go_simp
            refine (CM.out _ hS).mono ?_
            rintro e w6 ⟨rfl, hb6⟩
            have hS : Below w4.heap.size w4 w6 := hS.trans (hb6.mono hS.size)
            refine hK.out _ _ _ (fun W h => h) hS ?_
            clear hK K hb6
            iterate 2 (refine seq_read (v := _) rfl (fun _ _ _ h => h) hS (Or.inl ⟨by rfl, fun W hW => by go_simp <;> with_reducible rfl⟩) ?_; simp only [Act.put, List.setIfInBounds_toArray, List.set_cons_zero, List.set_cons_succ])
            refine seq_end ?_
            have HF6 := Lib.hid (HF4.out.more hS)
            clear hS CL CM f0 f1 HF4 qw d0 d1 d2 d3 g0 g1 g2 g3 qn
            go_wp2_with fail
            go_roundw
            case rel => exact ⟨i + 1, y :: r, by omega, by omega, by go_num, HF6⟩
            case measure => simp [intOf]; omega
      · obtain rfl : i = 400 := by omega
        have CA := Lib.hid (fun W (hW : Below wx.heap.size wx W) => (hF.out.more hW).all)
        have HB := Lib.hid hF.out.bel
        obtain ⟨A, c, hrf⟩ := hF.out.rf
        have f1 : ∀ W, Below wx.heap.size wx W → W.cell? ⟨rb, 1, none⟩ = some (.slice A L.length c) := fun W hW => (hrf.bel hW).c1
        have HRR := Lib.hid (hrf.row.rd)
        have hS : Below wx.heap.size wx wx.drew := (Below.refl _ _).drew
        have hfit := hF.out.rg.fit
        obtain ⟨l, hl⟩ : ∃ l, L.length = l := ⟨_, rfl⟩
        rw [hl] at f1 HRR hfit
        have HLL := Lib.hid hl
        clear hF hrf hl
        go_wp2_with fail
        refine region_seq (Below wx.heap.size wx) [(0, false), (2, false), (3, false), (4, false), (5, false), (1, true), (6, true), (7, false)] (by kernel_rfl) (by kernel_rfl) rfl (by kernel_rfl) ?_
        iterate 5 (refine seq_read (v := _) rfl (fun _ _ _ h => h) hS (Or.inl ⟨by rfl, fun W hW => by go_simp <;> with_reducible rfl⟩) ?_; simp only [Act.put, List.setIfInBounds_toArray, List.set_cons_zero, List.set_cons_succ])
        refine seq_do rfl (fun K hK => ?_)
        go_simp
        refine (CA.out _ hS).mono ?_
        rintro e w5 ⟨A2, c2, rfl, hr2, hb5⟩
        have hS : Below wx.heap.size wx w5 := hS.trans (hb5.mono hS.size)
        rw [HLL.out] at hr2 ⊢
        refine hK.out _ _ _ (fun W h => h) hS ?_
        have CC := Lib.hid (same_any w5 A2 A l c2 c _ _ L hr2 (HRR.out.below hS) (by omega))
        clear hK K hb5 hr2
        refine seq_do rfl (fun K hK => ?_)
        go_simp
        refine CC.out.mono ?_
        rintro e w6 ⟨rfl, hb6⟩
        have hS : Below wx.heap.size wx w6 := hS.trans (hb6.mono hS.size)
        refine hK.out _ _ _ (fun W h => h) hS ?_
        clear hK K hb6
        iterate 1 (refine seq_read (v := _) rfl (fun _ _ _ h => h) hS (Or.inl ⟨by rfl, fun W hW => by go_simp <;> with_reducible rfl⟩) ?_; simp only [Act.put, List.setIfInBounds_toArray, List.set_cons_zero, List.set_cons_succ])
        refine seq_end ?_
        have HB6 := Lib.hid (HB.out.trans (hS.mono HB.out.size))
        clear hS f1
        go_wp2
        go_ret
        exact ⟨rfl, HB6.out⟩
    · obtain rfl : i = m := by omega
      have hd1 : decide (i < i) = false := by simp
      have CA := Lib.hid (fun W (hW : Below wx.heap.size wx W) => (hF.out.more hW).all)
      have HB := Lib.hid hF.out.bel
      obtain ⟨A, c, hrf⟩ := hF.out.rf
      have f1 : ∀ W, Below wx.heap.size wx W → W.cell? ⟨rb, 1, none⟩ = some (.slice A L.length c) := fun W hW => (hrf.bel hW).c1
      have HRR := Lib.hid (hrf.row.rd)
      have hS : Below wx.heap.size wx wx.drew := (Below.refl _ _).drew
      have hfit := hF.out.rg.fit
      obtain ⟨l, hl⟩ : ∃ l, L.length = l := ⟨_, rfl⟩
      rw [hl] at f1 HRR hfit
      have HLL := Lib.hid hl
      clear hF hrf hl
      go_wp2_with fail
      refine region_seq (Below wx.heap.size wx) [(0, false), (2, false), (3, false), (4, false), (5, false), (1, true), (6, true), (7, false)] (by kernel_rfl) (by kernel_rfl) rfl (by kernel_rfl) ?_
      iterate 5 (refine seq_read (v := _) rfl (fun _ _ _ h => h) hS (Or.inl ⟨by rfl, fun W hW => by go_simp <;> with_reducible rfl⟩) ?_; simp only [Act.put, List.setIfInBounds_toArray, List.set_cons_zero, List.set_cons_succ])
      refine seq_do rfl (fun K hK => ?_)
      go_simp
      refine (CA.out _ hS).mono ?_
      rintro e w5 ⟨A2, c2, rfl, hr2, hb5⟩
      have hS : Below wx.heap.size wx w5 := hS.trans (hb5.mono hS.size)
      rw [HLL.out] at hr2 ⊢
      refine hK.out _ _ _ (fun W h => h) hS ?_
      have CC := Lib.hid (same_any w5 A2 A l c2 c _ _ L hr2 (HRR.out.below hS) (by omega))
      clear hK K hb5 hr2
      refine seq_do rfl (fun K hK => ?_)
      go_simp
      refine CC.out.mono ?_
      rintro e w6 ⟨rfl, hb6⟩
      have hS : Below wx.heap.size wx w6 := hS.trans (hb6.mono hS.size)
      refine hK.out _ _ _ (fun W h => h) hS ?_
      clear hK K hb6
      iterate 1 (refine seq_read (v := _) rfl (fun _ _ _ h => h) hS (Or.inl ⟨by rfl, fun W hW => by go_simp <;> with_reducible rfl⟩) ?_; simp only [Act.put, List.setIfInBounds_toArray, List.set_cons_zero, List.set_cons_succ])
      refine seq_end ?_
      have HB6 := Lib.hid (HB.out.trans (hS.mono HB.out.size))
      clear hS f1
      go_wp2
      go_ret
      exact ⟨rfl, HB6.out⟩
end Go.Proofs.Ytkajajihjohenaa.Rng
