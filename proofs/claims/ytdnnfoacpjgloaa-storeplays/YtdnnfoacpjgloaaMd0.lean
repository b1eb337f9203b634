/- The reference's Get behind the head's questions, one of its two ways. -/
import Derived.Test.YtdnnfoacpjgloaaMc
set_option maxRecDepth 100000
namespace Go.Proofs.Ytdnnfoacpjgloaa.Rtp
open Go.RowKit
set_option linter.unusedVariables false

set_option maxRecDepth 100000 in
set_option maxHeartbeats 40000000 in
theorem rget_rest0 (b off len cap n : Nat) (x0 x1 ty seq time ssrc : Int) (mrk : Bool) (xs : List Int) (w : World) (R : Ending → World → Prop) (hl : len ≤ 512) (h12 : 12 ≤ len) (hlc : len ≤ cap) (hb : b < w.heap.size)
    (i1 : ¬ x0 < 128) (i2 : ¬ 191 < x0) (i3 : ¬ 192 ≤ x1) (e1 : decide (128 ≤ x1) = mrk) (e2 : x1 % 128 = ty) (e4 : 0 ≤ ty ∧ ty ≤ 127) (e5 : x0 % 16 = (n : Int)) (hn : n ≤ 15)
    (bs : 0 ≤ seq ∧ seq ≤ 65535) (bt : 0 ≤ time ∧ time ≤ 4294967295) (bz : 0 ≤ ssrc ∧ ssrc ≤ 4294967295)
    (hC0 : w.cell? ⟨b, off, none⟩ = some (.int .u8 x0)) (hC1 : w.cell? ⟨b, off + 1, none⟩ = some (.int .u8 x1))
    (CR : Hid (∀ W i s, Below w.heap.size w W → 1 ≤ s → s ≤ 8 → i + s ≤ len → Calls Try.prog 73 #[.slice (some ⟨b, off, none⟩) len cap, .int .i64 (i : Nat), .int .i64 (s : Nat)] W fun e w' => e = .returned (.int .u64 (nb xs i s)) ∧ W = w'))
    (hx1 : 0 ≤ x1 ∧ x1 ≤ 255) (hs : nb xs 2 2 = seq) (ht : nb xs 4 4 = time) (hz : nb xs 8 4 = ssrc) (HW : Hid (∀ i, 0 ≤ nb xs i 4 ∧ nb xs i 4 ≤ 4294967295))
    (prof : Int) (en f : Nat) (hX : hasX xs = decide (x0 / 16 % 2 = 1)) (hP : hasP xs = decide (x0 / 32 % 2 = 1)) (bp : 0 ≤ prof ∧ prof ≤ 65535) (hpr : nb xs (12 + 4 * n) 2 = prof) (hen : nb xs (12 + 4 * n + 2) 2 = (en : Int)) (hen2 : en ≤ 65535)
    (hr : Rd w w.heap.size (some ⟨b, off, none⟩) len xs)
    (E2 : Hid (len < 12 + 4 * n → ∀ W, Below w.heap.size w W → R (.returned (.tuple #[pkt zpv, .int .i64 0, .int .i64 0, .int .i64 2])) W))
    (E3 : Hid (hasX xs = true → (len < 12 + 4 * n + 4 ∨ len < 12 + 4 * n + 4 + 4 * en) → ∀ W, Below w.heap.size w W → R (.returned (.tuple #[pkt zpv, .int .i64 0, .int .i64 0, .int .i64 2])) W))
    (E4 : Hid (∀ at_, at_ = (if hasX xs then 12 + 4 * n + 4 + 4 * en else 12 + 4 * n) → at_ ≤ len → hasP xs = true → pdB (xs.drop at_) = false → ∀ W, Below w.heap.size w W → R (.returned (.tuple #[pkt zpv, .int .i64 0, .int .i64 0, .int .i64 1])) W))
    (E5 : Hid (∀ at_ A1 k1 A2 k2 A3 k3 W (t : Nat) (pad : Int), at_ = (if hasX xs then 12 + 4 * n + 4 + 4 * en else 12 + 4 * n) → (hasP xs = false → t = len ∧ pad = 0) → (hasP xs = true → pdB (xs.drop at_) = true ∧ pad = lastB (xs.drop at_) ∧ (t : Int) = len - pad) → at_ ≤ t → t ≤ len →
      OwnW W (w.heap.size + 2) A1 n k1 (wordsAt xs 12 n) → Own W (w.heap.size + 2) A2 (if hasX xs then 4 * en else 0) k2 (if hasX xs then (xs.drop (12 + 4 * n + 4)).take (4 * en) else []) → Own W (w.heap.size + 2) A3 (t - at_) k3 ((xs.drop at_).take (t - at_)) → Below w.heap.size w W →
      R (.returned (.tuple #[pkt ⟨mrk, ty, seq, time, ssrc, A1, n, k1, hasX xs, (if hasX xs then prof else 0), A2, (if hasX xs then 4 * en else 0), k2, A3, t - at_, k3, pad⟩, .int .i64 (at_ : Nat), .int .i64 (t : Nat), .int .i64 0])) W)) :
    Calls Try.prog 56 #[.slice (some ⟨b, off, none⟩) len cap] w R := by
  have C0 : Hid (∀ W, Below w.heap.size w W → W.cell? ⟨b, off, none⟩ = some (.int .u8 x0)) := fun W hW => (hW.cell (p := ⟨b, off, none⟩) hb).trans hC0
  have C1 : Hid (∀ W, Below w.heap.size w W → W.cell? ⟨b, off + 1, none⟩ = some (.int .u8 x1)) := fun W hW => (hW.cell (p := ⟨b, off + 1, none⟩) hb).trans hC1
  have h' : ¬ (512 : Int) < len := by omega
  have h2 : ¬ (len : Int) < 12 := by omega
  have hp0 : 0 < len := by omega
  have hp1 : 1 < len := by omega
  have hi1 : (1 : Int) < len := by omega
  have B1 := (Below.refl w.heap.size w).alloc (Nat.le_refl _) Z0
  have B2 := B1.alloc B1.size Z0
  have k0 := C0.out _ B2
  have k1 := C1.out _ B2
  have B1a := (Below.refl w.heap.size w).alloc (Nat.le_refl _) (pobj ⟨false, ty, 0, 0, 0, none, 0, 0, false, 0, none, 0, 0, none, 0, 0, 0⟩)
  have B2a := B1a.alloc B1a.size Z0
  have k1a := C1.out _ B2a
  have B1b := (Below.refl w.heap.size w).alloc (Nat.le_refl _) (pobj ⟨mrk, ty, 0, 0, 0, none, 0, 0, false, 0, none, 0, 0, none, 0, 0, 0⟩)
  have B2b := Lib.hid (B1b.alloc B1b.size Z0)
  have B1c := (Below.refl w.heap.size w).alloc (Nat.le_refl _) (pobj ⟨mrk, ty, seq, 0, 0, none, 0, 0, false, 0, none, 0, 0, none, 0, 0, 0⟩)
  have B2c := Lib.hid (B1c.alloc B1c.size Z0)
  have B1d := (Below.refl w.heap.size w).alloc (Nat.le_refl _) (pobj ⟨mrk, ty, seq, time, 0, none, 0, 0, false, 0, none, 0, 0, none, 0, 0, 0⟩)
  have B2d := Lib.hid (B1d.alloc B1d.size Z0)
  have B1e := (Below.refl w.heap.size w).alloc (Nat.le_refl _) (pobj ⟨mrk, ty, seq, time, ssrc, none, 0, 0, false, 0, none, 0, 0, none, 0, 0, 0⟩)
  have B2e := B1e.alloc B1e.size Z0
  have D2e : PBlk ((w.alloc (pobj ⟨mrk, ty, seq, time, ssrc, none, 0, 0, false, 0, none, 0, 0, none, 0, 0, 0⟩)).alloc Z0) w.heap.size ⟨mrk, ty, seq, time, ssrc, none, 0, 0, false, 0, none, 0, 0, none, 0, 0, 0⟩ := (PBlk.new w ⟨mrk, ty, seq, time, ssrc, none, 0, 0, false, 0, none, 0, 0, none, 0, 0, 0⟩).below ((Below.refl _ _).alloc (Nat.le_refl _) Z0) (by simp)
  have D2z : PBlk ((w.alloc (pobj ⟨mrk, ty, seq, time, ssrc, none, 0, 0, false, 0, none, 0, 0, none, 0, 0, 0⟩)).alloc Z0) (w.heap.size + 1) zpv := by
    have := PBlk.new (w.alloc (pobj ⟨mrk, ty, seq, time, ssrc, none, 0, 0, false, 0, none, 0, 0, none, 0, 0, 0⟩)) zpv
    simpa using this
  have HST := Lib.hid (Stg.mk B2e D2e D2z)
  have k0e := C0.out _ B2e
  clear B1 B2 B1a B2a B1b B1c B1d B1e B2e D2e D2z hC0 hC1
  have q1 : IntKind.u16.wrap seq = seq := by simp [IntKind.wrap, IntKind.bits, IntKind.signed]; omega
  have q2 : IntKind.u32.wrap time = time := by simp [IntKind.wrap, IntKind.bits, IntKind.signed]; omega
  have q3 : IntKind.u32.wrap ssrc = ssrc := by simp [IntKind.wrap, IntKind.bits, IntKind.signed]; omega
  have q5 : IntKind.i64.wrap ty = ty := IntWalk.i64_in _ (by omega)
  have r1 := CR.out _ 2 2 B2b.out (by omega) (by omega) (by omega)
  rw [hs] at r1
  have r2 := CR.out _ 4 4 B2c.out (by omega) (by omega) (by omega)
  rw [ht] at r2
  have r3 := CR.out _ 8 4 B2d.out (by omega) (by omega) (by omega)
  rw [hz] at r3
  have R1 := Lib.hid r1
  have R2 := Lib.hid r2
  have R3 := Lib.hid r3
  have m1 : x1.tmod 128 = ty := by
    rw [Int.tmod_eq_emod_of_nonneg (by omega)]; exact e2
  have m2 : x0.tmod 16 = (n : Int) := by
    rw [Int.tmod_eq_emod_of_nonneg (by omega)]; exact e5
  clear r1 r2 r3 B2b B2c B2d
  have i3' := i3
  have hgo : True := trivial
  go_enter Try.func56, Try.ntmps56
  go_wp2_with fail
  refine R1.out.mono ?_
  rintro e w' ⟨rfl, rfl⟩
  go_wp2_with fail
  refine R2.out.mono ?_
  rintro e w' ⟨rfl, rfl⟩
  go_wp2_with fail
  refine R3.out.mono ?_
  rintro e w' ⟨rfl, rfl⟩
  go_wp2_with fail
  clear q1 q2 q3 q5 k0 k1 k1a m1 R1 R2 R3
  go_loopw [7, 8] (fun s7 s8 wx => ∃ (i : Nat) (A : Option Addr) (c : Nat), i ≤ n ∧ 12 + 4 * i ≤ len ∧ s7 = .int .i64 ((12 + 4 * i : Nat) : Int) ∧ s8 = .int .i64 ((n - i : Nat) : Int) ∧ Stg w wx ⟨mrk, ty, seq, time, ssrc, A, i, c, false, 0, none, 0, 0, none, 0, 0, 0⟩ ∧ OwnW wx (w.heap.size + 2) A i c (wordsAt xs 12 i))
    (fun _ s8 _ => (intOf s8).toNat)
  case atStart => exact ⟨0, none, 0, by omega, by omega, rfl, rfl, HST.out, OwnW.nil _ _⟩
  case round =>
    obtain ⟨i, A, c, hi, hil, rfl, rfl, st, ho⟩ := hrel
    rename World => wx
    clear HST k0e
    obtain ⟨a, ha⟩ : ∃ a, 12 + 4 * i = a := ⟨_, rfl⟩
    obtain ⟨r, hrr⟩ : ∃ r, n - i = r := ⟨_, rfl⟩
    have hab : a ≤ 512 := by omega
    simp only [ha, hrr]
    by_cases hlt : i < n
    · have j1 : (0 : Int) < r := by omega
      by_cases hfit : a + 4 ≤ len
      · have j2 : ¬ (len : Int) < (a : Int) + 4 := by omega
        have hm := HW.out a
        have hsn := wordsAt_snoc xs 12 i
        rw [show 12 + 4 * i = a from ha] at hsn
        have C := CR.out wx.drew a 4 st.below.drew (by omega) (by omega) hfit
        generalize nb xs a 4 = m at hm hsn C
        have qm : IntKind.u32.wrap m = m := by simp [IntKind.wrap, IntKind.bits, IntKind.signed]; omega
        have HSN := Lib.hid hsn.symm
        have HC := Lib.hid C
        clear C hsn
        have stu : Stg w wx.drew ⟨mrk, ty, seq, time, ssrc, A, i, c, false, 0, none, 0, 0, none, 0, 0, 0⟩ := ⟨st.below.drew, st.res, st.zero⟩
        have hou : OwnW wx.drew (w.heap.size + 2) A i c (wordsAt xs 12 i) := ho
        have hS : Sz w wx.drew := stu.below
        go_wp2_with fail
        clear st ho
        refine region_tree (Sz w) (.rd 0 (.rd 2 (.rd 3 (.fk 1 4 (.dn 4 (.rd 5 (.dn 6 (.dn 7 (.rd 8 (.dn 9 .nil)))))) (.rd 5 (.fk 1 6 (.dn 6 (.dn 7 (.rd 8 (.dn 9 .nil)))) (.dn 1 (.dn 7 (.rd 8 (.dn 9 .nil)))))))))) (by kernel_rfl) (by kernel_rfl) rfl (by kernel_rfl) ?_
        generalize wx.drew = u at *
        have c5 := stu.res.c5
        iterate 3 (refine seqT_read (v := _) rfl (fun _ _ _ h => h) hS (Or.inl ⟨by rfl, fun W hW => by go_simp <;> with_reducible rfl⟩) ?_; simp only [Act.put, List.setIfInBounds_toArray, List.set_cons_zero, List.set_cons_succ])
        refine seqT_fork rfl rfl (fun K hK => ?_) (fun K hK => ?_)
        · skip
          go_simp
          refine hK.out _ _ (Sz w) (fun W h => h) hS ?_
          clear hK K
          refine seqT_do rfl (fun K hK => ?_)
          go_simp
          refine HC.out.mono ?_
          rintro e w' ⟨rfl, rfl⟩
          refine hK.out _ _ (Sz w) (fun W h => h) hS ?_
          clear hK K
          iterate 1 (refine seqT_read (v := _) rfl (fun _ _ _ h => h) hS (Or.inl ⟨by rfl, fun W hW => by go_simp <;> with_reducible rfl⟩) ?_; simp only [Act.put, List.setIfInBounds_toArray, List.set_cons_zero, List.set_cons_succ])
          refine seqT_do rfl (fun K hK => ?_)
          go_simp
          have hbA := (Below.refl u.heap.size u).alloc (Nat.le_refl _) (.cells #[.int .u32 m] 29)
          have HWB := alloc_w1 u m
          have stv1 := stu.next (hbA.mono stu.lt)
          have hov1 := hou.below hbA (Nat.le_refl _)
          refine hK.out _ _ (Sz w) (fun W h => h) stv1.below ?_
          clear hK K
          generalize u.alloc (.cells #[.int .u32 m] 29) = v1 at *
          generalize u.heap.size = qb at *
          replace hS : Sz w v1 := stv1.below
          have c5 := stv1.res.c5
          refine seqT_do rfl (fun K hK => ?_)
          rw [if_pos (by rfl)]
          refine oper_append_words (.tmp 87) (.tmp 92) rfl (w.heap.size + 2) _ i c 1 1 (i + 1) A _ (wordsAt xs 12 i) [m] (wordsAt xs 12 (i + 1)) rfl HSN.out rfl rfl hov1 (HWB.rd (by intro x hx; simp at hx; omega) rfl) stv1.lt (by omega) (fun A2 c2 v2 hov2 hbv2 => hK.out _ _ (Sz w) (fun W h => h) (stv1.next hbv2).below ?_)
          clear hK K c5
          have stv2 := stv1.next hbv2
          replace hS : Sz w v2 := stv2.below
          simp only [Act.put, List.setIfInBounds_toArray, List.set_cons_zero, List.set_cons_succ]
          iterate 1 (refine seqT_read (v := _) rfl (fun _ _ _ h => h) hS (Or.inl ⟨by rfl, fun W hW => by go_simp <;> with_reducible rfl⟩) ?_; simp only [Act.put, List.setIfInBounds_toArray, List.set_cons_zero, List.set_cons_succ])
          have x5 := stv2.res.c5
          have y5 := stv2.res.frozen 5
          have st9 := stv2.set (stv2.res.set5 A2 (i + 1) c2)
          have ho9 := hov2.off stv2.res ((Off.refl w.heap.size v2).set (k := 5) (.slice A2 (i + 1) c2))
          refine seqT_do rfl (fun K hK => ?_)
          go_simp
          refine hK.out _ _ (Sz w) (fun W h => h) st9.below ?_
          clear hK K x5 y5
          refine seqT_end ?_
          have HST9 := Lib.hid st9
          have HO9 := Lib.hid ho9
          clear st9 ho9
          go_wp2
          go_roundw
          case rel => exact ⟨i + 1, A2, c2, by omega, by omega, by rw [show 12 + 4 * (i + 1) = a + 4 from by omega]; go_num, by rw [show n - (i + 1) = r - 1 from by omega]; go_num, HST9.out, HO9.out⟩
          case measure => simp [intOf]; omega
        · skip
          go_simp
          refine HC.out.mono ?_
          rintro e w' ⟨rfl, rfl⟩
          refine hK.out _ _ (Sz w) (fun W h => h) hS ?_
          clear hK K
          iterate 1 (refine seqT_read (v := _) rfl (fun _ _ _ h => h) hS (Or.inl ⟨by rfl, fun W hW => by go_simp <;> with_reducible rfl⟩) ?_; simp only [Act.put, List.setIfInBounds_toArray, List.set_cons_zero, List.set_cons_succ])
          refine seqT_fork rfl rfl (fun K hK => ?_) (fun K hK => ?_)
          · skip
            go_simp
            refine hK.out _ _ (Sz w) (fun W h => h) hS ?_
            clear hK K
            refine seqT_do rfl (fun K hK => ?_)
            go_simp
            have hbA := (Below.refl u.heap.size u).alloc (Nat.le_refl _) (.cells #[.int .u32 m] 29)
            have HWB := alloc_w1 u m
            have stv1 := stu.next (hbA.mono stu.lt)
            have hov1 := hou.below hbA (Nat.le_refl _)
            refine hK.out _ _ (Sz w) (fun W h => h) stv1.below ?_
            clear hK K
            generalize u.alloc (.cells #[.int .u32 m] 29) = v1 at *
            generalize u.heap.size = qb at *
            replace hS : Sz w v1 := stv1.below
            have c5 := stv1.res.c5
            refine seqT_do rfl (fun K hK => ?_)
            rw [if_pos (by rfl)]
            refine oper_append_words (.tmp 87) (.tmp 92) rfl (w.heap.size + 2) _ i c 1 1 (i + 1) A _ (wordsAt xs 12 i) [m] (wordsAt xs 12 (i + 1)) rfl HSN.out rfl rfl hov1 (HWB.rd (by intro x hx; simp at hx; omega) rfl) stv1.lt (by omega) (fun A2 c2 v2 hov2 hbv2 => hK.out _ _ (Sz w) (fun W h => h) (stv1.next hbv2).below ?_)
            clear hK K c5
            have stv2 := stv1.next hbv2
            replace hS : Sz w v2 := stv2.below
            simp only [Act.put, List.setIfInBounds_toArray, List.set_cons_zero, List.set_cons_succ]
            iterate 1 (refine seqT_read (v := _) rfl (fun _ _ _ h => h) hS (Or.inl ⟨by rfl, fun W hW => by go_simp <;> with_reducible rfl⟩) ?_; simp only [Act.put, List.setIfInBounds_toArray, List.set_cons_zero, List.set_cons_succ])
            have x5 := stv2.res.c5
            have y5 := stv2.res.frozen 5
            have st9 := stv2.set (stv2.res.set5 A2 (i + 1) c2)
            have ho9 := hov2.off stv2.res ((Off.refl w.heap.size v2).set (k := 5) (.slice A2 (i + 1) c2))
            refine seqT_do rfl (fun K hK => ?_)
            go_simp
            refine hK.out _ _ (Sz w) (fun W h => h) st9.below ?_
            clear hK K x5 y5
            refine seqT_end ?_
            have HST9 := Lib.hid st9
            have HO9 := Lib.hid ho9
            clear st9 ho9
            go_wp2
            go_roundw
            case rel => exact ⟨i + 1, A2, c2, by omega, by omega, by rw [show 12 + 4 * (i + 1) = a + 4 from by omega]; go_num, by rw [show n - (i + 1) = r - 1 from by omega]; go_num, HST9.out, HO9.out⟩
            case measure => simp [intOf]; omega
          · skip
            go_simp
            have hbA := (Below.refl u.heap.size u).alloc (Nat.le_refl _) (.cells #[.int .u32 m] 29)
            have HWB := alloc_w1 u m
            have stv1 := stu.next (hbA.mono stu.lt)
            have hov1 := hou.below hbA (Nat.le_refl _)
            refine hK.out _ _ (Sz w) (fun W h => h) stv1.below ?_
            clear hK K
            generalize u.alloc (.cells #[.int .u32 m] 29) = v1 at *
            generalize u.heap.size = qb at *
            replace hS : Sz w v1 := stv1.below
            have c5 := stv1.res.c5
            refine seqT_do rfl (fun K hK => ?_)
            go_simp
            refine hK.out _ _ (Sz w) (fun W h => h) hS ?_
            clear hK K
            refine seqT_do rfl (fun K hK => ?_)
            rw [if_pos (by rfl)]
            refine oper_append_words (.tmp 87) (.tmp 92) rfl (w.heap.size + 2) _ i c 1 1 (i + 1) A _ (wordsAt xs 12 i) [m] (wordsAt xs 12 (i + 1)) rfl HSN.out rfl rfl hov1 (HWB.rd (by intro x hx; simp at hx; omega) rfl) stv1.lt (by omega) (fun A2 c2 v2 hov2 hbv2 => hK.out _ _ (Sz w) (fun W h => h) (stv1.next hbv2).below ?_)
            clear hK K c5
            have stv2 := stv1.next hbv2
            replace hS : Sz w v2 := stv2.below
            simp only [Act.put, List.setIfInBounds_toArray, List.set_cons_zero, List.set_cons_succ]
            iterate 1 (refine seqT_read (v := _) rfl (fun _ _ _ h => h) hS (Or.inl ⟨by rfl, fun W hW => by go_simp <;> with_reducible rfl⟩) ?_; simp only [Act.put, List.setIfInBounds_toArray, List.set_cons_zero, List.set_cons_succ])
            have x5 := stv2.res.c5
            have y5 := stv2.res.frozen 5
            have st9 := stv2.set (stv2.res.set5 A2 (i + 1) c2)
            have ho9 := hov2.off stv2.res ((Off.refl w.heap.size v2).set (k := 5) (.slice A2 (i + 1) c2))
            refine seqT_do rfl (fun K hK => ?_)
            go_simp
            refine hK.out _ _ (Sz w) (fun W h => h) st9.below ?_
            clear hK K x5 y5
            refine seqT_end ?_
            have HST9 := Lib.hid st9
            have HO9 := Lib.hid ho9
            clear st9 ho9
            go_wp2
            go_roundw
            case rel => exact ⟨i + 1, A2, c2, by omega, by omega, by rw [show 12 + 4 * (i + 1) = a + 4 from by omega]; go_num, by rw [show n - (i + 1) = r - 1 from by omega]; go_num, HST9.out, HO9.out⟩
            case measure => simp [intOf]; omega
      · have j2 : (len : Int) < (a : Int) + 4 := by omega
        have HE := Lib.hid (E2.out (by omega))
        obtain ⟨f0, f1, f2, f3, f4, f5, f6, f7, f8, f9, f10, g0, g1, g2, g3, g4, g5, g6, g7, g8, g9, g10⟩ := st.res.cf
        obtain ⟨z0, z1, z2, z3, z4, z5, z6, z7, z8, z9, z10⟩ := st.zero.cells
        go_wp2
        exact retR_at (st.res.store zpv) (HE.out _ (below_pstore st.below (Nat.le_refl _) _ _ _ _ _ _ _ _ _ _ _))
    · obtain rfl : n = i := by omega
      have j1 : ¬ (0 : Int) < r := by omega
      obtain ⟨p, hp⟩ := Int.eq_ofNat_of_zero_le (show 0 ≤ lastB xs from (hr.2.1.getD _).1)
      have hpb : p ≤ 255 := by have := (hr.2.1.getD (xs.length - 1)).2; have h2 : lastB xs = xs.getD (xs.length - 1) 0 := rfl; omega
      have HLB := Lib.hid hp
      have HXL := Lib.hid hr.1
      have hxl : xs.length = len := hr.1
      have CL : Hid (∀ W, Below w.heap.size w W → W.cell? ⟨b, off + (len - 1), none⟩ = some (.int .u8 (p : Int))) := fun W hW => by
        obtain ⟨b2, off2, e, hlt, hc⟩ := (hr.below hW).2.2 (by omega)
        injection e with e
        injection e with e1 e2
        subst e1; subst e2
        rw [hc (len - 1) (by omega), ← HLB.out, lastB, HXL.out]
      have t1 : x0.tdiv 16 = x0 / 16 := Int.tdiv_eq_ediv_of_nonneg (by omega)
      have t2 : (x0 / 16).tmod 2 = x0 / 16 % 2 := Int.tmod_eq_emod_of_nonneg (by omega)
      have t3 : x0.tdiv 32 = x0 / 32 := Int.tdiv_eq_ediv_of_nonneg (by omega)
      have t4 : (x0 / 32).tmod 2 = x0 / 32 % 2 := Int.tmod_eq_emod_of_nonneg (by omega)
      have hna : 12 + 4 * n = a := ha
      rw [hna] at hpr hen
      clear hp
      rcases hXX : hasX xs with _ | _
      · have b16 : (x0 / 16 % 2 == 1) = false := by rw [hXX] at hX; simpa using hX.symm
        obtain ⟨f, hf⟩ : ∃ f, a = f := ⟨_, rfl⟩
        have hfl : f ≤ len := by omega
        have HFE := Lib.hid (show f = (if hasX xs then 12 + 4 * n + 4 + 4 * en else 12 + 4 * n) from by rw [hXX]; simp only [Bool.false_eq_true, if_false]; omega)
        subst hf
        rcases hPP : hasP xs with _ | _
        · have b32 : (x0 / 32 % 2 == 1) = false := by rw [hPP] at hP; simpa using hP.symm
          obtain ⟨X9, HX9, s9⟩ := cut_run b off len cap a len a len rfl rfl hfl hlc
          have RX9 : Hid (∀ W, Below w.heap.size w W → Rd W w.heap.size X9 (len - a) ((xs.drop a).take (len - a))) := fun W hW => Rd.mid (hi := len) (hr.below hW) (by omega) (by omega) hlc HX9
          have HT1 := Lib.hid (fun _ : hasP xs = false => (⟨rfl, rfl⟩ : len = len ∧ (0 : Int) = 0))
          have HT2 : Hid (hasP xs = true → pdB (xs.drop a) = true ∧ (0 : Int) = lastB (xs.drop a) ∧ (len : Int) = len - 0) := fun h => by rw [hPP] at h; cases h
          clear HX9
          have k0 := C0.out _ st.below
          go_wp2_with (first
            | (at_builtin; refine wpList_append_bytes rfl (.const (.slice none 0 0)) (.tmp 204) rfl _ w.heap.size 0 0 (len - a) (cap - a) (len - a) none X9 [] ((xs.drop a).take (len - a)) ((xs.drop a).take (len - a)) (Nat.zero_add _) rfl rfl rfl (Own.nil _ _) (RX9.out _ st.below) (Nat.le_refl _) (by omega) ?_
               intro A3 k3 w20 ho20 hb20
               have st20 := st.next (hb20.mono st.lt)
               have ho20' := ho20.lower st.lt
               have x9 := st20.res.c9
               have y9 := st20.res.frozen 9
               have st21 := st20.set (st20.res.set9' A3 (len - a) k3)
               obtain ⟨c0, c1, c2, c3, c4, c5, c6, c7, c8, c9, c10, g0, g1, g2, g3, g4, g5, g6, g7, g8, g9, -⟩ := st21.res.cf
               have g10 := st21.res.frozen 10))
          have hO9 := (Off.refl w.heap.size w20).set (k := 9) (.slice A3 (len - a) k3)
          have oC : OwnW _ (w.heap.size + 2) A n c (wordsAt xs 12 n) := ((ho).bel hb20).off st20.res hO9
          have oE : Own (w20.setCell ⟨w.heap.size, 9, none⟩ (.slice A3 (len - a) k3)) (w.heap.size + 2) none 0 0 [] := Own.nil _ _
          have oP := ho20'.off st20.res hO9
          have hOs := off_pstore w.heap.size (w20.setCell ⟨w.heap.size, 9, none⟩ (.slice A3 (len - a) k3)) (.bool mrk) (.int .i64 ty) (.int .u16 seq) (.int .u32 time) (.int .u32 ssrc) (.slice A n c) (.bool false) (.int .u16 0) (.slice none 0 0) (.slice A3 (len - a) k3) (.int .i64 0)
          have RR := E5.out a A c none 0 A3 k3 _ len 0 (by rw [hXX]; simp only [Bool.false_eq_true, if_false]; omega) (fun _ => ⟨rfl, rfl⟩) (fun h => by rw [hPP] at h; cases h) (by omega) (by omega) (oC.off st21.res hOs) (by rw [hXX]; simp only [Bool.false_eq_true, if_false]; exact (oE.off st21.res hOs)) (oP.off st21.res hOs) (below_pstore st21.below (Nat.le_refl _) _ _ _ _ _ _ _ _ _ _ _)
          rw [hXX] at RR
          simp only [Bool.false_eq_true, if_false] at RR
          exact retR_at (st21.res.store ⟨mrk, ty, seq, time, ssrc, A, n, c, false, 0, none, 0, 0, A3, len - a, k3, 0⟩) RR
        · have b32 : (x0 / 32 % 2 == 1) = true := by rw [hPP] at hP; simpa using hP.symm
          have d2 : (len : Int) - 1 = ((len - 1 : Nat) : Int) := by omega
          have hl1 : len - 1 < len := by omega
          by_cases hfl2 : a = len
          · have HE := Lib.hid (E4.out a HFE.out hfl hPP (by rw [hfl2, pdB, List.drop_of_length_le (by omega)]; rfl))
            have a1 : ((a : Int) == len) = true := by rw [hfl2]; simp
            clear hfl2
            have k0 := C0.out _ st.below
            have kL := CL.out _ st.below
            obtain ⟨f0, f1, f2, f3, f4, f5, f6, f7, f8, f9, f10, g0, g1, g2, g3, g4, g5, g6, g7, g8, g9, g10⟩ := st.res.cf
            obtain ⟨z0, z1, z2, z3, z4, z5, z6, z7, z8, z9, z10⟩ := st.zero.cells
            go_wp2
            exact retR_at (st.res.store zpv) (HE.out _ (below_pstore st.below (Nat.le_refl _) _ _ _ _ _ _ _ _ _ _ _))
          · have a1 : ((a : Int) == len) = false := by simp; omega
            by_cases hpz : p = 0
            · have HE := Lib.hid (E4.out a HFE.out hfl hPP (by rw [pdB, lastB_drop xs a (by omega), HLB.out, hpz]; simp))
              have a2 : ((p : Int) == 0) = true := by simp [hpz]
              clear hpz
              have k0 := C0.out _ st.below
              have kL := CL.out _ st.below
              obtain ⟨f0, f1, f2, f3, f4, f5, f6, f7, f8, f9, f10, g0, g1, g2, g3, g4, g5, g6, g7, g8, g9, g10⟩ := st.res.cf
              obtain ⟨z0, z1, z2, z3, z4, z5, z6, z7, z8, z9, z10⟩ := st.zero.cells
              go_wp2
              exact retR_at (st.res.store zpv) (HE.out _ (below_pstore st.below (Nat.le_refl _) _ _ _ _ _ _ _ _ _ _ _))
            · have a2 : ((p : Int) == 0) = false := by simp; omega
              have qp : IntKind.i64.wrap (p : Int) = p := IntWalk.i64_in _ (by omega)
              by_cases hpl : (len : Int) - a < p
              · have HE := Lib.hid (E4.out a HFE.out hfl hPP (by rw [pdB, lastB_drop xs a (by omega), HLB.out, List.length_drop]; simp; omega))
                have k0 := C0.out _ st.below
                have kL := CL.out _ st.below
                obtain ⟨f0, f1, f2, f3, f4, f5, f6, f7, f8, f9, f10, g0, g1, g2, g3, g4, g5, g6, g7, g8, g9, g10⟩ := st.res.cf
                obtain ⟨z0, z1, z2, z3, z4, z5, z6, z7, z8, z9, z10⟩ := st.zero.cells
                go_wp2
                exact retR_at (st.res.store zpv) (HE.out _ (below_pstore st.below (Nat.le_refl _) _ _ _ _ _ _ _ _ _ _ _))
              · obtain ⟨t, ht⟩ : ∃ t, len - p = t := ⟨_, rfl⟩
                have d1 : (len : Int) - p = (t : Int) := by omega
                have d3 : len - 1 - t = p - 1 := by omega
                obtain ⟨X7, HX7, s7⟩ := cut_run b off len cap t (len - 1) t ((len - 1 : Nat) : Int) rfl rfl (by omega) (by omega)
                obtain rfl := HX7 (by omega)
                rw [d3] at s7
                obtain ⟨X9, HX9, s9⟩ := cut_run b off len cap a t a t rfl rfl (by omega) (by omega)
                have RX9 : Hid (∀ W, Below w.heap.size w W → Rd W w.heap.size X9 (t - a) ((xs.drop a).take (t - a))) := fun W hW => Rd.mid (hi := t) (hr.below hW) (by omega) (by omega) hlc HX9
                obtain ⟨zs, hzs⟩ : ∃ zs, (xs.drop t).take (p - 1) = zs := ⟨_, rfl⟩
                have hpd : pdB (xs.drop a) = zs.all (· == 0) := by
                  have hld := lastB_drop xs a (by omega)
                  have hpz2 := padZ_drop xs a (by omega) (by rw [HLB.out]; omega)
                  rw [pdB, hld, hpz2, padZ, HLB.out, HXL.out, Int.toNat_natCast, List.length_drop, HXL.out, decide_eq_true (by omega), decide_eq_true (by omega), decide_eq_true (by omega), ht, hzs]; rfl
                have HZL := Lib.hid (show zs.length = p - 1 from by rw [← hzs, List.length_take, List.length_drop, HXL.out]; omega)
                have HZC : Hid (∀ W, Below w.heap.size w W → ∀ k, k < p - 1 → W.cell? ⟨b, off + t + k, none⟩ = some (.int .u8 (zs.getD k 0))) := fun W hW k hk => by
                  obtain ⟨b2, off2, e, hlt, hc⟩ := (hr.below hW).2.2 (by omega)
                  injection e with e
                  injection e with e1 e2
                  subst e1; subst e2
                  rw [Nat.add_assoc, hc (t + k) (by omega), ← hzs, List.getD_eq_getElem?_getD, List.getD_eq_getElem?_getD, List.getElem?_take, if_pos hk, List.getElem?_drop]
                have HT1 : Hid (hasP xs = false → t = len ∧ (p : Int) = 0) := fun h => by rw [hPP] at h; cases h
                have HOK : Hid (zs.all (· == 0) = true → pdB (xs.drop a) = true ∧ (p : Int) = lastB (xs.drop a) ∧ (t : Int) = len - (p : Int)) := fun h => ⟨hpd.trans h, by rw [lastB_drop xs a (by omega), HLB.out], by omega⟩
                have HEZ : Hid (zs.all (· == 0) = false → ∀ W, Below w.heap.size w W → R (.returned (.tuple #[pkt zpv, .int .i64 0, .int .i64 0, .int .i64 1])) W) := fun h => E4.out a HFE.out hfl hPP (hpd.trans h)
                clear HX9 hpd hzs
                have k0 := C0.out _ st.below
                have kL := CL.out _ st.below
                have x10 := st.res.c10
                have y10 := st.res.frozen 10
                have stV := st.set (st.res.set10' p)
                have l10 := stV.res.c10
                go_wp2
                go_loop [193] (fun s => ∃ k : Nat, k ≤ p - 1 ∧ s = .int .i64 k ∧ (zs.take k).all (· == 0) = true) (fun s => p - (intOf s).toNat)
                case atStart => exact ⟨0, by omega, rfl, rfl⟩
                case round =>
                  obtain ⟨k, hk, rfl, hall⟩ := hrel
                  by_cases hlt2 : k < p - 1
                  · have ck := HZC.out _ stV.below k hlt2
                    have hts : zs.take (k + 1) = zs.take k ++ [zs.getD k 0] := take_snoc k (by rw [HZL.out]; exact hlt2)
                    obtain ⟨x, hxk⟩ : ∃ x, zs.getD k 0 = x := ⟨_, rfl⟩
                    rw [hxk] at ck hts
                    by_cases hx0 : x = 0
                    · have hzz : (x != 0) = false := by simp [hx0]
                      have HT := Lib.hid (show (zs.take (k + 1)).all (· == 0) = true from by rw [hts, List.all_append, hall, hx0]; rfl)
                      clear hts hxk hx0 hall
                      go_wp2
                      go_round
                      case rel => exact ⟨k + 1, by omega, by go_num, HT.out⟩
                      case measure => simp [intOf]; omega
                    · have hzz : (x != 0) = true := by simpa using hx0
                      have HT := Lib.hid (show zs.all (· == 0) = false from by
                        rw [← List.take_append_drop (k + 1) zs, List.all_append, hts, List.all_append]
                        simp [hx0])
                      have HE := Lib.hid (HEZ.out HT.out)
                      clear hts hxk hx0 hall
                      obtain ⟨f0, f1, f2, f3, f4, f5, f6, f7, f8, f9, f10, g0, g1, g2, g3, g4, g5, g6, g7, g8, g9, g10⟩ := stV.res.cf
                      obtain ⟨z0, z1, z2, z3, z4, z5, z6, z7, z8, z9, z10⟩ := stV.zero.cells
                      go_wp2
                      exact retR_at (stV.res.store zpv) (HE.out _ (below_pstore stV.below (Nat.le_refl _) _ _ _ _ _ _ _ _ _ _ _))
                  · obtain rfl : k = p - 1 := by omega
                    have HT := Lib.hid (show zs.all (· == 0) = true from by
                      rw [List.take_of_length_le (by rw [HZL.out]; exact Nat.le_refl _)] at hall
                      exact hall)
                    have HT2 := Lib.hid (fun h : hasP xs = true => HOK.out HT.out)
                    clear hall
                    have hoV := (ho).off st.res ((Off.refl w.heap.size _).set (k := 10) (.int .i64 (p : Int)))
                    go_wp2_with ((at_builtin; refine wpList_append_bytes rfl (.const (.slice none 0 0)) (.tmp 204) rfl _ w.heap.size 0 0 (t - a) (cap - a) (t - a) none X9 [] ((xs.drop a).take (t - a)) ((xs.drop a).take (t - a)) (Nat.zero_add _) rfl rfl rfl (Own.nil _ _) (RX9.out _ stV.below) (Nat.le_refl _) (by omega) ?_
                                  intro A3 k3 w20 ho20 hb20
                                  have st20 := stV.next (hb20.mono stV.lt)
                                  have ho20' := ho20.lower stV.lt
                                  have x9 := st20.res.c9
                                  have y9 := st20.res.frozen 9
                                  have st21 := st20.set (st20.res.set9' A3 (t - a) k3)
                                  obtain ⟨c0, c1, c2, c3, c4, c5, c6, c7, c8, c9, c10, g0, g1, g2, g3, g4, g5, g6, g7, g8, g9, -⟩ := st21.res.cf
                                  have g10 := st21.res.frozen 10))
                    have hO9 := (Off.refl w.heap.size w20).set (k := 9) (.slice A3 (t - a) k3)
                    have oC : OwnW _ (w.heap.size + 2) A n c (wordsAt xs 12 n) := ((hoV).bel hb20).off st20.res hO9
                    have oE : Own (w20.setCell ⟨w.heap.size, 9, none⟩ (.slice A3 (t - a) k3)) (w.heap.size + 2) none 0 0 [] := Own.nil _ _
                    have oP := ho20'.off st20.res hO9
                    have hOs := off_pstore w.heap.size (w20.setCell ⟨w.heap.size, 9, none⟩ (.slice A3 (t - a) k3)) (.bool mrk) (.int .i64 ty) (.int .u16 seq) (.int .u32 time) (.int .u32 ssrc) (.slice A n c) (.bool false) (.int .u16 0) (.slice none 0 0) (.slice A3 (t - a) k3) (.int .i64 (p : Int))
                    have RR := E5.out a A c none 0 A3 k3 _ t (p : Int) (by rw [hXX]; simp only [Bool.false_eq_true, if_false]; omega) (fun h => by rw [hPP] at h; cases h) HT2.out (by omega) (by omega) (oC.off st21.res hOs) (by rw [hXX]; simp only [Bool.false_eq_true, if_false]; exact (oE.off st21.res hOs)) (oP.off st21.res hOs) (below_pstore st21.below (Nat.le_refl _) _ _ _ _ _ _ _ _ _ _ _)
                    rw [hXX] at RR
                    simp only [Bool.false_eq_true, if_false] at RR
                    exact retR_at (st21.res.store ⟨mrk, ty, seq, time, ssrc, A, n, c, false, 0, none, 0, 0, A3, t - a, k3, (p : Int)⟩) RR
      · have b16 : (x0 / 16 % 2 == 1) = true := by rw [hXX] at hX; simpa using hX.symm
        by_cases hf4 : a + 4 ≤ len
        · have j3 : ¬ (len : Int) < (a : Int) + 4 := by omega
          have qe : IntKind.i64.wrap (en : Int) = en := IntWalk.i64_in _ (by omega)
          have qf : IntKind.u16.wrap prof = prof := by simp [IntKind.wrap, IntKind.bits, IntKind.signed]; omega
          by_cases hfe : a + 4 + 4 * en ≤ len
          · obtain ⟨f, hf⟩ : ∃ f, a + 4 + 4 * en = f := ⟨_, rfl⟩
            have hfl : f ≤ len := by omega
            have HFE := Lib.hid (show f = (if hasX xs then 12 + 4 * n + 4 + 4 * en else 12 + 4 * n) from by rw [hXX]; simp only [if_true]; omega)
            have j4 : ¬ (len : Int) < (a : Int) + 4 + 4 * (en : Int) := by omega
            have j5 : ¬ (len : Int) < (f : Int) := by omega
            have v1 : (a : Int) + 4 + 4 * (en : Int) = (f : Int) := by omega
            have v2 : (a : Int) + (4 + 4 * (en : Int)) = (f : Int) := by omega
            obtain ⟨X8, HX8, s8⟩ := cut_run b off len cap (a + 4) f ((a : Int) + 4) f (by omega) rfl (by omega) (by omega)
            have RX8 : Hid (∀ W, Below w.heap.size w W → Rd W w.heap.size X8 (4 * en) ((xs.drop (a + 4)).take (4 * en))) := fun W hW => by
              have := Rd.mid (hi := f) (hr.below hW) (by omega) (by omega) hlc HX8
              rw [show f - (a + 4) = 4 * en from by omega] at this
              exact this
            rw [show f - (a + 4) = 4 * en from by omega] at s8
            clear HX8
            rcases hPP : hasP xs with _ | _
            · have b32 : (x0 / 32 % 2 == 1) = false := by rw [hPP] at hP; simpa using hP.symm
              obtain ⟨X9, HX9, s9⟩ := cut_run b off len cap f len f len rfl rfl hfl hlc
              have RX9 : Hid (∀ W, Below w.heap.size w W → Rd W w.heap.size X9 (len - f) ((xs.drop f).take (len - f))) := fun W hW => Rd.mid (hi := len) (hr.below hW) (by omega) (by omega) hlc HX9
              have HT1 := Lib.hid (fun _ : hasP xs = false => (⟨rfl, rfl⟩ : len = len ∧ (0 : Int) = 0))
              have HT2 : Hid (hasP xs = true → pdB (xs.drop f) = true ∧ (0 : Int) = lastB (xs.drop f) ∧ (len : Int) = len - 0) := fun h => by rw [hPP] at h; cases h
              clear HX9
              have x6 := st.res.c6
              have y6 := st.res.frozen 6
              have st6 := st.set (st.res.set6 true)
              have ho6 := ho.off st.res ((Off.refl w.heap.size wx).set (k := 6) (.bool true))
              have HE6 := Lib.hid (CR.out _ a 2 st6.below (by omega) (by omega) (by omega))
              have HEN := Lib.hid (CR.out wx (a + 2) 2 st.below (by omega) (by omega) (by omega))
              have k0x := C0.out _ st.below
              go_wp2_with fail
              have C := HEN.out
              rw [hen, show ((a + 2 : Nat) : Int) = (a : Int) + 2 from by omega] at C
              refine C.mono ?_
              rintro e w' ⟨rfl, rfl⟩
              clear C k0x
              go_wp2_with fail
              have C := HE6.out
              rw [hpr] at C
              refine C.mono ?_
              rintro e w' ⟨rfl, rfl⟩
              clear C x6 y6
              have x7 := st6.res.c7
              have y7 := st6.res.frozen 7
              have st7 := st6.set (st6.res.set7 prof)
              have ho7 := ho6.off st6.res ((Off.refl w.heap.size _).set (k := 7) (.int .u16 prof))
              go_wp2_with (first
                | (at_builtin; refine wpList_append_bytes rfl (.const (.slice none 0 0)) (.tmp 136) rfl _ w.heap.size 0 0 (4 * en) (cap - (a + 4)) (4 * en) none X8 [] ((xs.drop (a + 4)).take (4 * en)) ((xs.drop (a + 4)).take (4 * en)) (Nat.zero_add _) rfl rfl rfl (Own.nil _ _) (RX8.out _ st7.below) (Nat.le_refl _) (by omega) ?_
                   intro A2 k2 w10 ho10 hb10
                   have st10 := st7.next (hb10.mono st7.lt)
                   have ho10' := ho10.lower st7.lt
                   have x8 := st10.res.c8
                   have y8 := st10.res.frozen 8
                   have stE := st10.set (st10.res.set8 A2 (4 * en) k2)
                   have hO8 := (Off.refl w.heap.size w10).set (k := 8) (.slice A2 (4 * en) k2)
                   have hoE := (ho7.bel hb10).off st10.res hO8
                   have heE := ho10'.off st10.res hO8
                   have k0 := C0.out _ stE.below)
                | (at_builtin; refine wpList_append_bytes rfl (.const (.slice none 0 0)) (.tmp 204) rfl _ w.heap.size 0 0 (len - f) (cap - f) (len - f) none X9 [] ((xs.drop f).take (len - f)) ((xs.drop f).take (len - f)) (Nat.zero_add _) rfl rfl rfl (Own.nil _ _) (RX9.out _ stE.below) (Nat.le_refl _) (by omega) ?_
                   intro A3 k3 w20 ho20 hb20
                   have st20 := stE.next (hb20.mono stE.lt)
                   have ho20' := ho20.lower stE.lt
                   have x9 := st20.res.c9
                   have y9 := st20.res.frozen 9
                   have st21 := st20.set (st20.res.set9' A3 (len - f) k3)
                   obtain ⟨c0, c1, c2, c3, c4, c5, c6, c7, c8, c9, c10, g0, g1, g2, g3, g4, g5, g6, g7, g8, g9, -⟩ := st21.res.cf
                   have g10 := st21.res.frozen 10))
              have hO9 := (Off.refl w.heap.size w20).set (k := 9) (.slice A3 (len - f) k3)
              have oC : OwnW _ (w.heap.size + 2) A n c (wordsAt xs 12 n) := ((hoE).bel hb20).off st20.res hO9
              have oE : Own (w20.setCell ⟨w.heap.size, 9, none⟩ (.slice A3 (len - f) k3)) (w.heap.size + 2) A2 (4 * en) k2 ((xs.drop (a + 4)).take (4 * en)) := ((heE).bel hb20).off st20.res hO9
              have oP := ho20'.off st20.res hO9
              have hOs := off_pstore w.heap.size (w20.setCell ⟨w.heap.size, 9, none⟩ (.slice A3 (len - f) k3)) (.bool mrk) (.int .i64 ty) (.int .u16 seq) (.int .u32 time) (.int .u32 ssrc) (.slice A n c) (.bool true) (.int .u16 prof) (.slice A2 (4 * en) k2) (.slice A3 (len - f) k3) (.int .i64 0)
              have RR := E5.out f A c A2 k2 A3 k3 _ len 0 (by rw [hXX]; simp only [if_true]; omega) (fun _ => ⟨rfl, rfl⟩) (fun h => by rw [hPP] at h; cases h) (by omega) (by omega) (oC.off st21.res hOs) (by rw [hXX]; simp only [if_true, hna]; exact (oE.off st21.res hOs)) (oP.off st21.res hOs) (below_pstore st21.below (Nat.le_refl _) _ _ _ _ _ _ _ _ _ _ _)
              rw [hXX] at RR
              simp only [if_true] at RR
              exact retR_at (st21.res.store ⟨mrk, ty, seq, time, ssrc, A, n, c, true, prof, A2, 4 * en, k2, A3, len - f, k3, 0⟩) RR
            · have b32 : (x0 / 32 % 2 == 1) = true := by rw [hPP] at hP; simpa using hP.symm
              have d2 : (len : Int) - 1 = ((len - 1 : Nat) : Int) := by omega
              have hl1 : len - 1 < len := by omega
              by_cases hfl2 : f = len
              · have HE := Lib.hid (E4.out f HFE.out hfl hPP (by rw [hfl2, pdB, List.drop_of_length_le (by omega)]; rfl))
                have a1 : ((f : Int) == len) = true := by rw [hfl2]; simp
                clear hfl2
                have x6 := st.res.c6
                have y6 := st.res.frozen 6
                have st6 := st.set (st.res.set6 true)
                have ho6 := ho.off st.res ((Off.refl w.heap.size wx).set (k := 6) (.bool true))
                have HE6 := Lib.hid (CR.out _ a 2 st6.below (by omega) (by omega) (by omega))
                have HEN := Lib.hid (CR.out wx (a + 2) 2 st.below (by omega) (by omega) (by omega))
                have k0x := C0.out _ st.below
                go_wp2_with fail
                have C := HEN.out
                rw [hen, show ((a + 2 : Nat) : Int) = (a : Int) + 2 from by omega] at C
                refine C.mono ?_
                rintro e w' ⟨rfl, rfl⟩
                clear C k0x
                go_wp2_with fail
                have C := HE6.out
                rw [hpr] at C
                refine C.mono ?_
                rintro e w' ⟨rfl, rfl⟩
                clear C x6 y6
                have x7 := st6.res.c7
                have y7 := st6.res.frozen 7
                have st7 := st6.set (st6.res.set7 prof)
                have ho7 := ho6.off st6.res ((Off.refl w.heap.size _).set (k := 7) (.int .u16 prof))
                go_wp2_with (first
                  | (at_builtin; refine wpList_append_bytes rfl (.const (.slice none 0 0)) (.tmp 136) rfl _ w.heap.size 0 0 (4 * en) (cap - (a + 4)) (4 * en) none X8 [] ((xs.drop (a + 4)).take (4 * en)) ((xs.drop (a + 4)).take (4 * en)) (Nat.zero_add _) rfl rfl rfl (Own.nil _ _) (RX8.out _ st7.below) (Nat.le_refl _) (by omega) ?_
                     intro A2 k2 w10 ho10 hb10
                     have st10 := st7.next (hb10.mono st7.lt)
                     have ho10' := ho10.lower st7.lt
                     have x8 := st10.res.c8
                     have y8 := st10.res.frozen 8
                     have stE := st10.set (st10.res.set8 A2 (4 * en) k2)
                     have hO8 := (Off.refl w.heap.size w10).set (k := 8) (.slice A2 (4 * en) k2)
                     have hoE := (ho7.bel hb10).off st10.res hO8
                     have heE := ho10'.off st10.res hO8
                     have k0 := C0.out _ stE.below
                     have kL := CL.out _ stE.below
                     obtain ⟨f0, f1, f2, f3, f4, f5, f6, f7, f8, f9, f10, g0, g1, g2, g3, g4, g5, g6, g7, g8, g9, g10⟩ := stE.res.cf
                     obtain ⟨z0, z1, z2, z3, z4, z5, z6, z7, z8, z9⟩ := stE.zero.cells
                     have z10 := stE.zero.c10))
                exact retR_at (stE.res.store zpv) (HE.out _ (below_pstore stE.below (Nat.le_refl _) _ _ _ _ _ _ _ _ _ _ _))
              · have a1 : ((f : Int) == len) = false := by simp; omega
                by_cases hpz : p = 0
                · have HE := Lib.hid (E4.out f HFE.out hfl hPP (by rw [pdB, lastB_drop xs f (by omega), HLB.out, hpz]; simp))
                  have a2 : ((p : Int) == 0) = true := by simp [hpz]
                  clear hpz
                  have x6 := st.res.c6
                  have y6 := st.res.frozen 6
                  have st6 := st.set (st.res.set6 true)
                  have ho6 := ho.off st.res ((Off.refl w.heap.size wx).set (k := 6) (.bool true))
                  have HE6 := Lib.hid (CR.out _ a 2 st6.below (by omega) (by omega) (by omega))
                  have HEN := Lib.hid (CR.out wx (a + 2) 2 st.below (by omega) (by omega) (by omega))
                  have k0x := C0.out _ st.below
                  go_wp2_with fail
                  have C := HEN.out
                  rw [hen, show ((a + 2 : Nat) : Int) = (a : Int) + 2 from by omega] at C
                  refine C.mono ?_
                  rintro e w' ⟨rfl, rfl⟩
                  clear C k0x
                  go_wp2_with fail
                  have C := HE6.out
                  rw [hpr] at C
                  refine C.mono ?_
                  rintro e w' ⟨rfl, rfl⟩
                  clear C x6 y6
                  have x7 := st6.res.c7
                  have y7 := st6.res.frozen 7
                  have st7 := st6.set (st6.res.set7 prof)
                  have ho7 := ho6.off st6.res ((Off.refl w.heap.size _).set (k := 7) (.int .u16 prof))
                  go_wp2_with (first
                    | (at_builtin; refine wpList_append_bytes rfl (.const (.slice none 0 0)) (.tmp 136) rfl _ w.heap.size 0 0 (4 * en) (cap - (a + 4)) (4 * en) none X8 [] ((xs.drop (a + 4)).take (4 * en)) ((xs.drop (a + 4)).take (4 * en)) (Nat.zero_add _) rfl rfl rfl (Own.nil _ _) (RX8.out _ st7.below) (Nat.le_refl _) (by omega) ?_
                       intro A2 k2 w10 ho10 hb10
                       have st10 := st7.next (hb10.mono st7.lt)
                       have ho10' := ho10.lower st7.lt
                       have x8 := st10.res.c8
                       have y8 := st10.res.frozen 8
                       have stE := st10.set (st10.res.set8 A2 (4 * en) k2)
                       have hO8 := (Off.refl w.heap.size w10).set (k := 8) (.slice A2 (4 * en) k2)
                       have hoE := (ho7.bel hb10).off st10.res hO8
                       have heE := ho10'.off st10.res hO8
                       have k0 := C0.out _ stE.below
                       have kL := CL.out _ stE.below
                       obtain ⟨f0, f1, f2, f3, f4, f5, f6, f7, f8, f9, f10, g0, g1, g2, g3, g4, g5, g6, g7, g8, g9, g10⟩ := stE.res.cf
                       obtain ⟨z0, z1, z2, z3, z4, z5, z6, z7, z8, z9⟩ := stE.zero.cells
                       have z10 := stE.zero.c10))
                  exact retR_at (stE.res.store zpv) (HE.out _ (below_pstore stE.below (Nat.le_refl _) _ _ _ _ _ _ _ _ _ _ _))
                · have a2 : ((p : Int) == 0) = false := by simp; omega
                  have qp : IntKind.i64.wrap (p : Int) = p := IntWalk.i64_in _ (by omega)
                  by_cases hpl : (len : Int) - f < p
                  · have HE := Lib.hid (E4.out f HFE.out hfl hPP (by rw [pdB, lastB_drop xs f (by omega), HLB.out, List.length_drop]; simp; omega))
                    have x6 := st.res.c6
                    have y6 := st.res.frozen 6
                    have st6 := st.set (st.res.set6 true)
                    have ho6 := ho.off st.res ((Off.refl w.heap.size wx).set (k := 6) (.bool true))
                    have HE6 := Lib.hid (CR.out _ a 2 st6.below (by omega) (by omega) (by omega))
                    have HEN := Lib.hid (CR.out wx (a + 2) 2 st.below (by omega) (by omega) (by omega))
                    have k0x := C0.out _ st.below
                    go_wp2_with fail
                    have C := HEN.out
                    rw [hen, show ((a + 2 : Nat) : Int) = (a : Int) + 2 from by omega] at C
                    refine C.mono ?_
                    rintro e w' ⟨rfl, rfl⟩
                    clear C k0x
                    go_wp2_with fail
                    have C := HE6.out
                    rw [hpr] at C
                    refine C.mono ?_
                    rintro e w' ⟨rfl, rfl⟩
                    clear C x6 y6
                    have x7 := st6.res.c7
                    have y7 := st6.res.frozen 7
                    have st7 := st6.set (st6.res.set7 prof)
                    have ho7 := ho6.off st6.res ((Off.refl w.heap.size _).set (k := 7) (.int .u16 prof))
                    go_wp2_with (first
                      | (at_builtin; refine wpList_append_bytes rfl (.const (.slice none 0 0)) (.tmp 136) rfl _ w.heap.size 0 0 (4 * en) (cap - (a + 4)) (4 * en) none X8 [] ((xs.drop (a + 4)).take (4 * en)) ((xs.drop (a + 4)).take (4 * en)) (Nat.zero_add _) rfl rfl rfl (Own.nil _ _) (RX8.out _ st7.below) (Nat.le_refl _) (by omega) ?_
                         intro A2 k2 w10 ho10 hb10
                         have st10 := st7.next (hb10.mono st7.lt)
                         have ho10' := ho10.lower st7.lt
                         have x8 := st10.res.c8
                         have y8 := st10.res.frozen 8
                         have stE := st10.set (st10.res.set8 A2 (4 * en) k2)
                         have hO8 := (Off.refl w.heap.size w10).set (k := 8) (.slice A2 (4 * en) k2)
                         have hoE := (ho7.bel hb10).off st10.res hO8
                         have heE := ho10'.off st10.res hO8
                         have k0 := C0.out _ stE.below
                         have kL := CL.out _ stE.below
                         obtain ⟨f0, f1, f2, f3, f4, f5, f6, f7, f8, f9, f10, g0, g1, g2, g3, g4, g5, g6, g7, g8, g9, g10⟩ := stE.res.cf
                         obtain ⟨z0, z1, z2, z3, z4, z5, z6, z7, z8, z9⟩ := stE.zero.cells
                         have z10 := stE.zero.c10))
                    exact retR_at (stE.res.store zpv) (HE.out _ (below_pstore stE.below (Nat.le_refl _) _ _ _ _ _ _ _ _ _ _ _))
                  · obtain ⟨t, ht⟩ : ∃ t, len - p = t := ⟨_, rfl⟩
                    have d1 : (len : Int) - p = (t : Int) := by omega
                    have d3 : len - 1 - t = p - 1 := by omega
                    obtain ⟨X7, HX7, s7⟩ := cut_run b off len cap t (len - 1) t ((len - 1 : Nat) : Int) rfl rfl (by omega) (by omega)
                    obtain rfl := HX7 (by omega)
                    rw [d3] at s7
                    obtain ⟨X9, HX9, s9⟩ := cut_run b off len cap f t f t rfl rfl (by omega) (by omega)
                    have RX9 : Hid (∀ W, Below w.heap.size w W → Rd W w.heap.size X9 (t - f) ((xs.drop f).take (t - f))) := fun W hW => Rd.mid (hi := t) (hr.below hW) (by omega) (by omega) hlc HX9
                    obtain ⟨zs, hzs⟩ : ∃ zs, (xs.drop t).take (p - 1) = zs := ⟨_, rfl⟩
                    have hpd : pdB (xs.drop f) = zs.all (· == 0) := by
                      have hld := lastB_drop xs f (by omega)
                      have hpz2 := padZ_drop xs f (by omega) (by rw [HLB.out]; omega)
                      rw [pdB, hld, hpz2, padZ, HLB.out, HXL.out, Int.toNat_natCast, List.length_drop, HXL.out, decide_eq_true (by omega), decide_eq_true (by omega), decide_eq_true (by omega), ht, hzs]; rfl
                    have HZL := Lib.hid (show zs.length = p - 1 from by rw [← hzs, List.length_take, List.length_drop, HXL.out]; omega)
                    have HZC : Hid (∀ W, Below w.heap.size w W → ∀ k, k < p - 1 → W.cell? ⟨b, off + t + k, none⟩ = some (.int .u8 (zs.getD k 0))) := fun W hW k hk => by
                      obtain ⟨b2, off2, e, hlt, hc⟩ := (hr.below hW).2.2 (by omega)
                      injection e with e
                      injection e with e1 e2
                      subst e1; subst e2
                      rw [Nat.add_assoc, hc (t + k) (by omega), ← hzs, List.getD_eq_getElem?_getD, List.getD_eq_getElem?_getD, List.getElem?_take, if_pos hk, List.getElem?_drop]
                    have HT1 : Hid (hasP xs = false → t = len ∧ (p : Int) = 0) := fun h => by rw [hPP] at h; cases h
                    have HOK : Hid (zs.all (· == 0) = true → pdB (xs.drop f) = true ∧ (p : Int) = lastB (xs.drop f) ∧ (t : Int) = len - (p : Int)) := fun h => ⟨hpd.trans h, by rw [lastB_drop xs f (by omega), HLB.out], by omega⟩
                    have HEZ : Hid (zs.all (· == 0) = false → ∀ W, Below w.heap.size w W → R (.returned (.tuple #[pkt zpv, .int .i64 0, .int .i64 0, .int .i64 1])) W) := fun h => E4.out f HFE.out hfl hPP (hpd.trans h)
                    clear HX9 hpd hzs
                    have x6 := st.res.c6
                    have y6 := st.res.frozen 6
                    have st6 := st.set (st.res.set6 true)
                    have ho6 := ho.off st.res ((Off.refl w.heap.size wx).set (k := 6) (.bool true))
                    have HE6 := Lib.hid (CR.out _ a 2 st6.below (by omega) (by omega) (by omega))
                    have HEN := Lib.hid (CR.out wx (a + 2) 2 st.below (by omega) (by omega) (by omega))
                    have k0x := C0.out _ st.below
                    go_wp2_with fail
                    have C := HEN.out
                    rw [hen, show ((a + 2 : Nat) : Int) = (a : Int) + 2 from by omega] at C
                    refine C.mono ?_
                    rintro e w' ⟨rfl, rfl⟩
                    clear C k0x
                    go_wp2_with fail
                    have C := HE6.out
                    rw [hpr] at C
                    refine C.mono ?_
                    rintro e w' ⟨rfl, rfl⟩
                    clear C x6 y6
                    have x7 := st6.res.c7
                    have y7 := st6.res.frozen 7
                    have st7 := st6.set (st6.res.set7 prof)
                    have ho7 := ho6.off st6.res ((Off.refl w.heap.size _).set (k := 7) (.int .u16 prof))
                    go_wp2_with (first
                      | (at_builtin; refine wpList_append_bytes rfl (.const (.slice none 0 0)) (.tmp 136) rfl _ w.heap.size 0 0 (4 * en) (cap - (a + 4)) (4 * en) none X8 [] ((xs.drop (a + 4)).take (4 * en)) ((xs.drop (a + 4)).take (4 * en)) (Nat.zero_add _) rfl rfl rfl (Own.nil _ _) (RX8.out _ st7.below) (Nat.le_refl _) (by omega) ?_
                         intro A2 k2 w10 ho10 hb10
                         have st10 := st7.next (hb10.mono st7.lt)
                         have ho10' := ho10.lower st7.lt
                         have x8 := st10.res.c8
                         have y8 := st10.res.frozen 8
                         have stE := st10.set (st10.res.set8 A2 (4 * en) k2)
                         have hO8 := (Off.refl w.heap.size w10).set (k := 8) (.slice A2 (4 * en) k2)
                         have hoE := (ho7.bel hb10).off st10.res hO8
                         have heE := ho10'.off st10.res hO8
                         have k0 := C0.out _ stE.below
                         have kL := CL.out _ stE.below
                         have x10 := stE.res.c10
                         have y10 := stE.res.frozen 10
                         have stV := stE.set (stE.res.set10' p)
                         have l10 := stV.res.c10))
                    go_loop [193] (fun s => ∃ k : Nat, k ≤ p - 1 ∧ s = .int .i64 k ∧ (zs.take k).all (· == 0) = true) (fun s => p - (intOf s).toNat)
                    case atStart => exact ⟨0, by omega, rfl, rfl⟩
                    case round =>
                      obtain ⟨k, hk, rfl, hall⟩ := hrel
                      by_cases hlt2 : k < p - 1
                      · have ck := HZC.out _ stV.below k hlt2
                        have hts : zs.take (k + 1) = zs.take k ++ [zs.getD k 0] := take_snoc k (by rw [HZL.out]; exact hlt2)
                        obtain ⟨x, hxk⟩ : ∃ x, zs.getD k 0 = x := ⟨_, rfl⟩
                        rw [hxk] at ck hts
                        by_cases hx0 : x = 0
                        · have hzz : (x != 0) = false := by simp [hx0]
                          have HT := Lib.hid (show (zs.take (k + 1)).all (· == 0) = true from by rw [hts, List.all_append, hall, hx0]; rfl)
                          clear hts hxk hx0 hall
                          go_wp2
                          go_round
                          case rel => exact ⟨k + 1, by omega, by go_num, HT.out⟩
                          case measure => simp [intOf]; omega
                        · have hzz : (x != 0) = true := by simpa using hx0
                          have HT := Lib.hid (show zs.all (· == 0) = false from by
                            rw [← List.take_append_drop (k + 1) zs, List.all_append, hts, List.all_append]
                            simp [hx0])
                          have HE := Lib.hid (HEZ.out HT.out)
                          clear hts hxk hx0 hall
                          obtain ⟨f0, f1, f2, f3, f4, f5, f6, f7, f8, f9, f10, g0, g1, g2, g3, g4, g5, g6, g7, g8, g9, g10⟩ := stV.res.cf
                          obtain ⟨z0, z1, z2, z3, z4, z5, z6, z7, z8, z9, z10⟩ := stV.zero.cells
                          go_wp2
                          exact retR_at (stV.res.store zpv) (HE.out _ (below_pstore stV.below (Nat.le_refl _) _ _ _ _ _ _ _ _ _ _ _))
                      · obtain rfl : k = p - 1 := by omega
                        have HT := Lib.hid (show zs.all (· == 0) = true from by
                          rw [List.take_of_length_le (by rw [HZL.out]; exact Nat.le_refl _)] at hall
                          exact hall)
                        have HT2 := Lib.hid (fun h : hasP xs = true => HOK.out HT.out)
                        clear hall
                        have hoV := (hoE).off stE.res ((Off.refl w.heap.size _).set (k := 10) (.int .i64 (p : Int)))
                        have heV := (heE).off stE.res ((Off.refl w.heap.size _).set (k := 10) (.int .i64 (p : Int)))
                        go_wp2_with ((at_builtin; refine wpList_append_bytes rfl (.const (.slice none 0 0)) (.tmp 204) rfl _ w.heap.size 0 0 (t - f) (cap - f) (t - f) none X9 [] ((xs.drop f).take (t - f)) ((xs.drop f).take (t - f)) (Nat.zero_add _) rfl rfl rfl (Own.nil _ _) (RX9.out _ stV.below) (Nat.le_refl _) (by omega) ?_
                                      intro A3 k3 w20 ho20 hb20
                                      have st20 := stV.next (hb20.mono stV.lt)
                                      have ho20' := ho20.lower stV.lt
                                      have x9 := st20.res.c9
                                      have y9 := st20.res.frozen 9
                                      have st21 := st20.set (st20.res.set9' A3 (t - f) k3)
                                      obtain ⟨c0, c1, c2, c3, c4, c5, c6, c7, c8, c9, c10, g0, g1, g2, g3, g4, g5, g6, g7, g8, g9, -⟩ := st21.res.cf
                                      have g10 := st21.res.frozen 10))
                        have hO9 := (Off.refl w.heap.size w20).set (k := 9) (.slice A3 (t - f) k3)
                        have oC : OwnW _ (w.heap.size + 2) A n c (wordsAt xs 12 n) := ((hoV).bel hb20).off st20.res hO9
                        have oE : Own (w20.setCell ⟨w.heap.size, 9, none⟩ (.slice A3 (t - f) k3)) (w.heap.size + 2) A2 (4 * en) k2 ((xs.drop (a + 4)).take (4 * en)) := ((heV).bel hb20).off st20.res hO9
                        have oP := ho20'.off st20.res hO9
                        have hOs := off_pstore w.heap.size (w20.setCell ⟨w.heap.size, 9, none⟩ (.slice A3 (t - f) k3)) (.bool mrk) (.int .i64 ty) (.int .u16 seq) (.int .u32 time) (.int .u32 ssrc) (.slice A n c) (.bool true) (.int .u16 prof) (.slice A2 (4 * en) k2) (.slice A3 (t - f) k3) (.int .i64 (p : Int))
                        have RR := E5.out f A c A2 k2 A3 k3 _ t (p : Int) (by rw [hXX]; simp only [if_true]; omega) (fun h => by rw [hPP] at h; cases h) HT2.out (by omega) (by omega) (oC.off st21.res hOs) (by rw [hXX]; simp only [if_true, hna]; exact (oE.off st21.res hOs)) (oP.off st21.res hOs) (below_pstore st21.below (Nat.le_refl _) _ _ _ _ _ _ _ _ _ _ _)
                        rw [hXX] at RR
                        simp only [if_true] at RR
                        exact retR_at (st21.res.store ⟨mrk, ty, seq, time, ssrc, A, n, c, true, prof, A2, 4 * en, k2, A3, t - f, k3, (p : Int)⟩) RR
          · have j4 : (len : Int) < (a : Int) + 4 + 4 * (en : Int) := by omega
            have HE := Lib.hid (E3.out hXX (.inr (by omega)))
            have HEN := Lib.hid (CR.out wx (a + 2) 2 st.below (by omega) (by omega) (by omega))
            have k0x := C0.out _ st.below
            go_wp2_with fail
            have C := HEN.out
            rw [hen, show ((a + 2 : Nat) : Int) = (a : Int) + 2 from by omega] at C
            refine C.mono ?_
            rintro e w' ⟨rfl, rfl⟩
            clear C k0x
            obtain ⟨f0, f1, f2, f3, f4, f5, f6, f7, f8, f9, f10, g0, g1, g2, g3, g4, g5, g6, g7, g8, g9, g10⟩ := st.res.cf
            obtain ⟨z0, z1, z2, z3, z4, z5, z6, z7, z8, z9, z10⟩ := st.zero.cells
            go_wp2
            exact retR_at (st.res.store zpv) (HE.out _ (below_pstore st.below (Nat.le_refl _) _ _ _ _ _ _ _ _ _ _ _))
        · have j3 : (len : Int) < (a : Int) + 4 := by omega
          have HE := Lib.hid (E3.out hXX (.inl (by omega)))
          have k0x := C0.out _ st.below
          obtain ⟨f0, f1, f2, f3, f4, f5, f6, f7, f8, f9, f10, g0, g1, g2, g3, g4, g5, g6, g7, g8, g9, g10⟩ := st.res.cf
          obtain ⟨z0, z1, z2, z3, z4, z5, z6, z7, z8, z9, z10⟩ := st.zero.cells
          go_wp2
          exact retR_at (st.res.store zpv) (HE.out _ (below_pstore st.below (Nat.le_refl _) _ _ _ _ _ _ _ _ _ _ _))
end Go.Proofs.Ytdnnfoacpjgloaa.Rtp
