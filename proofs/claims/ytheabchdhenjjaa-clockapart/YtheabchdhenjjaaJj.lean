/- ClockApart walked. -/
import Derived.Test.YtheabchdhenjjaaJi
import Derived.Test.YtheabchdhenjjaaXv
import Derived.Deep.Cut
import Derived.Deep.DeepCutAuto
import Derived.Deep.CutRange
set_option maxRecDepth 100000
namespace Go.Proofs.Ytheabchdhenjjaa.Clk
open Go.RowKit
set_option linter.unusedVariables false

set_option maxHeartbeats 4000000 in
theorem apart_any (w : World) (c : Ck) (ad : Option Addr) (m cap : Nat) (xs : List Int) (hr : RowRd u32L w w.heap.size ad m xs) :
    Calls Try.prog 4 #[ckV c, .slice ad m cap] w fun e w' => e = .returned (.bool true) ∧ Below w.heap.size w w' := by
  have CS := Lib.hid (fun W => shown_any W)
  have HR := Lib.hid hr
  have H0 : Hid (Cur w (w.alloc (ckO c)) w.heap.size c) := Lib.hid ⟨CBlk.new w c, (Below.refl _ _).alloc (Nat.le_refl _) _, Nat.le_refl _⟩
  clear hr
  go_enter Try.func4, Try.ntmps4
  go_wp2_with fail
  refine (CS.out _).mono ?_
  rintro e w1 ⟨rfl, hb⟩
  have H1 := Lib.hid (H0.out.more hb)
  clear hb H0 CS
  go_wp2_with fail
  go_loopw [5] (fun s5 wx => ∃ (i : Nat) (d : Ck), i ≤ m ∧ i ≤ 100 ∧ s5 = .int .i64 i ∧ Hid (Cur w wx w.heap.size d) ∧ Hid (∀ j g, i = j + 1 → xs[j]? = some g → d.2.2 = tim d g)) (fun s5 _ => m - (intOf s5).toNat)
  case atStart => exact ⟨0, c, by omega, by omega, rfl, H1, Lib.hid (fun j g h => by omega)⟩
  case round =>
    obtain ⟨k, d, hkm, hk1, rfl, hy, he⟩ := hrel
    rename World => wx
    clear H1
    by_cases h1 : k < m
    · have hd1 : decide (k < m) = true := by simp; exact h1
      by_cases h2 : k < 100
      · have hd2 : decide ((k : Int) < 100) = true := by simp; omega
        obtain ⟨tb, toff, g, rfl, htb, hg, t0⟩ := u32_at HR.out h1
        have TB := Lib.hid (fun (W : World) (hW : Below w.heap.size w W) => (hW.cell (p := ⟨tb, toff + k, none⟩) htb).trans t0)
        have HG := Lib.hid hg
        clear t0 hg
        obtain ⟨n, hn⟩ : ∃ n, tim d g = n := ⟨_, rfl⟩
        obtain ⟨x, hx⟩ : ∃ x : Ck, x = (true, d.2.1, n) := ⟨_, rfl⟩
        have C1 := Lib.hid (fun W => step_any W d g)
        rw [show stk d g = x from by rw [hx, ← hn]; rfl, hn] at C1
        have HN := Lib.hid hn
        have HX := Lib.hid hx
        clear hn hx
        go_upto_region 6 with fail
        go_cut [6, 7] from 10 to 66 (fun s6 s7 wc => ∃ b, s6 = .pointer (some ⟨b, 0, none⟩) ∧ s7 = .int .u32 n ∧ Hid (CBlk wc b x ∧ wx.heap.size ≤ b ∧ Below wx.heap.size wx wc))
        case first =>
          have f0 : ∀ W, Below wx.heap.size wx W → W.cell? ⟨w.heap.size, 0, none⟩ = some (.bool d.1) := fun W hW => (hy.out.more hW).blk.c0
          have f1 : ∀ W, Below wx.heap.size wx W → W.cell? ⟨w.heap.size, 1, none⟩ = some (.int .u32 d.2.1) := fun W hW => (hy.out.more hW).blk.c1
          have f2 : ∀ W, Below wx.heap.size wx W → W.cell? ⟨w.heap.size, 2, none⟩ = some (.int .u32 d.2.2) := fun W hW => (hy.out.more hW).blk.c2
          have f4 : ∀ W, Below wx.heap.size wx W → W.cell? ⟨tb, toff + k, none⟩ = some (.int .u32 g) := fun W hW => TB.out W (hy.out.more hW).bel
          have hS : Below wx.heap.size wx wx.drew := (Below.refl _ _).drew
          refine region_tree (Below wx.heap.size wx) (.rd 0 (.rd 1 (.rd 2 (.rd 3 (.rd 4 (.fk 5 9 (.rd 6 (.rd 7 (.rd 8 (.dn 9 (.dn 10 (.rd 11 .nil)))))) (.dn 5 (.rd 6 (.rd 7 (.rd 8 (.dn 10 (.rd 11 .nil)))))))))))) (by kernel_rfl) (by kernel_rfl) rfl (by kernel_rfl) ?_
          obtain ⟨u0, hu0⟩ : ∃ u0, wx.drew = u0 := ⟨_, rfl⟩
          rw [hu0] at hS ⊢
          clear hu0
          iterate 5 (refine seqT_read (v := _) rfl (fun _ _ _ h => h) hS (Or.inl ⟨by rfl, fun W hW => by go_simp <;> with_reducible rfl⟩) ?_; simp only [Act.put, List.setIfInBounds_toArray, List.set_cons_zero, List.set_cons_succ])
          refine seqT_fork rfl rfl (fun K hK => ?_) (fun K hK => ?_)
          · go_simp
            refine (C1.out _).mono ?_
            rintro e u1 ⟨rfl, hb⟩
            replace hS := hS.trans (hb.mono hS.size)
            refine hK.out _ _ _ (fun W h => h) hS ?_
            clear hK K hb
            iterate 3 (refine seqT_read (v := _) rfl (fun _ _ _ h => h) hS (Or.inl ⟨by rfl, fun W hW => by go_simp <;> with_reducible rfl⟩) ?_; simp only [Act.put, List.setIfInBounds_toArray, List.set_cons_zero, List.set_cons_succ])
            refine seqT_do rfl (fun K hK => ?_)
            go_simp
            have hbx : Below u1.heap.size u1 (u1.alloc (ckO ck0)) := (Below.refl _ _).alloc (Nat.le_refl _) _
            have L9 := hS.size
            have D9 := CBlk.new u1 ck0
            replace hS := hS.trans (hbx.mono hS.size)
            clear hbx
            obtain ⟨b9, hb9⟩ : ∃ b, u1.heap.size = b := ⟨_, rfl⟩
            obtain ⟨u2, hV⟩ : ∃ V, u1.alloc (ckO ck0) = V := ⟨_, rfl⟩
            rw [hV, hb9] at D9
            rw [hV] at hS
            rw [hb9] at L9
            rw [hV, hb9]
            clear hV hb9
            refine hK.out _ _ _ (fun W h => h) hS ?_
            clear hK K
            refine seqT_do rfl (fun K hK => ?_)
            have d0 := D9.c0
            have e0 := D9.frozen 0
            have d1 := D9.c1
            have e1 := D9.frozen 1
            have d2 := D9.c2
            have e2 := D9.frozen 2
            go_simp
            clear d0 e0 d1 e1 d2 e2
            replace hS := bel_put3 hS L9 x
            replace D9 := D9.store x
            dsimp only [put3] at hS D9
            obtain ⟨u3, hV⟩ : ∃ V, ((u2.setCell ⟨b9, 0, none⟩ (.bool x.1)).setCell ⟨b9, 1, none⟩ (.int .u32 x.2.1)).setCell ⟨b9, 2, none⟩ (.int .u32 x.2.2) = V := ⟨_, rfl⟩
            rw [hV] at hS
            rw [hV] at D9
            rw [hV]
            clear hV
            refine hK.out _ _ _ (fun W h => h) hS ?_
            clear hK K
            iterate 1 (refine seqT_read (v := _) rfl (fun _ _ _ h => h) hS (Or.inl ⟨by rfl, fun W hW => by go_simp <;> with_reducible rfl⟩) ?_; simp only [Act.put, List.setIfInBounds_toArray, List.set_cons_zero, List.set_cons_succ])
            refine seqT_end ?_
            go_wp2_with fail
            go_meet
            case rel => exact ⟨_, rfl, rfl, Lib.hid ⟨D9, L9, hS⟩⟩
          · go_simp
            have hbx : Below u0.heap.size u0 (u0.alloc (ckO ck0)) := (Below.refl _ _).alloc (Nat.le_refl _) _
            have L9 := hS.size
            have D9 := CBlk.new u0 ck0
            replace hS := hS.trans (hbx.mono hS.size)
            clear hbx
            obtain ⟨b9, hb9⟩ : ∃ b, u0.heap.size = b := ⟨_, rfl⟩
            obtain ⟨u1, hV⟩ : ∃ V, u0.alloc (ckO ck0) = V := ⟨_, rfl⟩
            rw [hV, hb9] at D9
            rw [hV] at hS
            rw [hb9] at L9
            rw [hV, hb9]
            clear hV hb9
            refine hK.out _ _ _ (fun W h => h) hS ?_
            clear hK K
            refine seqT_do rfl (fun K hK => ?_)
            go_simp
            refine (C1.out _).mono ?_
            rintro e u2 ⟨rfl, hb⟩
            replace hS := hS.trans (hb.mono hS.size)
            replace D9 := D9.bel hb D9.lt
            refine hK.out _ _ _ (fun W h => h) hS ?_
            clear hK K hb
            iterate 3 (refine seqT_read (v := _) rfl (fun _ _ _ h => h) hS (Or.inl ⟨by rfl, fun W hW => by go_simp <;> with_reducible rfl⟩) ?_; simp only [Act.put, List.setIfInBounds_toArray, List.set_cons_zero, List.set_cons_succ])
            refine seqT_do rfl (fun K hK => ?_)
            have d0 := D9.c0
            have e0 := D9.frozen 0
            have d1 := D9.c1
            have e1 := D9.frozen 1
            have d2 := D9.c2
            have e2 := D9.frozen 2
            go_simp
            clear d0 e0 d1 e1 d2 e2
            replace hS := bel_put3 hS L9 x
            replace D9 := D9.store x
            dsimp only [put3] at hS D9
            obtain ⟨u3, hV⟩ : ∃ V, ((u2.setCell ⟨b9, 0, none⟩ (.bool x.1)).setCell ⟨b9, 1, none⟩ (.int .u32 x.2.1)).setCell ⟨b9, 2, none⟩ (.int .u32 x.2.2) = V := ⟨_, rfl⟩
            rw [hV] at hS
            rw [hV] at D9
            rw [hV]
            clear hV
            refine hK.out _ _ _ (fun W h => h) hS ?_
            clear hK K
            iterate 1 (refine seqT_read (v := _) rfl (fun _ _ _ h => h) hS (Or.inl ⟨by rfl, fun W hW => by go_simp <;> with_reducible rfl⟩) ?_; simp only [Act.put, List.setIfInBounds_toArray, List.set_cons_zero, List.set_cons_succ])
            refine seqT_end ?_
            go_wp2_with fail
            go_meet
            case rel => exact ⟨_, rfl, rfl, Lib.hid ⟨D9, L9, hS⟩⟩
        case rest =>
          obtain ⟨b, rfl, rfl, hb⟩ := hcut
          go_upto_region 7 with fail
          have HB := Lib.hid (show w.heap.size ≠ b from by have := hb.out.2.1; have h1 := hy.out.blk.lt; omega)
          obtain ⟨we, hwe⟩ : ∃ we, wc.drew = we := ⟨_, rfl⟩
          have HY := (hy.out.more hb.out.2.2).drew
          have HW : CBlk wc.drew b x := hb.out.1
          rw [hwe] at HY HW
          obtain ⟨dl, doff, dla⟩ := d
          obtain rfl : x = (true, doff, n) := HX.out
          have hn : (g + doff) % 4294967296 = n := HN.out
          have HE : Hid (∀ i g, k + 1 = i + 1 → xs[i]? = some g → n = tim (true, doff, n) g) := Lib.hid (fun i z h hz => by
            obtain rfl : k = i := by omega
            have := HG.out.symm.trans hz
            simp only [Option.some.injEq] at this
            subst this
            exact hn.symm)
          have f0 : ∀ W, Below we.heap.size we W → W.cell? ⟨w.heap.size, 1, none⟩ = some (.int .u32 doff) := fun W hW => (HY.more hW).blk.c1
          have f1 : ∀ W, Below we.heap.size we W → W.cell? ⟨w.heap.size, 2, none⟩ = some (.int .u32 dla) := fun W hW => (HY.more hW).blk.c2
          have g0 : ∀ W, Below we.heap.size we W → W.cell? ⟨b, 0, none⟩ = some (.bool true) := fun W hW => (HW.bel hW HW.lt).c0
          have g1 : ∀ W, Below we.heap.size we W → W.cell? ⟨b, 1, none⟩ = some (.int .u32 doff) := fun W hW => (HW.bel hW HW.lt).c1
          have g2 : ∀ W, Below we.heap.size we W → W.cell? ⟨b, 2, none⟩ = some (.int .u32 n) := fun W hW => (HW.bel hW HW.lt).c2
          have hS : Below we.heap.size we we := Below.refl _ _
          have d0 := HY.blk.c0
          have d1 := HY.blk.c1
          have d2 := HY.blk.c2
          have e0 := HY.blk.frozen 0
          have e1 := HY.blk.frozen 1
          have e2 := HY.blk.frozen 2
          have x0 := HW.c0
          have x1 := HW.c1
          have x2 := HW.c2
          have HP := HY.put (true, doff, n)
          dsimp only [put3] at HP
          have HP := Lib.hid HP
          have T0 : ∀ W, Below we.heap.size we W → W.cell? ⟨tb, toff + k, none⟩ = some (.int .u32 g) := fun W hW => TB.out W (HY.more hW).bel
          have HQ : Hid (∀ j z, k = j + 1 → xs[j]? = some z → (n - dla) % 4294967296 = (g - z) % 4294967296) := Lib.hid (fun j z h hz => by
            have := he.out j z h hz
            simp only [tim] at this
            omega)
          have HY := Lib.hid HY
          have HW2 := Lib.hid HW
          clear HW C1 hy hb HN HX TB hn he HG
          rcases Nat.eq_zero_or_pos k with hk0 | hk0
          · subst hk0
            clear f1 T0 d0 d1 d2 e0 e1 e2 x0 x1 x2
            refine region_seq (Below we.heap.size we) [(0, false), (1, false), (2, false), (3, false), (4, false), (5, false), (6, false), (7, false), (8, false), (9, false), (10, false), (11, false), (12, false), (13, false), (14, false), (15, false), (16, false), (17, false), (18, false), (19, false), (20, false), (21, false), (22, false), (23, false), (24, false), (25, false), (26, false), (27, false), (28, false), (29, false), (30, false), (31, false), (32, false), (33, false), (34, false), (35, false), (36, false)] (by kernel_rfl) (by kernel_rfl) rfl (by kernel_rfl) ?_
            rw [hwe]
            clear hwe
            iterate 3 (refine seq_read (v := _) rfl (fun _ _ _ h => h) hS (Or.inl ⟨by rfl, fun W hW => by go_simp <;> with_reducible rfl⟩) ?_; simp only [Act.put, List.setIfInBounds_toArray, List.set_cons_zero, List.set_cons_succ])
            iterate 15 (refine seq_read (v := undef) rfl (fun _ _ _ h => h) hS (Or.inr ⟨by rfl, rfl⟩) ?_; simp only [Act.put, List.setIfInBounds_toArray, List.set_cons_zero, List.set_cons_succ])
            iterate 19 (refine seq_read (v := _) rfl (fun _ _ _ h => h) hS (Or.inl ⟨by rfl, fun W hW => by go_simp <;> with_reducible rfl⟩) ?_; simp only [Act.put, List.setIfInBounds_toArray, List.set_cons_zero, List.set_cons_succ])
            refine seq_end ?_
            clear f0 g0 g1 g2 hS
            have d0 := HY.out.blk.c0
            have d1 := HY.out.blk.c1
            have d2 := HY.out.blk.c2
            have e0 := HY.out.blk.frozen 0
            have e1 := HY.out.blk.frozen 1
            have e2 := HY.out.blk.frozen 2
            have x0 := HW2.out.c0
            have x1 := HW2.out.c1
            have x2 := HW2.out.c2
            go_wp2_with fail
            generalize ((we.setCell ⟨w.heap.size, 0, none⟩ (.bool true)).setCell ⟨w.heap.size, 1, none⟩ (.int .u32 doff)).setCell ⟨w.heap.size, 2, none⟩ (.int .u32 n) = wf at *
            go_roundw
            case rel => exact ⟨0 + 1, (true, doff, n), by omega, by omega, by go_num, HP, HE⟩
            case measure => simp [intOf]; omega
          · obtain ⟨j, rfl⟩ : ∃ j, k = j + 1 := ⟨k - 1, by omega⟩
            obtain ⟨tb2, toff2, z, ht2, htb2, hz, t2⟩ := u32_at HR.out (show j < m by omega)
            simp only [Option.some.injEq, Addr.mk.injEq, and_true] at ht2
            obtain ⟨rfl, rfl⟩ := ht2
            have T2 : ∀ W, Below we.heap.size we W → W.cell? ⟨tb, toff + j, none⟩ = some (.int .u32 z) := fun W hW => ((HY.out.more hW).bel.cell (p := ⟨tb, toff + j, none⟩) htb).trans t2
            obtain ⟨r, hr⟩ : ∃ r, (g - z) % 4294967296 = r := ⟨_, rfl⟩
            have hr2 : IntKind.u32.wrap (n - dla) = r := (u32_wrap _).trans ((HQ.out j z rfl hz).trans hr)
            have hr : IntKind.u32.wrap (g - z) = r := (u32_wrap _).trans hr
            clear d0 d1 d2 e0 e1 e2 x0 x1 x2 t2 hz htb2 hk0
            have i1 : (0 ≤ (j : Int) + 1 ∧ (j : Int) + 1 < (m : Int)) = True := eq_true (by omega)
            have i2 : (j < m) = True := eq_true (by omega)
            have i3 : IntKind.i64.wrap (j : Int) = j := IntWalk.i64_in _ (by omega)
            refine region_seq (Below we.heap.size we) [(0, false), (1, false), (2, false), (3, false), (4, false), (5, false), (6, false), (7, false), (8, false), (9, false), (10, false), (11, false), (12, false), (13, false), (14, false), (15, false), (16, false), (17, false), (18, false), (19, false), (20, false), (21, false), (22, false), (23, false), (24, false), (25, false), (26, false), (27, false), (28, false), (29, false), (30, false), (31, false), (32, false), (33, false), (34, false), (35, false), (36, false)] (by kernel_rfl) (by kernel_rfl) rfl (by kernel_rfl) ?_
            rw [hwe]
            clear hwe
            iterate 37 (refine seq_read (v := _) rfl (fun _ _ _ h => h) hS (Or.inl ⟨by rfl, fun W hW => by go_simp <;> with_reducible rfl⟩) ?_; simp only [Act.put, List.setIfInBounds_toArray, List.set_cons_zero, List.set_cons_succ])
            refine seq_end ?_
            clear f0 f1 g0 g1 g2 hS
            have d0 := HY.out.blk.c0
            have d1 := HY.out.blk.c1
            have d2 := HY.out.blk.c2
            have e0 := HY.out.blk.frozen 0
            have e1 := HY.out.blk.frozen 1
            have e2 := HY.out.blk.frozen 2
            have x0 := HW2.out.c0
            have x1 := HW2.out.c1
            have x2 := HW2.out.c2
            go_wp2_with fail
            generalize ((we.setCell ⟨w.heap.size, 0, none⟩ (.bool true)).setCell ⟨w.heap.size, 1, none⟩ (.int .u32 doff)).setCell ⟨w.heap.size, 2, none⟩ (.int .u32 n) = wf at *
            go_roundw
            case rel => exact ⟨j + 1 + 1, (true, doff, n), by omega, by omega, by go_num, HP, HE⟩
            case measure => simp [intOf]; omega
      · obtain rfl : k = 100 := by omega
        go_wp2
        go_ret
        exact ⟨rfl, hy.out.bel⟩
    · obtain rfl : k = m := by omega
      have hd1 : decide (k < k) = false := by simp
      go_wp2
      go_ret
      exact ⟨rfl, hy.out.bel⟩
end Go.Proofs.Ytheabchdhenjjaa.Clk
