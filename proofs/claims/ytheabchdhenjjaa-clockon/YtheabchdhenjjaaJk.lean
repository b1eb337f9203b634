/- ClockOn walked. -/
import Derived.Test.YtheabchdhenjjaaJi
import Derived.Test.YtheabchdhenjjaaXv
import Derived.Deep.Cut
import Derived.Deep.DeepCutAuto
import Derived.Deep.CutRange
set_option maxRecDepth 100000
namespace Go.Proofs.Ytheabchdhenjjaa.Clk
open Go.RowKit
set_option linter.unusedVariables false

theorem fst_bd (d : Ck) : 0 ≤ fst0 d ∧ fst0 d ≤ 4294967295 := by unfold fst0; split <;> omega
theorem tim_strt (d : Ck) (i : Int) : tim (strt d i) i = fst0 d := by
  have := fst_bd d
  show (i + (fst0 d - i) % 4294967296) % 4294967296 = fst0 d
  omega
theorem stk_strt (d : Ck) (i : Int) : stk (strt d i) i = (true, (strt d i).2.1, fst0 d) := by unfold stk; rw [tim_strt]
set_option maxHeartbeats 4000000 in
theorem on_any (w : World) (c : Ck) (ad : Option Addr) (m cap : Nat) (xs : List Int) (hr : RowRd u32L w w.heap.size ad m xs) :
    Calls Try.prog 5 #[ckV c, .slice ad m cap] w fun e w' => e = .returned (.bool true) ∧ Below w.heap.size w w' := by
  have CS := Lib.hid (fun W => shown_any W)
  have HR := Lib.hid hr
  have H0 : Hid (Cur w (w.alloc (ckO c)) w.heap.size c) := Lib.hid ⟨CBlk.new w c, (Below.refl _ _).alloc (Nat.le_refl _) _, Nat.le_refl _⟩
  clear hr
  go_enter Try.func5, Try.ntmps5
  go_wp2_with fail
  refine (CS.out _).mono ?_
  rintro e w1 ⟨rfl, hb⟩
  have H1 := H0.out.more hb
  have c0 := H1.blk.c0
  have c2 := H1.blk.c2
  have H1 := Lib.hid H1
  clear hb H0 CS
  go_wp2_with fail
  go_loopw [5, 6, 7] (fun s5 s6 s7 wx => ∃ (i : Nat) (d : Ck), i ≤ m ∧ i ≤ 100 ∧ s5 = .int .u32 d.2.2 ∧ s6 = .bool d.1 ∧ s7 = .int .i64 i ∧ Hid (Cur w wx w.heap.size d)) (fun _ _ s7 _ => m - (intOf s7).toNat)
  case atStart => exact ⟨0, c, by omega, by omega, rfl, rfl, rfl, H1⟩
  case round =>
    obtain ⟨k, d, hkm, hk1, rfl, rfl, rfl, hy⟩ := hrel
    rename World => wx
    clear H1 c0 c2
    by_cases h1 : k < m
    · have hd1 : decide (k < m) = true := by simp; exact h1
      by_cases h2 : k < 100
      · have hd2 : decide ((k : Int) < 100) = true := by simp; omega
        obtain ⟨tb, toff, g, rfl, htb, hg, t0⟩ := u32_at HR.out h1
        have TB := Lib.hid (fun (W : World) (hW : Below w.heap.size w W) => (hW.cell (p := ⟨tb, toff + k, none⟩) htb).trans t0)
        clear t0 hg
        have C1 := Lib.hid (fun W => strt_any W d g)
        have C2 := Lib.hid (fun W => step_any W (strt d g) g)
        rw [stk_strt, tim_strt] at C2
        obtain ⟨s, hs⟩ : ∃ s, strt d g = s := ⟨_, rfl⟩
        rw [hs] at C1 C2
        obtain ⟨n, hn⟩ : ∃ n, fst0 d = n := ⟨_, rfl⟩
        rw [hn] at C2
        obtain ⟨x, hx⟩ : ∃ x : Ck, x = (true, s.2.1, n) := ⟨_, rfl⟩
        rw [← hx] at C2
        have HN := Lib.hid hn
        have HX := Lib.hid hx
        clear hn hx hs
        go_upto_region 8 with fail
        go_cut [8, 9] from 17 to 49 (fun s6 s7 wc => ∃ b, s6 = .pointer (some ⟨b, 0, none⟩) ∧ s7 = .int .u32 n ∧ Hid (CBlk wc b x ∧ wx.heap.size ≤ b ∧ Below wx.heap.size wx wc))
        case first =>
          have f0 : ∀ W, Below wx.heap.size wx W → W.cell? ⟨w.heap.size, 0, none⟩ = some (.bool d.1) := fun W hW => (hy.out.more hW).blk.c0
          have f1 : ∀ W, Below wx.heap.size wx W → W.cell? ⟨w.heap.size, 1, none⟩ = some (.int .u32 d.2.1) := fun W hW => (hy.out.more hW).blk.c1
          have f2 : ∀ W, Below wx.heap.size wx W → W.cell? ⟨w.heap.size, 2, none⟩ = some (.int .u32 d.2.2) := fun W hW => (hy.out.more hW).blk.c2
          have f4 : ∀ W, Below wx.heap.size wx W → W.cell? ⟨tb, toff + k, none⟩ = some (.int .u32 g) := fun W hW => TB.out W (hy.out.more hW).bel
          have hS : Below wx.heap.size wx wx.drew := (Below.refl _ _).drew
          refine region_tree (Below wx.heap.size wx) (.rd 0 (.rd 1 (.rd 2 (.rd 3 (.rd 4 (.rd 6 (.rd 7 (.rd 8 (.rd 9 (.fk 5 14 (.fk 10 14 (.rd 11 (.rd 12 (.rd 13 (.dn 14 (.dn 15 (.rd 16 .nil)))))) (.dn 10 (.rd 11 (.rd 12 (.rd 13 (.dn 15 (.rd 16 .nil))))))) (.dn 5 (.dn 10 (.rd 11 (.rd 12 (.rd 13 (.dn 15 (.rd 16 .nil))))))))))))))))) (by kernel_rfl) (by kernel_rfl) rfl (by kernel_rfl) ?_
          obtain ⟨u0, hu0⟩ : ∃ u0, wx.drew = u0 := ⟨_, rfl⟩
          rw [hu0] at hS ⊢
          clear hu0
          iterate 9 (refine seqT_read (v := _) rfl (fun _ _ _ h => h) hS (Or.inl ⟨by rfl, fun W hW => by go_simp <;> with_reducible rfl⟩) ?_; simp only [Act.put, List.setIfInBounds_toArray, List.set_cons_zero, List.set_cons_succ])
          refine seqT_fork rfl rfl (fun K hK => ?_) (fun K hK => ?_)
          · go_simp
            refine (C1.out _).mono ?_
            rintro e u1 ⟨rfl, hb⟩
            replace hS := hS.trans (hb.mono hS.size)
            refine hK.out _ _ _ (fun W h => h) hS ?_
            clear hK K hb
            refine seqT_fork rfl rfl (fun K hK => ?_) (fun K hK => ?_)
            · go_simp
              refine (C2.out _).mono ?_
              rintro e u2 ⟨rfl, hb⟩
              replace hS := hS.trans (hb.mono hS.size)
              refine hK.out _ _ _ (fun W h => h) hS ?_
              clear hK K hb
              iterate 3 (refine seqT_read (v := _) rfl (fun _ _ _ h => h) hS (Or.inl ⟨by rfl, fun W hW => by go_simp <;> with_reducible rfl⟩) ?_; simp only [Act.put, List.setIfInBounds_toArray, List.set_cons_zero, List.set_cons_succ])
              refine seqT_do rfl (fun K hK => ?_)
              go_simp
              have hbx : Below u2.heap.size u2 (u2.alloc (ckO ck0)) := (Below.refl _ _).alloc (Nat.le_refl _) _
              have L14 := hS.size
              have D14 := CBlk.new u2 ck0
              replace hS := hS.trans (hbx.mono hS.size)
              clear hbx
              obtain ⟨b14, hb14⟩ : ∃ b, u2.heap.size = b := ⟨_, rfl⟩
              obtain ⟨u3, hV⟩ : ∃ V, u2.alloc (ckO ck0) = V := ⟨_, rfl⟩
              rw [hV, hb14] at D14
              rw [hV] at hS
              rw [hb14] at L14
              rw [hV, hb14]
              clear hV hb14
              refine hK.out _ _ _ (fun W h => h) hS ?_
              clear hK K
              refine seqT_do rfl (fun K hK => ?_)
              have d0 := D14.c0
              have e0 := D14.frozen 0
              have d1 := D14.c1
              have e1 := D14.frozen 1
              have d2 := D14.c2
              have e2 := D14.frozen 2
              go_simp
              clear d0 e0 d1 e1 d2 e2
              replace hS := bel_put3 hS L14 x
              replace D14 := D14.store x
              dsimp only [put3] at hS D14
              obtain ⟨u4, hV⟩ : ∃ V, ((u3.setCell ⟨b14, 0, none⟩ (.bool x.1)).setCell ⟨b14, 1, none⟩ (.int .u32 x.2.1)).setCell ⟨b14, 2, none⟩ (.int .u32 x.2.2) = V := ⟨_, rfl⟩
              rw [hV] at hS
              rw [hV] at D14
              rw [hV]
              clear hV
              refine hK.out _ _ _ (fun W h => h) hS ?_
              clear hK K
              iterate 1 (refine seqT_read (v := _) rfl (fun _ _ _ h => h) hS (Or.inl ⟨by rfl, fun W hW => by go_simp <;> with_reducible rfl⟩) ?_; simp only [Act.put, List.setIfInBounds_toArray, List.set_cons_zero, List.set_cons_succ])
              refine seqT_end ?_
              go_wp2_with fail
              go_meet
              case rel => exact ⟨_, rfl, rfl, Lib.hid ⟨D14, L14, hS⟩⟩
            · go_simp
              have hbx : Below u1.heap.size u1 (u1.alloc (ckO ck0)) := (Below.refl _ _).alloc (Nat.le_refl _) _
              have L14 := hS.size
              have D14 := CBlk.new u1 ck0
              replace hS := hS.trans (hbx.mono hS.size)
              clear hbx
              obtain ⟨b14, hb14⟩ : ∃ b, u1.heap.size = b := ⟨_, rfl⟩
              obtain ⟨u2, hV⟩ : ∃ V, u1.alloc (ckO ck0) = V := ⟨_, rfl⟩
              rw [hV, hb14] at D14
              rw [hV] at hS
              rw [hb14] at L14
              rw [hV, hb14]
              clear hV hb14
              refine hK.out _ _ _ (fun W h => h) hS ?_
              clear hK K
              refine seqT_do rfl (fun K hK => ?_)
              go_simp
              refine (C2.out _).mono ?_
              rintro e u3 ⟨rfl, hb⟩
              replace hS := hS.trans (hb.mono hS.size)
              replace D14 := D14.bel hb D14.lt
              refine hK.out _ _ _ (fun W h => h) hS ?_
              clear hK K hb
              iterate 3 (refine seqT_read (v := _) rfl (fun _ _ _ h => h) hS (Or.inl ⟨by rfl, fun W hW => by go_simp <;> with_reducible rfl⟩) ?_; simp only [Act.put, List.setIfInBounds_toArray, List.set_cons_zero, List.set_cons_succ])
              refine seqT_do rfl (fun K hK => ?_)
              have d0 := D14.c0
              have e0 := D14.frozen 0
              have d1 := D14.c1
              have e1 := D14.frozen 1
              have d2 := D14.c2
              have e2 := D14.frozen 2
              go_simp
              clear d0 e0 d1 e1 d2 e2
              replace hS := bel_put3 hS L14 x
              replace D14 := D14.store x
              dsimp only [put3] at hS D14
              obtain ⟨u4, hV⟩ : ∃ V, ((u3.setCell ⟨b14, 0, none⟩ (.bool x.1)).setCell ⟨b14, 1, none⟩ (.int .u32 x.2.1)).setCell ⟨b14, 2, none⟩ (.int .u32 x.2.2) = V := ⟨_, rfl⟩
              rw [hV] at hS
              rw [hV] at D14
              rw [hV]
              clear hV
              refine hK.out _ _ _ (fun W h => h) hS ?_
              clear hK K
              iterate 1 (refine seqT_read (v := _) rfl (fun _ _ _ h => h) hS (Or.inl ⟨by rfl, fun W hW => by go_simp <;> with_reducible rfl⟩) ?_; simp only [Act.put, List.setIfInBounds_toArray, List.set_cons_zero, List.set_cons_succ])
              refine seqT_end ?_
              go_wp2_with fail
              go_meet
              case rel => exact ⟨_, rfl, rfl, Lib.hid ⟨D14, L14, hS⟩⟩
          · go_simp
            have hbx : Below u0.heap.size u0 (u0.alloc (ckO ck0)) := (Below.refl _ _).alloc (Nat.le_refl _) _
            have L14 := hS.size
            have D14 := CBlk.new u0 ck0
            replace hS := hS.trans (hbx.mono hS.size)
            clear hbx
            obtain ⟨b14, hb14⟩ : ∃ b, u0.heap.size = b := ⟨_, rfl⟩
            obtain ⟨u1, hV⟩ : ∃ V, u0.alloc (ckO ck0) = V := ⟨_, rfl⟩
            rw [hV, hb14] at D14
            rw [hV] at hS
            rw [hb14] at L14
            rw [hV, hb14]
            clear hV hb14
            refine hK.out _ _ _ (fun W h => h) hS ?_
            clear hK K
            refine seqT_do rfl (fun K hK => ?_)
            go_simp
            refine (C1.out _).mono ?_
            rintro e u2 ⟨rfl, hb⟩
            replace hS := hS.trans (hb.mono hS.size)
            replace D14 := D14.bel hb D14.lt
            refine hK.out _ _ _ (fun W h => h) hS ?_
            clear hK K hb
            refine seqT_do rfl (fun K hK => ?_)
            go_simp
            refine (C2.out _).mono ?_
            rintro e u3 ⟨rfl, hb⟩
            replace hS := hS.trans (hb.mono hS.size)
            replace D14 := D14.bel hb D14.lt
            refine hK.out _ _ _ (fun W h => h) hS ?_
            clear hK K hb
            iterate 3 (refine seqT_read (v := _) rfl (fun _ _ _ h => h) hS (Or.inl ⟨by rfl, fun W hW => by go_simp <;> with_reducible rfl⟩) ?_; simp only [Act.put, List.setIfInBounds_toArray, List.set_cons_zero, List.set_cons_succ])
            refine seqT_do rfl (fun K hK => ?_)
            have d0 := D14.c0
            have e0 := D14.frozen 0
            have d1 := D14.c1
            have e1 := D14.frozen 1
            have d2 := D14.c2
            have e2 := D14.frozen 2
            go_simp
            clear d0 e0 d1 e1 d2 e2
            replace hS := bel_put3 hS L14 x
            replace D14 := D14.store x
            dsimp only [put3] at hS D14
            obtain ⟨u4, hV⟩ : ∃ V, ((u3.setCell ⟨b14, 0, none⟩ (.bool x.1)).setCell ⟨b14, 1, none⟩ (.int .u32 x.2.1)).setCell ⟨b14, 2, none⟩ (.int .u32 x.2.2) = V := ⟨_, rfl⟩
            rw [hV] at hS
            rw [hV] at D14
            rw [hV]
            clear hV
            refine hK.out _ _ _ (fun W h => h) hS ?_
            clear hK K
            iterate 1 (refine seqT_read (v := _) rfl (fun _ _ _ h => h) hS (Or.inl ⟨by rfl, fun W hW => by go_simp <;> with_reducible rfl⟩) ?_; simp only [Act.put, List.setIfInBounds_toArray, List.set_cons_zero, List.set_cons_succ])
            refine seqT_end ?_
            go_wp2_with fail
            go_meet
            case rel => exact ⟨_, rfl, rfl, Lib.hid ⟨D14, L14, hS⟩⟩
        case rest =>
          obtain ⟨b, rfl, rfl, hb⟩ := hcut
          have HY := hy.out.more hb.out.2.2
          have HW := hb.out.1
          obtain rfl : x = (true, s.2.1, n) := HX.out
          have d0 := HY.blk.c0
          have d1 := HY.blk.c1
          have d2 := HY.blk.c2
          have e0 := HY.blk.frozen 0
          have e1 := HY.blk.frozen 1
          have e2 := HY.blk.frozen 2
          have x0 := HW.c0
          have x1 := HW.c1
          have x2 := HW.c2
          have HP := HY.put (true, s.2.1, n)
          dsimp only [put3] at HP
          have HP := Lib.hid HP
          have hn := HN.out
          clear HW HY C1 C2 hb HX TB HN hy
          obtain ⟨dl, doff, dla⟩ := d
          cases dl with
          | true =>
            have hn : (dla + 3000) % 4294967296 = n := hn
            go_wp2_with fail
            generalize ((wc.setCell ⟨w.heap.size, 0, none⟩ (.bool true)).setCell ⟨w.heap.size, 1, none⟩ (.int .u32 s.2.1)).setCell ⟨w.heap.size, 2, none⟩ (.int .u32 n) = wf at *
            go_roundw
            case rel => exact ⟨k + 1, (true, s.2.1, n), by omega, by omega, rfl, rfl, by go_num, HP⟩
            case measure => simp [intOf]; omega
          | false =>
            obtain rfl : 0 = n := hn
            go_wp2_with fail
            generalize ((wc.setCell ⟨w.heap.size, 0, none⟩ (.bool true)).setCell ⟨w.heap.size, 1, none⟩ (.int .u32 s.2.1)).setCell ⟨w.heap.size, 2, none⟩ (.int .u32 0) = wf at *
            go_roundw
            case rel => exact ⟨k + 1, (true, s.2.1, 0), by omega, by omega, rfl, rfl, by go_num, HP⟩
            case measure => simp [intOf]; omega
      · obtain rfl : k = 100 := by omega
        go_wp2
        go_ret
        exact ⟨rfl, hy.out.bel⟩
    · obtain rfl : k = m := by omega
      have hd1 : decide (k < k) = false := by simp
      go_wp2
      go_ret
      exact ⟨rfl, hy.out.bel⟩
end Go.Proofs.Ytheabchdhenjjaa.Clk
