/- ClockShift walked. -/
import Derived.Test.YtheabchdhenjjaaJi
import Derived.Test.YtheabchdhenjjaaXv
import Derived.Deep.Cut
import Derived.Deep.DeepCutAuto
import Derived.Deep.CutRange
set_option maxRecDepth 100000
namespace Go.Proofs.Ytheabchdhenjjaa.Clk
open Go.RowKit
set_option linter.unusedVariables false

theorem tim_sh {x y : Ck} {k : Int} (h : y.2.1 = (x.2.1 - k) % 4294967296) (g : Int) : tim y ((g + k) % 4294967296) = tim x g := by
  unfold tim; rw [h]; omega
theorem strt_sh (c : Ck) (i k : Int) : (strt c ((i + k) % 4294967296)).2.1 = ((strt c i).2.1 - k) % 4294967296 := by
  unfold strt; simp only; omega
set_option maxHeartbeats 16000000 in
theorem shift_any (w : World) (c : Ck) (i0 kk : Int) (ad : Option Addr) (m cap : Nat) (xs : List Int) (hr : RowRd u32L w w.heap.size ad m xs) :
    Calls Try.prog 6 #[ckV c, .int .u32 i0, .int .u32 kk, .slice ad m cap] w fun e w' => e = .returned (.bool true) ∧ Below w.heap.size w w' := by
  have CS := Lib.hid (fun W => shown_any W)
  have HR := Lib.hid hr
  have H0 : Hid (Cur w (w.alloc (ckO c)) w.heap.size c) := Lib.hid ⟨CBlk.new w c, (Below.refl _ _).alloc (Nat.le_refl _) _, Nat.le_refl _⟩
  obtain ⟨i1, hi1⟩ : ∃ i1, (i0 + kk) % 4294967296 = i1 := ⟨_, rfl⟩
  have q1 : IntKind.u32.wrap (i0 + kk) = i1 := (u32_wrap _).trans hi1
  have C1 := Lib.hid (fun W => strt_any W c i0)
  have C2 := Lib.hid (fun W => strt_any W c i1)
  obtain ⟨x, hx⟩ : ∃ x, strt c i0 = x := ⟨_, rfl⟩
  obtain ⟨y, hy⟩ : ∃ y, strt c i1 = y := ⟨_, rfl⟩
  have HXY : Hid (y.2.1 = (x.2.1 - kk) % 4294967296) := Lib.hid (by rw [← hx, ← hy, ← hi1]; exact strt_sh c i0 kk)
  rw [hx] at C1
  rw [hy] at C2
  clear hr hi1 hx hy
  go_enter Try.func6, Try.ntmps6
  go_wp2_with fail
  refine (CS.out _).mono ?_
  rintro e w1 ⟨rfl, hb⟩
  have H1 := H0.out.more hb
  clear hb H0 CS
  go_upto_region 3 with fail
  go_cut [9, 10] from 18 to 26 (fun s9 s10 wc => ∃ bx b2, s9 = .pointer (some ⟨bx, 0, none⟩) ∧ s10 = .pointer (some ⟨b2, 0, none⟩) ∧ Hid (Cur w wc bx x ∧ Cur w wc b2 y ∧ bx ≠ b2))
  case first =>
    have f0 : ∀ W, Below w1.heap.size w1 W → W.cell? ⟨w.heap.size, 0, none⟩ = some (.bool c.1) := fun W hW => (H1.more hW).blk.c0
    have f1 : ∀ W, Below w1.heap.size w1 W → W.cell? ⟨w.heap.size, 1, none⟩ = some (.int .u32 c.2.1) := fun W hW => (H1.more hW).blk.c1
    have f2 : ∀ W, Below w1.heap.size w1 W → W.cell? ⟨w.heap.size, 2, none⟩ = some (.int .u32 c.2.2) := fun W hW => (H1.more hW).blk.c2
    have hS : Below w1.heap.size w1 w1.drew := (Below.refl _ _).drew
    refine region_tree (Below w1.heap.size w1) (.rd 0 (.rd 1 (.rd 3 (.rd 4 (.rd 5 (.rd 6 (.fk3 2 8 9 (.fk3 7 8 9 (.fk 8 9 (.dn 9 (.dn 10 (.dn 11 .nil))) (.dn 8 (.dn 10 (.dn 11 .nil)))) (.fk 7 9 (.dn 9 (.dn 10 (.dn 11 .nil))) (.dn 7 (.dn 10 (.dn 11 .nil)))) (.fk 7 8 (.dn 8 (.dn 10 (.dn 11 .nil))) (.dn 7 (.dn 10 (.dn 11 .nil))))) (.fk 2 9 (.fk 7 9 (.dn 9 (.dn 10 (.dn 11 .nil))) (.dn 7 (.dn 10 (.dn 11 .nil)))) (.dn 2 (.dn 7 (.dn 10 (.dn 11 .nil))))) (.fk 2 8 (.fk 7 8 (.dn 8 (.dn 10 (.dn 11 .nil))) (.dn 7 (.dn 10 (.dn 11 .nil)))) (.dn 2 (.dn 7 (.dn 10 (.dn 11 .nil)))))))))))) (by kernel_rfl) (by kernel_rfl) rfl (by kernel_rfl) ?_
    obtain ⟨u0, hu0⟩ : ∃ u0, w1.drew = u0 := ⟨_, rfl⟩
    rw [hu0] at hS ⊢
    clear hu0
    iterate 6 (refine seqT_read (v := _) rfl (fun _ _ _ h => h) hS (Or.inl ⟨by rfl, fun W hW => by go_simp <;> with_reducible rfl⟩) ?_; simp only [Act.put, List.setIfInBounds_toArray, List.set_cons_zero, List.set_cons_succ])
    refine seqT_fork3 rfl rfl rfl (fun K hK => ?_) (fun K hK => ?_) (fun K hK => ?_)
    · go_simp
      refine (C1.out _).mono ?_
      rintro e u1 ⟨rfl, hb⟩
      replace hS := hS.trans (hb.mono hS.size)
      refine hK.out _ _ _ (fun W h => h) hS ?_
      clear hK K hb
      refine seqT_fork3 rfl rfl rfl (fun K hK => ?_) (fun K hK => ?_) (fun K hK => ?_)
      · go_simp
        refine (C2.out _).mono ?_
        rintro e u2 ⟨rfl, hb⟩
        replace hS := hS.trans (hb.mono hS.size)
        refine hK.out _ _ _ (fun W h => h) hS ?_
        clear hK K hb
        refine seqT_fork rfl rfl (fun K hK => ?_) (fun K hK => ?_)
        · go_simp
          have hbx : Below u2.heap.size u2 (u2.alloc (ckO ck0)) := (Below.refl _ _).alloc (Nat.le_refl _) _
          have L8 := hS.size
          have D8 := CBlk.new u2 ck0
          replace hS := hS.trans (hbx.mono hS.size)
          clear hbx
          obtain ⟨b8, hb8⟩ : ∃ b, u2.heap.size = b := ⟨_, rfl⟩
          obtain ⟨u3, hV⟩ : ∃ V, u2.alloc (ckO ck0) = V := ⟨_, rfl⟩
          rw [hV, hb8] at D8
          rw [hV] at hS
          rw [hb8] at L8
          rw [hV, hb8]
          clear hV hb8
          refine hK.out _ _ _ (fun W h => h) hS ?_
          clear hK K
          refine seqT_do rfl (fun K hK => ?_)
          go_simp
          have hbx : Below u3.heap.size u3 (u3.alloc (ckO ck0)) := (Below.refl _ _).alloc (Nat.le_refl _) _
          have L9 := hS.size
          have D9 := CBlk.new u3 ck0
          have N89 := Nat.ne_of_lt D8.lt
          replace D8 := D8.bel hbx D8.lt
          replace hS := hS.trans (hbx.mono hS.size)
          clear hbx
          obtain ⟨b9, hb9⟩ : ∃ b, u3.heap.size = b := ⟨_, rfl⟩
          obtain ⟨u4, hV⟩ : ∃ V, u3.alloc (ckO ck0) = V := ⟨_, rfl⟩
          rw [hV, hb9] at D9
          rw [hV] at hS
          rw [hb9] at L9
          rw [hV] at D8
          rw [hb9] at N89
          rw [hV, hb9]
          clear hV hb9
          refine hK.out _ _ _ (fun W h => h) hS ?_
          clear hK K
          refine seqT_do rfl (fun K hK => ?_)
          have d0 := D8.c0
          have e0 := D8.frozen 0
          have d1 := D8.c1
          have e1 := D8.frozen 1
          have d2 := D8.c2
          have e2 := D8.frozen 2
          go_simp
          clear d0 e0 d1 e1 d2 e2
          replace hS := bel_put3 hS L8 x
          replace D9 := D9.other ((Ne.symm N89)) x
          dsimp only [put3] at D9
          replace D8 := D8.store x
          dsimp only [put3] at hS D8
          obtain ⟨u5, hV⟩ : ∃ V, ((u4.setCell ⟨b8, 0, none⟩ (.bool x.1)).setCell ⟨b8, 1, none⟩ (.int .u32 x.2.1)).setCell ⟨b8, 2, none⟩ (.int .u32 x.2.2) = V := ⟨_, rfl⟩
          rw [hV] at hS
          rw [hV] at D8
          rw [hV] at D9
          rw [hV]
          clear hV
          refine hK.out _ _ _ (fun W h => h) hS ?_
          clear hK K
          refine seqT_do rfl (fun K hK => ?_)
          have d0 := D9.c0
          have e0 := D9.frozen 0
          have d1 := D9.c1
          have e1 := D9.frozen 1
          have d2 := D9.c2
          have e2 := D9.frozen 2
          go_simp
          clear d0 e0 d1 e1 d2 e2
          replace hS := bel_put3 hS L9 y
          replace D8 := D8.other (N89) y
          dsimp only [put3] at D8
          replace D9 := D9.store y
          dsimp only [put3] at hS D9
          obtain ⟨u6, hV⟩ : ∃ V, ((u5.setCell ⟨b9, 0, none⟩ (.bool y.1)).setCell ⟨b9, 1, none⟩ (.int .u32 y.2.1)).setCell ⟨b9, 2, none⟩ (.int .u32 y.2.2) = V := ⟨_, rfl⟩
          rw [hV] at hS
          rw [hV] at D8
          rw [hV] at D9
          rw [hV]
          clear hV
          refine hK.out _ _ _ (fun W h => h) hS ?_
          clear hK K
          refine seqT_end ?_
          go_wp2_with fail
          go_meet
          case rel => exact ⟨_, _, rfl, rfl, Lib.hid ⟨⟨D8, (H1.more hS).bel, Nat.le_trans H1.bel.size L8⟩, ⟨D9, (H1.more hS).bel, Nat.le_trans H1.bel.size L9⟩, N89⟩⟩
        · go_simp
          have hbx : Below u2.heap.size u2 (u2.alloc (ckO ck0)) := (Below.refl _ _).alloc (Nat.le_refl _) _
          have L9 := hS.size
          have D9 := CBlk.new u2 ck0
          replace hS := hS.trans (hbx.mono hS.size)
          clear hbx
          obtain ⟨b9, hb9⟩ : ∃ b, u2.heap.size = b := ⟨_, rfl⟩
          obtain ⟨u3, hV⟩ : ∃ V, u2.alloc (ckO ck0) = V := ⟨_, rfl⟩
          rw [hV, hb9] at D9
          rw [hV] at hS
          rw [hb9] at L9
          rw [hV, hb9]
          clear hV hb9
          refine hK.out _ _ _ (fun W h => h) hS ?_
          clear hK K
          refine seqT_do rfl (fun K hK => ?_)
          go_simp
          have hbx : Below u3.heap.size u3 (u3.alloc (ckO ck0)) := (Below.refl _ _).alloc (Nat.le_refl _) _
          have L8 := hS.size
          have D8 := CBlk.new u3 ck0
          have N98 := Nat.ne_of_lt D9.lt
          replace D9 := D9.bel hbx D9.lt
          replace hS := hS.trans (hbx.mono hS.size)
          clear hbx
          obtain ⟨b8, hb8⟩ : ∃ b, u3.heap.size = b := ⟨_, rfl⟩
          obtain ⟨u4, hV⟩ : ∃ V, u3.alloc (ckO ck0) = V := ⟨_, rfl⟩
          rw [hV, hb8] at D8
          rw [hV] at hS
          rw [hb8] at L8
          rw [hV] at D9
          rw [hb8] at N98
          rw [hV, hb8]
          clear hV hb8
          refine hK.out _ _ _ (fun W h => h) hS ?_
          clear hK K
          refine seqT_do rfl (fun K hK => ?_)
          have d0 := D8.c0
          have e0 := D8.frozen 0
          have d1 := D8.c1
          have e1 := D8.frozen 1
          have d2 := D8.c2
          have e2 := D8.frozen 2
          go_simp
          clear d0 e0 d1 e1 d2 e2
          replace hS := bel_put3 hS L8 x
          replace D9 := D9.other (N98) x
          dsimp only [put3] at D9
          replace D8 := D8.store x
          dsimp only [put3] at hS D8
          obtain ⟨u5, hV⟩ : ∃ V, ((u4.setCell ⟨b8, 0, none⟩ (.bool x.1)).setCell ⟨b8, 1, none⟩ (.int .u32 x.2.1)).setCell ⟨b8, 2, none⟩ (.int .u32 x.2.2) = V := ⟨_, rfl⟩
          rw [hV] at hS
          rw [hV] at D9
          rw [hV] at D8
          rw [hV]
          clear hV
          refine hK.out _ _ _ (fun W h => h) hS ?_
          clear hK K
          refine seqT_do rfl (fun K hK => ?_)
          have d0 := D9.c0
          have e0 := D9.frozen 0
          have d1 := D9.c1
          have e1 := D9.frozen 1
          have d2 := D9.c2
          have e2 := D9.frozen 2
          go_simp
          clear d0 e0 d1 e1 d2 e2
          replace hS := bel_put3 hS L9 y
          replace D8 := D8.other ((Ne.symm N98)) y
          dsimp only [put3] at D8
          replace D9 := D9.store y
          dsimp only [put3] at hS D9
          obtain ⟨u6, hV⟩ : ∃ V, ((u5.setCell ⟨b9, 0, none⟩ (.bool y.1)).setCell ⟨b9, 1, none⟩ (.int .u32 y.2.1)).setCell ⟨b9, 2, none⟩ (.int .u32 y.2.2) = V := ⟨_, rfl⟩
          rw [hV] at hS
          rw [hV] at D9
          rw [hV] at D8
          rw [hV]
          clear hV
          refine hK.out _ _ _ (fun W h => h) hS ?_
          clear hK K
          refine seqT_end ?_
          go_wp2_with fail
          go_meet
          case rel => exact ⟨_, _, rfl, rfl, Lib.hid ⟨⟨D8, (H1.more hS).bel, Nat.le_trans H1.bel.size L8⟩, ⟨D9, (H1.more hS).bel, Nat.le_trans H1.bel.size L9⟩, (Ne.symm N98)⟩⟩
      · go_simp
        have hbx : Below u1.heap.size u1 (u1.alloc (ckO ck0)) := (Below.refl _ _).alloc (Nat.le_refl _) _
        have L8 := hS.size
        have D8 := CBlk.new u1 ck0
        replace hS := hS.trans (hbx.mono hS.size)
        clear hbx
        obtain ⟨b8, hb8⟩ : ∃ b, u1.heap.size = b := ⟨_, rfl⟩
        obtain ⟨u2, hV⟩ : ∃ V, u1.alloc (ckO ck0) = V := ⟨_, rfl⟩
        rw [hV, hb8] at D8
        rw [hV] at hS
        rw [hb8] at L8
        rw [hV, hb8]
        clear hV hb8
        refine hK.out _ _ _ (fun W h => h) hS ?_
        clear hK K
        refine seqT_fork rfl rfl (fun K hK => ?_) (fun K hK => ?_)
        · go_simp
          refine (C2.out _).mono ?_
          rintro e u3 ⟨rfl, hb⟩
          replace hS := hS.trans (hb.mono hS.size)
          replace D8 := D8.bel hb D8.lt
          refine hK.out _ _ _ (fun W h => h) hS ?_
          clear hK K hb
          refine seqT_do rfl (fun K hK => ?_)
          go_simp
          have hbx : Below u3.heap.size u3 (u3.alloc (ckO ck0)) := (Below.refl _ _).alloc (Nat.le_refl _) _
          have L9 := hS.size
          have D9 := CBlk.new u3 ck0
          have N89 := Nat.ne_of_lt D8.lt
          replace D8 := D8.bel hbx D8.lt
          replace hS := hS.trans (hbx.mono hS.size)
          clear hbx
          obtain ⟨b9, hb9⟩ : ∃ b, u3.heap.size = b := ⟨_, rfl⟩
          obtain ⟨u4, hV⟩ : ∃ V, u3.alloc (ckO ck0) = V := ⟨_, rfl⟩
          rw [hV, hb9] at D9
          rw [hV] at hS
          rw [hb9] at L9
          rw [hV] at D8
          rw [hb9] at N89
          rw [hV, hb9]
          clear hV hb9
          refine hK.out _ _ _ (fun W h => h) hS ?_
          clear hK K
          refine seqT_do rfl (fun K hK => ?_)
          have d0 := D8.c0
          have e0 := D8.frozen 0
          have d1 := D8.c1
          have e1 := D8.frozen 1
          have d2 := D8.c2
          have e2 := D8.frozen 2
          go_simp
          clear d0 e0 d1 e1 d2 e2
          replace hS := bel_put3 hS L8 x
          replace D9 := D9.other ((Ne.symm N89)) x
          dsimp only [put3] at D9
          replace D8 := D8.store x
          dsimp only [put3] at hS D8
          obtain ⟨u5, hV⟩ : ∃ V, ((u4.setCell ⟨b8, 0, none⟩ (.bool x.1)).setCell ⟨b8, 1, none⟩ (.int .u32 x.2.1)).setCell ⟨b8, 2, none⟩ (.int .u32 x.2.2) = V := ⟨_, rfl⟩
          rw [hV] at hS
          rw [hV] at D8
          rw [hV] at D9
          rw [hV]
          clear hV
          refine hK.out _ _ _ (fun W h => h) hS ?_
          clear hK K
          refine seqT_do rfl (fun K hK => ?_)
          have d0 := D9.c0
          have e0 := D9.frozen 0
          have d1 := D9.c1
          have e1 := D9.frozen 1
          have d2 := D9.c2
          have e2 := D9.frozen 2
          go_simp
          clear d0 e0 d1 e1 d2 e2
          replace hS := bel_put3 hS L9 y
          replace D8 := D8.other (N89) y
          dsimp only [put3] at D8
          replace D9 := D9.store y
          dsimp only [put3] at hS D9
          obtain ⟨u6, hV⟩ : ∃ V, ((u5.setCell ⟨b9, 0, none⟩ (.bool y.1)).setCell ⟨b9, 1, none⟩ (.int .u32 y.2.1)).setCell ⟨b9, 2, none⟩ (.int .u32 y.2.2) = V := ⟨_, rfl⟩
          rw [hV] at hS
          rw [hV] at D8
          rw [hV] at D9
          rw [hV]
          clear hV
          refine hK.out _ _ _ (fun W h => h) hS ?_
          clear hK K
          refine seqT_end ?_
          go_wp2_with fail
          go_meet
          case rel => exact ⟨_, _, rfl, rfl, Lib.hid ⟨⟨D8, (H1.more hS).bel, Nat.le_trans H1.bel.size L8⟩, ⟨D9, (H1.more hS).bel, Nat.le_trans H1.bel.size L9⟩, N89⟩⟩
        · go_simp
          have hbx : Below u2.heap.size u2 (u2.alloc (ckO ck0)) := (Below.refl _ _).alloc (Nat.le_refl _) _
          have L9 := hS.size
          have D9 := CBlk.new u2 ck0
          have N89 := Nat.ne_of_lt D8.lt
          replace D8 := D8.bel hbx D8.lt
          replace hS := hS.trans (hbx.mono hS.size)
          clear hbx
          obtain ⟨b9, hb9⟩ : ∃ b, u2.heap.size = b := ⟨_, rfl⟩
          obtain ⟨u3, hV⟩ : ∃ V, u2.alloc (ckO ck0) = V := ⟨_, rfl⟩
          rw [hV, hb9] at D9
          rw [hV] at hS
          rw [hb9] at L9
          rw [hV] at D8
          rw [hb9] at N89
          rw [hV, hb9]
          clear hV hb9
          refine hK.out _ _ _ (fun W h => h) hS ?_
          clear hK K
          refine seqT_do rfl (fun K hK => ?_)
          go_simp
          refine (C2.out _).mono ?_
          rintro e u4 ⟨rfl, hb⟩
          replace hS := hS.trans (hb.mono hS.size)
          replace D8 := D8.bel hb D8.lt
          replace D9 := D9.bel hb D9.lt
          refine hK.out _ _ _ (fun W h => h) hS ?_
          clear hK K hb
          refine seqT_do rfl (fun K hK => ?_)
          have d0 := D8.c0
          have e0 := D8.frozen 0
          have d1 := D8.c1
          have e1 := D8.frozen 1
          have d2 := D8.c2
          have e2 := D8.frozen 2
          go_simp
          clear d0 e0 d1 e1 d2 e2
          replace hS := bel_put3 hS L8 x
          replace D9 := D9.other ((Ne.symm N89)) x
          dsimp only [put3] at D9
          replace D8 := D8.store x
          dsimp only [put3] at hS D8
          obtain ⟨u5, hV⟩ : ∃ V, ((u4.setCell ⟨b8, 0, none⟩ (.bool x.1)).setCell ⟨b8, 1, none⟩ (.int .u32 x.2.1)).setCell ⟨b8, 2, none⟩ (.int .u32 x.2.2) = V := ⟨_, rfl⟩
          rw [hV] at hS
          rw [hV] at D8
          rw [hV] at D9
          rw [hV]
          clear hV
          refine hK.out _ _ _ (fun W h => h) hS ?_
          clear hK K
          refine seqT_do rfl (fun K hK => ?_)
          have d0 := D9.c0
          have e0 := D9.frozen 0
          have d1 := D9.c1
          have e1 := D9.frozen 1
          have d2 := D9.c2
          have e2 := D9.frozen 2
          go_simp
          clear d0 e0 d1 e1 d2 e2
          replace hS := bel_put3 hS L9 y
          replace D8 := D8.other (N89) y
          dsimp only [put3] at D8
          replace D9 := D9.store y
          dsimp only [put3] at hS D9
          obtain ⟨u6, hV⟩ : ∃ V, ((u5.setCell ⟨b9, 0, none⟩ (.bool y.1)).setCell ⟨b9, 1, none⟩ (.int .u32 y.2.1)).setCell ⟨b9, 2, none⟩ (.int .u32 y.2.2) = V := ⟨_, rfl⟩
          rw [hV] at hS
          rw [hV] at D8
          rw [hV] at D9
          rw [hV]
          clear hV
          refine hK.out _ _ _ (fun W h => h) hS ?_
          clear hK K
          refine seqT_end ?_
          go_wp2_with fail
          go_meet
          case rel => exact ⟨_, _, rfl, rfl, Lib.hid ⟨⟨D8, (H1.more hS).bel, Nat.le_trans H1.bel.size L8⟩, ⟨D9, (H1.more hS).bel, Nat.le_trans H1.bel.size L9⟩, N89⟩⟩
      · go_simp
        have hbx : Below u1.heap.size u1 (u1.alloc (ckO ck0)) := (Below.refl _ _).alloc (Nat.le_refl _) _
        have L9 := hS.size
        have D9 := CBlk.new u1 ck0
        replace hS := hS.trans (hbx.mono hS.size)
        clear hbx
        obtain ⟨b9, hb9⟩ : ∃ b, u1.heap.size = b := ⟨_, rfl⟩
        obtain ⟨u2, hV⟩ : ∃ V, u1.alloc (ckO ck0) = V := ⟨_, rfl⟩
        rw [hV, hb9] at D9
        rw [hV] at hS
        rw [hb9] at L9
        rw [hV, hb9]
        clear hV hb9
        refine hK.out _ _ _ (fun W h => h) hS ?_
        clear hK K
        refine seqT_fork rfl rfl (fun K hK => ?_) (fun K hK => ?_)
        · go_simp
          refine (C2.out _).mono ?_
          rintro e u3 ⟨rfl, hb⟩
          replace hS := hS.trans (hb.mono hS.size)
          replace D9 := D9.bel hb D9.lt
          refine hK.out _ _ _ (fun W h => h) hS ?_
          clear hK K hb
          refine seqT_do rfl (fun K hK => ?_)
          go_simp
          have hbx : Below u3.heap.size u3 (u3.alloc (ckO ck0)) := (Below.refl _ _).alloc (Nat.le_refl _) _
          have L8 := hS.size
          have D8 := CBlk.new u3 ck0
          have N98 := Nat.ne_of_lt D9.lt
          replace D9 := D9.bel hbx D9.lt
          replace hS := hS.trans (hbx.mono hS.size)
          clear hbx
          obtain ⟨b8, hb8⟩ : ∃ b, u3.heap.size = b := ⟨_, rfl⟩
          obtain ⟨u4, hV⟩ : ∃ V, u3.alloc (ckO ck0) = V := ⟨_, rfl⟩
          rw [hV, hb8] at D8
          rw [hV] at hS
          rw [hb8] at L8
          rw [hV] at D9
          rw [hb8] at N98
          rw [hV, hb8]
          clear hV hb8
          refine hK.out _ _ _ (fun W h => h) hS ?_
          clear hK K
          refine seqT_do rfl (fun K hK => ?_)
          have d0 := D8.c0
          have e0 := D8.frozen 0
          have d1 := D8.c1
          have e1 := D8.frozen 1
          have d2 := D8.c2
          have e2 := D8.frozen 2
          go_simp
          clear d0 e0 d1 e1 d2 e2
          replace hS := bel_put3 hS L8 x
          replace D9 := D9.other (N98) x
          dsimp only [put3] at D9
          replace D8 := D8.store x
          dsimp only [put3] at hS D8
          obtain ⟨u5, hV⟩ : ∃ V, ((u4.setCell ⟨b8, 0, none⟩ (.bool x.1)).setCell ⟨b8, 1, none⟩ (.int .u32 x.2.1)).setCell ⟨b8, 2, none⟩ (.int .u32 x.2.2) = V := ⟨_, rfl⟩
          rw [hV] at hS
          rw [hV] at D9
          rw [hV] at D8
          rw [hV]
          clear hV
          refine hK.out _ _ _ (fun W h => h) hS ?_
          clear hK K
          refine seqT_do rfl (fun K hK => ?_)
          have d0 := D9.c0
          have e0 := D9.frozen 0
          have d1 := D9.c1
          have e1 := D9.frozen 1
          have d2 := D9.c2
          have e2 := D9.frozen 2
          go_simp
          clear d0 e0 d1 e1 d2 e2
          replace hS := bel_put3 hS L9 y
          replace D8 := D8.other ((Ne.symm N98)) y
          dsimp only [put3] at D8
          replace D9 := D9.store y
          dsimp only [put3] at hS D9
          obtain ⟨u6, hV⟩ : ∃ V, ((u5.setCell ⟨b9, 0, none⟩ (.bool y.1)).setCell ⟨b9, 1, none⟩ (.int .u32 y.2.1)).setCell ⟨b9, 2, none⟩ (.int .u32 y.2.2) = V := ⟨_, rfl⟩
          rw [hV] at hS
          rw [hV] at D9
          rw [hV] at D8
          rw [hV]
          clear hV
          refine hK.out _ _ _ (fun W h => h) hS ?_
          clear hK K
          refine seqT_end ?_
          go_wp2_with fail
          go_meet
          case rel => exact ⟨_, _, rfl, rfl, Lib.hid ⟨⟨D8, (H1.more hS).bel, Nat.le_trans H1.bel.size L8⟩, ⟨D9, (H1.more hS).bel, Nat.le_trans H1.bel.size L9⟩, (Ne.symm N98)⟩⟩
        · go_simp
          have hbx : Below u2.heap.size u2 (u2.alloc (ckO ck0)) := (Below.refl _ _).alloc (Nat.le_refl _) _
          have L8 := hS.size
          have D8 := CBlk.new u2 ck0
          have N98 := Nat.ne_of_lt D9.lt
          replace D9 := D9.bel hbx D9.lt
          replace hS := hS.trans (hbx.mono hS.size)
          clear hbx
          obtain ⟨b8, hb8⟩ : ∃ b, u2.heap.size = b := ⟨_, rfl⟩
          obtain ⟨u3, hV⟩ : ∃ V, u2.alloc (ckO ck0) = V := ⟨_, rfl⟩
          rw [hV, hb8] at D8
          rw [hV] at hS
          rw [hb8] at L8
          rw [hV] at D9
          rw [hb8] at N98
          rw [hV, hb8]
          clear hV hb8
          refine hK.out _ _ _ (fun W h => h) hS ?_
          clear hK K
          refine seqT_do rfl (fun K hK => ?_)
          go_simp
          refine (C2.out _).mono ?_
          rintro e u4 ⟨rfl, hb⟩
          replace hS := hS.trans (hb.mono hS.size)
          replace D9 := D9.bel hb D9.lt
          replace D8 := D8.bel hb D8.lt
          refine hK.out _ _ _ (fun W h => h) hS ?_
          clear hK K hb
          refine seqT_do rfl (fun K hK => ?_)
          have d0 := D8.c0
          have e0 := D8.frozen 0
          have d1 := D8.c1
          have e1 := D8.frozen 1
          have d2 := D8.c2
          have e2 := D8.frozen 2
          go_simp
          clear d0 e0 d1 e1 d2 e2
          replace hS := bel_put3 hS L8 x
          replace D9 := D9.other (N98) x
          dsimp only [put3] at D9
          replace D8 := D8.store x
          dsimp only [put3] at hS D8
          obtain ⟨u5, hV⟩ : ∃ V, ((u4.setCell ⟨b8, 0, none⟩ (.bool x.1)).setCell ⟨b8, 1, none⟩ (.int .u32 x.2.1)).setCell ⟨b8, 2, none⟩ (.int .u32 x.2.2) = V := ⟨_, rfl⟩
          rw [hV] at hS
          rw [hV] at D9
          rw [hV] at D8
          rw [hV]
          clear hV
          refine hK.out _ _ _ (fun W h => h) hS ?_
          clear hK K
          refine seqT_do rfl (fun K hK => ?_)
          have d0 := D9.c0
          have e0 := D9.frozen 0
          have d1 := D9.c1
          have e1 := D9.frozen 1
          have d2 := D9.c2
          have e2 := D9.frozen 2
          go_simp
          clear d0 e0 d1 e1 d2 e2
          replace hS := bel_put3 hS L9 y
          replace D8 := D8.other ((Ne.symm N98)) y
          dsimp only [put3] at D8
          replace D9 := D9.store y
          dsimp only [put3] at hS D9
          obtain ⟨u6, hV⟩ : ∃ V, ((u5.setCell ⟨b9, 0, none⟩ (.bool y.1)).setCell ⟨b9, 1, none⟩ (.int .u32 y.2.1)).setCell ⟨b9, 2, none⟩ (.int .u32 y.2.2) = V := ⟨_, rfl⟩
          rw [hV] at hS
          rw [hV] at D9
          rw [hV] at D8
          rw [hV]
          clear hV
          refine hK.out _ _ _ (fun W h => h) hS ?_
          clear hK K
          refine seqT_end ?_
          go_wp2_with fail
          go_meet
          case rel => exact ⟨_, _, rfl, rfl, Lib.hid ⟨⟨D8, (H1.more hS).bel, Nat.le_trans H1.bel.size L8⟩, ⟨D9, (H1.more hS).bel, Nat.le_trans H1.bel.size L9⟩, (Ne.symm N98)⟩⟩
    · go_simp
      have hbx : Below u0.heap.size u0 (u0.alloc (ckO ck0)) := (Below.refl _ _).alloc (Nat.le_refl _) _
      have L8 := hS.size
      have D8 := CBlk.new u0 ck0
      replace hS := hS.trans (hbx.mono hS.size)
      clear hbx
      obtain ⟨b8, hb8⟩ : ∃ b, u0.heap.size = b := ⟨_, rfl⟩
      obtain ⟨u1, hV⟩ : ∃ V, u0.alloc (ckO ck0) = V := ⟨_, rfl⟩
      rw [hV, hb8] at D8
      rw [hV] at hS
      rw [hb8] at L8
      rw [hV, hb8]
      clear hV hb8
      refine hK.out _ _ _ (fun W h => h) hS ?_
      clear hK K
      refine seqT_fork rfl rfl (fun K hK => ?_) (fun K hK => ?_)
      · go_simp
        refine (C1.out _).mono ?_
        rintro e u2 ⟨rfl, hb⟩
        replace hS := hS.trans (hb.mono hS.size)
        replace D8 := D8.bel hb D8.lt
        refine hK.out _ _ _ (fun W h => h) hS ?_
        clear hK K hb
        refine seqT_fork rfl rfl (fun K hK => ?_) (fun K hK => ?_)
        · go_simp
          refine (C2.out _).mono ?_
          rintro e u3 ⟨rfl, hb⟩
          replace hS := hS.trans (hb.mono hS.size)
          replace D8 := D8.bel hb D8.lt
          refine hK.out _ _ _ (fun W h => h) hS ?_
          clear hK K hb
          refine seqT_do rfl (fun K hK => ?_)
          go_simp
          have hbx : Below u3.heap.size u3 (u3.alloc (ckO ck0)) := (Below.refl _ _).alloc (Nat.le_refl _) _
          have L9 := hS.size
          have D9 := CBlk.new u3 ck0
          have N89 := Nat.ne_of_lt D8.lt
          replace D8 := D8.bel hbx D8.lt
          replace hS := hS.trans (hbx.mono hS.size)
          clear hbx
          obtain ⟨b9, hb9⟩ : ∃ b, u3.heap.size = b := ⟨_, rfl⟩
          obtain ⟨u4, hV⟩ : ∃ V, u3.alloc (ckO ck0) = V := ⟨_, rfl⟩
          rw [hV, hb9] at D9
          rw [hV] at hS
          rw [hb9] at L9
          rw [hV] at D8
          rw [hb9] at N89
          rw [hV, hb9]
          clear hV hb9
          refine hK.out _ _ _ (fun W h => h) hS ?_
          clear hK K
          refine seqT_do rfl (fun K hK => ?_)
          have d0 := D8.c0
          have e0 := D8.frozen 0
          have d1 := D8.c1
          have e1 := D8.frozen 1
          have d2 := D8.c2
          have e2 := D8.frozen 2
          go_simp
          clear d0 e0 d1 e1 d2 e2
          replace hS := bel_put3 hS L8 x
          replace D9 := D9.other ((Ne.symm N89)) x
          dsimp only [put3] at D9
          replace D8 := D8.store x
          dsimp only [put3] at hS D8
          obtain ⟨u5, hV⟩ : ∃ V, ((u4.setCell ⟨b8, 0, none⟩ (.bool x.1)).setCell ⟨b8, 1, none⟩ (.int .u32 x.2.1)).setCell ⟨b8, 2, none⟩ (.int .u32 x.2.2) = V := ⟨_, rfl⟩
          rw [hV] at hS
          rw [hV] at D8
          rw [hV] at D9
          rw [hV]
          clear hV
          refine hK.out _ _ _ (fun W h => h) hS ?_
          clear hK K
          refine seqT_do rfl (fun K hK => ?_)
          have d0 := D9.c0
          have e0 := D9.frozen 0
          have d1 := D9.c1
          have e1 := D9.frozen 1
          have d2 := D9.c2
          have e2 := D9.frozen 2
          go_simp
          clear d0 e0 d1 e1 d2 e2
          replace hS := bel_put3 hS L9 y
          replace D8 := D8.other (N89) y
          dsimp only [put3] at D8
          replace D9 := D9.store y
          dsimp only [put3] at hS D9
          obtain ⟨u6, hV⟩ : ∃ V, ((u5.setCell ⟨b9, 0, none⟩ (.bool y.1)).setCell ⟨b9, 1, none⟩ (.int .u32 y.2.1)).setCell ⟨b9, 2, none⟩ (.int .u32 y.2.2) = V := ⟨_, rfl⟩
          rw [hV] at hS
          rw [hV] at D8
          rw [hV] at D9
          rw [hV]
          clear hV
          refine hK.out _ _ _ (fun W h => h) hS ?_
          clear hK K
          refine seqT_end ?_
          go_wp2_with fail
          go_meet
          case rel => exact ⟨_, _, rfl, rfl, Lib.hid ⟨⟨D8, (H1.more hS).bel, Nat.le_trans H1.bel.size L8⟩, ⟨D9, (H1.more hS).bel, Nat.le_trans H1.bel.size L9⟩, N89⟩⟩
        · go_simp
          have hbx : Below u2.heap.size u2 (u2.alloc (ckO ck0)) := (Below.refl _ _).alloc (Nat.le_refl _) _
          have L9 := hS.size
          have D9 := CBlk.new u2 ck0
          have N89 := Nat.ne_of_lt D8.lt
          replace D8 := D8.bel hbx D8.lt
          replace hS := hS.trans (hbx.mono hS.size)
          clear hbx
          obtain ⟨b9, hb9⟩ : ∃ b, u2.heap.size = b := ⟨_, rfl⟩
          obtain ⟨u3, hV⟩ : ∃ V, u2.alloc (ckO ck0) = V := ⟨_, rfl⟩
          rw [hV, hb9] at D9
          rw [hV] at hS
          rw [hb9] at L9
          rw [hV] at D8
          rw [hb9] at N89
          rw [hV, hb9]
          clear hV hb9
          refine hK.out _ _ _ (fun W h => h) hS ?_
          clear hK K
          refine seqT_do rfl (fun K hK => ?_)
          go_simp
          refine (C2.out _).mono ?_
          rintro e u4 ⟨rfl, hb⟩
          replace hS := hS.trans (hb.mono hS.size)
          replace D8 := D8.bel hb D8.lt
          replace D9 := D9.bel hb D9.lt
          refine hK.out _ _ _ (fun W h => h) hS ?_
          clear hK K hb
          refine seqT_do rfl (fun K hK => ?_)
          have d0 := D8.c0
          have e0 := D8.frozen 0
          have d1 := D8.c1
          have e1 := D8.frozen 1
          have d2 := D8.c2
          have e2 := D8.frozen 2
          go_simp
          clear d0 e0 d1 e1 d2 e2
          replace hS := bel_put3 hS L8 x
          replace D9 := D9.other ((Ne.symm N89)) x
          dsimp only [put3] at D9
          replace D8 := D8.store x
          dsimp only [put3] at hS D8
          obtain ⟨u5, hV⟩ : ∃ V, ((u4.setCell ⟨b8, 0, none⟩ (.bool x.1)).setCell ⟨b8, 1, none⟩ (.int .u32 x.2.1)).setCell ⟨b8, 2, none⟩ (.int .u32 x.2.2) = V := ⟨_, rfl⟩
          rw [hV] at hS
          rw [hV] at D8
          rw [hV] at D9
          rw [hV]
          clear hV
          refine hK.out _ _ _ (fun W h => h) hS ?_
          clear hK K
          refine seqT_do rfl (fun K hK => ?_)
          have d0 := D9.c0
          have e0 := D9.frozen 0
          have d1 := D9.c1
          have e1 := D9.frozen 1
          have d2 := D9.c2
          have e2 := D9.frozen 2
          go_simp
          clear d0 e0 d1 e1 d2 e2
          replace hS := bel_put3 hS L9 y
          replace D8 := D8.other (N89) y
          dsimp only [put3] at D8
          replace D9 := D9.store y
          dsimp only [put3] at hS D9
          obtain ⟨u6, hV⟩ : ∃ V, ((u5.setCell ⟨b9, 0, none⟩ (.bool y.1)).setCell ⟨b9, 1, none⟩ (.int .u32 y.2.1)).setCell ⟨b9, 2, none⟩ (.int .u32 y.2.2) = V := ⟨_, rfl⟩
          rw [hV] at hS
          rw [hV] at D8
          rw [hV] at D9
          rw [hV]
          clear hV
          refine hK.out _ _ _ (fun W h => h) hS ?_
          clear hK K
          refine seqT_end ?_
          go_wp2_with fail
          go_meet
          case rel => exact ⟨_, _, rfl, rfl, Lib.hid ⟨⟨D8, (H1.more hS).bel, Nat.le_trans H1.bel.size L8⟩, ⟨D9, (H1.more hS).bel, Nat.le_trans H1.bel.size L9⟩, N89⟩⟩
      · go_simp
        have hbx : Below u1.heap.size u1 (u1.alloc (ckO ck0)) := (Below.refl _ _).alloc (Nat.le_refl _) _
        have L9 := hS.size
        have D9 := CBlk.new u1 ck0
        have N89 := Nat.ne_of_lt D8.lt
        replace D8 := D8.bel hbx D8.lt
        replace hS := hS.trans (hbx.mono hS.size)
        clear hbx
        obtain ⟨b9, hb9⟩ : ∃ b, u1.heap.size = b := ⟨_, rfl⟩
        obtain ⟨u2, hV⟩ : ∃ V, u1.alloc (ckO ck0) = V := ⟨_, rfl⟩
        rw [hV, hb9] at D9
        rw [hV] at hS
        rw [hb9] at L9
        rw [hV] at D8
        rw [hb9] at N89
        rw [hV, hb9]
        clear hV hb9
        refine hK.out _ _ _ (fun W h => h) hS ?_
        clear hK K
        refine seqT_do rfl (fun K hK => ?_)
        go_simp
        refine (C1.out _).mono ?_
        rintro e u3 ⟨rfl, hb⟩
        replace hS := hS.trans (hb.mono hS.size)
        replace D8 := D8.bel hb D8.lt
        replace D9 := D9.bel hb D9.lt
        refine hK.out _ _ _ (fun W h => h) hS ?_
        clear hK K hb
        refine seqT_do rfl (fun K hK => ?_)
        go_simp
        refine (C2.out _).mono ?_
        rintro e u4 ⟨rfl, hb⟩
        replace hS := hS.trans (hb.mono hS.size)
        replace D8 := D8.bel hb D8.lt
        replace D9 := D9.bel hb D9.lt
        refine hK.out _ _ _ (fun W h => h) hS ?_
        clear hK K hb
        refine seqT_do rfl (fun K hK => ?_)
        have d0 := D8.c0
        have e0 := D8.frozen 0
        have d1 := D8.c1
        have e1 := D8.frozen 1
        have d2 := D8.c2
        have e2 := D8.frozen 2
        go_simp
        clear d0 e0 d1 e1 d2 e2
        replace hS := bel_put3 hS L8 x
        replace D9 := D9.other ((Ne.symm N89)) x
        dsimp only [put3] at D9
        replace D8 := D8.store x
        dsimp only [put3] at hS D8
        obtain ⟨u5, hV⟩ : ∃ V, ((u4.setCell ⟨b8, 0, none⟩ (.bool x.1)).setCell ⟨b8, 1, none⟩ (.int .u32 x.2.1)).setCell ⟨b8, 2, none⟩ (.int .u32 x.2.2) = V := ⟨_, rfl⟩
        rw [hV] at hS
        rw [hV] at D8
        rw [hV] at D9
        rw [hV]
        clear hV
        refine hK.out _ _ _ (fun W h => h) hS ?_
        clear hK K
        refine seqT_do rfl (fun K hK => ?_)
        have d0 := D9.c0
        have e0 := D9.frozen 0
        have d1 := D9.c1
        have e1 := D9.frozen 1
        have d2 := D9.c2
        have e2 := D9.frozen 2
        go_simp
        clear d0 e0 d1 e1 d2 e2
        replace hS := bel_put3 hS L9 y
        replace D8 := D8.other (N89) y
        dsimp only [put3] at D8
        replace D9 := D9.store y
        dsimp only [put3] at hS D9
        obtain ⟨u6, hV⟩ : ∃ V, ((u5.setCell ⟨b9, 0, none⟩ (.bool y.1)).setCell ⟨b9, 1, none⟩ (.int .u32 y.2.1)).setCell ⟨b9, 2, none⟩ (.int .u32 y.2.2) = V := ⟨_, rfl⟩
        rw [hV] at hS
        rw [hV] at D8
        rw [hV] at D9
        rw [hV]
        clear hV
        refine hK.out _ _ _ (fun W h => h) hS ?_
        clear hK K
        refine seqT_end ?_
        go_wp2_with fail
        go_meet
        case rel => exact ⟨_, _, rfl, rfl, Lib.hid ⟨⟨D8, (H1.more hS).bel, Nat.le_trans H1.bel.size L8⟩, ⟨D9, (H1.more hS).bel, Nat.le_trans H1.bel.size L9⟩, N89⟩⟩
    · go_simp
      have hbx : Below u0.heap.size u0 (u0.alloc (ckO ck0)) := (Below.refl _ _).alloc (Nat.le_refl _) _
      have L9 := hS.size
      have D9 := CBlk.new u0 ck0
      replace hS := hS.trans (hbx.mono hS.size)
      clear hbx
      obtain ⟨b9, hb9⟩ : ∃ b, u0.heap.size = b := ⟨_, rfl⟩
      obtain ⟨u1, hV⟩ : ∃ V, u0.alloc (ckO ck0) = V := ⟨_, rfl⟩
      rw [hV, hb9] at D9
      rw [hV] at hS
      rw [hb9] at L9
      rw [hV, hb9]
      clear hV hb9
      refine hK.out _ _ _ (fun W h => h) hS ?_
      clear hK K
      refine seqT_fork rfl rfl (fun K hK => ?_) (fun K hK => ?_)
      · go_simp
        refine (C1.out _).mono ?_
        rintro e u2 ⟨rfl, hb⟩
        replace hS := hS.trans (hb.mono hS.size)
        replace D9 := D9.bel hb D9.lt
        refine hK.out _ _ _ (fun W h => h) hS ?_
        clear hK K hb
        refine seqT_fork rfl rfl (fun K hK => ?_) (fun K hK => ?_)
        · go_simp
          refine (C2.out _).mono ?_
          rintro e u3 ⟨rfl, hb⟩
          replace hS := hS.trans (hb.mono hS.size)
          replace D9 := D9.bel hb D9.lt
          refine hK.out _ _ _ (fun W h => h) hS ?_
          clear hK K hb
          refine seqT_do rfl (fun K hK => ?_)
          go_simp
          have hbx : Below u3.heap.size u3 (u3.alloc (ckO ck0)) := (Below.refl _ _).alloc (Nat.le_refl _) _
          have L8 := hS.size
          have D8 := CBlk.new u3 ck0
          have N98 := Nat.ne_of_lt D9.lt
          replace D9 := D9.bel hbx D9.lt
          replace hS := hS.trans (hbx.mono hS.size)
          clear hbx
          obtain ⟨b8, hb8⟩ : ∃ b, u3.heap.size = b := ⟨_, rfl⟩
          obtain ⟨u4, hV⟩ : ∃ V, u3.alloc (ckO ck0) = V := ⟨_, rfl⟩
          rw [hV, hb8] at D8
          rw [hV] at hS
          rw [hb8] at L8
          rw [hV] at D9
          rw [hb8] at N98
          rw [hV, hb8]
          clear hV hb8
          refine hK.out _ _ _ (fun W h => h) hS ?_
          clear hK K
          refine seqT_do rfl (fun K hK => ?_)
          have d0 := D8.c0
          have e0 := D8.frozen 0
          have d1 := D8.c1
          have e1 := D8.frozen 1
          have d2 := D8.c2
          have e2 := D8.frozen 2
          go_simp
          clear d0 e0 d1 e1 d2 e2
          replace hS := bel_put3 hS L8 x
          replace D9 := D9.other (N98) x
          dsimp only [put3] at D9
          replace D8 := D8.store x
          dsimp only [put3] at hS D8
          obtain ⟨u5, hV⟩ : ∃ V, ((u4.setCell ⟨b8, 0, none⟩ (.bool x.1)).setCell ⟨b8, 1, none⟩ (.int .u32 x.2.1)).setCell ⟨b8, 2, none⟩ (.int .u32 x.2.2) = V := ⟨_, rfl⟩
          rw [hV] at hS
          rw [hV] at D9
          rw [hV] at D8
          rw [hV]
          clear hV
          refine hK.out _ _ _ (fun W h => h) hS ?_
          clear hK K
          refine seqT_do rfl (fun K hK => ?_)
          have d0 := D9.c0
          have e0 := D9.frozen 0
          have d1 := D9.c1
          have e1 := D9.frozen 1
          have d2 := D9.c2
          have e2 := D9.frozen 2
          go_simp
          clear d0 e0 d1 e1 d2 e2
          replace hS := bel_put3 hS L9 y
          replace D8 := D8.other ((Ne.symm N98)) y
          dsimp only [put3] at D8
          replace D9 := D9.store y
          dsimp only [put3] at hS D9
          obtain ⟨u6, hV⟩ : ∃ V, ((u5.setCell ⟨b9, 0, none⟩ (.bool y.1)).setCell ⟨b9, 1, none⟩ (.int .u32 y.2.1)).setCell ⟨b9, 2, none⟩ (.int .u32 y.2.2) = V := ⟨_, rfl⟩
          rw [hV] at hS
          rw [hV] at D9
          rw [hV] at D8
          rw [hV]
          clear hV
          refine hK.out _ _ _ (fun W h => h) hS ?_
          clear hK K
          refine seqT_end ?_
          go_wp2_with fail
          go_meet
          case rel => exact ⟨_, _, rfl, rfl, Lib.hid ⟨⟨D8, (H1.more hS).bel, Nat.le_trans H1.bel.size L8⟩, ⟨D9, (H1.more hS).bel, Nat.le_trans H1.bel.size L9⟩, (Ne.symm N98)⟩⟩
        · go_simp
          have hbx : Below u2.heap.size u2 (u2.alloc (ckO ck0)) := (Below.refl _ _).alloc (Nat.le_refl _) _
          have L8 := hS.size
          have D8 := CBlk.new u2 ck0
          have N98 := Nat.ne_of_lt D9.lt
          replace D9 := D9.bel hbx D9.lt
          replace hS := hS.trans (hbx.mono hS.size)
          clear hbx
          obtain ⟨b8, hb8⟩ : ∃ b, u2.heap.size = b := ⟨_, rfl⟩
          obtain ⟨u3, hV⟩ : ∃ V, u2.alloc (ckO ck0) = V := ⟨_, rfl⟩
          rw [hV, hb8] at D8
          rw [hV] at hS
          rw [hb8] at L8
          rw [hV] at D9
          rw [hb8] at N98
          rw [hV, hb8]
          clear hV hb8
          refine hK.out _ _ _ (fun W h => h) hS ?_
          clear hK K
          refine seqT_do rfl (fun K hK => ?_)
          go_simp
          refine (C2.out _).mono ?_
          rintro e u4 ⟨rfl, hb⟩
          replace hS := hS.trans (hb.mono hS.size)
          replace D9 := D9.bel hb D9.lt
          replace D8 := D8.bel hb D8.lt
          refine hK.out _ _ _ (fun W h => h) hS ?_
          clear hK K hb
          refine seqT_do rfl (fun K hK => ?_)
          have d0 := D8.c0
          have e0 := D8.frozen 0
          have d1 := D8.c1
          have e1 := D8.frozen 1
          have d2 := D8.c2
          have e2 := D8.frozen 2
          go_simp
          clear d0 e0 d1 e1 d2 e2
          replace hS := bel_put3 hS L8 x
          replace D9 := D9.other (N98) x
          dsimp only [put3] at D9
          replace D8 := D8.store x
          dsimp only [put3] at hS D8
          obtain ⟨u5, hV⟩ : ∃ V, ((u4.setCell ⟨b8, 0, none⟩ (.bool x.1)).setCell ⟨b8, 1, none⟩ (.int .u32 x.2.1)).setCell ⟨b8, 2, none⟩ (.int .u32 x.2.2) = V := ⟨_, rfl⟩
          rw [hV] at hS
          rw [hV] at D9
          rw [hV] at D8
          rw [hV]
          clear hV
          refine hK.out _ _ _ (fun W h => h) hS ?_
          clear hK K
          refine seqT_do rfl (fun K hK => ?_)
          have d0 := D9.c0
          have e0 := D9.frozen 0
          have d1 := D9.c1
          have e1 := D9.frozen 1
          have d2 := D9.c2
          have e2 := D9.frozen 2
          go_simp
          clear d0 e0 d1 e1 d2 e2
          replace hS := bel_put3 hS L9 y
          replace D8 := D8.other ((Ne.symm N98)) y
          dsimp only [put3] at D8
          replace D9 := D9.store y
          dsimp only [put3] at hS D9
          obtain ⟨u6, hV⟩ : ∃ V, ((u5.setCell ⟨b9, 0, none⟩ (.bool y.1)).setCell ⟨b9, 1, none⟩ (.int .u32 y.2.1)).setCell ⟨b9, 2, none⟩ (.int .u32 y.2.2) = V := ⟨_, rfl⟩
          rw [hV] at hS
          rw [hV] at D9
          rw [hV] at D8
          rw [hV]
          clear hV
          refine hK.out _ _ _ (fun W h => h) hS ?_
          clear hK K
          refine seqT_end ?_
          go_wp2_with fail
          go_meet
          case rel => exact ⟨_, _, rfl, rfl, Lib.hid ⟨⟨D8, (H1.more hS).bel, Nat.le_trans H1.bel.size L8⟩, ⟨D9, (H1.more hS).bel, Nat.le_trans H1.bel.size L9⟩, (Ne.symm N98)⟩⟩
      · go_simp
        have hbx : Below u1.heap.size u1 (u1.alloc (ckO ck0)) := (Below.refl _ _).alloc (Nat.le_refl _) _
        have L8 := hS.size
        have D8 := CBlk.new u1 ck0
        have N98 := Nat.ne_of_lt D9.lt
        replace D9 := D9.bel hbx D9.lt
        replace hS := hS.trans (hbx.mono hS.size)
        clear hbx
        obtain ⟨b8, hb8⟩ : ∃ b, u1.heap.size = b := ⟨_, rfl⟩
        obtain ⟨u2, hV⟩ : ∃ V, u1.alloc (ckO ck0) = V := ⟨_, rfl⟩
        rw [hV, hb8] at D8
        rw [hV] at hS
        rw [hb8] at L8
        rw [hV] at D9
        rw [hb8] at N98
        rw [hV, hb8]
        clear hV hb8
        refine hK.out _ _ _ (fun W h => h) hS ?_
        clear hK K
        refine seqT_do rfl (fun K hK => ?_)
        go_simp
        refine (C1.out _).mono ?_
        rintro e u3 ⟨rfl, hb⟩
        replace hS := hS.trans (hb.mono hS.size)
        replace D9 := D9.bel hb D9.lt
        replace D8 := D8.bel hb D8.lt
        refine hK.out _ _ _ (fun W h => h) hS ?_
        clear hK K hb
        refine seqT_do rfl (fun K hK => ?_)
        go_simp
        refine (C2.out _).mono ?_
        rintro e u4 ⟨rfl, hb⟩
        replace hS := hS.trans (hb.mono hS.size)
        replace D9 := D9.bel hb D9.lt
        replace D8 := D8.bel hb D8.lt
        refine hK.out _ _ _ (fun W h => h) hS ?_
        clear hK K hb
        refine seqT_do rfl (fun K hK => ?_)
        have d0 := D8.c0
        have e0 := D8.frozen 0
        have d1 := D8.c1
        have e1 := D8.frozen 1
        have d2 := D8.c2
        have e2 := D8.frozen 2
        go_simp
        clear d0 e0 d1 e1 d2 e2
        replace hS := bel_put3 hS L8 x
        replace D9 := D9.other (N98) x
        dsimp only [put3] at D9
        replace D8 := D8.store x
        dsimp only [put3] at hS D8
        obtain ⟨u5, hV⟩ : ∃ V, ((u4.setCell ⟨b8, 0, none⟩ (.bool x.1)).setCell ⟨b8, 1, none⟩ (.int .u32 x.2.1)).setCell ⟨b8, 2, none⟩ (.int .u32 x.2.2) = V := ⟨_, rfl⟩
        rw [hV] at hS
        rw [hV] at D9
        rw [hV] at D8
        rw [hV]
        clear hV
        refine hK.out _ _ _ (fun W h => h) hS ?_
        clear hK K
        refine seqT_do rfl (fun K hK => ?_)
        have d0 := D9.c0
        have e0 := D9.frozen 0
        have d1 := D9.c1
        have e1 := D9.frozen 1
        have d2 := D9.c2
        have e2 := D9.frozen 2
        go_simp
        clear d0 e0 d1 e1 d2 e2
        replace hS := bel_put3 hS L9 y
        replace D8 := D8.other ((Ne.symm N98)) y
        dsimp only [put3] at D8
        replace D9 := D9.store y
        dsimp only [put3] at hS D9
        obtain ⟨u6, hV⟩ : ∃ V, ((u5.setCell ⟨b9, 0, none⟩ (.bool y.1)).setCell ⟨b9, 1, none⟩ (.int .u32 y.2.1)).setCell ⟨b9, 2, none⟩ (.int .u32 y.2.2) = V := ⟨_, rfl⟩
        rw [hV] at hS
        rw [hV] at D9
        rw [hV] at D8
        rw [hV]
        clear hV
        refine hK.out _ _ _ (fun W h => h) hS ?_
        clear hK K
        refine seqT_end ?_
        go_wp2_with fail
        go_meet
        case rel => exact ⟨_, _, rfl, rfl, Lib.hid ⟨⟨D8, (H1.more hS).bel, Nat.le_trans H1.bel.size L8⟩, ⟨D9, (H1.more hS).bel, Nat.le_trans H1.bel.size L9⟩, (Ne.symm N98)⟩⟩
  case rest =>
    obtain ⟨bx, b2, rfl, rfl, hcut⟩ := hcut
    obtain ⟨H2, G2, HN⟩ := hcut.out
    have H2 := Lib.hid H2
    have G2 := Lib.hid G2
    have HN := Lib.hid HN
    clear hcut H1 C1 C2 q1
    rename World => w2
    go_wp2_with fail
    go_loopw [11] (fun s8 wx => ∃ (i : Nat) (c d : Ck), i ≤ m ∧ i ≤ 100 ∧ s8 = .int .i64 i ∧ Hid (Cur w wx bx c) ∧ Hid (Cur w wx b2 d) ∧ Hid (d.2.1 = (c.2.1 - kk) % 4294967296)) (fun s8 _ => m - (intOf s8).toNat)
    case atStart => exact ⟨0, _, _, by omega, by omega, rfl, H2, G2, HXY⟩
    case round =>
      obtain ⟨k, y, z, hkm, hk1, rfl, hy, hz, he⟩ := hrel
      rename World => wx
      clear H2 G2 HXY
      by_cases h1 : k < m
      · have hd1 : decide (k < m) = true := by simp; exact h1
        by_cases h2 : k < 100
        · have hd2 : decide ((k : Int) < 100) = true := by simp; omega
          obtain ⟨tb, toff, g, rfl, htb, hg, t0⟩ := u32_at HR.out h1
          have TB := Lib.hid (fun (W : World) (hW : Below w.heap.size w W) => (hW.cell (p := ⟨tb, toff + k, none⟩) htb).trans t0)
          clear t0 hg htb
          obtain ⟨j, hj⟩ : ∃ j, (g + kk) % 4294967296 = j := ⟨_, rfl⟩
          have q1 : IntKind.u32.wrap (g + kk) = j := (u32_wrap _).trans hj
          have ht := tim_sh he.out g
          rw [hj] at ht
          obtain ⟨n, hn⟩ : ∃ n, tim y g = n := ⟨_, rfl⟩
          rw [hn] at ht
          obtain ⟨p, hp⟩ : ∃ p : Ck, p = (true, y.2.1, n) := ⟨_, rfl⟩
          obtain ⟨q, hq⟩ : ∃ q : Ck, q = (true, z.2.1, n) := ⟨_, rfl⟩
          have C1 := Lib.hid (fun W => step_any W y g)
          have C2 := Lib.hid (fun W => step_any W z j)
          rw [show stk y g = p from by rw [hp, ← hn]; rfl, hn] at C1
          rw [show stk z j = q from by rw [hq, ← ht]; rfl, ht] at C2
          have HE : Hid (q.2.1 = (p.2.1 - kk) % 4294967296) := Lib.hid (by rw [hp, hq]; exact he.out)
          have HP := Lib.hid (show p.2.2 = n from by rw [hp])
          have HQ := Lib.hid (show q.2.2 = n from by rw [hq])
          clear hj ht hn hp hq he
          go_upto_region 7 with fail
          go_cut [12, 13] from 26 to 67 (fun s9 s10 wc => ∃ b, s9 = .pointer (some ⟨b, 0, none⟩) ∧ s10 = .int .u32 n ∧ Hid (CBlk wc b p ∧ wx.heap.size ≤ b ∧ Below wx.heap.size wx wc))
          case first =>
            have f0 : ∀ W, Below wx.heap.size wx W → W.cell? ⟨bx, 0, none⟩ = some (.bool y.1) := fun W hW => (hy.out.more hW).blk.c0
            have f1 : ∀ W, Below wx.heap.size wx W → W.cell? ⟨bx, 1, none⟩ = some (.int .u32 y.2.1) := fun W hW => (hy.out.more hW).blk.c1
            have f2 : ∀ W, Below wx.heap.size wx W → W.cell? ⟨bx, 2, none⟩ = some (.int .u32 y.2.2) := fun W hW => (hy.out.more hW).blk.c2
            have f4 : ∀ W, Below wx.heap.size wx W → W.cell? ⟨tb, toff + k, none⟩ = some (.int .u32 g) := fun W hW => TB.out W (hy.out.more hW).bel
            have hS : Below wx.heap.size wx wx.drew := (Below.refl _ _).drew
            refine region_tree (Below wx.heap.size wx) (.rd 0 (.rd 1 (.rd 2 (.rd 3 (.rd 4 (.fk 5 9 (.rd 6 (.rd 7 (.rd 8 (.dn 9 (.dn 10 (.rd 11 .nil)))))) (.dn 5 (.rd 6 (.rd 7 (.rd 8 (.dn 10 (.rd 11 .nil)))))))))))) (by kernel_rfl) (by kernel_rfl) rfl (by kernel_rfl) ?_
            obtain ⟨u0, hu0⟩ : ∃ u0, wx.drew = u0 := ⟨_, rfl⟩
            rw [hu0] at hS ⊢
            clear hu0
            iterate 5 (refine seqT_read (v := _) rfl (fun _ _ _ h => h) hS (Or.inl ⟨by rfl, fun W hW => by go_simp <;> with_reducible rfl⟩) ?_; simp only [Act.put, List.setIfInBounds_toArray, List.set_cons_zero, List.set_cons_succ])
            refine seqT_fork rfl rfl (fun K hK => ?_) (fun K hK => ?_)
            · go_simp
              refine (C1.out _).mono ?_
              rintro e u1 ⟨rfl, hb⟩
              replace hS := hS.trans (hb.mono hS.size)
              refine hK.out _ _ _ (fun W h => h) hS ?_
              clear hK K hb
              iterate 3 (refine seqT_read (v := _) rfl (fun _ _ _ h => h) hS (Or.inl ⟨by rfl, fun W hW => by go_simp <;> with_reducible rfl⟩) ?_; simp only [Act.put, List.setIfInBounds_toArray, List.set_cons_zero, List.set_cons_succ])
              refine seqT_do rfl (fun K hK => ?_)
              go_simp
              have hbx : Below u1.heap.size u1 (u1.alloc (ckO ck0)) := (Below.refl _ _).alloc (Nat.le_refl _) _
              have L9 := hS.size
              have D9 := CBlk.new u1 ck0
              replace hS := hS.trans (hbx.mono hS.size)
              clear hbx
              obtain ⟨b9, hb9⟩ : ∃ b, u1.heap.size = b := ⟨_, rfl⟩
              obtain ⟨u2, hV⟩ : ∃ V, u1.alloc (ckO ck0) = V := ⟨_, rfl⟩
              rw [hV, hb9] at D9
              rw [hV] at hS
              rw [hb9] at L9
              rw [hV, hb9]
              clear hV hb9
              refine hK.out _ _ _ (fun W h => h) hS ?_
              clear hK K
              refine seqT_do rfl (fun K hK => ?_)
              have d0 := D9.c0
              have e0 := D9.frozen 0
              have d1 := D9.c1
              have e1 := D9.frozen 1
              have d2 := D9.c2
              have e2 := D9.frozen 2
              go_simp
              clear d0 e0 d1 e1 d2 e2
              replace hS := bel_put3 hS L9 p
              replace D9 := D9.store p
              dsimp only [put3] at hS D9
              obtain ⟨u3, hV⟩ : ∃ V, ((u2.setCell ⟨b9, 0, none⟩ (.bool p.1)).setCell ⟨b9, 1, none⟩ (.int .u32 p.2.1)).setCell ⟨b9, 2, none⟩ (.int .u32 p.2.2) = V := ⟨_, rfl⟩
              rw [hV] at hS
              rw [hV] at D9
              rw [hV]
              clear hV
              refine hK.out _ _ _ (fun W h => h) hS ?_
              clear hK K
              iterate 1 (refine seqT_read (v := _) rfl (fun _ _ _ h => h) hS (Or.inl ⟨by rfl, fun W hW => by go_simp <;> with_reducible rfl⟩) ?_; simp only [Act.put, List.setIfInBounds_toArray, List.set_cons_zero, List.set_cons_succ])
              refine seqT_end ?_
              go_wp2_with fail
              go_meet
              case rel => exact ⟨_, rfl, rfl, Lib.hid ⟨D9, L9, hS⟩⟩
            · go_simp
              have hbx : Below u0.heap.size u0 (u0.alloc (ckO ck0)) := (Below.refl _ _).alloc (Nat.le_refl _) _
              have L9 := hS.size
              have D9 := CBlk.new u0 ck0
              replace hS := hS.trans (hbx.mono hS.size)
              clear hbx
              obtain ⟨b9, hb9⟩ : ∃ b, u0.heap.size = b := ⟨_, rfl⟩
              obtain ⟨u1, hV⟩ : ∃ V, u0.alloc (ckO ck0) = V := ⟨_, rfl⟩
              rw [hV, hb9] at D9
              rw [hV] at hS
              rw [hb9] at L9
              rw [hV, hb9]
              clear hV hb9
              refine hK.out _ _ _ (fun W h => h) hS ?_
              clear hK K
              refine seqT_do rfl (fun K hK => ?_)
              go_simp
              refine (C1.out _).mono ?_
              rintro e u2 ⟨rfl, hb⟩
              replace hS := hS.trans (hb.mono hS.size)
              replace D9 := D9.bel hb D9.lt
              refine hK.out _ _ _ (fun W h => h) hS ?_
              clear hK K hb
              iterate 3 (refine seqT_read (v := _) rfl (fun _ _ _ h => h) hS (Or.inl ⟨by rfl, fun W hW => by go_simp <;> with_reducible rfl⟩) ?_; simp only [Act.put, List.setIfInBounds_toArray, List.set_cons_zero, List.set_cons_succ])
              refine seqT_do rfl (fun K hK => ?_)
              have d0 := D9.c0
              have e0 := D9.frozen 0
              have d1 := D9.c1
              have e1 := D9.frozen 1
              have d2 := D9.c2
              have e2 := D9.frozen 2
              go_simp
              clear d0 e0 d1 e1 d2 e2
              replace hS := bel_put3 hS L9 p
              replace D9 := D9.store p
              dsimp only [put3] at hS D9
              obtain ⟨u3, hV⟩ : ∃ V, ((u2.setCell ⟨b9, 0, none⟩ (.bool p.1)).setCell ⟨b9, 1, none⟩ (.int .u32 p.2.1)).setCell ⟨b9, 2, none⟩ (.int .u32 p.2.2) = V := ⟨_, rfl⟩
              rw [hV] at hS
              rw [hV] at D9
              rw [hV]
              clear hV
              refine hK.out _ _ _ (fun W h => h) hS ?_
              clear hK K
              iterate 1 (refine seqT_read (v := _) rfl (fun _ _ _ h => h) hS (Or.inl ⟨by rfl, fun W hW => by go_simp <;> with_reducible rfl⟩) ?_; simp only [Act.put, List.setIfInBounds_toArray, List.set_cons_zero, List.set_cons_succ])
              refine seqT_end ?_
              go_wp2_with fail
              go_meet
              case rel => exact ⟨_, rfl, rfl, Lib.hid ⟨D9, L9, hS⟩⟩
          case rest =>
            obtain ⟨b1, rfl, rfl, hb⟩ := hcut
            have HY := Lib.hid (hy.out.more hb.out.2.2)
            have HZ := Lib.hid (hz.out.more hb.out.2.2)
            have HX := Lib.hid hb.out.1
            have NB := Lib.hid (show bx ≠ b1 ∧ b2 ≠ b1 from by have := hb.out.2.1; have h1 := hy.out.blk.lt; have h2 := hz.out.blk.lt; omega)
            clear hb hy hz C1
            rename World => wc
            go_upto_region 8 with fail
            go_cut [14, 15] from 26 to 67 (fun s9 s10 wd => ∃ b, s9 = .pointer (some ⟨b, 0, none⟩) ∧ s10 = .int .u32 n ∧ Hid (CBlk wd b q ∧ wc.heap.size ≤ b ∧ Below wc.heap.size wc wd))
            case first =>
              have f0 : ∀ W, Below wc.heap.size wc W → W.cell? ⟨b2, 0, none⟩ = some (.bool z.1) := fun W hW => (HZ.out.more hW).blk.c0
              have f1 : ∀ W, Below wc.heap.size wc W → W.cell? ⟨b2, 1, none⟩ = some (.int .u32 z.2.1) := fun W hW => (HZ.out.more hW).blk.c1
              have f2 : ∀ W, Below wc.heap.size wc W → W.cell? ⟨b2, 2, none⟩ = some (.int .u32 z.2.2) := fun W hW => (HZ.out.more hW).blk.c2
              have f4 : ∀ W, Below wc.heap.size wc W → W.cell? ⟨tb, toff + k, none⟩ = some (.int .u32 g) := fun W hW => TB.out W (HY.out.more hW).bel
              have hS : Below wc.heap.size wc wc.drew := (Below.refl _ _).drew
              refine region_tree (Below wc.heap.size wc) (.rd 0 (.rd 1 (.rd 2 (.rd 3 (.rd 4 (.rd 5 (.rd 6 (.fk 7 11 (.rd 8 (.rd 9 (.rd 10 (.dn 11 (.dn 12 (.rd 13 .nil)))))) (.dn 7 (.rd 8 (.rd 9 (.rd 10 (.dn 12 (.rd 13 .nil)))))))))))))) (by kernel_rfl) (by kernel_rfl) rfl (by kernel_rfl) ?_
              obtain ⟨u0, hu0⟩ : ∃ u0, wc.drew = u0 := ⟨_, rfl⟩
              rw [hu0] at hS ⊢
              clear hu0
              iterate 7 (refine seqT_read (v := _) rfl (fun _ _ _ h => h) hS (Or.inl ⟨by rfl, fun W hW => by go_simp <;> with_reducible rfl⟩) ?_; simp only [Act.put, List.setIfInBounds_toArray, List.set_cons_zero, List.set_cons_succ])
              refine seqT_fork rfl rfl (fun K hK => ?_) (fun K hK => ?_)
              · go_simp
                refine (C2.out _).mono ?_
                rintro e u1 ⟨rfl, hb⟩
                replace hS := hS.trans (hb.mono hS.size)
                refine hK.out _ _ _ (fun W h => h) hS ?_
                clear hK K hb
                iterate 3 (refine seqT_read (v := _) rfl (fun _ _ _ h => h) hS (Or.inl ⟨by rfl, fun W hW => by go_simp <;> with_reducible rfl⟩) ?_; simp only [Act.put, List.setIfInBounds_toArray, List.set_cons_zero, List.set_cons_succ])
                refine seqT_do rfl (fun K hK => ?_)
                go_simp
                have hbx : Below u1.heap.size u1 (u1.alloc (ckO ck0)) := (Below.refl _ _).alloc (Nat.le_refl _) _
                have L11 := hS.size
                have D11 := CBlk.new u1 ck0
                replace hS := hS.trans (hbx.mono hS.size)
                clear hbx
                obtain ⟨b11, hb11⟩ : ∃ b, u1.heap.size = b := ⟨_, rfl⟩
                obtain ⟨u2, hV⟩ : ∃ V, u1.alloc (ckO ck0) = V := ⟨_, rfl⟩
                rw [hV, hb11] at D11
                rw [hV] at hS
                rw [hb11] at L11
                rw [hV, hb11]
                clear hV hb11
                refine hK.out _ _ _ (fun W h => h) hS ?_
                clear hK K
                refine seqT_do rfl (fun K hK => ?_)
                have d0 := D11.c0
                have e0 := D11.frozen 0
                have d1 := D11.c1
                have e1 := D11.frozen 1
                have d2 := D11.c2
                have e2 := D11.frozen 2
                go_simp
                clear d0 e0 d1 e1 d2 e2
                replace hS := bel_put3 hS L11 q
                replace D11 := D11.store q
                dsimp only [put3] at hS D11
                obtain ⟨u3, hV⟩ : ∃ V, ((u2.setCell ⟨b11, 0, none⟩ (.bool q.1)).setCell ⟨b11, 1, none⟩ (.int .u32 q.2.1)).setCell ⟨b11, 2, none⟩ (.int .u32 q.2.2) = V := ⟨_, rfl⟩
                rw [hV] at hS
                rw [hV] at D11
                rw [hV]
                clear hV
                refine hK.out _ _ _ (fun W h => h) hS ?_
                clear hK K
                iterate 1 (refine seqT_read (v := _) rfl (fun _ _ _ h => h) hS (Or.inl ⟨by rfl, fun W hW => by go_simp <;> with_reducible rfl⟩) ?_; simp only [Act.put, List.setIfInBounds_toArray, List.set_cons_zero, List.set_cons_succ])
                refine seqT_end ?_
                go_wp2_with fail
                go_meet
                case rel => exact ⟨_, rfl, rfl, Lib.hid ⟨D11, L11, hS⟩⟩
              · go_simp
                have hbx : Below u0.heap.size u0 (u0.alloc (ckO ck0)) := (Below.refl _ _).alloc (Nat.le_refl _) _
                have L11 := hS.size
                have D11 := CBlk.new u0 ck0
                replace hS := hS.trans (hbx.mono hS.size)
                clear hbx
                obtain ⟨b11, hb11⟩ : ∃ b, u0.heap.size = b := ⟨_, rfl⟩
                obtain ⟨u1, hV⟩ : ∃ V, u0.alloc (ckO ck0) = V := ⟨_, rfl⟩
                rw [hV, hb11] at D11
                rw [hV] at hS
                rw [hb11] at L11
                rw [hV, hb11]
                clear hV hb11
                refine hK.out _ _ _ (fun W h => h) hS ?_
                clear hK K
                refine seqT_do rfl (fun K hK => ?_)
                go_simp
                refine (C2.out _).mono ?_
                rintro e u2 ⟨rfl, hb⟩
                replace hS := hS.trans (hb.mono hS.size)
                replace D11 := D11.bel hb D11.lt
                refine hK.out _ _ _ (fun W h => h) hS ?_
                clear hK K hb
                iterate 3 (refine seqT_read (v := _) rfl (fun _ _ _ h => h) hS (Or.inl ⟨by rfl, fun W hW => by go_simp <;> with_reducible rfl⟩) ?_; simp only [Act.put, List.setIfInBounds_toArray, List.set_cons_zero, List.set_cons_succ])
                refine seqT_do rfl (fun K hK => ?_)
                have d0 := D11.c0
                have e0 := D11.frozen 0
                have d1 := D11.c1
                have e1 := D11.frozen 1
                have d2 := D11.c2
                have e2 := D11.frozen 2
                go_simp
                clear d0 e0 d1 e1 d2 e2
                replace hS := bel_put3 hS L11 q
                replace D11 := D11.store q
                dsimp only [put3] at hS D11
                obtain ⟨u3, hV⟩ : ∃ V, ((u2.setCell ⟨b11, 0, none⟩ (.bool q.1)).setCell ⟨b11, 1, none⟩ (.int .u32 q.2.1)).setCell ⟨b11, 2, none⟩ (.int .u32 q.2.2) = V := ⟨_, rfl⟩
                rw [hV] at hS
                rw [hV] at D11
                rw [hV]
                clear hV
                refine hK.out _ _ _ (fun W h => h) hS ?_
                clear hK K
                iterate 1 (refine seqT_read (v := _) rfl (fun _ _ _ h => h) hS (Or.inl ⟨by rfl, fun W hW => by go_simp <;> with_reducible rfl⟩) ?_; simp only [Act.put, List.setIfInBounds_toArray, List.set_cons_zero, List.set_cons_succ])
                refine seqT_end ?_
                go_wp2_with fail
                go_meet
                case rel => exact ⟨_, rfl, rfl, Lib.hid ⟨D11, L11, hS⟩⟩
            case rest =>
              obtain ⟨b3, rfl, rfl, hb⟩ := hcut
              rename World => wd
              have HY2 := HY.out.more hb.out.2.2
              have HZ2 := HZ.out.more hb.out.2.2
              have HX2 := HX.out.bel hb.out.2.2 HX.out.lt
              have HW2 := hb.out.1
              have NB2 := Lib.hid (show bx ≠ b3 ∧ b2 ≠ b3 ∧ b1 ≠ b3 from by have := hb.out.2.1; have h1 := HY.out.blk.lt; have h2 := HZ.out.blk.lt; have h3 := HX.out.lt; omega)
              obtain ⟨pa, po, pl⟩ := p
              obtain ⟨qa, qo, ql⟩ := q
              obtain rfl : pl = n := HP.out
              obtain rfl : ql = pl := HQ.out
              have x2 := HX2.c2
              have y2 := HW2.c2
              have HY3 := Lib.hid HY2
              have HZ3 := Lib.hid HZ2
              have HX3 := Lib.hid HX2
              have HW3 := Lib.hid HW2
              clear hb HY HZ HX HY2 HZ2 HX2 HW2 C2 q1 HP HQ TB
              go_upto_region 11 with fail
              clear x2 y2
              obtain ⟨p, hp⟩ : ∃ p : Ck, (pa, po, ql) = p := ⟨_, rfl⟩
              obtain ⟨q, hq⟩ : ∃ q : Ck, (qa, qo, ql) = q := ⟨_, rfl⟩
              rw [hp] at HX3 HE
              rw [hq] at HW3 HE
              clear hp hq
              have f0 : ∀ W, (CBlk W b1 p ∧ CBlk W b3 q) → W.cell? ⟨b1, 0, none⟩ = some (.bool p.1) := fun W hW => hW.1.c0
              have f1 : ∀ W, (CBlk W b1 p ∧ CBlk W b3 q) → W.cell? ⟨b1, 1, none⟩ = some (.int .u32 p.2.1) := fun W hW => hW.1.c1
              have f2 : ∀ W, (CBlk W b1 p ∧ CBlk W b3 q) → W.cell? ⟨b1, 2, none⟩ = some (.int .u32 p.2.2) := fun W hW => hW.1.c2
              have g0 : ∀ W, (CBlk W b1 p ∧ CBlk W b3 q) → W.cell? ⟨b3, 0, none⟩ = some (.bool q.1) := fun W hW => hW.2.c0
              have g1 : ∀ W, (CBlk W b1 p ∧ CBlk W b3 q) → W.cell? ⟨b3, 1, none⟩ = some (.int .u32 q.2.1) := fun W hW => hW.2.c1
              have g2 : ∀ W, (CBlk W b1 p ∧ CBlk W b3 q) → W.cell? ⟨b3, 2, none⟩ = some (.int .u32 q.2.2) := fun W hW => hW.2.c2
              have hS : CBlk wd.drew b1 p ∧ CBlk wd.drew b3 q := ⟨HX3.out, HW3.out⟩
              have HY4 := HY3.out.drew
              have HZ4 := Lib.hid HZ3.out.drew
              obtain ⟨we, hwe⟩ : ∃ we, wd.drew = we := ⟨_, rfl⟩
              rw [hwe] at hS HY4 HZ4
              refine region_seq (fun W => CBlk W b1 p ∧ CBlk W b3 q) [(0, false), (1, false), (2, true), (3, true)] (by kernel_rfl) (by kernel_rfl) rfl (by kernel_rfl) ?_
              rw [hwe]
              clear hwe HY3 HZ3 HX3 HW3
              iterate 2 (refine seq_read (v := _) rfl (fun _ _ _ h => h) hS (Or.inl ⟨by rfl, fun W hW => by go_simp <;> with_reducible rfl⟩) ?_; simp only [Act.put, List.setIfInBounds_toArray, List.set_cons_zero, List.set_cons_succ])
              have c0 := HY4.blk.c0
              have e0 := HY4.blk.frozen 0
              have c1 := HY4.blk.c1
              have e1 := HY4.blk.frozen 1
              have c2 := HY4.blk.c2
              have e2 := HY4.blk.frozen 2
              refine seq_do rfl (fun K hK => ?_)
              go_simp
              have HY5 := HY4.put p
              have HZ5 := HZ4.out.other (Ne.symm HN.out) HY4.lo p
              have hS : CBlk (put3 we bx p) b1 p ∧ CBlk (put3 we bx p) b3 q := ⟨hS.1.other (Ne.symm NB.out.1) _, hS.2.other (Ne.symm NB2.out.1) _⟩
              dsimp only [put3] at HY5 HZ5 hS
              refine hK.out _ _ _ (fun W h => h) hS ?_
              clear hK K c0 c1 c2 e0 e1 e2 HY4 HZ4
              generalize ((we.setCell ⟨bx, 0, none⟩ (.bool p.1)).setCell ⟨bx, 1, none⟩ (.int .u32 p.2.1)).setCell ⟨bx, 2, none⟩ (.int .u32 p.2.2) = wf at *
              have HY5 := Lib.hid HY5
              have c0 := HZ5.blk.c0
              have e0 := HZ5.blk.frozen 0
              have c1 := HZ5.blk.c1
              have e1 := HZ5.blk.frozen 1
              have c2 := HZ5.blk.c2
              have e2 := HZ5.blk.frozen 2
              refine seq_do rfl (fun K hK => ?_)
              go_simp
              have HZ6 := HZ5.put q
              have HY6 := HY5.out.other HN.out HZ5.lo q
              have hS : CBlk (put3 wf b2 q) b1 p ∧ CBlk (put3 wf b2 q) b3 q := ⟨hS.1.other (Ne.symm NB.out.2) _, hS.2.other (Ne.symm NB2.out.2.1) _⟩
              dsimp only [put3] at HY6 HZ6 hS
              refine hK.out _ _ _ (fun W h => h) hS ?_
              clear hK K c0 c1 c2 e0 e1 e2 HY5 HZ5
              generalize ((wf.setCell ⟨b2, 0, none⟩ (.bool q.1)).setCell ⟨b2, 1, none⟩ (.int .u32 q.2.1)).setCell ⟨b2, 2, none⟩ (.int .u32 q.2.2) = wg at *
              have HY6 := Lib.hid HY6
              have HZ6 := Lib.hid HZ6
              clear hS f0 f1 f2 g0 g1 g2
              refine seq_end ?_
              go_wp2_with fail
              go_roundw
              case rel => exact ⟨k + 1, p, q, by omega, by omega, by go_num, HY6, HZ6, HE⟩
              case measure => simp [intOf]; omega
        · obtain rfl : k = 100 := by omega
          go_wp2
          go_ret
          exact ⟨rfl, hy.out.bel⟩
      · obtain rfl : k = m := by omega
        have hd1 : decide (k < k) = false := by simp
        go_wp2
        go_ret
        exact ⟨rfl, hy.out.bel⟩
end Go.Proofs.Ytheabchdhenjjaa.Clk
