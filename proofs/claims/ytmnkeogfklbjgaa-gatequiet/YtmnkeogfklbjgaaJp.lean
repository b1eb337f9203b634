/- The contract of the laws' shown; GateAll walked. -/
import Derived.Test.YtmnkeogfklbjgaaJo
import Derived.Deep.Cut
import Derived.Deep.DeepCutAuto
import Derived.Deep.CutRange
set_option maxRecDepth 100000
namespace Go.Proofs.Ytmnkeogfklbjgaa.Gat
open Go.RowKit
set_option linter.unusedVariables false

set_option maxHeartbeats 4000000 in
theorem shown_any (w : World) : Calls Try.prog 6 #[] w fun e w' => e = .returned (.bool true) ∧ Below w.heap.size w w' := by
  have C1 := Lib.hid (fun W => new_any W 1)
  have C2 := Lib.hid (fun W => take_any W (1, -1, false, false) 1 false)
  have C3 := Lib.hid (fun W => take_any W (1, -1, false, false) 1 true)
  have C4 := Lib.hid (fun W => take_any W (1, 1, false, false) 1 true)
  have C5 := Lib.hid (fun W => pause_any W (1, 1, false, false) true)
  have C6 := Lib.hid (fun W => take_any W (1, -1, true, false) 1 true)
  have C7 := Lib.hid (fun W => asks_any W (1, -1, false, false))
  have C8 := Lib.hid (fun W => asks_any W (1, 1, false, false))
  have C9 := Lib.hid (fun W => quiet_any W (1, -1, true, false))
  have C10 := Lib.hid (fun W => want_any W (1, 1, false, false) 2)
  have C11 := Lib.hid (fun W => mute_any W (1, 1, false, false) true)
  rw [show nw 1 = (1, -1, false, false) from by decide] at C1
  rw [show tke (1, -1, false, false) 1 false = ((1, -1, false, false), 3) from by decide] at C2
  rw [show tke (1, -1, false, false) 1 true = ((1, 1, false, false), 2) from by decide] at C3
  rw [show tke (1, 1, false, false) 1 true = ((1, 1, false, false), 1) from by decide] at C4
  rw [show pse (1, 1, false, false) true = (1, -1, true, false) from by decide] at C5
  rw [show tke (1, -1, true, false) 1 true = ((1, -1, true, false), 4) from by decide] at C6
  rw [show ask (1, -1, false, false) = true from by decide] at C7
  rw [show ask (1, 1, false, false) = false from by decide] at C8
  rw [show qui (1, -1, true, false) = true from by decide] at C9
  rw [show wnt (1, 1, false, false) 2 = (2, 1, false, false) from by decide] at C10
  rw [show mte (1, 1, false, false) true = (1, -1, false, true) from by decide] at C11
  have q1 := fld0 (2, 1, false, false)
  have q2 := fld3 (1, -1, false, true)
  go_enter Try.func6, Try.ntmps6
  go_wp2_with fail
  refine (C1.out _).mono ?_
  rintro e w1 ⟨rfl, hb⟩
  have G : Hid (Cur w (w1.alloc (gtO (1, -1, false, false))) w1.heap.size (1, -1, false, false)) := Lib.hid ⟨CBlk.new w1 _, hb.alloc hb.size _, hb.size⟩
  clear hb C1
  have c0 := G.out.blk.c0
  have c1 := G.out.blk.c1
  have c2 := G.out.blk.c2
  have c3 := G.out.blk.c3
  go_wp2_with fail
  refine (C2.out _).mono ?_
  rintro e w2 ⟨rfl, hb⟩
  replace G := Lib.hid (G.out.more hb)
  clear c0 c1 c2 c3
  have A : Hid (Cur w (w2.alloc (gtO (1, -1, false, false))) w2.heap.size (1, -1, false, false)) := Lib.hid ⟨CBlk.new w2 _, G.out.bel.alloc G.out.bel.size _, G.out.bel.size⟩
  replace G := Lib.hid (G.out.new (1, -1, false, false))
  clear hb C2
  have c0 := A.out.blk.c0
  have c1 := A.out.blk.c1
  have c2 := A.out.blk.c2
  have c3 := A.out.blk.c3
  go_wp2_with fail
  refine (C3.out _).mono ?_
  rintro e w3 ⟨rfl, hb⟩
  replace G := Lib.hid (G.out.more hb)
  clear c0 c1 c2 c3 A
  have B : Hid (Cur w (w3.alloc (gtO (1, 1, false, false))) w3.heap.size (1, 1, false, false)) := Lib.hid ⟨CBlk.new w3 _, G.out.bel.alloc G.out.bel.size _, G.out.bel.size⟩
  replace G := Lib.hid (G.out.new (1, 1, false, false))
  clear hb C3
  have c0 := B.out.blk.c0
  have c1 := B.out.blk.c1
  have c2 := B.out.blk.c2
  have c3 := B.out.blk.c3
  go_wp2_with fail
  refine (C4.out _).mono ?_
  rintro e w4 ⟨rfl, hb⟩
  replace G := Lib.hid ((G.out.more hb).new (1, 1, false, false))
  replace B := Lib.hid ((B.out.more hb).new (1, 1, false, false))
  clear c0 c1 c2 c3 hb C4
  have c0 := B.out.blk.c0
  have c1 := B.out.blk.c1
  have c2 := B.out.blk.c2
  have c3 := B.out.blk.c3
  go_wp2_with fail
  refine (C5.out _).mono ?_
  rintro e w5 ⟨rfl, hb⟩
  have D : Hid (Cur w (w5.alloc (gtO (1, -1, true, false))) w5.heap.size (1, -1, true, false)) := Lib.hid ⟨CBlk.new w5 _, (G.out.more hb).bel.alloc (G.out.more hb).bel.size _, (G.out.more hb).bel.size⟩
  replace G := Lib.hid ((G.out.more hb).new (1, -1, true, false))
  replace B := Lib.hid ((B.out.more hb).new (1, -1, true, false))
  clear c0 c1 c2 c3 hb C5
  have c0 := D.out.blk.c0
  have c1 := D.out.blk.c1
  have c2 := D.out.blk.c2
  have c3 := D.out.blk.c3
  go_wp2_with fail
  refine (C6.out _).mono ?_
  rintro e w6 ⟨rfl, hb⟩
  replace G := Lib.hid ((G.out.more hb).new (1, -1, true, false))
  replace B := Lib.hid ((B.out.more hb).new (1, -1, true, false))
  replace D := Lib.hid ((D.out.more hb).new (1, -1, true, false))
  clear c0 c1 c2 c3 hb C6
  have c0 := G.out.blk.c0
  have c1 := G.out.blk.c1
  have c2 := G.out.blk.c2
  have c3 := G.out.blk.c3
  go_wp2_with fail
  refine (C7.out _).mono ?_
  rintro e w7 ⟨rfl, hb⟩
  replace G := Lib.hid (G.out.more hb)
  replace B := Lib.hid (B.out.more hb)
  replace D := Lib.hid (D.out.more hb)
  clear c0 c1 c2 c3 hb C7
  have c0 := B.out.blk.c0
  have c1 := B.out.blk.c1
  have c2 := B.out.blk.c2
  have c3 := B.out.blk.c3
  go_wp2_with fail
  refine (C8.out _).mono ?_
  rintro e w8 ⟨rfl, hb⟩
  replace G := Lib.hid (G.out.more hb)
  replace B := Lib.hid (B.out.more hb)
  replace D := Lib.hid (D.out.more hb)
  clear c0 c1 c2 c3 hb C8
  have c0 := D.out.blk.c0
  have c1 := D.out.blk.c1
  have c2 := D.out.blk.c2
  have c3 := D.out.blk.c3
  go_wp2_with fail
  refine (C9.out _).mono ?_
  rintro e w9 ⟨rfl, hb⟩
  replace G := Lib.hid (G.out.more hb)
  replace B := Lib.hid (B.out.more hb)
  replace D := Lib.hid (D.out.more hb)
  clear c0 c1 c2 c3 hb C9
  have d1 := D.out.blk.c1
  have c0 := B.out.blk.c0
  have c1 := B.out.blk.c1
  have c2 := B.out.blk.c2
  have c3 := B.out.blk.c3
  go_wp2_with fail
  refine (C10.out _).mono ?_
  rintro e w10 ⟨rfl, hb⟩
  replace G := Lib.hid (G.out.more hb)
  replace B := Lib.hid (B.out.more hb)
  replace D := Lib.hid (D.out.more hb)
  clear c0 c1 c2 c3 hb C10
  clear d1
  have c0 := B.out.blk.c0
  have c1 := B.out.blk.c1
  have c2 := B.out.blk.c2
  have c3 := B.out.blk.c3
  go_wp2_with fail
  refine (C11.out _).mono ?_
  rintro e w11 ⟨rfl, hb⟩
  replace G := Lib.hid (G.out.more hb)
  replace B := Lib.hid (B.out.more hb)
  replace D := Lib.hid (D.out.more hb)
  clear c0 c1 c2 c3 hb C11
  go_wp2
  go_ret
  exact ⟨rfl, G.out.bel⟩

/-- The law's own Pause and Mute, on and off. -/
theorem set_both {wu wc : World} {bp bm : Nat} {gn gc : Int} {gp gm : Bool} (on : Bool) (hp : CBlk wc bp (gn, gc, gp, gm)) (hm : CBlk wc bm (gn, gc, gp, gm)) (N : bp ≠ bm) (L1 : wu.heap.size ≤ bp) (L2 : wu.heap.size ≤ bm) (hS : Below wu.heap.size wu wc) :
    CBlk ((wc.setCell ⟨bp, 2, none⟩ (.bool on)).setCell ⟨bm, 3, none⟩ (.bool on)) bp (gn, gc, on, gm) ∧
    CBlk ((wc.setCell ⟨bp, 2, none⟩ (.bool on)).setCell ⟨bm, 3, none⟩ (.bool on)) bm (gn, gc, gp, on) ∧
    wu.heap.size ≤ bp ∧ wu.heap.size ≤ bm ∧ Below wu.heap.size wu ((wc.setCell ⟨bp, 2, none⟩ (.bool on)).setCell ⟨bm, 3, none⟩ (.bool on)) := by
  have p1 := hp.set2 on
  have p2 := p1.otherC (i := 3) N (.bool on)
  have m1 := hm.otherC (i := 2) (Ne.symm N) (.bool on)
  have m2 := m1.set3 on
  have b1 := hS.setCell (p := ⟨bp, 2, none⟩) L1 (.bool on)
  have b2 := b1.setCell (p := ⟨bm, 3, none⟩) L2 (.bool on)
  exact ⟨p2, m2, L1, L2, b2⟩
theorem set_on {wu wc : World} {bp bm : Nat} {gn gc : Int} {gp gm on : Bool} (h : CBlk wc bp (gn, gc, on, gm) ∧ CBlk wc bm (gn, gc, gp, on) ∧ wu.heap.size ≤ bp ∧ wu.heap.size ≤ bm ∧ Below wu.heap.size wu wc) (N : bp ≠ bm) :
    CBlk ((wc.setCell ⟨bp, 1, none⟩ (.int .i64 (-1))).setCell ⟨bm, 1, none⟩ (.int .i64 (-1))) bp (gn, -1, on, gm) ∧
    CBlk ((wc.setCell ⟨bp, 1, none⟩ (.int .i64 (-1))).setCell ⟨bm, 1, none⟩ (.int .i64 (-1))) bm (gn, -1, gp, on) ∧
    wu.heap.size ≤ bp ∧ wu.heap.size ≤ bm ∧ Below wu.heap.size wu ((wc.setCell ⟨bp, 1, none⟩ (.int .i64 (-1))).setCell ⟨bm, 1, none⟩ (.int .i64 (-1))) := by
  obtain ⟨hp, hm, L1, L2, hS⟩ := h
  have p3 := hp.set1 (-1)
  have p4 := p3.otherC (i := 1) N (.int .i64 (-1))
  have m3 := hm.otherC (i := 1) (Ne.symm N) (.int .i64 (-1))
  have m4 := m3.set1 (-1)
  have b3 := hS.setCell (p := ⟨bp, 1, none⟩) L1 (.int .i64 (-1))
  have b4 := b3.setCell (p := ⟨bm, 1, none⟩) L2 (.int .i64 (-1))
  exact ⟨p4, m4, L1, L2, b4⟩
set_option maxHeartbeats 4000000 in
theorem all_any (w : World) (g : Gt) (l : Int) (on : Bool) : Calls Try.prog 3 #[gtV g, .int .i64 l, .bool on] w fun e w' => e = .returned (.bool true) ∧ Below w.heap.size w w' := by
  have CS := Lib.hid (fun W => shown_any W)
  have C1 := Lib.hid (fun W => take_any W g l on)
  have C2 := Lib.hid (fun W => rtake_any W g l on)
  have C3 := Lib.hid (fun W => pause_any W g on)
  have C4 := Lib.hid (fun W => mute_any W g on)
  have C5 := Lib.hid (fun W => want_any W g l)
  have C6 := Lib.hid (fun W => quiet_any W g)
  have C7 := Lib.hid (fun W => asks_any W g)
  have C8 := Lib.hid (fun W => new_any W l)
  have C9 := Lib.hid (fun W => rnew_any W l)
  obtain ⟨a, ha⟩ : ∃ a, tke g l on = a := ⟨_, rfl⟩
  obtain ⟨a, n⟩ := a
  rw [ha] at C1 C2
  obtain ⟨p, hp⟩ : ∃ p, pse g on = p := ⟨_, rfl⟩
  rw [hp] at C3
  obtain ⟨m, hm⟩ : ∃ m, mte g on = m := ⟨_, rfl⟩
  rw [hm] at C4
  obtain ⟨l0, hl0⟩ : ∃ m, (if l < 0 then 0 else l) = m := ⟨_, rfl⟩
  obtain ⟨l1, hl1⟩ : ∃ k, (if 2 < l0 then 2 else l0) = k := ⟨_, rfl⟩
  rw [show wnt g l = (l1, g.2) from by rw [← hl1, ← hl0]; rfl] at C5
  obtain ⟨r, hr⟩ : ∃ r, nw l = r := ⟨_, rfl⟩
  rw [hr] at C8 C9
  obtain ⟨gn, gc, gp, gm⟩ := g
  have H0 : Hid (Cur w (w.alloc (gtO (gn, gc, gp, gm))) w.heap.size (gn, gc, gp, gm)) := Lib.hid ⟨CBlk.new w _, (Below.refl _ _).alloc (Nat.le_refl _) _, Nat.le_refl _⟩
  have HP := Lib.hid hp
  have HM := Lib.hid hm
  have HL0 := Lib.hid hl0
  have HL1 := Lib.hid hl1
  clear ha hp hm hl0 hl1 hr
  go_enter Try.func3, Try.ntmps3
  go_wp2_with fail
  refine (CS.out _).mono ?_
  rintro e w1 ⟨rfl, hb⟩
  have H1 := Lib.hid (H0.out.more hb)
  clear hb H0 CS
  have c0 := H1.out.blk.c0
  have c1 := H1.out.blk.c1
  have c2 := H1.out.blk.c2
  have c3 := H1.out.blk.c3
  go_wp2_with fail
  refine (C1.out _).mono ?_
  rintro e w2 ⟨rfl, hb⟩
  have H2 := Lib.hid ((H1.out.more hb).new a)
  have A2 : Hid (Cur w (w2.alloc (gtO a)) w2.heap.size a) := Lib.hid ⟨CBlk.new w2 a, H2.out.bel, (H1.out.more hb).bel.size⟩
  clear c0 c1 c2 c3 hb H1 C1
  have c0 := H2.out.blk.c0
  have c1 := H2.out.blk.c1
  have c2 := H2.out.blk.c2
  have c3 := H2.out.blk.c3
  go_wp2_with fail
  refine (C2.out _).mono ?_
  rintro e w3 ⟨rfl, hb⟩
  have H3 := Lib.hid ((H2.out.more hb).new a)
  have A3 := Lib.hid ((A2.out.more hb).new a)
  have B3 : Hid (Cur w (w3.alloc (gtO a)) w3.heap.size a) := Lib.hid ⟨CBlk.new w3 a, H3.out.bel, (H2.out.more hb).bel.size⟩
  clear c0 c1 c2 c3 hb H2 A2 C2
  go_upto_region 5 with fail
  obtain ⟨wu, hwu⟩ : ∃ wu, w3.alloc (gtO a) = wu := ⟨_, rfl⟩
  rw [hwu] at H3 A3 B3
  rw [hwu]
  clear hwu
  go_cut [11, 12] from 31 to 32 (fun s9 s10 wc => ∃ bp bm, s9 = .pointer (some ⟨bp, 0, none⟩) ∧ s10 = .pointer (some ⟨bm, 0, none⟩) ∧ Hid (CBlk wc bp (gn, gc, gp, gm) ∧ CBlk wc bm (gn, gc, gp, gm) ∧ bp ≠ bm ∧ wu.heap.size ≤ bp ∧ wu.heap.size ≤ bm ∧ Below wu.heap.size wu wc))
  case first =>
    have f0 : ∀ W, Below wu.heap.size wu W → W.cell? ⟨w.heap.size, 0, none⟩ = some (.int .i64 gn) := fun W hW => (H3.out.more hW).blk.c0
    have f1 : ∀ W, Below wu.heap.size wu W → W.cell? ⟨w.heap.size, 1, none⟩ = some (.int .i64 gc) := fun W hW => (H3.out.more hW).blk.c1
    have f2 : ∀ W, Below wu.heap.size wu W → W.cell? ⟨w.heap.size, 2, none⟩ = some (.bool gp) := fun W hW => (H3.out.more hW).blk.c2
    have f3 : ∀ W, Below wu.heap.size wu W → W.cell? ⟨w.heap.size, 3, none⟩ = some (.bool gm) := fun W hW => (H3.out.more hW).blk.c3
    have hS : Below wu.heap.size wu wu.drew := (Below.refl _ _).drew
    refine region_tree (Below wu.heap.size wu) (.rd 0 (.rd 1 (.fk 2 3 (.dn 3 (.dn 4 (.dn 5 .nil))) (.dn 2 (.dn 4 (.dn 5 .nil)))))) (by kernel_rfl) (by kernel_rfl) rfl (by kernel_rfl) ?_
    obtain ⟨u0, hu0⟩ : ∃ u0, wu.drew = u0 := ⟨_, rfl⟩
    rw [hu0] at hS ⊢
    clear hu0
    iterate 2 (refine seqT_read (v := _) rfl (fun _ _ _ h => h) hS (Or.inl ⟨by rfl, fun W hW => by go_simp <;> with_reducible rfl⟩) ?_; simp only [Act.put, List.setIfInBounds_toArray, List.set_cons_zero, List.set_cons_succ])
    refine seqT_fork rfl rfl (fun K hK => ?_) (fun K hK => ?_)
    · go_simp
      have hbx : Below u0.heap.size u0 (u0.alloc (gtO gt0)) := (Below.refl _ _).alloc (Nat.le_refl _) _
      have L11 := hS.size
      have D11 := CBlk.new u0 gt0
      replace hS := hS.trans (hbx.mono hS.size)
      clear hbx
      obtain ⟨b11, hb11⟩ : ∃ b, u0.heap.size = b := ⟨_, rfl⟩
      obtain ⟨u1, hV⟩ : ∃ V, u0.alloc (gtO gt0) = V := ⟨_, rfl⟩
      rw [hV, hb11] at D11
      rw [hV] at hS
      rw [hb11] at L11
      rw [hV, hb11]
      clear hV hb11
      refine hK.out _ _ _ (fun W h => h) hS ?_
      clear hK K
      refine seqT_do rfl (fun K hK => ?_)
      go_simp
      have hbx : Below u1.heap.size u1 (u1.alloc (gtO gt0)) := (Below.refl _ _).alloc (Nat.le_refl _) _
      have L12 := hS.size
      have D12 := CBlk.new u1 gt0
      have N1112 := Nat.ne_of_lt D11.lt
      replace D11 := D11.bel hbx D11.lt
      replace hS := hS.trans (hbx.mono hS.size)
      clear hbx
      obtain ⟨b12, hb12⟩ : ∃ b, u1.heap.size = b := ⟨_, rfl⟩
      obtain ⟨u2, hV⟩ : ∃ V, u1.alloc (gtO gt0) = V := ⟨_, rfl⟩
      rw [hV, hb12] at D12
      rw [hV] at hS
      rw [hb12] at L12
      rw [hV] at D11
      rw [hb12] at N1112
      rw [hV, hb12]
      clear hV hb12
      refine hK.out _ _ _ (fun W h => h) hS ?_
      clear hK K
      refine seqT_do rfl (fun K hK => ?_)
      have d0 := D11.c0
      have e0 := D11.frozen 0
      have d1 := D11.c1
      have e1 := D11.frozen 1
      have d2 := D11.c2
      have e2 := D11.frozen 2
      have d3 := D11.c3
      have e3 := D11.frozen 3
      go_simp
      clear d0 e0 d1 e1 d2 e2 d3 e3
      replace hS := bel_put4 hS L11 (gn, gc, gp, gm)
      replace D12 := D12.other ((Ne.symm N1112)) (gn, gc, gp, gm)
      dsimp only [put4] at D12
      replace D11 := D11.store (gn, gc, gp, gm)
      dsimp only [put4] at hS D11
      obtain ⟨u3, hV⟩ : ∃ V, (((u2.setCell ⟨b11, 0, none⟩ (.int .i64 gn)).setCell ⟨b11, 1, none⟩ (.int .i64 gc)).setCell ⟨b11, 2, none⟩ (.bool gp)).setCell ⟨b11, 3, none⟩ (.bool gm) = V := ⟨_, rfl⟩
      rw [hV] at hS
      rw [hV] at D11
      rw [hV] at D12
      rw [hV]
      clear hV
      refine hK.out _ _ _ (fun W h => h) hS ?_
      clear hK K
      refine seqT_do rfl (fun K hK => ?_)
      have d0 := D12.c0
      have e0 := D12.frozen 0
      have d1 := D12.c1
      have e1 := D12.frozen 1
      have d2 := D12.c2
      have e2 := D12.frozen 2
      have d3 := D12.c3
      have e3 := D12.frozen 3
      go_simp
      clear d0 e0 d1 e1 d2 e2 d3 e3
      replace hS := bel_put4 hS L12 (gn, gc, gp, gm)
      replace D11 := D11.other (N1112) (gn, gc, gp, gm)
      dsimp only [put4] at D11
      replace D12 := D12.store (gn, gc, gp, gm)
      dsimp only [put4] at hS D12
      obtain ⟨u4, hV⟩ : ∃ V, (((u3.setCell ⟨b12, 0, none⟩ (.int .i64 gn)).setCell ⟨b12, 1, none⟩ (.int .i64 gc)).setCell ⟨b12, 2, none⟩ (.bool gp)).setCell ⟨b12, 3, none⟩ (.bool gm) = V := ⟨_, rfl⟩
      rw [hV] at hS
      rw [hV] at D11
      rw [hV] at D12
      rw [hV]
      clear hV
      refine hK.out _ _ _ (fun W h => h) hS ?_
      clear hK K
      refine seqT_end ?_
      go_wp2_with fail
      go_meet
      case rel => first | exact ⟨_, _, rfl, rfl, Lib.hid ⟨D11, D12, N1112, L11, L12, hS⟩⟩ | exact ⟨_, _, rfl, rfl, Lib.hid ⟨D11, D12, Ne.symm N1211, L11, L12, hS⟩⟩
    · go_simp
      have hbx : Below u0.heap.size u0 (u0.alloc (gtO gt0)) := (Below.refl _ _).alloc (Nat.le_refl _) _
      have L12 := hS.size
      have D12 := CBlk.new u0 gt0
      replace hS := hS.trans (hbx.mono hS.size)
      clear hbx
      obtain ⟨b12, hb12⟩ : ∃ b, u0.heap.size = b := ⟨_, rfl⟩
      obtain ⟨u1, hV⟩ : ∃ V, u0.alloc (gtO gt0) = V := ⟨_, rfl⟩
      rw [hV, hb12] at D12
      rw [hV] at hS
      rw [hb12] at L12
      rw [hV, hb12]
      clear hV hb12
      refine hK.out _ _ _ (fun W h => h) hS ?_
      clear hK K
      refine seqT_do rfl (fun K hK => ?_)
      go_simp
      have hbx : Below u1.heap.size u1 (u1.alloc (gtO gt0)) := (Below.refl _ _).alloc (Nat.le_refl _) _
      have L11 := hS.size
      have D11 := CBlk.new u1 gt0
      have N1211 := Nat.ne_of_lt D12.lt
      replace D12 := D12.bel hbx D12.lt
      replace hS := hS.trans (hbx.mono hS.size)
      clear hbx
      obtain ⟨b11, hb11⟩ : ∃ b, u1.heap.size = b := ⟨_, rfl⟩
      obtain ⟨u2, hV⟩ : ∃ V, u1.alloc (gtO gt0) = V := ⟨_, rfl⟩
      rw [hV, hb11] at D11
      rw [hV] at hS
      rw [hb11] at L11
      rw [hV] at D12
      rw [hb11] at N1211
      rw [hV, hb11]
      clear hV hb11
      refine hK.out _ _ _ (fun W h => h) hS ?_
      clear hK K
      refine seqT_do rfl (fun K hK => ?_)
      have d0 := D11.c0
      have e0 := D11.frozen 0
      have d1 := D11.c1
      have e1 := D11.frozen 1
      have d2 := D11.c2
      have e2 := D11.frozen 2
      have d3 := D11.c3
      have e3 := D11.frozen 3
      go_simp
      clear d0 e0 d1 e1 d2 e2 d3 e3
      replace hS := bel_put4 hS L11 (gn, gc, gp, gm)
      replace D12 := D12.other (N1211) (gn, gc, gp, gm)
      dsimp only [put4] at D12
      replace D11 := D11.store (gn, gc, gp, gm)
      dsimp only [put4] at hS D11
      obtain ⟨u3, hV⟩ : ∃ V, (((u2.setCell ⟨b11, 0, none⟩ (.int .i64 gn)).setCell ⟨b11, 1, none⟩ (.int .i64 gc)).setCell ⟨b11, 2, none⟩ (.bool gp)).setCell ⟨b11, 3, none⟩ (.bool gm) = V := ⟨_, rfl⟩
      rw [hV] at hS
      rw [hV] at D12
      rw [hV] at D11
      rw [hV]
      clear hV
      refine hK.out _ _ _ (fun W h => h) hS ?_
      clear hK K
      refine seqT_do rfl (fun K hK => ?_)
      have d0 := D12.c0
      have e0 := D12.frozen 0
      have d1 := D12.c1
      have e1 := D12.frozen 1
      have d2 := D12.c2
      have e2 := D12.frozen 2
      have d3 := D12.c3
      have e3 := D12.frozen 3
      go_simp
      clear d0 e0 d1 e1 d2 e2 d3 e3
      replace hS := bel_put4 hS L12 (gn, gc, gp, gm)
      replace D11 := D11.other ((Ne.symm N1211)) (gn, gc, gp, gm)
      dsimp only [put4] at D11
      replace D12 := D12.store (gn, gc, gp, gm)
      dsimp only [put4] at hS D12
      obtain ⟨u4, hV⟩ : ∃ V, (((u3.setCell ⟨b12, 0, none⟩ (.int .i64 gn)).setCell ⟨b12, 1, none⟩ (.int .i64 gc)).setCell ⟨b12, 2, none⟩ (.bool gp)).setCell ⟨b12, 3, none⟩ (.bool gm) = V := ⟨_, rfl⟩
      rw [hV] at hS
      rw [hV] at D12
      rw [hV] at D11
      rw [hV]
      clear hV
      refine hK.out _ _ _ (fun W h => h) hS ?_
      clear hK K
      refine seqT_end ?_
      go_wp2_with fail
      go_meet
      case rel => first | exact ⟨_, _, rfl, rfl, Lib.hid ⟨D11, D12, N1112, L11, L12, hS⟩⟩ | exact ⟨_, _, rfl, rfl, Lib.hid ⟨D11, D12, Ne.symm N1211, L11, L12, hS⟩⟩
  case rest =>
    obtain ⟨bp, bm, rfl, rfl, hc⟩ := hcut
    obtain ⟨Dp, Dm, N, L1, L2, hS⟩ := hc.out
    have e0 := Dp.frozen 2
    have e2 := Dm.frozen 3
    have d0 := Dp.c2
    have d2 := Dm.c3
    have N2 := Ne.symm N
    have HC := Lib.hid (set_both on Dp Dm N L1 L2 hS)
    have HN := Lib.hid N
    clear Dp Dm L1 L2 hS hc
    go_upto_if 37 with fail
    obtain ⟨wd, hwd⟩ : ∃ wd, (wc.setCell ⟨bp, 2, none⟩ (.bool on)).setCell ⟨bm, 3, none⟩ (.bool on) = wd := ⟨_, rfl⟩
    rw [hwd] at HC ⊢
    clear hwd e0 e2 d0 d2
    go_cut [] from 38 to 39 (fun wc => Hid (CBlk wc bp p ∧ CBlk wc bm m ∧ wu.heap.size ≤ bp ∧ wu.heap.size ≤ bm ∧ Below wu.heap.size wu wc))
    case first =>
      have e0 := HC.out.1.frozen 1
      have e2 := HC.out.2.1.frozen 1
      have d0 := HC.out.1.c1
      have d2 := HC.out.2.1.c1
      clear H3 A3 B3
      cases on with
      | true =>
        go_wp2_with fail
        go_meet
        case rel =>
          rw [← HP.out, ← HM.out]
          exact Lib.hid (set_on HC.out HN.out)
      | false =>
        clear e0 e2 d0 d2
        go_wp2_with fail
        go_meet
        case rel =>
          rw [← HP.out, ← HM.out]
          exact HC
    case rest =>
      have HB := Lib.hid hcut.out
      clear hcut HC HP HM N N2 HN
      have HW := H3.out.more HB.out.2.2.2.2
      have c0 := HW.blk.c0
      have c1 := HW.blk.c1
      have c2 := HW.blk.c2
      have c3 := HW.blk.c3
      have HX := Lib.hid (CBlk.new wc (l1, gc, gp, gm))
      have hl0 := HL0.out
      have hl1 := HL1.out
      clear HW HL0 HL1
      go_upto_region 11 with fail
      clear hl0 hl1 c0 c1 c2 c3
      obtain ⟨we, hwe⟩ : ∃ we, wc.alloc (gtO (l1, gc, gp, gm)) = we := ⟨_, rfl⟩
      have HS : Hid (Below wu.heap.size wu we ∧ CBlk we bp p ∧ CBlk we bm m ∧ CBlk we wc.heap.size (l1, gc, gp, gm)) := by
        rw [← hwe]
        have hx : Below wc.heap.size wc (wc.alloc (gtO (l1, gc, gp, gm))) := (Below.refl _ _).alloc (Nat.le_refl _) _
        exact Lib.hid ⟨HB.out.2.2.2.2.trans (hx.mono HB.out.2.2.2.2.size), HB.out.1.bel hx HB.out.1.lt, HB.out.2.1.bel hx HB.out.2.1.lt, HX.out⟩
      rw [hwe]
      clear hwe HB HX
      go_cut [14] from 45 to 50 (fun s14 wy => s14 = .bool (qui (gn, gc, gp, gm)) ∧ we = wy)
      case first =>
        have HW := H3.out.more HS.out.1
        have c2 := HW.blk.c2
        have c3 := HW.blk.c3
        clear HW H3 A3 B3 HS
        cases gp with
        | true =>
          go_wp2_with fail
          go_meet
          case rel => exact ⟨rfl, rfl⟩
        | false =>
          go_wp2_with fail
          go_meet
          case rel => exact ⟨rfl, rfl⟩
      case rest =>
        obtain ⟨rfl, rfl⟩ := hcut
        have HQ : Hid (ask (gn, gc, gp, gm) = (!qui (gn, gc, gp, gm) && (gc != gn))) := Lib.hid rfl
        obtain ⟨q, hq⟩ : ∃ q, qui (gn, gc, gp, gm) = q := ⟨_, rfl⟩
        rw [hq] at HQ C6
        rw [HQ.out] at C7
        rw [hq]
        clear hq HQ
        go_upto_region 12 with fail
        have HG := Lib.hid (H3.out.more HS.out.1)
        have HA := Lib.hid (A3.out.more HS.out.1)
        have HB := Lib.hid (B3.out.more HS.out.1)
        have HS2 := Lib.hid HS.out.2
        have K1 := eq_same a
        have K2 := eq_same p
        have K3 := eq_same m
        have K4 := eq_same (l1, gc, gp, gm)
        have K5 := eq_same r
        clear H3 A3 B3 HS
        have g0 : ∀ W, Below we.heap.size we W → W.cell? ⟨w.heap.size, 0, none⟩ = some (.int .i64 gn) := fun W hW => (HG.out.more hW).blk.c0
        have g1 : ∀ W, Below we.heap.size we W → W.cell? ⟨w.heap.size, 1, none⟩ = some (.int .i64 gc) := fun W hW => (HG.out.more hW).blk.c1
        have g2 : ∀ W, Below we.heap.size we W → W.cell? ⟨w.heap.size, 2, none⟩ = some (.bool gp) := fun W hW => (HG.out.more hW).blk.c2
        have g3 : ∀ W, Below we.heap.size we W → W.cell? ⟨w.heap.size, 3, none⟩ = some (.bool gm) := fun W hW => (HG.out.more hW).blk.c3
        have a0 : ∀ W, Below we.heap.size we W → W.cell? ⟨w2.heap.size, 0, none⟩ = some (.int .i64 a.1) := fun W hW => ((HA.out.more hW).blk).c0
        have a1 : ∀ W, Below we.heap.size we W → W.cell? ⟨w2.heap.size, 1, none⟩ = some (.int .i64 a.2.1) := fun W hW => ((HA.out.more hW).blk).c1
        have a2 : ∀ W, Below we.heap.size we W → W.cell? ⟨w2.heap.size, 2, none⟩ = some (.bool a.2.2.1) := fun W hW => ((HA.out.more hW).blk).c2
        have a3 : ∀ W, Below we.heap.size we W → W.cell? ⟨w2.heap.size, 3, none⟩ = some (.bool a.2.2.2) := fun W hW => ((HA.out.more hW).blk).c3
        have b0 : ∀ W, Below we.heap.size we W → W.cell? ⟨w3.heap.size, 0, none⟩ = some (.int .i64 a.1) := fun W hW => ((HB.out.more hW).blk).c0
        have b1 : ∀ W, Below we.heap.size we W → W.cell? ⟨w3.heap.size, 1, none⟩ = some (.int .i64 a.2.1) := fun W hW => ((HB.out.more hW).blk).c1
        have b2 : ∀ W, Below we.heap.size we W → W.cell? ⟨w3.heap.size, 2, none⟩ = some (.bool a.2.2.1) := fun W hW => ((HB.out.more hW).blk).c2
        have b3 : ∀ W, Below we.heap.size we W → W.cell? ⟨w3.heap.size, 3, none⟩ = some (.bool a.2.2.2) := fun W hW => ((HB.out.more hW).blk).c3
        have p0 : ∀ W, Below we.heap.size we W → W.cell? ⟨bp, 0, none⟩ = some (.int .i64 p.1) := fun W hW => (HS2.out.1.bel hW HS2.out.1.lt).c0
        have p1 : ∀ W, Below we.heap.size we W → W.cell? ⟨bp, 1, none⟩ = some (.int .i64 p.2.1) := fun W hW => (HS2.out.1.bel hW HS2.out.1.lt).c1
        have p2 : ∀ W, Below we.heap.size we W → W.cell? ⟨bp, 2, none⟩ = some (.bool p.2.2.1) := fun W hW => (HS2.out.1.bel hW HS2.out.1.lt).c2
        have p3 : ∀ W, Below we.heap.size we W → W.cell? ⟨bp, 3, none⟩ = some (.bool p.2.2.2) := fun W hW => (HS2.out.1.bel hW HS2.out.1.lt).c3
        have m0 : ∀ W, Below we.heap.size we W → W.cell? ⟨bm, 0, none⟩ = some (.int .i64 m.1) := fun W hW => (HS2.out.2.1.bel hW HS2.out.2.1.lt).c0
        have m1 : ∀ W, Below we.heap.size we W → W.cell? ⟨bm, 1, none⟩ = some (.int .i64 m.2.1) := fun W hW => (HS2.out.2.1.bel hW HS2.out.2.1.lt).c1
        have m2 : ∀ W, Below we.heap.size we W → W.cell? ⟨bm, 2, none⟩ = some (.bool m.2.2.1) := fun W hW => (HS2.out.2.1.bel hW HS2.out.2.1.lt).c2
        have m3 : ∀ W, Below we.heap.size we W → W.cell? ⟨bm, 3, none⟩ = some (.bool m.2.2.2) := fun W hW => (HS2.out.2.1.bel hW HS2.out.2.1.lt).c3
        have x0 : ∀ W, Below we.heap.size we W → W.cell? ⟨wc.heap.size, 0, none⟩ = some (.int .i64 l1) := fun W hW => (HS2.out.2.2.bel hW HS2.out.2.2.lt).c0
        have x1 : ∀ W, Below we.heap.size we W → W.cell? ⟨wc.heap.size, 1, none⟩ = some (.int .i64 gc) := fun W hW => (HS2.out.2.2.bel hW HS2.out.2.2.lt).c1
        have x2 : ∀ W, Below we.heap.size we W → W.cell? ⟨wc.heap.size, 2, none⟩ = some (.bool gp) := fun W hW => (HS2.out.2.2.bel hW HS2.out.2.2.lt).c2
        have x3 : ∀ W, Below we.heap.size we W → W.cell? ⟨wc.heap.size, 3, none⟩ = some (.bool gm) := fun W hW => (HS2.out.2.2.bel hW HS2.out.2.2.lt).c3
        have hS : Below we.heap.size we we.drew := (Below.refl _ _).drew
        cases q with
        | true =>
          refine region_seq (Below we.heap.size we) [(0, false), (1, false), (2, false), (3, false), (4, false), (5, false), (6, false), (7, false), (8, false), (9, false), (10, false), (12, false), (11, true), (13, false), (14, false), (15, false), (16, false), (17, false), (19, false), (18, true), (20, false), (21, false), (22, false), (23, false), (24, false), (26, false), (25, true), (27, false), (28, false), (29, false), (30, false), (32, false), (31, true), (33, false), (34, false), (35, false), (36, false), (38, false), (39, false), (37, true), (40, false), (41, false), (42, false), (43, false), (44, false), (45, false), (46, false), (47, false), (48, false), (49, false), (50, false), (52, false), (51, true), (53, true), (54, false), (55, false), (56, false)] (by kernel_rfl) (by kernel_rfl) rfl (by kernel_rfl) ?_
          iterate 12 (refine seq_read (v := _) rfl (fun _ _ _ h => h) hS (Or.inl ⟨by rfl, fun W hW => by go_simp <;> with_reducible rfl⟩) ?_; simp only [Act.put, List.setIfInBounds_toArray, List.set_cons_zero, List.set_cons_succ])
          refine seq_do rfl (fun K hK => ?_)
          go_simp
          refine (C3.out _).mono ?_
          rintro e v1 ⟨rfl, hb⟩
          replace hS : Below we.heap.size we v1 := hS.trans (hb.mono hS.size)
          refine hK.out _ _ _ (fun W h => h) hS ?_
          clear hK K hb
          iterate 6 (refine seq_read (v := _) rfl (fun _ _ _ h => h) hS (Or.inl ⟨by rfl, fun W hW => by go_simp <;> with_reducible rfl⟩) ?_; simp only [Act.put, List.setIfInBounds_toArray, List.set_cons_zero, List.set_cons_succ])
          refine seq_do rfl (fun K hK => ?_)
          go_simp
          refine (C4.out _).mono ?_
          rintro e v2 ⟨rfl, hb⟩
          replace hS : Below we.heap.size we v2 := hS.trans (hb.mono hS.size)
          refine hK.out _ _ _ (fun W h => h) hS ?_
          clear hK K hb
          iterate 6 (refine seq_read (v := _) rfl (fun _ _ _ h => h) hS (Or.inl ⟨by rfl, fun W hW => by go_simp <;> with_reducible rfl⟩) ?_; simp only [Act.put, List.setIfInBounds_toArray, List.set_cons_zero, List.set_cons_succ])
          refine seq_do rfl (fun K hK => ?_)
          go_simp
          refine (C5.out _).mono ?_
          rintro e v3 ⟨rfl, hb⟩
          replace hS : Below we.heap.size we v3 := hS.trans (hb.mono hS.size)
          refine hK.out _ _ _ (fun W h => h) hS ?_
          clear hK K hb
          iterate 5 (refine seq_read (v := _) rfl (fun _ _ _ h => h) hS (Or.inl ⟨by rfl, fun W hW => by go_simp <;> with_reducible rfl⟩) ?_; simp only [Act.put, List.setIfInBounds_toArray, List.set_cons_zero, List.set_cons_succ])
          refine seq_do rfl (fun K hK => ?_)
          go_simp
          refine (C6.out _).mono ?_
          rintro e v4 ⟨rfl, hb⟩
          replace hS : Below we.heap.size we v4 := hS.trans (hb.mono hS.size)
          refine hK.out _ _ _ (fun W h => h) hS ?_
          clear hK K hb
          iterate 6 (refine seq_read (v := _) rfl (fun _ _ _ h => h) hS (Or.inl ⟨by rfl, fun W hW => by go_simp <;> with_reducible rfl⟩) ?_; simp only [Act.put, List.setIfInBounds_toArray, List.set_cons_zero, List.set_cons_succ])
          refine seq_do rfl (fun K hK => ?_)
          go_simp
          refine (C7.out _).mono ?_
          rintro e v5 ⟨rfl, hb⟩
          replace hS : Below we.heap.size we v5 := hS.trans (hb.mono hS.size)
          refine hK.out _ _ _ (fun W h => h) hS ?_
          clear hK K hb
          iterate 1 (refine seq_read (v := _) rfl (fun _ _ _ h => h) hS (Or.inl ⟨by rfl, fun W hW => by go_simp <;> with_reducible rfl⟩) ?_; simp only [Act.put, List.setIfInBounds_toArray, List.set_cons_zero, List.set_cons_succ])
          iterate 5 (refine seq_read (v := undef) rfl (fun _ _ _ h => h) hS (Or.inr ⟨by rfl, rfl⟩) ?_; simp only [Act.put, List.setIfInBounds_toArray, List.set_cons_zero, List.set_cons_succ])
          iterate 6 (refine seq_read (v := _) rfl (fun _ _ _ h => h) hS (Or.inl ⟨by rfl, fun W hW => by go_simp <;> with_reducible rfl⟩) ?_; simp only [Act.put, List.setIfInBounds_toArray, List.set_cons_zero, List.set_cons_succ])
          refine seq_do rfl (fun K hK => ?_)
          go_simp
          refine (C8.out _).mono ?_
          rintro e v6 ⟨rfl, hb⟩
          replace hS : Below we.heap.size we v6 := hS.trans (hb.mono hS.size)
          refine hK.out _ _ _ (fun W h => h) hS ?_
          clear hK K hb
          refine seq_do rfl (fun K hK => ?_)
          go_simp
          refine (C9.out _).mono ?_
          rintro e v7 ⟨rfl, hb⟩
          replace hS : Below we.heap.size we v7 := hS.trans (hb.mono hS.size)
          refine hK.out _ _ _ (fun W h => h) hS ?_
          clear hK K hb
          iterate 3 (refine seq_read (v := _) rfl (fun _ _ _ h => h) hS (Or.inl ⟨by rfl, fun W hW => by go_simp <;> with_reducible rfl⟩) ?_; simp only [Act.put, List.setIfInBounds_toArray, List.set_cons_zero, List.set_cons_succ])
          refine seq_end ?_
          have H7 := Lib.hid (HG.out.more hS)
          clear g0 g1 g2 g3 a0 a1 a2 a3 b0 b1 b2 b3 p0 p1 p2 p3 m0 m1 m2 m3 x0 x1 x2 x3
          go_wp2
          go_ret
          exact ⟨rfl, H7.out.bel⟩
        | false =>
          refine region_seq (Below we.heap.size we) [(0, false), (1, false), (2, false), (3, false), (4, false), (5, false), (6, false), (7, false), (8, false), (9, false), (10, false), (12, false), (11, true), (13, false), (14, false), (15, false), (16, false), (17, false), (19, false), (18, true), (20, false), (21, false), (22, false), (23, false), (24, false), (26, false), (25, true), (27, false), (28, false), (29, false), (30, false), (32, false), (31, true), (33, false), (34, false), (35, false), (36, false), (38, false), (39, false), (37, true), (40, false), (41, false), (42, false), (43, false), (44, false), (45, false), (46, false), (47, false), (48, false), (49, false), (50, false), (52, false), (51, true), (53, true), (54, false), (55, false), (56, false)] (by kernel_rfl) (by kernel_rfl) rfl (by kernel_rfl) ?_
          iterate 12 (refine seq_read (v := _) rfl (fun _ _ _ h => h) hS (Or.inl ⟨by rfl, fun W hW => by go_simp <;> with_reducible rfl⟩) ?_; simp only [Act.put, List.setIfInBounds_toArray, List.set_cons_zero, List.set_cons_succ])
          refine seq_do rfl (fun K hK => ?_)
          go_simp
          refine (C3.out _).mono ?_
          rintro e v1 ⟨rfl, hb⟩
          replace hS : Below we.heap.size we v1 := hS.trans (hb.mono hS.size)
          refine hK.out _ _ _ (fun W h => h) hS ?_
          clear hK K hb
          iterate 6 (refine seq_read (v := _) rfl (fun _ _ _ h => h) hS (Or.inl ⟨by rfl, fun W hW => by go_simp <;> with_reducible rfl⟩) ?_; simp only [Act.put, List.setIfInBounds_toArray, List.set_cons_zero, List.set_cons_succ])
          refine seq_do rfl (fun K hK => ?_)
          go_simp
          refine (C4.out _).mono ?_
          rintro e v2 ⟨rfl, hb⟩
          replace hS : Below we.heap.size we v2 := hS.trans (hb.mono hS.size)
          refine hK.out _ _ _ (fun W h => h) hS ?_
          clear hK K hb
          iterate 6 (refine seq_read (v := _) rfl (fun _ _ _ h => h) hS (Or.inl ⟨by rfl, fun W hW => by go_simp <;> with_reducible rfl⟩) ?_; simp only [Act.put, List.setIfInBounds_toArray, List.set_cons_zero, List.set_cons_succ])
          refine seq_do rfl (fun K hK => ?_)
          go_simp
          refine (C5.out _).mono ?_
          rintro e v3 ⟨rfl, hb⟩
          replace hS : Below we.heap.size we v3 := hS.trans (hb.mono hS.size)
          refine hK.out _ _ _ (fun W h => h) hS ?_
          clear hK K hb
          iterate 5 (refine seq_read (v := _) rfl (fun _ _ _ h => h) hS (Or.inl ⟨by rfl, fun W hW => by go_simp <;> with_reducible rfl⟩) ?_; simp only [Act.put, List.setIfInBounds_toArray, List.set_cons_zero, List.set_cons_succ])
          refine seq_do rfl (fun K hK => ?_)
          go_simp
          refine (C6.out _).mono ?_
          rintro e v4 ⟨rfl, hb⟩
          replace hS : Below we.heap.size we v4 := hS.trans (hb.mono hS.size)
          refine hK.out _ _ _ (fun W h => h) hS ?_
          clear hK K hb
          iterate 6 (refine seq_read (v := _) rfl (fun _ _ _ h => h) hS (Or.inl ⟨by rfl, fun W hW => by go_simp <;> with_reducible rfl⟩) ?_; simp only [Act.put, List.setIfInBounds_toArray, List.set_cons_zero, List.set_cons_succ])
          refine seq_do rfl (fun K hK => ?_)
          go_simp
          refine (C7.out _).mono ?_
          rintro e v5 ⟨rfl, hb⟩
          replace hS : Below we.heap.size we v5 := hS.trans (hb.mono hS.size)
          refine hK.out _ _ _ (fun W h => h) hS ?_
          clear hK K hb
          iterate 1 (refine seq_read (v := _) rfl (fun _ _ _ h => h) hS (Or.inl ⟨by rfl, fun W hW => by go_simp <;> with_reducible rfl⟩) ?_; simp only [Act.put, List.setIfInBounds_toArray, List.set_cons_zero, List.set_cons_succ])
          iterate 5 (refine seq_read (v := _) rfl (fun _ _ _ h => h) hS (Or.inl ⟨by rfl, fun W hW => by go_simp <;> with_reducible rfl⟩) ?_; simp only [Act.put, List.setIfInBounds_toArray, List.set_cons_zero, List.set_cons_succ])
          iterate 6 (refine seq_read (v := _) rfl (fun _ _ _ h => h) hS (Or.inl ⟨by rfl, fun W hW => by go_simp <;> with_reducible rfl⟩) ?_; simp only [Act.put, List.setIfInBounds_toArray, List.set_cons_zero, List.set_cons_succ])
          refine seq_do rfl (fun K hK => ?_)
          go_simp
          refine (C8.out _).mono ?_
          rintro e v6 ⟨rfl, hb⟩
          replace hS : Below we.heap.size we v6 := hS.trans (hb.mono hS.size)
          refine hK.out _ _ _ (fun W h => h) hS ?_
          clear hK K hb
          refine seq_do rfl (fun K hK => ?_)
          go_simp
          refine (C9.out _).mono ?_
          rintro e v7 ⟨rfl, hb⟩
          replace hS : Below we.heap.size we v7 := hS.trans (hb.mono hS.size)
          refine hK.out _ _ _ (fun W h => h) hS ?_
          clear hK K hb
          iterate 3 (refine seq_read (v := _) rfl (fun _ _ _ h => h) hS (Or.inl ⟨by rfl, fun W hW => by go_simp <;> with_reducible rfl⟩) ?_; simp only [Act.put, List.setIfInBounds_toArray, List.set_cons_zero, List.set_cons_succ])
          refine seq_end ?_
          have H7 := Lib.hid (HG.out.more hS)
          clear g0 g1 g2 g3 a0 a1 a2 a3 b0 b1 b2 b3 p0 p1 p2 p3 m0 m1 m2 m3 x0 x1 x2 x3
          go_wp2
          go_ret
          exact ⟨rfl, H7.out.bel⟩
end Go.Proofs.Ytmnkeogfklbjgaa.Gat
