/- GateQuiet walked. -/
import Derived.Test.YtmnkeogfklbjgaaJp
import Derived.Test.YtmnkeogfklbjgaaXi
import Derived.Test.YtmnkeogfklbjgaaFl
import Derived.Deep.CutBlock
set_option maxRecDepth 100000
namespace Go.Proofs.Ytmnkeogfklbjgaa.Gat
open Go.RowKit
set_option linter.unusedVariables false

theorem tke_qui {d : Gt} (h : qui d = true) (l : Int) (k : Bool) : tke d l k = (d, 4) := by unfold tke; rw [if_pos h]
theorem tke_key {n : Int} (h : 0 ≤ n) : tke (n, -1, false, false) n true = ((n, n, false, false), 2) := by
  unfold tke
  rw [if_neg (by simp [qui]), if_pos ⟨rfl, rfl, by show (-1 : Int) ≠ n; omega⟩]
theorem tke_not {n l : Int} {k : Bool} (h : 0 ≤ l) (hn : ¬(k = true ∧ l = n)) : tke (n, -1, false, false) l k = ((n, -1, false, false), 3) := by
  unfold tke
  rw [if_neg (by simp [qui]), if_neg (fun h => hn ⟨h.1, h.2.1⟩), if_neg (by show ¬ l = -1; omega)]
set_option maxHeartbeats 4000000 in
theorem quiets_any (w : World) (g : Gt) (ad : Option Addr) (m cap : Nat) (xs : List Int) (kd : Option Addr) (mk kcap : Nat) (ks : List Bool) (mute : Bool) (hr : RowRd i64L w w.heap.size ad m xs) (hk : RowRd Opn.boolL w w.heap.size kd mk ks) :
    Calls Try.prog 5 #[gtV g, .slice ad m cap, .slice kd mk kcap, .bool mute] w fun e w' => e = .returned (.bool true) ∧ Below w.heap.size w w' := by
  have CS := Lib.hid (fun W => shown_any W)
  have C1 := Lib.hid (fun W => mute_any W g true)
  have C2 := Lib.hid (fun W => pause_any W g true)
  have HR := Lib.hid hr
  have HK := Lib.hid hk
  obtain ⟨n, gc, gp, gm⟩ := g
  rw [show mte (n, gc, gp, gm) true = (n, -1, gp, true) from rfl] at C1
  rw [show pse (n, gc, gp, gm) true = (n, -1, true, gm) from rfl] at C2
  have H0 : Hid (Cur w (w.alloc (gtO (n, gc, gp, gm))) w.heap.size (n, gc, gp, gm)) := Lib.hid ⟨CBlk.new w _, (Below.refl _ _).alloc (Nat.le_refl _) _, Nat.le_refl _⟩
  clear hr hk
  go_enter Try.func5, Try.ntmps5
  go_wp2_with fail
  refine (CS.out _).mono ?_
  rintro e w1 ⟨rfl, hb⟩
  have H1 := Lib.hid (H0.out.more hb)
  clear hb H0 CS
  go_upto_if 18 with fail
  go_cut [] from 19 to 22 (fun wc => ∃ p q, Hid (Cur w wc w.heap.size (n, -1, p, q)) ∧ Hid (qui (n, -1, p, q) = true))
  case first =>
    have c0 := H1.out.blk.c0
    have c1 := H1.out.blk.c1
    have c2 := H1.out.blk.c2
    have c3 := H1.out.blk.c3
    cases mute with
    | true =>
      go_wp2_with fail
      refine (C1.out _).mono ?_
      rintro e w2 ⟨rfl, hb⟩
      have h := H1.out.more hb
      clear c0 c1 c2 c3 hb C1 C2 H1 HR HK
      have c0 := h.blk.c0
      have c1 := h.blk.c1
      have c2 := h.blk.c2
      have c3 := h.blk.c3
      have e0 := h.blk.frozen 0
      have e1 := h.blk.frozen 1
      have e2 := h.blk.frozen 2
      have e3 := h.blk.frozen 3
      have H2 := h.put (n, -1, gp, true)
      dsimp only [put4] at H2
      have H2 := Lib.hid H2
      clear h
      go_wp2_with fail
      go_meet
      case rel => exact ⟨gp, true, H2, Lib.hid (by cases gp <;> rfl)⟩
    | false =>
      go_wp2_with fail
      refine (C2.out _).mono ?_
      rintro e w2 ⟨rfl, hb⟩
      have h := H1.out.more hb
      clear c0 c1 c2 c3 hb C1 C2 H1 HR HK
      have c0 := h.blk.c0
      have c1 := h.blk.c1
      have c2 := h.blk.c2
      have c3 := h.blk.c3
      have e0 := h.blk.frozen 0
      have e1 := h.blk.frozen 1
      have e2 := h.blk.frozen 2
      have e3 := h.blk.frozen 3
      have H2 := h.put (n, -1, true, gm)
      dsimp only [put4] at H2
      have H2 := Lib.hid H2
      clear h
      go_wp2_with fail
      go_meet
      case rel => exact ⟨true, gm, H2, Lib.hid (by cases gm <;> rfl)⟩
  case rest =>
    obtain ⟨p, q, hy, hq⟩ := hcut
    clear H1 C1 C2
    go_upto_block 0 with fail
    obtain ⟨d, hd⟩ : ∃ d : Gt, (n, -1, p, q) = d := ⟨_, rfl⟩
    rw [hd] at hy hq
    have HE := Lib.hid hd
    clear hd
    go_cut [9, 10, 11] from 23 to 58 (fun _ _ _ wd => Hid (Cur w wd w.heap.size d))
    case first =>
      have KE := neq_same d
      go_wp2_with fail
      go_loopw [9] (fun s9 wx => ∃ i : Nat, i ≤ m ∧ i ≤ 50 ∧ s9 = .int .i64 i ∧ Hid (Cur w wx w.heap.size d)) (fun s9 _ => m - (intOf s9).toNat)
      case atStart => exact ⟨0, by omega, by omega, rfl, hy⟩
      case round =>
        obtain ⟨k, hkm, hk1, rfl, hz⟩ := hrel
        rename World => wx
        clear hy
        by_cases h1 : k < m
        · have hd1 : decide (k < m) = true := by simp; exact h1
          by_cases h2 : k < 50
          · have hd2 : decide ((k : Int) < 50) = true := by simp; omega
            obtain ⟨tb, toff, l, rfl, htb, hl, t0⟩ := i64_at HR.out h1
            have TB := Lib.hid (fun (W : World) (hW : Below w.heap.size w W) => (hW.cell (p := ⟨tb, toff + k, none⟩) htb).trans t0)
            clear t0 hl
            go_upto_region 9 with fail
            go_cut [10, 11] from 23 to 58 (fun s10 s11 wc => ∃ b, s10 = .pointer (some ⟨b, 0, none⟩) ∧ s11 = .int .i64 4 ∧ Hid (CBlk wc b d ∧ Below wx.heap.size wx wc))
            case first =>
              have f0 : ∀ W, Below wx.heap.size wx W → W.cell? ⟨w.heap.size, 0, none⟩ = some (.int .i64 d.1) := fun W hW => ((hz.out.more hW).blk).c0
              have f1 : ∀ W, Below wx.heap.size wx W → W.cell? ⟨w.heap.size, 1, none⟩ = some (.int .i64 d.2.1) := fun W hW => ((hz.out.more hW).blk).c1
              have f2 : ∀ W, Below wx.heap.size wx W → W.cell? ⟨w.heap.size, 2, none⟩ = some (.bool d.2.2.1) := fun W hW => ((hz.out.more hW).blk).c2
              have f3 : ∀ W, Below wx.heap.size wx W → W.cell? ⟨w.heap.size, 3, none⟩ = some (.bool d.2.2.2) := fun W hW => ((hz.out.more hW).blk).c3
              have f4 : ∀ W, Below wx.heap.size wx W → W.cell? ⟨tb, toff + k, none⟩ = some (.int .i64 l) := fun W hW => TB.out W (hz.out.more hW).bel
              by_cases h3 : k < mk
              · have hd3 : decide (k < mk) = true := by simp; exact h3
                obtain ⟨sb, soff, key, rfl, hsb, hkey, t1⟩ := Opn.bool_at HK.out h3
                have f5 : ∀ W, Below wx.heap.size wx W → W.cell? ⟨sb, soff + k, none⟩ = some (.bool key) := fun W hW => ((hz.out.more hW).bel.cell (p := ⟨sb, soff + k, none⟩) hsb).trans t1
                have C1 := Lib.hid (fun W => take_any W d l key)
                rw [tke_qui hq.out] at C1
                clear hkey t1
                have hS : Below wx.heap.size wx wx.drew := (Below.refl _ _).drew
                refine region_tree (Below wx.heap.size wx) (.rd 0 (.rd 1 (.rd 2 (.rd 3 (.rd 4 (.rd 5 (.rd 6 (.rd 7 (.rd 8 (.rd 9 (.rd 10 (.rd 11 (.rd 12 (.rd 13 (.rd 14 (.fk 15 19 (.rd 16 (.rd 17 (.rd 18 (.dn 19 (.dn 20 (.rd 21 .nil)))))) (.dn 15 (.rd 16 (.rd 17 (.rd 18 (.dn 20 (.rd 21 .nil)))))))))))))))))))))) (by kernel_rfl) (by kernel_rfl) rfl (by kernel_rfl) ?_
                obtain ⟨u0, hu0⟩ : ∃ u0, wx.drew = u0 := ⟨_, rfl⟩
                rw [hu0] at hS ⊢
                clear hu0
                iterate 15 (refine seqT_read (v := _) rfl (fun _ _ _ h => h) hS (Or.inl ⟨by rfl, fun W hW => by go_simp <;> with_reducible rfl⟩) ?_; simp only [Act.put, List.setIfInBounds_toArray, List.set_cons_zero, List.set_cons_succ])
                refine seqT_fork rfl rfl (fun K hK => ?_) (fun K hK => ?_)
                · go_simp
                  refine (C1.out _).mono ?_
                  rintro e u1 ⟨rfl, hb⟩
                  replace hS := hS.trans (hb.mono hS.size)
                  refine hK.out _ _ _ (fun W h => h) hS ?_
                  clear hK K hb
                  iterate 3 (refine seqT_read (v := _) rfl (fun _ _ _ h => h) hS (Or.inl ⟨by rfl, fun W hW => by go_simp <;> with_reducible rfl⟩) ?_; simp only [Act.put, List.setIfInBounds_toArray, List.set_cons_zero, List.set_cons_succ])
                  refine seqT_do rfl (fun K hK => ?_)
                  go_simp
                  have hbx : Below u1.heap.size u1 (u1.alloc (gtO gt0)) := (Below.refl _ _).alloc (Nat.le_refl _) _
                  have L10 := hS.size
                  have D10 := CBlk.new u1 gt0
                  replace hS := hS.trans (hbx.mono hS.size)
                  clear hbx
                  obtain ⟨b10, hb10⟩ : ∃ b, u1.heap.size = b := ⟨_, rfl⟩
                  obtain ⟨u2, hV⟩ : ∃ V, u1.alloc (gtO gt0) = V := ⟨_, rfl⟩
                  rw [hV, hb10] at D10
                  rw [hV] at hS
                  rw [hb10] at L10
                  rw [hV, hb10]
                  clear hV hb10
                  refine hK.out _ _ _ (fun W h => h) hS ?_
                  clear hK K
                  refine seqT_do rfl (fun K hK => ?_)
                  have d0 := D10.c0
                  have e0 := D10.frozen 0
                  have d1 := D10.c1
                  have e1 := D10.frozen 1
                  have d2 := D10.c2
                  have e2 := D10.frozen 2
                  have d3 := D10.c3
                  have e3 := D10.frozen 3
                  go_simp
                  clear d0 e0 d1 e1 d2 e2 d3 e3
                  replace hS := bel_put4 hS L10 d
                  replace D10 := D10.store d
                  dsimp only [put4] at hS D10
                  obtain ⟨u3, hV⟩ : ∃ V, (((u2.setCell ⟨b10, 0, none⟩ (.int .i64 d.1)).setCell ⟨b10, 1, none⟩ (.int .i64 d.2.1)).setCell ⟨b10, 2, none⟩ (.bool d.2.2.1)).setCell ⟨b10, 3, none⟩ (.bool d.2.2.2) = V := ⟨_, rfl⟩
                  rw [hV] at hS
                  rw [hV] at D10
                  rw [hV]
                  clear hV
                  refine hK.out _ _ _ (fun W h => h) hS ?_
                  clear hK K
                  iterate 1 (refine seqT_read (v := _) rfl (fun _ _ _ h => h) hS (Or.inl ⟨by rfl, fun W hW => by go_simp <;> with_reducible rfl⟩) ?_; simp only [Act.put, List.setIfInBounds_toArray, List.set_cons_zero, List.set_cons_succ])
                  refine seqT_end ?_
                  go_wp2_with fail
                  go_meet
                  case rel => exact ⟨_, rfl, rfl, Lib.hid ⟨D10, hS⟩⟩
                · go_simp
                  have hbx : Below u0.heap.size u0 (u0.alloc (gtO gt0)) := (Below.refl _ _).alloc (Nat.le_refl _) _
                  have L10 := hS.size
                  have D10 := CBlk.new u0 gt0
                  replace hS := hS.trans (hbx.mono hS.size)
                  clear hbx
                  obtain ⟨b10, hb10⟩ : ∃ b, u0.heap.size = b := ⟨_, rfl⟩
                  obtain ⟨u1, hV⟩ : ∃ V, u0.alloc (gtO gt0) = V := ⟨_, rfl⟩
                  rw [hV, hb10] at D10
                  rw [hV] at hS
                  rw [hb10] at L10
                  rw [hV, hb10]
                  clear hV hb10
                  refine hK.out _ _ _ (fun W h => h) hS ?_
                  clear hK K
                  refine seqT_do rfl (fun K hK => ?_)
                  go_simp
                  refine (C1.out _).mono ?_
                  rintro e u2 ⟨rfl, hb⟩
                  replace hS := hS.trans (hb.mono hS.size)
                  replace D10 := D10.bel hb D10.lt
                  refine hK.out _ _ _ (fun W h => h) hS ?_
                  clear hK K hb
                  iterate 3 (refine seqT_read (v := _) rfl (fun _ _ _ h => h) hS (Or.inl ⟨by rfl, fun W hW => by go_simp <;> with_reducible rfl⟩) ?_; simp only [Act.put, List.setIfInBounds_toArray, List.set_cons_zero, List.set_cons_succ])
                  refine seqT_do rfl (fun K hK => ?_)
                  have d0 := D10.c0
                  have e0 := D10.frozen 0
                  have d1 := D10.c1
                  have e1 := D10.frozen 1
                  have d2 := D10.c2
                  have e2 := D10.frozen 2
                  have d3 := D10.c3
                  have e3 := D10.frozen 3
                  go_simp
                  clear d0 e0 d1 e1 d2 e2 d3 e3
                  replace hS := bel_put4 hS L10 d
                  replace D10 := D10.store d
                  dsimp only [put4] at hS D10
                  obtain ⟨u3, hV⟩ : ∃ V, (((u2.setCell ⟨b10, 0, none⟩ (.int .i64 d.1)).setCell ⟨b10, 1, none⟩ (.int .i64 d.2.1)).setCell ⟨b10, 2, none⟩ (.bool d.2.2.1)).setCell ⟨b10, 3, none⟩ (.bool d.2.2.2) = V := ⟨_, rfl⟩
                  rw [hV] at hS
                  rw [hV] at D10
                  rw [hV]
                  clear hV
                  refine hK.out _ _ _ (fun W h => h) hS ?_
                  clear hK K
                  iterate 1 (refine seqT_read (v := _) rfl (fun _ _ _ h => h) hS (Or.inl ⟨by rfl, fun W hW => by go_simp <;> with_reducible rfl⟩) ?_; simp only [Act.put, List.setIfInBounds_toArray, List.set_cons_zero, List.set_cons_succ])
                  refine seqT_end ?_
                  go_wp2_with fail
                  go_meet
                  case rel => exact ⟨_, rfl, rfl, Lib.hid ⟨D10, hS⟩⟩
              · have hd3 : decide (k < mk) = false := by simpa using h3
                have C1 := Lib.hid (fun W => take_any W d l false)
                rw [tke_qui hq.out] at C1
                have hS : Below wx.heap.size wx wx.drew := (Below.refl _ _).drew
                refine region_tree (Below wx.heap.size wx) (.rd 0 (.rd 1 (.rd 2 (.rd 3 (.rd 4 (.rd 5 (.rd 6 (.rd 7 (.rd 8 (.rd 9 (.rd 10 (.rd 11 (.rd 12 (.rd 13 (.rd 14 (.fk 15 19 (.rd 16 (.rd 17 (.rd 18 (.dn 19 (.dn 20 (.rd 21 .nil)))))) (.dn 15 (.rd 16 (.rd 17 (.rd 18 (.dn 20 (.rd 21 .nil)))))))))))))))))))))) (by kernel_rfl) (by kernel_rfl) rfl (by kernel_rfl) ?_
                obtain ⟨u0, hu0⟩ : ∃ u0, wx.drew = u0 := ⟨_, rfl⟩
                rw [hu0] at hS ⊢
                clear hu0
                iterate 10 (refine seqT_read (v := _) rfl (fun _ _ _ h => h) hS (Or.inl ⟨by rfl, fun W hW => by go_simp <;> with_reducible rfl⟩) ?_; simp only [Act.put, List.setIfInBounds_toArray, List.set_cons_zero, List.set_cons_succ])
                iterate 4 (refine seqT_read (v := undef) rfl (fun _ _ _ h => h) hS (Or.inr ⟨by rfl, rfl⟩) ?_; simp only [Act.put, List.setIfInBounds_toArray, List.set_cons_zero, List.set_cons_succ])
                iterate 1 (refine seqT_read (v := _) rfl (fun _ _ _ h => h) hS (Or.inl ⟨by rfl, fun W hW => by go_simp <;> with_reducible rfl⟩) ?_; simp only [Act.put, List.setIfInBounds_toArray, List.set_cons_zero, List.set_cons_succ])
                refine seqT_fork rfl rfl (fun K hK => ?_) (fun K hK => ?_)
                · go_simp
                  refine (C1.out _).mono ?_
                  rintro e u1 ⟨rfl, hb⟩
                  replace hS := hS.trans (hb.mono hS.size)
                  refine hK.out _ _ _ (fun W h => h) hS ?_
                  clear hK K hb
                  iterate 3 (refine seqT_read (v := _) rfl (fun _ _ _ h => h) hS (Or.inl ⟨by rfl, fun W hW => by go_simp <;> with_reducible rfl⟩) ?_; simp only [Act.put, List.setIfInBounds_toArray, List.set_cons_zero, List.set_cons_succ])
                  refine seqT_do rfl (fun K hK => ?_)
                  go_simp
                  have hbx : Below u1.heap.size u1 (u1.alloc (gtO gt0)) := (Below.refl _ _).alloc (Nat.le_refl _) _
                  have L10 := hS.size
                  have D10 := CBlk.new u1 gt0
                  replace hS := hS.trans (hbx.mono hS.size)
                  clear hbx
                  obtain ⟨b10, hb10⟩ : ∃ b, u1.heap.size = b := ⟨_, rfl⟩
                  obtain ⟨u2, hV⟩ : ∃ V, u1.alloc (gtO gt0) = V := ⟨_, rfl⟩
                  rw [hV, hb10] at D10
                  rw [hV] at hS
                  rw [hb10] at L10
                  rw [hV, hb10]
                  clear hV hb10
                  refine hK.out _ _ _ (fun W h => h) hS ?_
                  clear hK K
                  refine seqT_do rfl (fun K hK => ?_)
                  have d0 := D10.c0
                  have e0 := D10.frozen 0
                  have d1 := D10.c1
                  have e1 := D10.frozen 1
                  have d2 := D10.c2
                  have e2 := D10.frozen 2
                  have d3 := D10.c3
                  have e3 := D10.frozen 3
                  go_simp
                  clear d0 e0 d1 e1 d2 e2 d3 e3
                  replace hS := bel_put4 hS L10 d
                  replace D10 := D10.store d
                  dsimp only [put4] at hS D10
                  obtain ⟨u3, hV⟩ : ∃ V, (((u2.setCell ⟨b10, 0, none⟩ (.int .i64 d.1)).setCell ⟨b10, 1, none⟩ (.int .i64 d.2.1)).setCell ⟨b10, 2, none⟩ (.bool d.2.2.1)).setCell ⟨b10, 3, none⟩ (.bool d.2.2.2) = V := ⟨_, rfl⟩
                  rw [hV] at hS
                  rw [hV] at D10
                  rw [hV]
                  clear hV
                  refine hK.out _ _ _ (fun W h => h) hS ?_
                  clear hK K
                  iterate 1 (refine seqT_read (v := _) rfl (fun _ _ _ h => h) hS (Or.inl ⟨by rfl, fun W hW => by go_simp <;> with_reducible rfl⟩) ?_; simp only [Act.put, List.setIfInBounds_toArray, List.set_cons_zero, List.set_cons_succ])
                  refine seqT_end ?_
                  go_wp2_with fail
                  go_meet
                  case rel => exact ⟨_, rfl, rfl, Lib.hid ⟨D10, hS⟩⟩
                · go_simp
                  have hbx : Below u0.heap.size u0 (u0.alloc (gtO gt0)) := (Below.refl _ _).alloc (Nat.le_refl _) _
                  have L10 := hS.size
                  have D10 := CBlk.new u0 gt0
                  replace hS := hS.trans (hbx.mono hS.size)
                  clear hbx
                  obtain ⟨b10, hb10⟩ : ∃ b, u0.heap.size = b := ⟨_, rfl⟩
                  obtain ⟨u1, hV⟩ : ∃ V, u0.alloc (gtO gt0) = V := ⟨_, rfl⟩
                  rw [hV, hb10] at D10
                  rw [hV] at hS
                  rw [hb10] at L10
                  rw [hV, hb10]
                  clear hV hb10
                  refine hK.out _ _ _ (fun W h => h) hS ?_
                  clear hK K
                  refine seqT_do rfl (fun K hK => ?_)
                  go_simp
                  refine (C1.out _).mono ?_
                  rintro e u2 ⟨rfl, hb⟩
                  replace hS := hS.trans (hb.mono hS.size)
                  replace D10 := D10.bel hb D10.lt
                  refine hK.out _ _ _ (fun W h => h) hS ?_
                  clear hK K hb
                  iterate 3 (refine seqT_read (v := _) rfl (fun _ _ _ h => h) hS (Or.inl ⟨by rfl, fun W hW => by go_simp <;> with_reducible rfl⟩) ?_; simp only [Act.put, List.setIfInBounds_toArray, List.set_cons_zero, List.set_cons_succ])
                  refine seqT_do rfl (fun K hK => ?_)
                  have d0 := D10.c0
                  have e0 := D10.frozen 0
                  have d1 := D10.c1
                  have e1 := D10.frozen 1
                  have d2 := D10.c2
                  have e2 := D10.frozen 2
                  have d3 := D10.c3
                  have e3 := D10.frozen 3
                  go_simp
                  clear d0 e0 d1 e1 d2 e2 d3 e3
                  replace hS := bel_put4 hS L10 d
                  replace D10 := D10.store d
                  dsimp only [put4] at hS D10
                  obtain ⟨u3, hV⟩ : ∃ V, (((u2.setCell ⟨b10, 0, none⟩ (.int .i64 d.1)).setCell ⟨b10, 1, none⟩ (.int .i64 d.2.1)).setCell ⟨b10, 2, none⟩ (.bool d.2.2.1)).setCell ⟨b10, 3, none⟩ (.bool d.2.2.2) = V := ⟨_, rfl⟩
                  rw [hV] at hS
                  rw [hV] at D10
                  rw [hV]
                  clear hV
                  refine hK.out _ _ _ (fun W h => h) hS ?_
                  clear hK K
                  iterate 1 (refine seqT_read (v := _) rfl (fun _ _ _ h => h) hS (Or.inl ⟨by rfl, fun W hW => by go_simp <;> with_reducible rfl⟩) ?_; simp only [Act.put, List.setIfInBounds_toArray, List.set_cons_zero, List.set_cons_succ])
                  refine seqT_end ?_
                  go_wp2_with fail
                  go_meet
                  case rel => exact ⟨_, rfl, rfl, Lib.hid ⟨D10, hS⟩⟩
            case rest =>
              obtain ⟨b, rfl, rfl, hb⟩ := hcut
              have H5 := Lib.hid (hz.out.more hb.out.2)
              have c0 := H5.out.blk.c0
              have c1 := H5.out.blk.c1
              have c2 := H5.out.blk.c2
              have c3 := H5.out.blk.c3
              have d0 := hb.out.1.c0
              have d1 := hb.out.1.c1
              have d2 := hb.out.1.c2
              have d3 := hb.out.1.c3
              clear hb hz
              go_wp2
              go_roundw
              case rel => exact ⟨k + 1, by omega, by omega, by go_num, H5⟩
              case measure => simp [intOf]; omega
          · obtain rfl : k = 50 := by omega
            go_wp2_with fail
            go_meet
            case rel => exact hz
        · obtain rfl : k = m := by omega
          have hd1 : decide (k < k) = false := by simp
          go_wp2_with fail
          go_meet
          case rel => exact hz
    case rest =>
      rename World => wd
      have hz : Hid (Cur w wd w.heap.size (n, -1, p, q)) := by rw [HE.out]; exact hcut
      clear hcut hy hq HE
      have C1 := Lib.hid (fun W => mute_any W (n, -1, p, q) false)
      rw [show mte (n, -1, p, q) false = (n, -1, p, false) from rfl] at C1
      have C2 := Lib.hid (fun W => pause_any W (n, -1, p, false) false)
      rw [show pse (n, -1, p, false) false = (n, -1, false, false) from rfl] at C2
      have KE := neq_same (n, -1, false, false)
      have c0 := hz.out.blk.c0
      have c1 := hz.out.blk.c1
      have c2 := hz.out.blk.c2
      have c3 := hz.out.blk.c3
      go_wp2_with fail
      refine (C1.out _).mono ?_
      rintro e w2 ⟨rfl, hb⟩
      have H2 := Lib.hid (hz.out.more hb)
      clear c0 c1 c2 c3 hb C1 hz
      go_wp2_with fail
      refine (C2.out _).mono ?_
      rintro e w3 ⟨rfl, hb⟩
      have h := H2.out.more hb
      clear hb C2 H2
      have c0 := h.blk.c0
      have c1 := h.blk.c1
      have c2 := h.blk.c2
      have c3 := h.blk.c3
      have e0 := h.blk.frozen 0
      have e1 := h.blk.frozen 1
      have e2 := h.blk.frozen 2
      have e3 := h.blk.frozen 3
      have H3 := h.put (n, -1, false, false)
      dsimp only [put4] at H3
      have H3 := Lib.hid H3
      clear h
      go_upto_region 13 with fail
      obtain ⟨w4, hw4⟩ : ∃ w4, (((w3.setCell ⟨w.heap.size, 0, none⟩ (.int .i64 n)).setCell ⟨w.heap.size, 1, none⟩ (.int .i64 (-1))).setCell ⟨w.heap.size, 2, none⟩ (.bool false)).setCell ⟨w.heap.size, 3, none⟩ (.bool false) = w4 := ⟨_, rfl⟩
      rw [hw4] at H3 ⊢
      clear hw4 c0 c1 c2 c3 e0 e1 e2 e3
      go_wp2_with fail
      go_loopw [12] (fun s12 wx => ∃ i : Nat, i ≤ m ∧ i ≤ 50 ∧ s12 = .int .i64 i ∧ Hid (Cur w wx w.heap.size (n, -1, false, false))) (fun s12 _ => m - (intOf s12).toNat)
      case atStart => exact ⟨0, by omega, by omega, rfl, H3⟩
      case round =>
        obtain ⟨k, hkm, hk1, rfl, hz⟩ := hrel
        rename World => wx
        clear H3
        by_cases h1 : k < m
        · have hd1 : decide (k < m) = true := by simp; exact h1
          by_cases h2 : k < 50
          · have hd2 : decide ((k : Int) < 50) = true := by simp; omega
            obtain ⟨tb, toff, l, rfl, htb, hl, t0⟩ := i64_at HR.out h1
            have TB := Lib.hid (fun (W : World) (hW : Below w.heap.size w W) => (hW.cell (p := ⟨tb, toff + k, none⟩) htb).trans t0)
            clear t0 hl
            go_upto_region 16 with fail
            go_cut [13] from 62 to 122 (fun s13 wc => ∃ kb : Bool, s13 = .bool kb ∧ wx = wc)
            case first =>
              by_cases h3 : k < mk
              · have hd3 : decide (k < mk) = true := by simp; exact h3
                obtain ⟨sb, soff, key, rfl, hsb, hkey, t1⟩ := Opn.bool_at HK.out h3
                have f5 := (hz.out.bel.cell (p := ⟨sb, soff + k, none⟩) hsb).trans t1
                clear hkey t1
                go_wp2_with fail
                go_meet
                case rel => exact ⟨_, rfl, rfl⟩
              · have hd3 : decide (k < mk) = false := by simpa using h3
                go_wp2_with fail
                go_meet
                case rel => exact ⟨_, rfl, rfl⟩
            case rest =>
              obtain ⟨kb, rfl, rfl⟩ := hcut
              have T0 := TB.out _ hz.out.bel
              by_cases h4 : l < 0
              · have hd3 : decide (l < 0) = true := by simpa using h4
                go_wp2
                go_roundw
                case rel => exact ⟨k + 1, by omega, by omega, by go_num, hz⟩
                case measure => simp [intOf]; omega
              have hd3 : decide (l < 0) = false := by simpa using h4
              go_upto_region 18 with fail
              clear T0
              have C1 := Lib.hid (fun W => take_any W (n, -1, false, false) l kb)
              obtain ⟨r, hr⟩ : ∃ r, tke (n, -1, false, false) l kb = r := ⟨_, rfl⟩
              obtain ⟨r, v⟩ := r
              have HT := Lib.hid hr
              rw [hr] at C1
              clear hr
              go_cut [14, 15] from 62 to 122 (fun s14 s15 wc => ∃ b, s14 = .pointer (some ⟨b, 0, none⟩) ∧ s15 = .int .i64 v ∧ Hid (CBlk wc b r ∧ Below wx.heap.size wx wc))
              case first =>
                have f0 : ∀ W, Below wx.heap.size wx W → W.cell? ⟨w.heap.size, 0, none⟩ = some (.int .i64 n) := fun W hW => ((hz.out.more hW).blk).c0
                have f1 : ∀ W, Below wx.heap.size wx W → W.cell? ⟨w.heap.size, 1, none⟩ = some (.int .i64 (-1)) := fun W hW => ((hz.out.more hW).blk).c1
                have f2 : ∀ W, Below wx.heap.size wx W → W.cell? ⟨w.heap.size, 2, none⟩ = some (.bool false) := fun W hW => ((hz.out.more hW).blk).c2
                have f3 : ∀ W, Below wx.heap.size wx W → W.cell? ⟨w.heap.size, 3, none⟩ = some (.bool false) := fun W hW => ((hz.out.more hW).blk).c3
                have f4 : ∀ W, Below wx.heap.size wx W → W.cell? ⟨tb, toff + k, none⟩ = some (.int .i64 l) := fun W hW => TB.out W (hz.out.more hW).bel
                have hS : Below wx.heap.size wx wx.drew := (Below.refl _ _).drew
                refine region_tree (Below wx.heap.size wx) (.rd 0 (.rd 1 (.rd 2 (.rd 3 (.rd 4 (.rd 5 (.fk 6 10 (.rd 7 (.rd 8 (.rd 9 (.dn 10 (.dn 11 (.rd 12 .nil)))))) (.dn 6 (.rd 7 (.rd 8 (.rd 9 (.dn 11 (.rd 12 .nil))))))))))))) (by kernel_rfl) (by kernel_rfl) rfl (by kernel_rfl) ?_
                obtain ⟨u0, hu0⟩ : ∃ u0, wx.drew = u0 := ⟨_, rfl⟩
                rw [hu0] at hS ⊢
                clear hu0
                iterate 6 (refine seqT_read (v := _) rfl (fun _ _ _ h => h) hS (Or.inl ⟨by rfl, fun W hW => by go_simp <;> with_reducible rfl⟩) ?_; simp only [Act.put, List.setIfInBounds_toArray, List.set_cons_zero, List.set_cons_succ])
                refine seqT_fork rfl rfl (fun K hK => ?_) (fun K hK => ?_)
                · go_simp
                  refine (C1.out _).mono ?_
                  rintro e u1 ⟨rfl, hb⟩
                  replace hS := hS.trans (hb.mono hS.size)
                  refine hK.out _ _ _ (fun W h => h) hS ?_
                  clear hK K hb
                  iterate 3 (refine seqT_read (v := _) rfl (fun _ _ _ h => h) hS (Or.inl ⟨by rfl, fun W hW => by go_simp <;> with_reducible rfl⟩) ?_; simp only [Act.put, List.setIfInBounds_toArray, List.set_cons_zero, List.set_cons_succ])
                  refine seqT_do rfl (fun K hK => ?_)
                  go_simp
                  have hbx : Below u1.heap.size u1 (u1.alloc (gtO gt0)) := (Below.refl _ _).alloc (Nat.le_refl _) _
                  have L14 := hS.size
                  have D14 := CBlk.new u1 gt0
                  replace hS := hS.trans (hbx.mono hS.size)
                  clear hbx
                  obtain ⟨b14, hb14⟩ : ∃ b, u1.heap.size = b := ⟨_, rfl⟩
                  obtain ⟨u2, hV⟩ : ∃ V, u1.alloc (gtO gt0) = V := ⟨_, rfl⟩
                  rw [hV, hb14] at D14
                  rw [hV] at hS
                  rw [hb14] at L14
                  rw [hV, hb14]
                  clear hV hb14
                  refine hK.out _ _ _ (fun W h => h) hS ?_
                  clear hK K
                  refine seqT_do rfl (fun K hK => ?_)
                  have d0 := D14.c0
                  have e0 := D14.frozen 0
                  have d1 := D14.c1
                  have e1 := D14.frozen 1
                  have d2 := D14.c2
                  have e2 := D14.frozen 2
                  have d3 := D14.c3
                  have e3 := D14.frozen 3
                  go_simp
                  clear d0 e0 d1 e1 d2 e2 d3 e3
                  replace hS := bel_put4 hS L14 r
                  replace D14 := D14.store r
                  dsimp only [put4] at hS D14
                  obtain ⟨u3, hV⟩ : ∃ V, (((u2.setCell ⟨b14, 0, none⟩ (.int .i64 r.1)).setCell ⟨b14, 1, none⟩ (.int .i64 r.2.1)).setCell ⟨b14, 2, none⟩ (.bool r.2.2.1)).setCell ⟨b14, 3, none⟩ (.bool r.2.2.2) = V := ⟨_, rfl⟩
                  rw [hV] at hS
                  rw [hV] at D14
                  rw [hV]
                  clear hV
                  refine hK.out _ _ _ (fun W h => h) hS ?_
                  clear hK K
                  iterate 1 (refine seqT_read (v := _) rfl (fun _ _ _ h => h) hS (Or.inl ⟨by rfl, fun W hW => by go_simp <;> with_reducible rfl⟩) ?_; simp only [Act.put, List.setIfInBounds_toArray, List.set_cons_zero, List.set_cons_succ])
                  refine seqT_end ?_
                  go_wp2_with fail
                  go_meet
                  case rel => exact ⟨_, rfl, rfl, Lib.hid ⟨D14, hS⟩⟩
                · go_simp
                  have hbx : Below u0.heap.size u0 (u0.alloc (gtO gt0)) := (Below.refl _ _).alloc (Nat.le_refl _) _
                  have L14 := hS.size
                  have D14 := CBlk.new u0 gt0
                  replace hS := hS.trans (hbx.mono hS.size)
                  clear hbx
                  obtain ⟨b14, hb14⟩ : ∃ b, u0.heap.size = b := ⟨_, rfl⟩
                  obtain ⟨u1, hV⟩ : ∃ V, u0.alloc (gtO gt0) = V := ⟨_, rfl⟩
                  rw [hV, hb14] at D14
                  rw [hV] at hS
                  rw [hb14] at L14
                  rw [hV, hb14]
                  clear hV hb14
                  refine hK.out _ _ _ (fun W h => h) hS ?_
                  clear hK K
                  refine seqT_do rfl (fun K hK => ?_)
                  go_simp
                  refine (C1.out _).mono ?_
                  rintro e u2 ⟨rfl, hb⟩
                  replace hS := hS.trans (hb.mono hS.size)
                  replace D14 := D14.bel hb D14.lt
                  refine hK.out _ _ _ (fun W h => h) hS ?_
                  clear hK K hb
                  iterate 3 (refine seqT_read (v := _) rfl (fun _ _ _ h => h) hS (Or.inl ⟨by rfl, fun W hW => by go_simp <;> with_reducible rfl⟩) ?_; simp only [Act.put, List.setIfInBounds_toArray, List.set_cons_zero, List.set_cons_succ])
                  refine seqT_do rfl (fun K hK => ?_)
                  have d0 := D14.c0
                  have e0 := D14.frozen 0
                  have d1 := D14.c1
                  have e1 := D14.frozen 1
                  have d2 := D14.c2
                  have e2 := D14.frozen 2
                  have d3 := D14.c3
                  have e3 := D14.frozen 3
                  go_simp
                  clear d0 e0 d1 e1 d2 e2 d3 e3
                  replace hS := bel_put4 hS L14 r
                  replace D14 := D14.store r
                  dsimp only [put4] at hS D14
                  obtain ⟨u3, hV⟩ : ∃ V, (((u2.setCell ⟨b14, 0, none⟩ (.int .i64 r.1)).setCell ⟨b14, 1, none⟩ (.int .i64 r.2.1)).setCell ⟨b14, 2, none⟩ (.bool r.2.2.1)).setCell ⟨b14, 3, none⟩ (.bool r.2.2.2) = V := ⟨_, rfl⟩
                  rw [hV] at hS
                  rw [hV] at D14
                  rw [hV]
                  clear hV
                  refine hK.out _ _ _ (fun W h => h) hS ?_
                  clear hK K
                  iterate 1 (refine seqT_read (v := _) rfl (fun _ _ _ h => h) hS (Or.inl ⟨by rfl, fun W hW => by go_simp <;> with_reducible rfl⟩) ?_; simp only [Act.put, List.setIfInBounds_toArray, List.set_cons_zero, List.set_cons_succ])
                  refine seqT_end ?_
                  go_wp2_with fail
                  go_meet
                  case rel => exact ⟨_, rfl, rfl, Lib.hid ⟨D14, hS⟩⟩
              case rest =>
                obtain ⟨b, rfl, rfl, hb⟩ := hcut
                go_upto_region 19 with fail
                have H5 := Lib.hid (hz.out.more hb.out.2)
                have f1 : ∀ W, Below wc.heap.size wc W → W.cell? ⟨w.heap.size, 0, none⟩ = some (.int .i64 n) := fun W hW => (H5.out.more hW).blk.c0
                have f4 : ∀ W, Below wc.heap.size wc W → W.cell? ⟨tb, toff + k, none⟩ = some (.int .i64 l) := fun W hW => TB.out W (H5.out.more hW).bel
                have HD := Lib.hid hb.out.1
                have HB := Lib.hid hb.out.2
                have hS : Below wc.heap.size wc wc.drew := (Below.refl _ _).drew
                clear hb hz TB C1
                by_cases H : kb = true ∧ l = n
                · obtain ⟨rfl, rfl⟩ := H
                  have ht := HT.out
                  rw [tke_key (by omega)] at ht
                  simp only [Prod.mk.injEq] at ht
                  obtain ⟨rfl, rfl⟩ := ht
                  refine region_seq (Below wc.heap.size wc) [(0, false), (1, false), (2, false), (3, false), (4, false), (5, false), (6, false), (7, false), (8, false), (9, false)] (by kernel_rfl) (by kernel_rfl) rfl (by kernel_rfl) ?_
                  iterate 10 (refine seq_read (v := _) rfl (fun _ _ _ h => h) hS (Or.inl ⟨by rfl, fun W hW => by go_simp <;> with_reducible rfl⟩) ?_; simp only [Act.put, List.setIfInBounds_toArray, List.set_cons_zero, List.set_cons_succ])
                  refine seq_end ?_
                  have H6 := Lib.hid H5.out.drew
                  have c0 := H6.out.blk.c0
                  have d1 : wc.drew.cell? ⟨b, 1, none⟩ = some (.int .i64 l) := HD.out.c1
                  clear f1 f4 hS HD H5
                  go_wp2
                  go_ret
                  exact ⟨rfl, H6.out.bel⟩
                · have ht := HT.out
                  rw [tke_not (by omega) H] at ht
                  simp only [Prod.mk.injEq] at ht
                  obtain ⟨rfl, rfl⟩ := ht
                  have H6 := Lib.hid H5.out.drew
                  have HD6 : Hid (CBlk wc.drew b (n, -1, false, false)) := Lib.hid HD.out
                  cases kb with
                  | true =>
                    have q1 : (l == n) = false := by simpa using H
                    refine region_seq (Below wc.heap.size wc) [(0, false), (1, false), (2, false), (3, false), (4, false), (5, false), (6, false), (7, false), (8, false), (9, false)] (by kernel_rfl) (by kernel_rfl) rfl (by kernel_rfl) ?_
                    iterate 10 (refine seq_read (v := _) rfl (fun _ _ _ h => h) hS (Or.inl ⟨by rfl, fun W hW => by go_simp <;> with_reducible rfl⟩) ?_; simp only [Act.put, List.setIfInBounds_toArray, List.set_cons_zero, List.set_cons_succ])
                    refine seq_end ?_
                    have c0 := H6.out.blk.c0
                    have c1 := H6.out.blk.c1
                    have c2 := H6.out.blk.c2
                    have c3 := H6.out.blk.c3
                    have d0 := HD6.out.c0
                    have d1 := HD6.out.c1
                    have d2 := HD6.out.c2
                    have d3 := HD6.out.c3
                    clear f1 f4 hS HD HD6 H5
                    go_wp2
                    go_roundw
                    case rel => exact ⟨k + 1, by omega, by omega, by go_num, H6⟩
                    case measure => simp [intOf]; omega
                  | false =>
                    refine region_seq (Below wc.heap.size wc) [(0, false), (1, false), (2, false), (3, false), (4, false), (5, false), (6, false), (7, false), (8, false), (9, false)] (by kernel_rfl) (by kernel_rfl) rfl (by kernel_rfl) ?_
                    iterate 2 (refine seq_read (v := _) rfl (fun _ _ _ h => h) hS (Or.inl ⟨by rfl, fun W hW => by go_simp <;> with_reducible rfl⟩) ?_; simp only [Act.put, List.setIfInBounds_toArray, List.set_cons_zero, List.set_cons_succ])
                    iterate 7 (refine seq_read (v := undef) rfl (fun _ _ _ h => h) hS (Or.inr ⟨by rfl, rfl⟩) ?_; simp only [Act.put, List.setIfInBounds_toArray, List.set_cons_zero, List.set_cons_succ])
                    iterate 1 (refine seq_read (v := _) rfl (fun _ _ _ h => h) hS (Or.inl ⟨by rfl, fun W hW => by go_simp <;> with_reducible rfl⟩) ?_; simp only [Act.put, List.setIfInBounds_toArray, List.set_cons_zero, List.set_cons_succ])
                    refine seq_end ?_
                    have c0 := H6.out.blk.c0
                    have c1 := H6.out.blk.c1
                    have c2 := H6.out.blk.c2
                    have c3 := H6.out.blk.c3
                    have d0 := HD6.out.c0
                    have d1 := HD6.out.c1
                    have d2 := HD6.out.c2
                    have d3 := HD6.out.c3
                    clear f1 f4 hS HD HD6 H5
                    go_wp2
                    go_roundw
                    case rel => exact ⟨k + 1, by omega, by omega, by go_num, H6⟩
                    case measure => simp [intOf]; omega
          · obtain rfl : k = 50 := by omega
            go_wp2
            go_ret
            exact ⟨rfl, hz.out.bel⟩
        · obtain rfl : k = m := by omega
          have hd1 : decide (k < k) = false := by simp
          go_wp2
          go_ret
          exact ⟨rfl, hz.out.bel⟩
end Go.Proofs.Ytmnkeogfklbjgaa.Gat
