/- CourseShift walked. -/
import Derived.Test.YtbpfninaaenhpaaJc
set_option maxRecDepth 100000
namespace Go.Proofs.Ytbpfninaaenhpaa.Crs
open Go.RowKit
set_option linter.unusedVariables false

/-- A course whose numbers come in moved by k. -/
def sh (k : Int) (c : Co) : Co := (c.1, (c.2.1 + k) % 65536, (c.2.2.1 - k) % 65536, c.2.2.2)
theorem refd_sh (k i : Int) (c : Co) : refd (sh k c) ((i + k) % 65536) = refd c i := by
  have : d16 ((i + k) % 65536) ((c.2.1 + k) % 65536) = d16 i c.2.1 := by simp only [d16]; omega
  unfold refd ah16 sh
  simp only [this]
theorem stp_sh (k i : Int) (c : Co) : stp (sh k c) ((i + k) % 65536) = (sh k (stp c i).1, (stp c i).2) := by
  cases h : refd c i with
  | true => rw [stp_no h, stp_no (by rw [refd_sh]; exact h)]
  | false =>
    rw [stp_yes h, stp_yes (by rw [refd_sh]; exact h)]
    simp only [sh, Prod.mk.injEq, true_and, and_true]
    omega
theorem stp_off {c : Co} {i : Int} (h : 0 ≤ c.2.2.1 ∧ c.2.2.1 ≤ 65535) : 0 ≤ (stp c i).1.2.2.1 ∧ (stp c i).1.2.2.1 ≤ 65535 := by
  cases hh : refd c i with
  | true => rw [stp_no hh]; exact h
  | false => rw [stp_yes hh]; show 0 ≤ (c.2.2.2 - i) % 65536 ∧ (c.2.2.2 - i) % 65536 ≤ 65535; omega
set_option maxHeartbeats 8000000 in
theorem shift_any (w : World) (c : Co) (hc : CoOk c) (ad : Option Addr) (m cap : Nat) (xs : List Int) (hr : RowRd w16L w w.heap.size ad m xs) (kk : Int) :
    Calls Try.prog 6 #[coV c, .slice ad m cap, .int .u16 kk] w fun e w' => e = .returned (.bool true) ∧ Below w.heap.size w w' := by
  have CS := Lib.hid (fun W => shown_any W)
  have HR := Lib.hid hr
  have HO := Lib.hid hc.2.1
  have H0 : Hid (Cur w (w.alloc (coO c)) w.heap.size c) := Lib.hid ⟨CBlk.new w c, (Below.refl _ _).alloc (Nat.le_refl _) _, Nat.le_refl _⟩
  obtain ⟨l, a, o, n⟩ := c
  obtain ⟨ka, hka⟩ : ∃ ka, (a + kk) % 65536 = ka := ⟨_, rfl⟩
  obtain ⟨ko, hko⟩ : ∃ ko, (o - kk) % 65536 = ko := ⟨_, rfl⟩
  have q1 : IntKind.u16.wrap (a + kk) = ka := by rw [u16_wrap]; exact hka
  have q2 : IntKind.u16.wrap (o - kk) = ko := by rw [u16_wrap]; exact hko
  have HK : Hid (sh kk (l, a, o, n) = (l, ka, ko, n)) := Lib.hid (by unfold sh; rw [hka, hko])
  clear hc hr hka hko
  go_enter Try.func6, Try.ntmps6
  go_wp2_with fail
  refine (CS.out _).mono ?_
  rintro e w1 ⟨rfl, hb⟩
  have H1 := H0.out.more hb
  have c0 := H1.blk.c0
  have c1 := H1.blk.c1
  have c2 := H1.blk.c2
  have c3 := H1.blk.c3
  have H2 := Lib.hid (H1.new (l, ka, ko, n))
  have G2 : Hid (Cur w (w1.alloc (coO (l, ka, ko, n))) w1.heap.size (l, ka, ko, n)) := Lib.hid ⟨CBlk.new w1 _, H1.bel.alloc H1.bel.size _, H1.bel.size⟩
  have HN : Hid (w.heap.size ≠ w1.heap.size) := Lib.hid (by have := H1.blk.lt; omega)
  clear hb H0 CS H1
  go_upto_region 6 with fail
  obtain ⟨w2, hw2⟩ : ∃ w2, w1.alloc (coO (l, ka, ko, n)) = w2 := ⟨_, rfl⟩
  obtain ⟨p, hp⟩ : ∃ p, w1.heap.size = p := ⟨_, rfl⟩
  rw [hw2] at H2 G2
  rw [hw2, hp]
  rw [hp] at G2 HN
  clear hw2 hp c0 c1 c2 c3 q1 q2
  go_wp2
  go_loopw [8] (fun s8 wx => ∃ (i : Nat) (c d : Co), i ≤ m ∧ i ≤ 100 ∧ s8 = .int .i64 i ∧ Hid (Cur w wx w.heap.size c) ∧ Hid (Cur w wx p d) ∧ Hid (sh kk c = d) ∧ Hid (0 ≤ c.2.2.1 ∧ c.2.2.1 ≤ 65535)) (fun s8 _ => m - (intOf s8).toNat)
  case atStart => exact ⟨0, _, _, by omega, by omega, rfl, H2, G2, HK, HO⟩
  case round =>
    obtain ⟨k, y, z, hkm, hk1, rfl, hy, hz, he, ho⟩ := hrel
    rename World => wx
    clear H2 G2 HK HO
    by_cases h1 : k < m
    · have hd1 : decide (k < m) = true := by simp; exact h1
      by_cases h2 : k < 100
      · have hd2 : decide ((k : Int) < 100) = true := by simp; omega
        obtain ⟨tb, toff, g, rfl, htb, hg, t0⟩ := u16_at HR.out h1
        have TB := Lib.hid (fun (W : World) (hW : Below w.heap.size w W) => (hW.cell (p := ⟨tb, toff + k, none⟩) htb).trans t0)
        clear t0 hg htb
        obtain ⟨j, hj⟩ : ∃ j, (g + kk) % 65536 = j := ⟨_, rfl⟩
        have q1 : IntKind.u16.wrap (g + kk) = j := by rw [u16_wrap]; exact hj
        obtain ⟨⟨xl, xa, xo, xn⟩, nn, v, hx⟩ : ∃ x nn v, stp y g = (x, nn, v) := ⟨_, _, _, rfl⟩
        have hx2 : stp z j = (sh kk (xl, xa, xo, xn), nn, v) := by rw [← he.out, ← hj, stp_sh, hx]
        obtain ⟨hxo, hxo2⟩ : 0 ≤ xo ∧ xo ≤ 65535 := by have := stp_off (i := g) ho.out; rw [hx] at this; exact this
        obtain ⟨ya, hya⟩ : ∃ ya, (xa + kk) % 65536 = ya := ⟨_, rfl⟩
        obtain ⟨yo, hyo⟩ : ∃ yo, (xo - kk) % 65536 = yo := ⟨_, rfl⟩
        have q2 : IntKind.u16.wrap (yo + kk) = xo := by rw [u16_wrap]; omega
        have hsh : sh kk (xl, xa, xo, xn) = (xl, ya, yo, xn) := by unfold sh; rw [hya, hyo]
        rw [hsh] at hx2
        have HE := Lib.hid hsh
        have HO := Lib.hid (And.intro hxo hxo2)
        have C1 := Lib.hid (fun W => step_any W y g)
        have C2 := Lib.hid (fun W => step_any W z j)
        rw [hx] at C1
        rw [hx2] at C2
        clear hj hx hx2 hya hyo hsh hxo hxo2 he ho
        go_upto_region 9 with fail
        go_cut [9, 10, 11] from 28 to 92 (fun s9 s10 s11 wc => ∃ b, s9 = .pointer (some ⟨b, 0, none⟩) ∧ s10 = .int .u16 nn ∧ s11 = .bool v ∧ Hid (CBlk wc b (xl, xa, xo, xn) ∧ wx.heap.size ≤ b ∧ Below wx.heap.size wx wc))
        case first =>
          have f0 : ∀ W, Below wx.heap.size wx W → W.cell? ⟨w.heap.size, 0, none⟩ = some (.bool y.1) := fun W hW => (hy.out.more hW).blk.c0
          have f1 : ∀ W, Below wx.heap.size wx W → W.cell? ⟨w.heap.size, 1, none⟩ = some (.int .u16 y.2.1) := fun W hW => (hy.out.more hW).blk.c1
          have f2 : ∀ W, Below wx.heap.size wx W → W.cell? ⟨w.heap.size, 2, none⟩ = some (.int .u16 y.2.2.1) := fun W hW => (hy.out.more hW).blk.c2
          have f3 : ∀ W, Below wx.heap.size wx W → W.cell? ⟨w.heap.size, 3, none⟩ = some (.int .u16 y.2.2.2) := fun W hW => (hy.out.more hW).blk.c3
          have f4 : ∀ W, Below wx.heap.size wx W → W.cell? ⟨tb, toff + k, none⟩ = some (.int .u16 g) := fun W hW => TB.out W (hy.out.more hW).bel
          have hS : Below wx.heap.size wx wx.drew := (Below.refl _ _).drew
          refine region_tree (Below wx.heap.size wx) (.rd 0 (.rd 1 (.rd 2 (.rd 3 (.rd 4 (.fk 5 10 (.rd 6 (.rd 7 (.rd 8 (.rd 9 (.dn 10 (.dn 11 (.rd 12 (.rd 13 .nil)))))))) (.dn 5 (.rd 6 (.rd 7 (.rd 8 (.rd 9 (.dn 11 (.rd 12 (.rd 13 .nil)))))))))))))) (by kernel_rfl) (by kernel_rfl) rfl (by kernel_rfl) ?_
          iterate 5 (refine seqT_read (v := _) rfl (fun _ _ _ h => h) hS (Or.inl ⟨by rfl, fun W hW => by go_simp <;> with_reducible rfl⟩) ?_; simp only [Act.put, List.setIfInBounds_toArray, List.set_cons_zero, List.set_cons_succ])
          refine seqT_fork rfl rfl (fun K hK => ?_) (fun K hK => ?_)
          · go_simp
            refine (C1.out _).mono ?_
            rintro e w5 ⟨rfl, hb⟩
            have hS : Below wx.heap.size wx w5 := hS.trans (hb.mono hS.size)
            refine hK.out _ _ _ (fun W h => h) hS ?_
            clear hK K hb
            iterate 4 (refine seqT_read (v := _) rfl (fun _ _ _ h => h) hS (Or.inl ⟨by rfl, fun W hW => by go_simp <;> with_reducible rfl⟩) ?_; simp only [Act.put, List.setIfInBounds_toArray, List.set_cons_zero, List.set_cons_succ])
            refine seqT_do rfl (fun K hK => ?_)
            go_simp
            have hL : wx.heap.size ≤ w5.heap.size := hS.size
            have hS6 : Below wx.heap.size wx (w5.alloc (coO co0)) := hS.alloc hS.size _
            refine hK.out _ _ _ (fun W h => h) hS6 ?_
            clear hK K
            refine seqT_do rfl (fun K hK => ?_)
            go_simp
            have hS : Below wx.heap.size wx (w5.alloc (coO (xl, xa, xo, xn))) := hS.alloc hS.size _
            refine hK.out _ _ _ (fun W h => h) hS ?_
            clear hK K hS6
            have D := CBlk.new w5 (xl, xa, xo, xn)
            obtain ⟨B, hB⟩ : ∃ B, w5.heap.size = B := ⟨_, rfl⟩
            obtain ⟨W, hW⟩ : ∃ W, w5.alloc (coO (xl, xa, xo, xn)) = W := ⟨_, rfl⟩
            rw [hW, hB] at D
            rw [hW] at hS
            rw [hB] at hL
            rw [hW, hB]
            clear hW hB
            iterate 2 (refine seqT_read (v := _) rfl (fun _ _ _ h => h) hS (Or.inl ⟨by rfl, fun W hW => by go_simp <;> with_reducible rfl⟩) ?_; simp only [Act.put, List.setIfInBounds_toArray, List.set_cons_zero, List.set_cons_succ])
            refine seqT_end ?_
            go_wp2_with fail
            go_meet
            case rel => exact ⟨_, rfl, rfl, rfl, Lib.hid ⟨D, hL, hS⟩⟩
          · go_simp
            have D := CBlk.new wx co0
            have hS : Below wx.heap.size wx (wx.alloc (coO co0)).drew := ((Below.refl _ _).alloc (Nat.le_refl _) _).drew
            obtain ⟨w4, hw4⟩ : ∃ w4, (wx.alloc (coO co0)).drew = w4 := ⟨_, rfl⟩
            have D : CBlk w4 wx.heap.size co0 := by rw [← hw4]; exact D
            rw [hw4] at hS
            rw [hw4]
            clear hw4
            refine hK.out _ _ _ (fun W h => h) hS ?_
            clear hK K
            refine seqT_do rfl (fun K hK => ?_)
            go_simp
            refine (C1.out _).mono ?_
            rintro e w5 ⟨rfl, hb⟩
            have hS : Below wx.heap.size wx w5 := hS.trans (hb.mono hS.size)
            have D := D.bel hb D.lt
            refine hK.out _ _ _ (fun W h => h) hS ?_
            clear hK K hb
            iterate 4 (refine seqT_read (v := _) rfl (fun _ _ _ h => h) hS (Or.inl ⟨by rfl, fun W hW => by go_simp <;> with_reducible rfl⟩) ?_; simp only [Act.put, List.setIfInBounds_toArray, List.set_cons_zero, List.set_cons_succ])
            have d0 := D.c0
            have e0 := D.frozen 0
            have d1 := D.c1
            have e1 := D.frozen 1
            have d2 := D.c2
            have e2 := D.frozen 2
            have d3 := D.c3
            have e3 := D.frozen 3
            refine seqT_do rfl (fun K hK => ?_)
            go_simp
            have hS : Below wx.heap.size wx ((((w5.setCell ⟨wx.heap.size, 0, none⟩ (.bool xl)).setCell ⟨wx.heap.size, 1, none⟩ (.int .u16 xa)).setCell ⟨wx.heap.size, 2, none⟩ (.int .u16 xo)).setCell ⟨wx.heap.size, 3, none⟩ (.int .u16 xn)) := bel_put4 hS (Nat.le_refl _) (xl, xa, xo, xn)
            have D : CBlk ((((w5.setCell ⟨wx.heap.size, 0, none⟩ (.bool xl)).setCell ⟨wx.heap.size, 1, none⟩ (.int .u16 xa)).setCell ⟨wx.heap.size, 2, none⟩ (.int .u16 xo)).setCell ⟨wx.heap.size, 3, none⟩ (.int .u16 xn)) wx.heap.size (xl, xa, xo, xn) := D.store (xl, xa, xo, xn)
            clear d0 e0 d1 e1 d2 e2 d3 e3
            have hL := Nat.le_refl wx.heap.size
            obtain ⟨B, hB⟩ : ∃ B, wx.heap.size = B := ⟨_, rfl⟩
            obtain ⟨W, hW⟩ : ∃ W, (((w5.setCell ⟨wx.heap.size, 0, none⟩ (.bool xl)).setCell ⟨wx.heap.size, 1, none⟩ (.int .u16 xa)).setCell ⟨wx.heap.size, 2, none⟩ (.int .u16 xo)).setCell ⟨wx.heap.size, 3, none⟩ (.int .u16 xn) = W := ⟨_, rfl⟩
            rw [hW] at D hS
            rw [hW]
            clear hW
            refine hK.out _ _ _ (fun W h => h) hS ?_
            clear hK K
            iterate 2 (refine seqT_read (v := _) rfl (fun _ _ _ h => h) hS (Or.inl ⟨by rfl, fun W hW => by go_simp <;> with_reducible rfl⟩) ?_; simp only [Act.put, List.setIfInBounds_toArray, List.set_cons_zero, List.set_cons_succ])
            refine seqT_end ?_
            go_wp2_with fail
            go_meet
            case rel => exact ⟨_, rfl, rfl, rfl, Lib.hid ⟨D, hL, hS⟩⟩
        case rest =>
          obtain ⟨b, rfl, rfl, rfl, hb⟩ := hcut
          have HY := Lib.hid (hy.out.more hb.out.2.2)
          have HZ := Lib.hid (hz.out.more hb.out.2.2)
          have HX := Lib.hid hb.out.1
          have NB := Lib.hid (show w.heap.size ≠ b ∧ p ≠ b from by have := hb.out.2.1; have h1 := hy.out.blk.lt; have h2 := hz.out.blk.lt; omega)
          clear hb hy hz C1
          go_upto_region 10 with fail
          go_cut [12, 13, 14] from 28 to 92 (fun s9 s10 s11 wd => ∃ b, s9 = .pointer (some ⟨b, 0, none⟩) ∧ s10 = .int .u16 nn ∧ s11 = .bool v ∧ Hid (CBlk wd b (xl, ya, yo, xn) ∧ wc.heap.size ≤ b ∧ Below wc.heap.size wc wd))
          case first =>
            have f0 : ∀ W, Below wc.heap.size wc W → W.cell? ⟨p, 0, none⟩ = some (.bool z.1) := fun W hW => (HZ.out.more hW).blk.c0
            have f1 : ∀ W, Below wc.heap.size wc W → W.cell? ⟨p, 1, none⟩ = some (.int .u16 z.2.1) := fun W hW => (HZ.out.more hW).blk.c1
            have f2 : ∀ W, Below wc.heap.size wc W → W.cell? ⟨p, 2, none⟩ = some (.int .u16 z.2.2.1) := fun W hW => (HZ.out.more hW).blk.c2
            have f3 : ∀ W, Below wc.heap.size wc W → W.cell? ⟨p, 3, none⟩ = some (.int .u16 z.2.2.2) := fun W hW => (HZ.out.more hW).blk.c3
            have f4 : ∀ W, Below wc.heap.size wc W → W.cell? ⟨tb, toff + k, none⟩ = some (.int .u16 g) := fun W hW => TB.out W (HY.out.more hW).bel
            have hS : Below wc.heap.size wc wc.drew := (Below.refl _ _).drew
            refine region_tree (Below wc.heap.size wc) (.rd 0 (.rd 1 (.rd 2 (.rd 3 (.rd 4 (.rd 5 (.rd 6 (.fk 7 12 (.rd 8 (.rd 9 (.rd 10 (.rd 11 (.dn 12 (.dn 13 (.rd 14 (.rd 15 .nil)))))))) (.dn 7 (.rd 8 (.rd 9 (.rd 10 (.rd 11 (.dn 13 (.rd 14 (.rd 15 .nil)))))))))))))))) (by kernel_rfl) (by kernel_rfl) rfl (by kernel_rfl) ?_
            iterate 7 (refine seqT_read (v := _) rfl (fun _ _ _ h => h) hS (Or.inl ⟨by rfl, fun W hW => by go_simp <;> with_reducible rfl⟩) ?_; simp only [Act.put, List.setIfInBounds_toArray, List.set_cons_zero, List.set_cons_succ])
            refine seqT_fork rfl rfl (fun K hK => ?_) (fun K hK => ?_)
            · go_simp
              refine (C2.out _).mono ?_
              rintro e w5 ⟨rfl, hb⟩
              have hS : Below wc.heap.size wc w5 := hS.trans (hb.mono hS.size)
              refine hK.out _ _ _ (fun W h => h) hS ?_
              clear hK K hb
              iterate 4 (refine seqT_read (v := _) rfl (fun _ _ _ h => h) hS (Or.inl ⟨by rfl, fun W hW => by go_simp <;> with_reducible rfl⟩) ?_; simp only [Act.put, List.setIfInBounds_toArray, List.set_cons_zero, List.set_cons_succ])
              refine seqT_do rfl (fun K hK => ?_)
              go_simp
              have hL : wc.heap.size ≤ w5.heap.size := hS.size
              have hS6 : Below wc.heap.size wc (w5.alloc (coO co0)) := hS.alloc hS.size _
              refine hK.out _ _ _ (fun W h => h) hS6 ?_
              clear hK K
              refine seqT_do rfl (fun K hK => ?_)
              go_simp
              have hS : Below wc.heap.size wc (w5.alloc (coO (xl, ya, yo, xn))) := hS.alloc hS.size _
              refine hK.out _ _ _ (fun W h => h) hS ?_
              clear hK K hS6
              have D := CBlk.new w5 (xl, ya, yo, xn)
              obtain ⟨B, hB⟩ : ∃ B, w5.heap.size = B := ⟨_, rfl⟩
              obtain ⟨W, hW⟩ : ∃ W, w5.alloc (coO (xl, ya, yo, xn)) = W := ⟨_, rfl⟩
              rw [hW, hB] at D
              rw [hW] at hS
              rw [hB] at hL
              rw [hW, hB]
              clear hW hB
              iterate 2 (refine seqT_read (v := _) rfl (fun _ _ _ h => h) hS (Or.inl ⟨by rfl, fun W hW => by go_simp <;> with_reducible rfl⟩) ?_; simp only [Act.put, List.setIfInBounds_toArray, List.set_cons_zero, List.set_cons_succ])
              refine seqT_end ?_
              go_wp2_with fail
              go_meet
              case rel => exact ⟨_, rfl, rfl, rfl, Lib.hid ⟨D, hL, hS⟩⟩
            · go_simp
              have D := CBlk.new wc co0
              have hS : Below wc.heap.size wc (wc.alloc (coO co0)).drew := ((Below.refl _ _).alloc (Nat.le_refl _) _).drew
              obtain ⟨w4, hw4⟩ : ∃ w4, (wc.alloc (coO co0)).drew = w4 := ⟨_, rfl⟩
              have D : CBlk w4 wc.heap.size co0 := by rw [← hw4]; exact D
              rw [hw4] at hS
              rw [hw4]
              clear hw4
              refine hK.out _ _ _ (fun W h => h) hS ?_
              clear hK K
              refine seqT_do rfl (fun K hK => ?_)
              go_simp
              refine (C2.out _).mono ?_
              rintro e w5 ⟨rfl, hb⟩
              have hS : Below wc.heap.size wc w5 := hS.trans (hb.mono hS.size)
              have D := D.bel hb D.lt
              refine hK.out _ _ _ (fun W h => h) hS ?_
              clear hK K hb
              iterate 4 (refine seqT_read (v := _) rfl (fun _ _ _ h => h) hS (Or.inl ⟨by rfl, fun W hW => by go_simp <;> with_reducible rfl⟩) ?_; simp only [Act.put, List.setIfInBounds_toArray, List.set_cons_zero, List.set_cons_succ])
              have d0 := D.c0
              have e0 := D.frozen 0
              have d1 := D.c1
              have e1 := D.frozen 1
              have d2 := D.c2
              have e2 := D.frozen 2
              have d3 := D.c3
              have e3 := D.frozen 3
              refine seqT_do rfl (fun K hK => ?_)
              go_simp
              have hS : Below wc.heap.size wc ((((w5.setCell ⟨wc.heap.size, 0, none⟩ (.bool xl)).setCell ⟨wc.heap.size, 1, none⟩ (.int .u16 ya)).setCell ⟨wc.heap.size, 2, none⟩ (.int .u16 yo)).setCell ⟨wc.heap.size, 3, none⟩ (.int .u16 xn)) := bel_put4 hS (Nat.le_refl _) (xl, ya, yo, xn)
              have D : CBlk ((((w5.setCell ⟨wc.heap.size, 0, none⟩ (.bool xl)).setCell ⟨wc.heap.size, 1, none⟩ (.int .u16 ya)).setCell ⟨wc.heap.size, 2, none⟩ (.int .u16 yo)).setCell ⟨wc.heap.size, 3, none⟩ (.int .u16 xn)) wc.heap.size (xl, ya, yo, xn) := D.store (xl, ya, yo, xn)
              clear d0 e0 d1 e1 d2 e2 d3 e3
              have hL := Nat.le_refl wc.heap.size
              obtain ⟨B, hB⟩ : ∃ B, wc.heap.size = B := ⟨_, rfl⟩
              obtain ⟨W, hW⟩ : ∃ W, (((w5.setCell ⟨wc.heap.size, 0, none⟩ (.bool xl)).setCell ⟨wc.heap.size, 1, none⟩ (.int .u16 ya)).setCell ⟨wc.heap.size, 2, none⟩ (.int .u16 yo)).setCell ⟨wc.heap.size, 3, none⟩ (.int .u16 xn) = W := ⟨_, rfl⟩
              rw [hW] at D hS
              rw [hW]
              clear hW
              refine hK.out _ _ _ (fun W h => h) hS ?_
              clear hK K
              iterate 2 (refine seqT_read (v := _) rfl (fun _ _ _ h => h) hS (Or.inl ⟨by rfl, fun W hW => by go_simp <;> with_reducible rfl⟩) ?_; simp only [Act.put, List.setIfInBounds_toArray, List.set_cons_zero, List.set_cons_succ])
              refine seqT_end ?_
              go_wp2_with fail
              go_meet
              case rel => exact ⟨_, rfl, rfl, rfl, Lib.hid ⟨D, hL, hS⟩⟩
          case rest =>
            obtain ⟨b', rfl, rfl, rfl, hb⟩ := hcut
            rename World => wd
            have HY2 := HY.out.more hb.out.2.2
            have HZ2 := HZ.out.more hb.out.2.2
            have HX2 := HX.out.bel hb.out.2.2 HX.out.lt
            have HW2 := hb.out.1
            have NB2 := Lib.hid (show w.heap.size ≠ b' ∧ p ≠ b' ∧ b ≠ b' from by have := hb.out.2.1; have h1 := HY.out.blk.lt; have h2 := HZ.out.blk.lt; have h3 := HX.out.lt; omega)
            have x0 := HX2.c0
            have x1 := HX2.c1
            have x2 := HX2.c2
            have x3 := HX2.c3
            have y0 := HW2.c0
            have y1 := HW2.c1
            have y2 := HW2.c2
            have y3 := HW2.c3
            have HY3 := Lib.hid HY2
            have HZ3 := Lib.hid HZ2
            have HX3 := Lib.hid HX2
            have HW3 := Lib.hid HW2
            clear hb HY HZ HX HY2 HZ2 HX2 HW2 C2 q1
            go_upto_region 13 with fail
            clear x0 x1 x2 x3 y0 y1 y2 y3
            have f0 : ∀ W, (CBlk W b (xl, xa, xo, xn) ∧ CBlk W b' (xl, ya, yo, xn)) → W.cell? ⟨b, 0, none⟩ = some (.bool xl) := fun W hW => hW.1.c0
            have f1 : ∀ W, (CBlk W b (xl, xa, xo, xn) ∧ CBlk W b' (xl, ya, yo, xn)) → W.cell? ⟨b, 1, none⟩ = some (.int .u16 xa) := fun W hW => hW.1.c1
            have f2 : ∀ W, (CBlk W b (xl, xa, xo, xn) ∧ CBlk W b' (xl, ya, yo, xn)) → W.cell? ⟨b, 2, none⟩ = some (.int .u16 xo) := fun W hW => hW.1.c2
            have f3 : ∀ W, (CBlk W b (xl, xa, xo, xn) ∧ CBlk W b' (xl, ya, yo, xn)) → W.cell? ⟨b, 3, none⟩ = some (.int .u16 xn) := fun W hW => hW.1.c3
            have g0 : ∀ W, (CBlk W b (xl, xa, xo, xn) ∧ CBlk W b' (xl, ya, yo, xn)) → W.cell? ⟨b', 0, none⟩ = some (.bool xl) := fun W hW => hW.2.c0
            have g1 : ∀ W, (CBlk W b (xl, xa, xo, xn) ∧ CBlk W b' (xl, ya, yo, xn)) → W.cell? ⟨b', 1, none⟩ = some (.int .u16 ya) := fun W hW => hW.2.c1
            have g2 : ∀ W, (CBlk W b (xl, xa, xo, xn) ∧ CBlk W b' (xl, ya, yo, xn)) → W.cell? ⟨b', 2, none⟩ = some (.int .u16 yo) := fun W hW => hW.2.c2
            have g3 : ∀ W, (CBlk W b (xl, xa, xo, xn) ∧ CBlk W b' (xl, ya, yo, xn)) → W.cell? ⟨b', 3, none⟩ = some (.int .u16 xn) := fun W hW => hW.2.c3
            have hS : CBlk wd.drew b (xl, xa, xo, xn) ∧ CBlk wd.drew b' (xl, ya, yo, xn) := ⟨HX3.out, HW3.out⟩
            have HY4 := HY3.out.drew
            have HZ4 := Lib.hid HZ3.out.drew
            obtain ⟨we, hwe⟩ : ∃ we, wd.drew = we := ⟨_, rfl⟩
            rw [hwe] at hS HY4 HZ4
            refine region_seq (fun W => CBlk W b (xl, xa, xo, xn) ∧ CBlk W b' (xl, ya, yo, xn)) [(0, false), (1, false), (2, true), (3, true)] (by kernel_rfl) (by kernel_rfl) rfl (by kernel_rfl) ?_
            rw [hwe]
            clear hwe HY3 HZ3 HX3 HW3
            iterate 2 (refine seq_read (v := _) rfl (fun _ _ _ h => h) hS (Or.inl ⟨by rfl, fun W hW => by go_simp <;> with_reducible rfl⟩) ?_; simp only [Act.put, List.setIfInBounds_toArray, List.set_cons_zero, List.set_cons_succ])
            have c0 := HY4.blk.c0
            have c1 := HY4.blk.c1
            have c2 := HY4.blk.c2
            have c3 := HY4.blk.c3
            have e0 := HY4.blk.frozen 0
            have e1 := HY4.blk.frozen 1
            have e2 := HY4.blk.frozen 2
            have e3 := HY4.blk.frozen 3
            refine seq_do rfl (fun K hK => ?_)
            go_simp
            have HY5 := HY4.put (xl, xa, xo, xn)
            have HZ5 := HZ4.out.other (Ne.symm HN.out) HY4.lo (xl, xa, xo, xn)
            have hS : CBlk (put4 we w.heap.size (xl, xa, xo, xn)) b (xl, xa, xo, xn) ∧ CBlk (put4 we w.heap.size (xl, xa, xo, xn)) b' (xl, ya, yo, xn) := ⟨hS.1.other (Ne.symm NB.out.1) _, hS.2.other (Ne.symm NB2.out.1) _⟩
            dsimp only [put4] at HY5 HZ5 hS
            refine hK.out _ _ _ (fun W h => h) hS ?_
            clear hK K c0 c1 c2 c3 e0 e1 e2 e3 HY4 HZ4
            generalize (((we.setCell ⟨w.heap.size, 0, none⟩ (.bool xl)).setCell ⟨w.heap.size, 1, none⟩ (.int .u16 xa)).setCell ⟨w.heap.size, 2, none⟩ (.int .u16 xo)).setCell ⟨w.heap.size, 3, none⟩ (.int .u16 xn) = wf at *
            have HY5 := Lib.hid HY5
            have c0 := HZ5.blk.c0
            have c1 := HZ5.blk.c1
            have c2 := HZ5.blk.c2
            have c3 := HZ5.blk.c3
            have e0 := HZ5.blk.frozen 0
            have e1 := HZ5.blk.frozen 1
            have e2 := HZ5.blk.frozen 2
            have e3 := HZ5.blk.frozen 3
            refine seq_do rfl (fun K hK => ?_)
            go_simp
            have HZ6 := HZ5.put (xl, ya, yo, xn)
            have HY6 := HY5.out.other HN.out HZ5.lo (xl, ya, yo, xn)
            have hS : CBlk (put4 wf p (xl, ya, yo, xn)) b (xl, xa, xo, xn) ∧ CBlk (put4 wf p (xl, ya, yo, xn)) b' (xl, ya, yo, xn) := ⟨hS.1.other (Ne.symm NB.out.2) _, hS.2.other (Ne.symm NB2.out.2.1) _⟩
            dsimp only [put4] at HY6 HZ6 hS
            refine hK.out _ _ _ (fun W h => h) hS ?_
            clear hK K c0 c1 c2 c3 e0 e1 e2 e3 HY5 HZ5
            generalize (((wf.setCell ⟨p, 0, none⟩ (.bool xl)).setCell ⟨p, 1, none⟩ (.int .u16 ya)).setCell ⟨p, 2, none⟩ (.int .u16 yo)).setCell ⟨p, 3, none⟩ (.int .u16 xn) = wg at *
            have HY6 := Lib.hid HY6
            have HZ6 := Lib.hid HZ6
            clear hS f0 f1 f2 f3 g0 g1 g2 g3
            refine seq_end ?_
            go_wp2_with fail
            go_roundw
            case rel => exact ⟨k + 1, (xl, xa, xo, xn), (xl, ya, yo, xn), by omega, by omega, by go_num, HY6, HZ6, HE, HO⟩
            case measure => simp [intOf]; omega
      · obtain rfl : k = 100 := by omega
        go_wp2
        go_ret
        exact ⟨rfl, hy.out.bel⟩
    · obtain rfl : k = m := by omega
      have hd1 : decide (k < k) = false := by simp
      go_wp2
      go_ret
      exact ⟨rfl, hy.out.bel⟩
end Go.Proofs.Ytbpfninaaenhpaa.Crs
