/- CourseGap walked. -/
import Derived.Test.YtbpfninaaenhpaaJc
import Derived.Test.YtbpfninaaenhpaaFl
set_option maxRecDepth 100000
namespace Go.Proofs.Ytbpfninaaenhpaa.Crs
open Go.RowKit
open Opn (boolL bool_at)
set_option linter.unusedVariables false

theorem refd_no {l : Bool} {a o n g : Int} (h : refd (l, a, o, n) g = true) : l = true ∧ ah16 g a = false := by
  simp only [refd, Bool.and_eq_true, Bool.not_eq_true'] at h
  exact h
set_option maxHeartbeats 8000000 in
theorem gap_any (w : World) (c : Co) (hc : CoOk c) (ad : Option Addr) (m cap : Nat) (xs : List Int) (hr : RowRd w16L w w.heap.size ad m xs) (ab : Option Addr) (mb capb : Nat) (bs : List Bool) (hb : RowRd boolL w w.heap.size ab mb bs) :
    Calls Try.prog 4 #[coV c, .slice ad m cap, .slice ab mb capb] w fun e w' => e = .returned (.bool true) ∧ Below w.heap.size w w' := by
  have CS := Lib.hid (fun W => shown_any W)
  have HR := Lib.hid hr
  have HT := Lib.hid hb
  have HO := Lib.hid hc.2.2
  have H0 : Hid (Cur w (w.alloc (coO c)) w.heap.size c) := Lib.hid ⟨CBlk.new w c, (Below.refl _ _).alloc (Nat.le_refl _) _, Nat.le_refl _⟩
  clear hc hr hb
  go_enter Try.func4, Try.ntmps4
  go_wp2_with fail
  refine (CS.out _).mono ?_
  rintro e w1 ⟨rfl, hb⟩
  have H1 := H0.out.more hb
  have c3 := H1.blk.c3
  have H1 := Lib.hid H1
  clear hb H0 CS
  go_wp2
  go_loopw [7, 8] (fun s7 s8 wx => ∃ (i : Nat) (y : Co), i ≤ m ∧ i ≤ 200 ∧ s7 = .int .u16 y.2.2.2 ∧ s8 = .int .i64 i ∧ Hid (Cur w wx w.heap.size y) ∧ Hid (0 ≤ y.2.2.2 ∧ y.2.2.2 ≤ 65535)) (fun _ s8 _ => m - (intOf s8).toNat)
  case atStart => exact ⟨0, c, by omega, by omega, rfl, rfl, H1, HO⟩
  case round =>
    obtain ⟨k, y, hkm, hk1, rfl, rfl, hy, ho⟩ := hrel
    rename World => wx
    clear H1 HO c3
    by_cases h1 : k < m
    · have hd1 : decide (k < m) = true := by simp; exact h1
      by_cases h2 : k < 200
      · have hd2 : decide ((k : Int) < 200) = true := by simp; omega
        obtain ⟨tb, toff, g, rfl, htb, hg, t0⟩ := u16_at HR.out h1
        have TB := Lib.hid (fun (W : World) (hW : Below w.heap.size w W) => (hW.cell (p := ⟨tb, toff + k, none⟩) htb).trans t0)
        clear t0 hg htb
        obtain ⟨B, hB⟩ : ∃ B, (decide (k < mb) && bs.getD k false) = B := ⟨_, rfl⟩
        have HB := Lib.hid hB
        clear hB
        go_upto_region 7 with fail
        go_cut [35] from 16 to 100 (fun s35 wc => s35 = .bool B ∧ wx = wc)
        case first =>
          by_cases h3 : k < mb
          · have hd3 : decide (k < mb) = true := by simp; exact h3
            obtain ⟨zb, zoff, bb, rfl, hzb, hzg, z0⟩ := bool_at HT.out h3
            have z1 := (hy.out.bel.cell (p := ⟨zb, zoff + k, none⟩) hzb).trans z0
            obtain rfl : bb = B := by have := HB.out; rw [hd3, List.getD_eq_getElem?_getD, hzg] at this; simpa using this
            clear z0 hzg hzb
            go_wp2
            go_meet
            case rel => exact ⟨rfl, rfl⟩
          · have hd3 : decide (k < mb) = false := by simp; omega
            obtain rfl : false = B := by have := HB.out; rw [hd3] at this; simpa using this
            go_wp2
            go_meet
            case rel => exact ⟨rfl, rfl⟩
        case rest =>
          obtain ⟨rfl, rfl⟩ := hcut
          clear HB
          go_upto_if 35 with fail
          go_cut [] from 16 to 100 (fun wc => ∃ y' : Co, Hid (Cur w wc w.heap.size y') ∧ Hid (y'.2.2.2 = y.2.2.2))
          case first =>
            cases B with
            | false =>
              go_wp2
              go_meet
              case rel => exact ⟨y, hy, Lib.hid rfl⟩
            | true =>
              have CB := Lib.hid (fun W => brk_any W y)
              have c0 := hy.out.blk.c0
              have c1 := hy.out.blk.c1
              have c2 := hy.out.blk.c2
              have c3 := hy.out.blk.c3
              go_wp2_with fail
              refine (CB.out _).mono ?_
              rintro e w5 ⟨rfl, hb⟩
              have H5 := hy.out.more hb
              clear c0 c1 c2 c3
              have c0 := H5.blk.c0
              have c1 := H5.blk.c1
              have c2 := H5.blk.c2
              have c3 := H5.blk.c3
              have e0 := H5.blk.frozen 0
              have e1 := H5.blk.frozen 1
              have e2 := H5.blk.frozen 2
              have e3 := H5.blk.frozen 3
              have H6 := Lib.hid (H5.put (brk y))
              clear hb H5 CB hy
              go_wp2
              go_meet
              case rel => exact ⟨brk y, H6, Lib.hid rfl⟩
          case rest =>
            obtain ⟨⟨l, a, o, n⟩, hz, hn⟩ := hcut
            have hn2 : n = y.2.2.2 := hn.out
            have HO := Lib.hid ho.out
            rw [← hn2] at HO
            rw [← hn2]
            clear hn hn2 hy ho
            obtain ⟨⟨xl, xa, xo, xn⟩, nn, v, hx⟩ : ∃ x nn v, stp (l, a, o, n) g = (x, nn, v) := ⟨_, _, _, rfl⟩
            have C1 := Lib.hid (fun W => step_any W (l, a, o, n) g)
            rw [hx] at C1
            have HX := Lib.hid hx
            clear hx
            rename World => wy
            go_upto_region 9 with fail
            go_cut [9, 10, 11] from 16 to 100 (fun s9 s10 s11 wd => ∃ b, s9 = .pointer (some ⟨b, 0, none⟩) ∧ s10 = .int .u16 nn ∧ s11 = .bool v ∧ Hid (CBlk wd b (xl, xa, xo, xn) ∧ wy.heap.size ≤ b ∧ Below wy.heap.size wy wd))
            case first =>
              have f0 : ∀ W, Below wy.heap.size wy W → W.cell? ⟨w.heap.size, 0, none⟩ = some (.bool l) := fun W hW => (hz.out.more hW).blk.c0
              have f1 : ∀ W, Below wy.heap.size wy W → W.cell? ⟨w.heap.size, 1, none⟩ = some (.int .u16 a) := fun W hW => (hz.out.more hW).blk.c1
              have f2 : ∀ W, Below wy.heap.size wy W → W.cell? ⟨w.heap.size, 2, none⟩ = some (.int .u16 o) := fun W hW => (hz.out.more hW).blk.c2
              have f3 : ∀ W, Below wy.heap.size wy W → W.cell? ⟨w.heap.size, 3, none⟩ = some (.int .u16 n) := fun W hW => (hz.out.more hW).blk.c3
              have f4 : ∀ W, Below wy.heap.size wy W → W.cell? ⟨tb, toff + k, none⟩ = some (.int .u16 g) := fun W hW => TB.out W (hz.out.more hW).bel
              have hS : Below wy.heap.size wy wy.drew := (Below.refl _ _).drew
              refine region_tree (Below wy.heap.size wy) (.rd 0 (.rd 1 (.rd 2 (.rd 3 (.rd 4 (.fk 5 10 (.rd 6 (.rd 7 (.rd 8 (.rd 9 (.dn 10 (.dn 11 (.rd 12 (.rd 13 .nil)))))))) (.dn 5 (.rd 6 (.rd 7 (.rd 8 (.rd 9 (.dn 11 (.rd 12 (.rd 13 .nil)))))))))))))) (by kernel_rfl) (by kernel_rfl) rfl (by kernel_rfl) ?_
              iterate 5 (refine seqT_read (v := _) rfl (fun _ _ _ h => h) hS (Or.inl ⟨by rfl, fun W hW => by go_simp <;> with_reducible rfl⟩) ?_; simp only [Act.put, List.setIfInBounds_toArray, List.set_cons_zero, List.set_cons_succ])
              refine seqT_fork rfl rfl (fun K hK => ?_) (fun K hK => ?_)
              · go_simp
                refine (C1.out _).mono ?_
                rintro e w5 ⟨rfl, hb⟩
                have hS : Below wy.heap.size wy w5 := hS.trans (hb.mono hS.size)
                refine hK.out _ _ _ (fun W h => h) hS ?_
                clear hK K hb
                iterate 4 (refine seqT_read (v := _) rfl (fun _ _ _ h => h) hS (Or.inl ⟨by rfl, fun W hW => by go_simp <;> with_reducible rfl⟩) ?_; simp only [Act.put, List.setIfInBounds_toArray, List.set_cons_zero, List.set_cons_succ])
                refine seqT_do rfl (fun K hK => ?_)
                go_simp
                have hL : wy.heap.size ≤ w5.heap.size := hS.size
                have hS6 : Below wy.heap.size wy (w5.alloc (coO co0)) := hS.alloc hS.size _
                refine hK.out _ _ _ (fun W h => h) hS6 ?_
                clear hK K
                refine seqT_do rfl (fun K hK => ?_)
                go_simp
                have hS : Below wy.heap.size wy (w5.alloc (coO (xl, xa, xo, xn))) := hS.alloc hS.size _
                refine hK.out _ _ _ (fun W h => h) hS ?_
                clear hK K hS6
                have D := CBlk.new w5 (xl, xa, xo, xn)
                obtain ⟨B, hB⟩ : ∃ B, w5.heap.size = B := ⟨_, rfl⟩
                obtain ⟨W, hW⟩ : ∃ W, w5.alloc (coO (xl, xa, xo, xn)) = W := ⟨_, rfl⟩
                rw [hW, hB] at D
                rw [hW] at hS
                rw [hB] at hL
                rw [hW, hB]
                clear hW hB
                iterate 2 (refine seqT_read (v := _) rfl (fun _ _ _ h => h) hS (Or.inl ⟨by rfl, fun W hW => by go_simp <;> with_reducible rfl⟩) ?_; simp only [Act.put, List.setIfInBounds_toArray, List.set_cons_zero, List.set_cons_succ])
                refine seqT_end ?_
                go_wp2_with fail
                go_meet
                case rel => exact ⟨_, rfl, rfl, rfl, Lib.hid ⟨D, hL, hS⟩⟩
              · go_simp
                have D := CBlk.new wy co0
                have hS : Below wy.heap.size wy (wy.alloc (coO co0)).drew := ((Below.refl _ _).alloc (Nat.le_refl _) _).drew
                obtain ⟨w4, hw4⟩ : ∃ w4, (wy.alloc (coO co0)).drew = w4 := ⟨_, rfl⟩
                have D : CBlk w4 wy.heap.size co0 := by rw [← hw4]; exact D
                rw [hw4] at hS
                rw [hw4]
                clear hw4
                refine hK.out _ _ _ (fun W h => h) hS ?_
                clear hK K
                refine seqT_do rfl (fun K hK => ?_)
                go_simp
                refine (C1.out _).mono ?_
                rintro e w5 ⟨rfl, hb⟩
                have hS : Below wy.heap.size wy w5 := hS.trans (hb.mono hS.size)
                have D := D.bel hb D.lt
                refine hK.out _ _ _ (fun W h => h) hS ?_
                clear hK K hb
                iterate 4 (refine seqT_read (v := _) rfl (fun _ _ _ h => h) hS (Or.inl ⟨by rfl, fun W hW => by go_simp <;> with_reducible rfl⟩) ?_; simp only [Act.put, List.setIfInBounds_toArray, List.set_cons_zero, List.set_cons_succ])
                have d0 := D.c0
                have e0 := D.frozen 0
                have d1 := D.c1
                have e1 := D.frozen 1
                have d2 := D.c2
                have e2 := D.frozen 2
                have d3 := D.c3
                have e3 := D.frozen 3
                refine seqT_do rfl (fun K hK => ?_)
                go_simp
                have hS : Below wy.heap.size wy ((((w5.setCell ⟨wy.heap.size, 0, none⟩ (.bool xl)).setCell ⟨wy.heap.size, 1, none⟩ (.int .u16 xa)).setCell ⟨wy.heap.size, 2, none⟩ (.int .u16 xo)).setCell ⟨wy.heap.size, 3, none⟩ (.int .u16 xn)) := bel_put4 hS (Nat.le_refl _) (xl, xa, xo, xn)
                have D : CBlk ((((w5.setCell ⟨wy.heap.size, 0, none⟩ (.bool xl)).setCell ⟨wy.heap.size, 1, none⟩ (.int .u16 xa)).setCell ⟨wy.heap.size, 2, none⟩ (.int .u16 xo)).setCell ⟨wy.heap.size, 3, none⟩ (.int .u16 xn)) wy.heap.size (xl, xa, xo, xn) := D.store (xl, xa, xo, xn)
                clear d0 e0 d1 e1 d2 e2 d3 e3
                have hL := Nat.le_refl wy.heap.size
                obtain ⟨B, hB⟩ : ∃ B, wy.heap.size = B := ⟨_, rfl⟩
                obtain ⟨W, hW⟩ : ∃ W, (((w5.setCell ⟨wy.heap.size, 0, none⟩ (.bool xl)).setCell ⟨wy.heap.size, 1, none⟩ (.int .u16 xa)).setCell ⟨wy.heap.size, 2, none⟩ (.int .u16 xo)).setCell ⟨wy.heap.size, 3, none⟩ (.int .u16 xn) = W := ⟨_, rfl⟩
                rw [hW] at D hS
                rw [hW]
                clear hW
                refine hK.out _ _ _ (fun W h => h) hS ?_
                clear hK K
                iterate 2 (refine seqT_read (v := _) rfl (fun _ _ _ h => h) hS (Or.inl ⟨by rfl, fun W hW => by go_simp <;> with_reducible rfl⟩) ?_; simp only [Act.put, List.setIfInBounds_toArray, List.set_cons_zero, List.set_cons_succ])
                refine seqT_end ?_
                go_wp2_with fail
                go_meet
                case rel => exact ⟨_, rfl, rfl, rfl, Lib.hid ⟨D, hL, hS⟩⟩
            case rest =>
              obtain ⟨b, rfl, rfl, rfl, hb⟩ := hcut
              rename World => wd
              have HZ := Lib.hid (hz.out.more hb.out.2.2)
              have HD := Lib.hid hb.out.1
              have NB := Lib.hid (show w.heap.size ≠ b from by have := hb.out.2.1; have h1 := hz.out.blk.lt; omega)
              clear hb hz C1
              cases hh : refd (l, a, o, n) g with
              | true =>
                have hx := HX.out
                rw [stp_no hh] at hx
                simp only [Prod.mk.injEq] at hx
                obtain ⟨⟨rfl, rfl, rfl, rfl⟩, rfl, rfl⟩ := hx
                obtain ⟨rfl, ha⟩ := refd_no hh
                have CA := Lib.hid (fun W => ahead16_any g a W)
                rw [ha] at CA
                clear HX hh ha
                go_upto_region 11 with fail
                obtain ⟨we, hwe⟩ : ∃ we, wd.drew = we := ⟨_, rfl⟩
                have hz : Cur w we w.heap.size (true, a, o, n) := hwe ▸ HZ.out.drew
                have hd : CBlk we b (true, a, o, n) := hwe ▸ HD.out
                have f0 : ∀ W, we = W → W.cell? ⟨w.heap.size, 0, none⟩ = some (.bool true) := fun W hW => hW ▸ hz.blk.c0
                have f1 : ∀ W, we = W → W.cell? ⟨w.heap.size, 1, none⟩ = some (.int .u16 a) := fun W hW => hW ▸ hz.blk.c1
                have f2 : ∀ W, we = W → W.cell? ⟨w.heap.size, 2, none⟩ = some (.int .u16 o) := fun W hW => hW ▸ hz.blk.c2
                have f3 : ∀ W, we = W → W.cell? ⟨w.heap.size, 3, none⟩ = some (.int .u16 n) := fun W hW => hW ▸ hz.blk.c3
                have g0 : ∀ W, we = W → W.cell? ⟨b, 0, none⟩ = some (.bool true) := fun W hW => hW ▸ hd.c0
                have g1 : ∀ W, we = W → W.cell? ⟨b, 1, none⟩ = some (.int .u16 a) := fun W hW => hW ▸ hd.c1
                have g2 : ∀ W, we = W → W.cell? ⟨b, 2, none⟩ = some (.int .u16 o) := fun W hW => hW ▸ hd.c2
                have g3 : ∀ W, we = W → W.cell? ⟨b, 3, none⟩ = some (.int .u16 n) := fun W hW => hW ▸ hd.c3
                have f4 : ∀ W, we = W → W.cell? ⟨tb, toff + k, none⟩ = some (.int .u16 g) := fun W hW => hW ▸ TB.out we hz.bel
                have qe := neq_same (true, a, o, n)
                have HZ := Lib.hid hz
                have hS : we = we := rfl
                refine region_seq (fun W => we = W) [(0, false), (1, false), (2, false), (3, false), (4, false), (5, false), (6, false), (7, false), (8, false), (9, false), (10, false), (11, false), (12, false), (13, false), (14, false), (15, false), (16, false), (17, false), (18, false), (19, true), (20, false)] (by kernel_rfl) (by kernel_rfl) rfl (by kernel_rfl) ?_
                rw [hwe]
                clear hwe HD hz hd
                iterate 19 (refine seq_read (v := _) rfl (fun _ _ _ h => h) hS (Or.inl ⟨by rfl, fun W hW => by go_simp <;> with_reducible rfl⟩) ?_; simp only [Act.put, List.setIfInBounds_toArray, List.set_cons_zero, List.set_cons_succ])
                refine seq_do rfl (fun K hK => ?_)
                go_simp
                refine (CA.out _).mono ?_
                rintro e w8 ⟨rfl, rfl⟩
                refine hK.out _ _ _ (fun W h => h) hS ?_
                clear hK K
                iterate 1 (refine seq_read (v := _) rfl (fun _ _ _ h => h) hS (Or.inl ⟨by rfl, fun W hW => by go_simp <;> with_reducible rfl⟩) ?_; simp only [Act.put, List.setIfInBounds_toArray, List.set_cons_zero, List.set_cons_succ])
                refine seq_end ?_
                clear f0 f1 f2 f3 f4 g0 g1 g2 g3
                go_wp2_with fail
                go_roundw
                case rel => exact ⟨k + 1, (true, a, o, n), by omega, by omega, rfl, by go_num, HZ, HO⟩
                case measure => simp [intOf]; omega
              | false =>
                have hx := HX.out
                rw [stp_yes hh] at hx
                simp only [Prod.mk.injEq] at hx
                obtain ⟨⟨rfl, rfl, hxo, hxn⟩, rfl, rfl⟩ := hx
                have q1 : IntKind.u16.wrap (n + 1) = xn := by rw [u16_wrap]; exact hxn
                have HO2 := Lib.hid (show 0 ≤ xn ∧ xn ≤ 65535 from by omega)
                have CO := Lib.hid (fun W => out_any W (true, g, xo, xn) g)
                have ho : outN (true, g, xo, xn) g = n := by have := HO.out; show (g + xo) % 65536 = n; omega
                rw [ho] at CO
                clear HX hxo hxn ho
                cases l with
                | true =>
                  have ha : ah16 g a = true := by cases hq : ah16 g a with
                    | true => rfl
                    | false => simp [refd, hq] at hh
                  have CA := Lib.hid (fun W => ahead16_any g a W)
                  rw [ha] at CA
                  clear ha hh
                  go_upto_region 13 with fail
                  obtain ⟨we, hwe⟩ : ∃ we, wd.drew = we := ⟨_, rfl⟩
                  have hz : Cur w we w.heap.size (true, a, o, n) := hwe ▸ HZ.out.drew
                  have hd : CBlk we b (true, g, xo, xn) := hwe ▸ HD.out
                  have HZ := Lib.hid hz
                  have HD := Lib.hid hd
                  have f0 : ∀ W, Below we.heap.size we W → W.cell? ⟨w.heap.size, 0, none⟩ = some (.bool true) := fun W hW => (HZ.out.more hW).blk.c0
                  have f1 : ∀ W, Below we.heap.size we W → W.cell? ⟨w.heap.size, 1, none⟩ = some (.int .u16 a) := fun W hW => (HZ.out.more hW).blk.c1
                  have g0 : ∀ W, Below we.heap.size we W → W.cell? ⟨b, 0, none⟩ = some (.bool true) := fun W hW => (HD.out.bel hW HD.out.lt).c0
                  have g1 : ∀ W, Below we.heap.size we W → W.cell? ⟨b, 1, none⟩ = some (.int .u16 g) := fun W hW => (HD.out.bel hW HD.out.lt).c1
                  have g2 : ∀ W, Below we.heap.size we W → W.cell? ⟨b, 2, none⟩ = some (.int .u16 xo) := fun W hW => (HD.out.bel hW HD.out.lt).c2
                  have g3 : ∀ W, Below we.heap.size we W → W.cell? ⟨b, 3, none⟩ = some (.int .u16 xn) := fun W hW => (HD.out.bel hW HD.out.lt).c3
                  have f4 : ∀ W, Below we.heap.size we W → W.cell? ⟨tb, toff + k, none⟩ = some (.int .u16 g) := fun W hW => TB.out W (HZ.out.more hW).bel
                  have hS : Below we.heap.size we we := Below.refl _ _
                  refine region_seq (Below we.heap.size we) [(0, false), (1, false), (2, false), (3, false), (4, false), (5, false), (6, false), (7, false), (8, false), (10, false), (9, true), (11, false), (12, false), (13, false), (14, false), (15, false), (16, false), (17, false), (18, false), (19, false), (20, false), (21, false), (22, false), (23, true), (24, false), (25, false), (26, false)] (by kernel_rfl) (by kernel_rfl) rfl (by kernel_rfl) ?_
                  rw [hwe]
                  clear hwe hz hd
                  iterate 10 (refine seq_read (v := _) rfl (fun _ _ _ h => h) hS (Or.inl ⟨by rfl, fun W hW => by go_simp <;> with_reducible rfl⟩) ?_; simp only [Act.put, List.setIfInBounds_toArray, List.set_cons_zero, List.set_cons_succ])
                  refine seq_do rfl (fun K hK => ?_)
                  go_simp
                  refine (CO.out _).mono ?_
                  rintro e w8 ⟨rfl, hb⟩
                  have hS : Below we.heap.size we w8 := hS.trans (hb.mono hS.size)
                  refine hK.out _ _ _ (fun W h => h) hS ?_
                  clear hK K hb
                  iterate 12 (refine seq_read (v := _) rfl (fun _ _ _ h => h) hS (Or.inl ⟨by rfl, fun W hW => by go_simp <;> with_reducible rfl⟩) ?_; simp only [Act.put, List.setIfInBounds_toArray, List.set_cons_zero, List.set_cons_succ])
                  refine seq_do rfl (fun K hK => ?_)
                  go_simp
                  refine (CA.out _).mono ?_
                  rintro e w9 ⟨rfl, rfl⟩
                  refine hK.out _ _ _ (fun W h => h) hS ?_
                  clear hK K
                  iterate 3 (refine seq_read (v := _) rfl (fun _ _ _ h => h) hS (Or.inl ⟨by rfl, fun W hW => by go_simp <;> with_reducible rfl⟩) ?_; simp only [Act.put, List.setIfInBounds_toArray, List.set_cons_zero, List.set_cons_succ])
                  refine seq_end ?_
                  clear f0 f1 f4 g0 g1 g2 g3
                  have H8 := HZ.out.more hS
                  have D8 := HD.out.bel hS HD.out.lt
                  have c0 := H8.blk.c0
                  have c1 := H8.blk.c1
                  have c2 := H8.blk.c2
                  have c3 := H8.blk.c3
                  have e0 := H8.blk.frozen 0
                  have e1 := H8.blk.frozen 1
                  have e2 := H8.blk.frozen 2
                  have e3 := H8.blk.frozen 3
                  have d0 := D8.c0
                  have d1 := D8.c1
                  have d2 := D8.c2
                  have d3 := D8.c3
                  have H9 := H8.put (true, g, xo, xn)
                  dsimp only [put4] at H9
                  have H9 := Lib.hid H9
                  clear HZ HD H8 D8 hS
                  go_wp2_with fail
                  clear c0 c1 c2 c3 e0 e1 e2 e3 d0 d1 d2 d3
                  generalize (((w8.setCell ⟨w.heap.size, 0, none⟩ (.bool true)).setCell ⟨w.heap.size, 1, none⟩ (.int .u16 g)).setCell ⟨w.heap.size, 2, none⟩ (.int .u16 xo)).setCell ⟨w.heap.size, 3, none⟩ (.int .u16 xn) = wf at *
                  go_roundw
                  case rel => exact ⟨k + 1, (true, g, xo, xn), by omega, by omega, rfl, by go_num, H9, HO2⟩
                  case measure => simp [intOf]; omega
                | false =>
                  clear hh
                  go_upto_region 13 with fail
                  obtain ⟨we, hwe⟩ : ∃ we, wd.drew = we := ⟨_, rfl⟩
                  have hz : Cur w we w.heap.size (false, a, o, n) := hwe ▸ HZ.out.drew
                  have hd : CBlk we b (true, g, xo, xn) := hwe ▸ HD.out
                  have HZ := Lib.hid hz
                  have HD := Lib.hid hd
                  have f0 : ∀ W, Below we.heap.size we W → W.cell? ⟨w.heap.size, 0, none⟩ = some (.bool false) := fun W hW => (HZ.out.more hW).blk.c0
                  have f1 : ∀ W, Below we.heap.size we W → W.cell? ⟨w.heap.size, 1, none⟩ = some (.int .u16 a) := fun W hW => (HZ.out.more hW).blk.c1
                  have g0 : ∀ W, Below we.heap.size we W → W.cell? ⟨b, 0, none⟩ = some (.bool true) := fun W hW => (HD.out.bel hW HD.out.lt).c0
                  have g1 : ∀ W, Below we.heap.size we W → W.cell? ⟨b, 1, none⟩ = some (.int .u16 g) := fun W hW => (HD.out.bel hW HD.out.lt).c1
                  have g2 : ∀ W, Below we.heap.size we W → W.cell? ⟨b, 2, none⟩ = some (.int .u16 xo) := fun W hW => (HD.out.bel hW HD.out.lt).c2
                  have g3 : ∀ W, Below we.heap.size we W → W.cell? ⟨b, 3, none⟩ = some (.int .u16 xn) := fun W hW => (HD.out.bel hW HD.out.lt).c3
                  have f4 : ∀ W, Below we.heap.size we W → W.cell? ⟨tb, toff + k, none⟩ = some (.int .u16 g) := fun W hW => TB.out W (HZ.out.more hW).bel
                  have hS : Below we.heap.size we we := Below.refl _ _
                  refine region_seq (Below we.heap.size we) [(0, false), (1, false), (2, false), (3, false), (4, false), (5, false), (6, false), (7, false), (8, false), (10, false), (9, true), (11, false), (12, false), (13, false), (14, false), (15, false), (16, false), (17, false), (18, false), (19, false), (20, false), (21, false), (22, false), (23, true), (24, false), (25, false), (26, false)] (by kernel_rfl) (by kernel_rfl) rfl (by kernel_rfl) ?_
                  rw [hwe]
                  clear hwe hz hd
                  iterate 10 (refine seq_read (v := _) rfl (fun _ _ _ h => h) hS (Or.inl ⟨by rfl, fun W hW => by go_simp <;> with_reducible rfl⟩) ?_; simp only [Act.put, List.setIfInBounds_toArray, List.set_cons_zero, List.set_cons_succ])
                  refine seq_do rfl (fun K hK => ?_)
                  go_simp
                  refine (CO.out _).mono ?_
                  rintro e w8 ⟨rfl, hb⟩
                  have hS : Below we.heap.size we w8 := hS.trans (hb.mono hS.size)
                  refine hK.out _ _ _ (fun W h => h) hS ?_
                  clear hK K hb
                  iterate 6 (refine seq_read (v := _) rfl (fun _ _ _ h => h) hS (Or.inl ⟨by rfl, fun W hW => by go_simp <;> with_reducible rfl⟩) ?_; simp only [Act.put, List.setIfInBounds_toArray, List.set_cons_zero, List.set_cons_succ])
                  iterate 6 (refine seq_read (v := undef) rfl (fun _ _ _ h => h) hS (Or.inr ⟨by rfl, rfl⟩) ?_; simp only [Act.put, List.setIfInBounds_toArray, List.set_cons_zero, List.set_cons_succ])
                  iterate 1 (refine seq_pass rfl (by rfl) hS ?_; simp only [Act.put, List.setIfInBounds_toArray, List.set_cons_zero, List.set_cons_succ])
                  iterate 1 (refine seq_read (v := undef) rfl (fun _ _ _ h => h) hS (Or.inr ⟨by rfl, rfl⟩) ?_; simp only [Act.put, List.setIfInBounds_toArray, List.set_cons_zero, List.set_cons_succ])
                  iterate 2 (refine seq_read (v := _) rfl (fun _ _ _ h => h) hS (Or.inl ⟨by rfl, fun W hW => by go_simp <;> with_reducible rfl⟩) ?_; simp only [Act.put, List.setIfInBounds_toArray, List.set_cons_zero, List.set_cons_succ])
                  refine seq_end ?_
                  clear f0 f1 f4 g0 g1 g2 g3
                  have H8 := HZ.out.more hS
                  have D8 := HD.out.bel hS HD.out.lt
                  have c0 := H8.blk.c0
                  have c1 := H8.blk.c1
                  have c2 := H8.blk.c2
                  have c3 := H8.blk.c3
                  have e0 := H8.blk.frozen 0
                  have e1 := H8.blk.frozen 1
                  have e2 := H8.blk.frozen 2
                  have e3 := H8.blk.frozen 3
                  have d0 := D8.c0
                  have d1 := D8.c1
                  have d2 := D8.c2
                  have d3 := D8.c3
                  have H9 := H8.put (true, g, xo, xn)
                  dsimp only [put4] at H9
                  have H9 := Lib.hid H9
                  clear HZ HD H8 D8 hS
                  go_wp2_with fail
                  clear c0 c1 c2 c3 e0 e1 e2 e3 d0 d1 d2 d3
                  generalize (((w8.setCell ⟨w.heap.size, 0, none⟩ (.bool true)).setCell ⟨w.heap.size, 1, none⟩ (.int .u16 g)).setCell ⟨w.heap.size, 2, none⟩ (.int .u16 xo)).setCell ⟨w.heap.size, 3, none⟩ (.int .u16 xn) = wf at *
                  go_roundw
                  case rel => exact ⟨k + 1, (true, g, xo, xn), by omega, by omega, rfl, by go_num, H9, HO2⟩
                  case measure => simp [intOf]; omega
      · obtain rfl : k = 200 := by omega
        have c3 := hy.out.blk.c3
        go_wp2
        go_ret
        exact ⟨rfl, hy.out.bel⟩
    · obtain rfl : k = m := by omega
      have hd1 : decide (k < k) = false := by simp
      have c3 := hy.out.blk.c3
      go_wp2
      go_ret
      exact ⟨rfl, hy.out.bel⟩
end Go.Proofs.Ytbpfninaaenhpaa.Crs
