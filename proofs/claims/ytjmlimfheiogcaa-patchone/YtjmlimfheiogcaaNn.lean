/- The walk of PatchOne: written by wip/gen/nn.py. -/
import Derived.Test.YtjmlimfheiogcaaNj
namespace Go.Proofs.Ytjmlimfheiogcaa.Pat
open Go.RowKit
open Rtp (PV pkt pobj PBlk pvOf PRd zpv Off)
set_option linter.unusedVariables false

theorem pset_seq {w : World} {b : Nat} {v : PV} (h : PBlk w b v) (y : Int) : PBlk (w.setCell ⟨b, 2, none⟩ (.int .u16 y)) b { v with seq := y } := heap_setCell_same w b 2 _ 39 (.int .u16 y) h
theorem pset_time {w : World} {b : Nat} {v : PV} (h : PBlk w b v) (y : Int) : PBlk (w.setCell ⟨b, 3, none⟩ (.int .u32 y)) b { v with time := y } := heap_setCell_same w b 3 _ 39 (.int .u32 y) h
theorem pset_ssrc {w : World} {b : Nat} {v : PV} (h : PBlk w b v) (y : Int) : PBlk (w.setCell ⟨b, 4, none⟩ (.int .u32 y)) b { v with ssrc := y } := heap_setCell_same w b 4 _ 39 (.int .u32 y) h
theorem PBlk.at {w w' : World} {b base n c : Nat} {A : Option Addr} {xs : List Int} {v : PV} (h : PBlk w b v) (ha : At A w w') (ho : Own w base A n c xs) : PBlk w' b v :=
  (World.grownBy.block ha b h.lt (by
    rcases ho.2.2.2.2 with ⟨rfl, -, -⟩ | ⟨g, T, rfl, hg, hk, -⟩
    · simp
    · have := h.ne_blk hk
      simpa using fun e => this e.symm)).trans h

set_option maxHeartbeats 20000000 in
theorem one_yes (a : Option Addr) (len cap : Nat) (y0 y1 y2 f t : Int) (p : Pkt) (xs x0 x1 x2 : List Int) (w : World)
    (HR : Hid (∀ W, Below w.heap.size w W → Rd W w.heap.size a len xs))
    (CG : Hid (∀ W, Below w.heap.size w W → Calls Try.prog 16 #[.slice a len cap] W (Rtp.RRet W p f t 0)))
    (CC : Hid (∀ W, Below w.heap.size w W → Calls Try.prog 9 #[.slice a len cap] W (CopyRow W len xs)))
    (C0 : Hid (∀ W base A c, Own W base A len c xs → Calls Try.prog 17 #[.slice A len c, .int .u16 y0] W (Wrote W base A len c x0 true)))
    (P0 : Hid (∀ W lc, PRd W W.heap.size { p with seq := y0 } lc → Calls Try.prog 20 #[pkt (pvOf { p with seq := y0 } lc)] W (Rtp.RetR W x0 0)))
    (C1 : Hid (∀ W base A c, Own W base A len c xs → Calls Try.prog 18 #[.slice A len c, .int .u32 y1] W (Wrote W base A len c x1 true)))
    (P1 : Hid (∀ W lc, PRd W W.heap.size { p with time := y1 } lc → Calls Try.prog 20 #[pkt (pvOf { p with time := y1 } lc)] W (Rtp.RetR W x1 0)))
    (C2 : Hid (∀ W base A c, Own W base A len c xs → Calls Try.prog 19 #[.slice A len c, .int .u32 y2] W (Wrote W base A len c x2 true)))
    (P2 : Hid (∀ W lc, PRd W W.heap.size { p with ssrc := y2 } lc → Calls Try.prog 20 #[pkt (pvOf { p with ssrc := y2 } lc)] W (Rtp.RetR W x2 0))) :
    Calls Try.prog 4 #[.slice a len cap, .int .u16 y0, .int .u32 y1, .int .u32 y2] w (Rtp.RetB w true) := by
  go_enter Try.func4, Try.ntmps4
  go_wp2_with fail
  refine (shown_any _).mono ?_
  rintro e w1 ⟨rfl, hb1⟩
  go_wp2_with fail
  refine (CG.out _ hb1).mono ?_
  rintro e w2 ⟨lc, rfl, hq, hb2⟩
  obtain ⟨v, hv⟩ : ∃ v, pvOf p lc = v := ⟨_, rfl⟩
  rw [hv]
  have hb3 := (Below.refl w2.heap.size w2).alloc (Nat.le_refl _) (pobj v)
  have HB3 := Lib.hid ((hb1.trans (hb2.mono hb1.size)).trans (hb3.mono (Nat.le_trans hb1.size hb2.size)))
  have HP3 := Lib.hid (PBlk.new w2 v)
  have HQ3 := Lib.hid ((hq.below hb3).more hb3.size)
  have HV := Lib.hid hv
  have hz3 : w2.heap.size < (w2.alloc (pobj v)).heap.size := HP3.out.lt
  clear hb1 hb2 hb3 hq hv CG
  go_wp2_with fail
  generalize w2.alloc (pobj v) = w3 at *
  generalize w2.heap.size = bp at *
  go_loopw [13] (fun j wx => ∃ i : Int, 0 ≤ i ∧ i ≤ 3 ∧ j = .int .i64 i ∧ Below w3.heap.size w3 wx) (fun j _ => (3 - intOf j).toNat)
  case atStart => exact ⟨0, by omega, by omega, rfl, Below.refl _ _⟩
  case round =>
    obtain ⟨i, hi0, hi3, rfl, hbx⟩ := hrel
    rename World => wx
    have HBX := Lib.hid hbx
    have HBW := Lib.hid (HB3.out.trans (hbx.mono HB3.out.size))
    have Dp := HP3.out.below hbx hz3
    have hzx : bp < wx.heap.size := Dp.lt
    clear hbx
    obtain rfl | rfl | rfl | rfl : i = 0 ∨ i = 1 ∨ i = 2 ∨ i = 3 := by omega
    · skip
      go_wp2_with fail
      have hS : PBlk wx.drew bp v := pdrew Dp
      have c0 : ∀ W, PBlk W bp v → W.cell? ⟨bp, 0, none⟩ = some (.bool v.mrk) := fun W h => h.c0
      have c1 : ∀ W, PBlk W bp v → W.cell? ⟨bp, 1, none⟩ = some (.int .i64 v.ty) := fun W h => h.c1
      have c2 : ∀ W, PBlk W bp v → W.cell? ⟨bp, 2, none⟩ = some (.int .u16 v.seq) := fun W h => h.c2
      have c3 : ∀ W, PBlk W bp v → W.cell? ⟨bp, 3, none⟩ = some (.int .u32 v.time) := fun W h => h.c3
      have c4 : ∀ W, PBlk W bp v → W.cell? ⟨bp, 4, none⟩ = some (.int .u32 v.ssrc) := fun W h => h.c4
      have c5 : ∀ W, PBlk W bp v → W.cell? ⟨bp, 5, none⟩ = some (.slice v.ca v.cn v.cc) := fun W h => h.c5
      have c6 : ∀ W, PBlk W bp v → W.cell? ⟨bp, 6, none⟩ = some (.bool v.he) := fun W h => h.c6
      have c7 : ∀ W, PBlk W bp v → W.cell? ⟨bp, 7, none⟩ = some (.int .u16 v.prof) := fun W h => h.c7
      have c8 : ∀ W, PBlk W bp v → W.cell? ⟨bp, 8, none⟩ = some (.slice v.ea v.en v.ec) := fun W h => h.c8
      have c9 : ∀ W, PBlk W bp v → W.cell? ⟨bp, 9, none⟩ = some (.slice v.pa v.pn v.pc) := fun W h => h.c9
      have c10 : ∀ W, PBlk W bp v → W.cell? ⟨bp, 10, none⟩ = some (.int .i64 v.pad) := fun W h => h.c10
      refine region_tree (fun W => PBlk W bp v) (.rd 0 (.rd 2 (.fk 1 3 (.dn 3 (.rd 4 (.dn 5 (.rd 6 .nil)))) (.dn 1 (.rd 4 (.dn 5 (.rd 6 .nil))))))) (by kernel_rfl) (by kernel_rfl) rfl (by kernel_rfl) ?_
      iterate 2 (refine seqT_read (v := _) rfl (fun _ _ _ h => h) hS (Or.inl ⟨by rfl, fun W hW => by go_simp <;> with_reducible rfl⟩) ?_; simp only [Act.put, List.setIfInBounds_toArray, List.set_cons_zero, List.set_cons_succ])
      clear c0 c1 c2 c3 c4 c5 c6 c7 c8 c9 c10
      refine seqT_fork rfl rfl (fun K hK => ?_) (fun K hK => ?_)
      · skip
        go_simp
        refine (CC.out _ HBW.out.drew).mono ?_
        rintro e w4 ⟨A, c, rfl, ho4, hb4⟩
        have hb4' : Below wx.heap.size wx w4 := ((Below.refl wx.heap.size wx).drew).trans hb4
        have ho4' : Own w4 wx.heap.size A len c xs := ho4
        have hS : PBlk w4 bp v := Dp.below hb4' hzx
        refine hK.out _ _ (fun W => PBlk W bp v) (fun W h => h) hS ?_
        clear hK K hb4 ho4
        refine seqT_do rfl (fun K hK => ?_)
        go_simp
        have hba := (Below.refl w4.heap.size w4).alloc (Nat.le_refl _) (pobj zpv)
        have hS1 : PBlk (w4.alloc (pobj zpv)) bp v := hS.below hba hS.lt
        refine hK.out _ _ (fun W => PBlk W bp v) (fun W h => h) hS1 ?_
        clear hK K
        iterate 1 (refine seqT_read (v := _) rfl (fun _ _ _ h => h) hS1 (Or.inl ⟨by rfl, fun W hW => by go_simp <;> with_reducible rfl⟩) ?_; simp only [Act.put, List.setIfInBounds_toArray, List.set_cons_zero, List.set_cons_succ])
        refine seqT_do rfl (fun K hK => ?_)
        go_simp
        have hbb := (Below.refl w4.heap.size w4).alloc (Nat.le_refl _) (pobj v)
        have hS2 : PBlk (w4.alloc (pobj v)) bp v := hS.below hbb hS.lt
        refine hK.out _ _ (fun W => PBlk W bp v) (fun W h => h) hS2 ?_
        clear hK K
        iterate 1 (refine seqT_read (v := _) rfl (fun _ _ _ h => h) hS2 (Or.inl ⟨by rfl, fun W hW => by go_simp <;> with_reducible rfl⟩) ?_; simp only [Act.put, List.setIfInBounds_toArray, List.set_cons_zero, List.set_cons_succ])
        refine seqT_end ?_
        have D6 := PBlk.new w4 v
        have ho6 := ho4'.below hbb (Nat.le_refl _)
        have hb6 : Below wx.heap.size wx (w4.alloc (pobj v)) := hb4'.trans (hbb.mono hb4'.size)
        have hq6 : wx.heap.size ≤ w4.heap.size := hb4'.size
        have hbs6 : wx.heap.size ≤ wx.heap.size := Nat.le_refl _
        clear hb4' ho4' hS hS1 hS2 hba hbb
        obtain ⟨W6, hW6⟩ : ∃ W6, w4.alloc (.cells #[.bool v.mrk, .int .i64 v.ty, .int .u16 v.seq, .int .u32 v.time, .int .u32 v.ssrc, .slice v.ca v.cn v.cc, .bool v.he, .int .u16 v.prof, .slice v.ea v.en v.ec, .slice v.pa v.pn v.pc, .int .i64 v.pad] 39) = W6 := ⟨_, rfl⟩
        have D6 : PBlk W6 w4.heap.size v := hW6 ▸ D6
        have ho6 : Own W6 wx.heap.size A len c xs := hW6 ▸ ho6
        have hb6 : Below wx.heap.size wx W6 := hW6 ▸ hb6
        rw [hW6]
        clear hW6
        generalize w4.heap.size = bq at *
        obtain ⟨base, hbase, ho6⟩ : ∃ base, wx.heap.size ≤ base ∧ Own W6 base A len c xs := ⟨_, Nat.le_refl _, ho6⟩
        have HO6 := Lib.hid ho6
        have HD6 := Lib.hid D6
        have hz6 : wx.heap.size ≤ W6.heap.size := hb6.size
        have hbw6 : base ≤ W6.heap.size ∨ A = none := by
          rcases ho6.2.2.2.2 with ⟨h, -, -⟩ | ⟨g, T, h, hg, hk, -⟩
          · exact .inr h
          · exact .inl (Nat.le_trans hg (Nat.le_of_lt hk.lt))
        have HL := Lib.hid hbw6
        clear ho6 D6 hbw6
        go_wp2_with fail
        refine (C0.out W6 base A c HO6.out).mono ?_
        rintro e w7 ⟨rfl, ho7, ha7⟩
        have hb67 : Below wx.heap.size W6 w7 := ha7.below (HO6.out.lower hbase) hz6
        have D7 : PBlk w7 bq v := PBlk.at HD6.out ha7 HO6.out
        have hb7 := hb6.trans hb67
        clear ha7 hb67 HL HD6 HO6
        have x2 := D7.c2
        have y2 := D7.frozen 2
        have D8 := pset_seq D7 y0
        have hO := (Off.refl bq w7).set (k := 2) (.int .u16 y0)
        have ho8 := ho7.off D7 hO
        have hb8 := hb7.setCell (p := ⟨bq, 2, none⟩) hq6 (.int .u16 y0)
        have hv8 : ({ v with seq := y0 } : PV) = pvOf { p with seq := y0 } lc := by rw [← HV.out]; rfl
        rw [hv8] at D8
        have hb38 := HBX.out.trans (hb8.mono HBX.out.size)
        have hq8 : PRd (w7.setCell ⟨bq, 2, none⟩ (.int .u16 y0)) (w7.setCell ⟨bq, 2, none⟩ (.int .u16 y0)).heap.size { p with seq := y0 } lc := by
          have := (HQ3.out.below hb38).more hb38.size
          exact ⟨this.csrc, this.ext, this.pay, this.cn, this.en, this.pn, this.cc, this.ec, this.pc⟩
        have HC := Lib.hid (P0.out _ lc hq8)
        obtain ⟨v8, hv8'⟩ : ∃ v8, pvOf { p with seq := y0 } lc = v8 := ⟨_, rfl⟩
        rw [hv8'] at HC D8
        have s1 := str_run ho8.rd (c := c)
        have HO8 := Lib.hid ho8
        have HB38 := Lib.hid hb38
        have d0 := D8.c0
        have d1 := D8.c1
        have d2 := D8.c2
        have d3 := D8.c3
        have d4 := D8.c4
        have d5 := D8.c5
        have d6 := D8.c6
        have d7 := D8.c7
        have d8 := D8.c8
        have d9 := D8.c9
        have d10 := D8.c10
        clear hv8 hv8' hq8 hb8 hb7 hb38 hO ho7 ho8 D7 D8 hb6
        go_wp2_with fail
        refine HC.out.mono ?_
        rintro e w9 ⟨A9, c9, rfl, ho9, hb9⟩
        have s3 := str_run (HO8.out.below hb9 (Nat.le_refl _)).rd (c := c)
        have s4 := str_run ho9.rd (c := c9)
        have HB9 := Lib.hid (HB38.out.trans (hb9.mono HB38.out.size))
        clear s1 HO8 ho9 hb9 HC d0 d1 d2 d3 d4 d5 d6 d7 d8 d9 d10 x2 y2
        go_wp2
        go_roundw
        case rel => exact ⟨1, by omega, by omega, by first | rfl | go_num, HB9.out⟩
        case measure => simp [intOf]
      · skip
        go_simp
        have hba := (Below.refl wx.heap.size wx).alloc (Nat.le_refl _) (pobj zpv)
        have hS1 : PBlk (wx.alloc (pobj zpv)).drew bp v := pdrew (Dp.below hba hzx)
        have E4 := PBlk.new wx zpv
        refine hK.out _ _ (fun W => PBlk W bp v) (fun W h => h) hS1 ?_
        clear hK K
        generalize wx.alloc (pobj zpv) = w4 at *
        refine seqT_do rfl (fun K hK => ?_)
        go_simp
        refine (CC.out _ (HBW.out.trans (hba.drew.mono HBW.out.size))).mono ?_
        rintro e w5 ⟨A, c, rfl, ho5, hb5⟩
        have hb5' : Below w4.heap.size w4 w5 := ((Below.refl w4.heap.size w4).drew).trans hb5
        have ho5' : Own w5 w4.heap.size A len c xs := ho5
        have hS : PBlk w5 bp v := (pundrew hS1).below hb5' (pundrew hS1).lt
        have E5 := E4.below hb5' E4.lt
        have hbx5 := hba.trans (hb5'.mono hba.size)
        refine hK.out _ _ (fun W => PBlk W bp v) (fun W h => h) hS ?_
        clear hK K hb5 ho5 hS1
        iterate 1 (refine seqT_read (v := _) rfl (fun _ _ _ h => h) hS (Or.inl ⟨by rfl, fun W hW => by go_simp <;> with_reducible rfl⟩) ?_; simp only [Act.put, List.setIfInBounds_toArray, List.set_cons_zero, List.set_cons_succ])
        have f0 := E5.c0
        have f1 := E5.c1
        have f2 := E5.c2
        have f3 := E5.c3
        have f4 := E5.c4
        have f5 := E5.c5
        have f6 := E5.c6
        have f7 := E5.c7
        have f8 := E5.c8
        have f9 := E5.c9
        have f10 := E5.c10
        have g0 := E5.frozen 0
        have g1 := E5.frozen 1
        have g2 := E5.frozen 2
        have g3 := E5.frozen 3
        have g4 := E5.frozen 4
        have g5 := E5.frozen 5
        have g6 := E5.frozen 6
        have g7 := E5.frozen 7
        have g8 := E5.frozen 8
        have g9 := E5.frozen 9
        have g10 := E5.frozen 10
        have HO := Rtp.off_pstore wx.heap.size w5 (.bool v.mrk) (.int .i64 v.ty) (.int .u16 v.seq) (.int .u32 v.time) (.int .u32 v.ssrc) (.slice v.ca v.cn v.cc) (.bool v.he) (.int .u16 v.prof) (.slice v.ea v.en v.ec) (.slice v.pa v.pn v.pc) (.int .i64 v.pad)
        have D6 := E5.store v
        have ho6 := ho5'.off E5 HO
        have hb6 := Rtp.below_pstore hbx5 (Nat.le_refl _) (.bool v.mrk) (.int .i64 v.ty) (.int .u16 v.seq) (.int .u32 v.time) (.int .u32 v.ssrc) (.slice v.ca v.cn v.cc) (.bool v.he) (.int .u16 v.prof) (.slice v.ea v.en v.ec) (.slice v.pa v.pn v.pc) (.int .i64 v.pad)
        have hS2 : PBlk (PW w5 wx.heap.size v) bp v := Rtp.PBlk.offb hS (Nat.ne_of_lt hzx) HO
        have hz4 := hba.size
        clear HO E4 E5 ho5' hb5' hbx5 hba
        have HD6 := Lib.hid D6
        have HO6 := Lib.hid ho6
        have HB6 := Lib.hid hb6
        clear D6 ho6 hb6
        refine seqT_do rfl (fun K hK => ?_)
        go_simp
        refine hK.out _ _ (fun W => PBlk W bp v) (fun W h => h) hS2 ?_
        clear hK K f0 f1 f2 f3 f4 f5 f6 f7 f8 f9 f10 g0 g1 g2 g3 g4 g5 g6 g7 g8 g9 g10
        iterate 1 (refine seqT_read (v := _) rfl (fun _ _ _ h => h) hS2 (Or.inl ⟨by rfl, fun W hW => by go_simp <;> with_reducible rfl⟩) ?_; simp only [Act.put, List.setIfInBounds_toArray, List.set_cons_zero, List.set_cons_succ])
        refine seqT_end ?_
        have D6 := HD6.out
        have ho6 := HO6.out
        have hb6 := HB6.out
        clear HD6 HO6 HB6 hS hS2
        obtain ⟨W6, hW6⟩ : ∃ W6, (((((((((((w5.setCell ⟨wx.heap.size, 0, none⟩ (.bool v.mrk)).setCell ⟨wx.heap.size, 1, none⟩ (.int .i64 v.ty)).setCell ⟨wx.heap.size, 2, none⟩ (.int .u16 v.seq)).setCell ⟨wx.heap.size, 3, none⟩ (.int .u32 v.time)).setCell ⟨wx.heap.size, 4, none⟩ (.int .u32 v.ssrc)).setCell ⟨wx.heap.size, 5, none⟩ (.slice v.ca v.cn v.cc)).setCell ⟨wx.heap.size, 6, none⟩ (.bool v.he)).setCell ⟨wx.heap.size, 7, none⟩ (.int .u16 v.prof)).setCell ⟨wx.heap.size, 8, none⟩ (.slice v.ea v.en v.ec)).setCell ⟨wx.heap.size, 9, none⟩ (.slice v.pa v.pn v.pc)).setCell ⟨wx.heap.size, 10, none⟩ (.int .i64 v.pad)) = W6 := ⟨_, rfl⟩
        rw [hW6] at D6 ho6 hb6 ⊢
        clear hW6
        have hq6 : wx.heap.size ≤ wx.heap.size := Nat.le_refl _
        obtain ⟨bq, hbq⟩ : ∃ bq, wx.heap.size = bq := ⟨_, rfl⟩
        obtain ⟨base, hbase, ho6⟩ : ∃ base, wx.heap.size ≤ base ∧ Own W6 base A len c xs := ⟨_, hz4, ho6⟩
        have D6 : PBlk W6 bq v := hbq ▸ D6
        have hq6 : wx.heap.size ≤ bq := Nat.le_of_eq hbq
        rw [hbq]
        clear hbq hz4
        have HO6 := Lib.hid ho6
        have HD6 := Lib.hid D6
        have hz6 : wx.heap.size ≤ W6.heap.size := hb6.size
        have hbw6 : base ≤ W6.heap.size ∨ A = none := by
          rcases ho6.2.2.2.2 with ⟨h, -, -⟩ | ⟨g, T, h, hg, hk, -⟩
          · exact .inr h
          · exact .inl (Nat.le_trans hg (Nat.le_of_lt hk.lt))
        have HL := Lib.hid hbw6
        clear ho6 D6 hbw6
        go_wp2_with fail
        refine (C0.out W6 base A c HO6.out).mono ?_
        rintro e w7 ⟨rfl, ho7, ha7⟩
        have hb67 : Below wx.heap.size W6 w7 := ha7.below (HO6.out.lower hbase) hz6
        have D7 : PBlk w7 bq v := PBlk.at HD6.out ha7 HO6.out
        have hb7 := hb6.trans hb67
        clear ha7 hb67 HL HD6 HO6
        have x2 := D7.c2
        have y2 := D7.frozen 2
        have D8 := pset_seq D7 y0
        have hO := (Off.refl bq w7).set (k := 2) (.int .u16 y0)
        have ho8 := ho7.off D7 hO
        have hb8 := hb7.setCell (p := ⟨bq, 2, none⟩) hq6 (.int .u16 y0)
        have hv8 : ({ v with seq := y0 } : PV) = pvOf { p with seq := y0 } lc := by rw [← HV.out]; rfl
        rw [hv8] at D8
        have hb38 := HBX.out.trans (hb8.mono HBX.out.size)
        have hq8 : PRd (w7.setCell ⟨bq, 2, none⟩ (.int .u16 y0)) (w7.setCell ⟨bq, 2, none⟩ (.int .u16 y0)).heap.size { p with seq := y0 } lc := by
          have := (HQ3.out.below hb38).more hb38.size
          exact ⟨this.csrc, this.ext, this.pay, this.cn, this.en, this.pn, this.cc, this.ec, this.pc⟩
        have HC := Lib.hid (P0.out _ lc hq8)
        obtain ⟨v8, hv8'⟩ : ∃ v8, pvOf { p with seq := y0 } lc = v8 := ⟨_, rfl⟩
        rw [hv8'] at HC D8
        have s1 := str_run ho8.rd (c := c)
        have HO8 := Lib.hid ho8
        have HB38 := Lib.hid hb38
        have d0 := D8.c0
        have d1 := D8.c1
        have d2 := D8.c2
        have d3 := D8.c3
        have d4 := D8.c4
        have d5 := D8.c5
        have d6 := D8.c6
        have d7 := D8.c7
        have d8 := D8.c8
        have d9 := D8.c9
        have d10 := D8.c10
        clear hv8 hv8' hq8 hb8 hb7 hb38 hO ho7 ho8 D7 D8 hb6
        go_wp2_with fail
        refine HC.out.mono ?_
        rintro e w9 ⟨A9, c9, rfl, ho9, hb9⟩
        have s3 := str_run (HO8.out.below hb9 (Nat.le_refl _)).rd (c := c)
        have s4 := str_run ho9.rd (c := c9)
        have HB9 := Lib.hid (HB38.out.trans (hb9.mono HB38.out.size))
        clear s1 HO8 ho9 hb9 HC d0 d1 d2 d3 d4 d5 d6 d7 d8 d9 d10 x2 y2
        go_wp2
        go_roundw
        case rel => exact ⟨1, by omega, by omega, by first | rfl | go_num, HB9.out⟩
        case measure => simp [intOf]
    · skip
      go_wp2_with fail
      have hS : PBlk wx.drew bp v := pdrew Dp
      have c0 : ∀ W, PBlk W bp v → W.cell? ⟨bp, 0, none⟩ = some (.bool v.mrk) := fun W h => h.c0
      have c1 : ∀ W, PBlk W bp v → W.cell? ⟨bp, 1, none⟩ = some (.int .i64 v.ty) := fun W h => h.c1
      have c2 : ∀ W, PBlk W bp v → W.cell? ⟨bp, 2, none⟩ = some (.int .u16 v.seq) := fun W h => h.c2
      have c3 : ∀ W, PBlk W bp v → W.cell? ⟨bp, 3, none⟩ = some (.int .u32 v.time) := fun W h => h.c3
      have c4 : ∀ W, PBlk W bp v → W.cell? ⟨bp, 4, none⟩ = some (.int .u32 v.ssrc) := fun W h => h.c4
      have c5 : ∀ W, PBlk W bp v → W.cell? ⟨bp, 5, none⟩ = some (.slice v.ca v.cn v.cc) := fun W h => h.c5
      have c6 : ∀ W, PBlk W bp v → W.cell? ⟨bp, 6, none⟩ = some (.bool v.he) := fun W h => h.c6
      have c7 : ∀ W, PBlk W bp v → W.cell? ⟨bp, 7, none⟩ = some (.int .u16 v.prof) := fun W h => h.c7
      have c8 : ∀ W, PBlk W bp v → W.cell? ⟨bp, 8, none⟩ = some (.slice v.ea v.en v.ec) := fun W h => h.c8
      have c9 : ∀ W, PBlk W bp v → W.cell? ⟨bp, 9, none⟩ = some (.slice v.pa v.pn v.pc) := fun W h => h.c9
      have c10 : ∀ W, PBlk W bp v → W.cell? ⟨bp, 10, none⟩ = some (.int .i64 v.pad) := fun W h => h.c10
      refine region_tree (fun W => PBlk W bp v) (.rd 0 (.rd 2 (.fk 1 3 (.dn 3 (.rd 4 (.dn 5 (.rd 6 .nil)))) (.dn 1 (.rd 4 (.dn 5 (.rd 6 .nil))))))) (by kernel_rfl) (by kernel_rfl) rfl (by kernel_rfl) ?_
      iterate 2 (refine seqT_read (v := _) rfl (fun _ _ _ h => h) hS (Or.inl ⟨by rfl, fun W hW => by go_simp <;> with_reducible rfl⟩) ?_; simp only [Act.put, List.setIfInBounds_toArray, List.set_cons_zero, List.set_cons_succ])
      clear c0 c1 c2 c3 c4 c5 c6 c7 c8 c9 c10
      refine seqT_fork rfl rfl (fun K hK => ?_) (fun K hK => ?_)
      · skip
        go_simp
        refine (CC.out _ HBW.out.drew).mono ?_
        rintro e w4 ⟨A, c, rfl, ho4, hb4⟩
        have hb4' : Below wx.heap.size wx w4 := ((Below.refl wx.heap.size wx).drew).trans hb4
        have ho4' : Own w4 wx.heap.size A len c xs := ho4
        have hS : PBlk w4 bp v := Dp.below hb4' hzx
        refine hK.out _ _ (fun W => PBlk W bp v) (fun W h => h) hS ?_
        clear hK K hb4 ho4
        refine seqT_do rfl (fun K hK => ?_)
        go_simp
        have hba := (Below.refl w4.heap.size w4).alloc (Nat.le_refl _) (pobj zpv)
        have hS1 : PBlk (w4.alloc (pobj zpv)) bp v := hS.below hba hS.lt
        refine hK.out _ _ (fun W => PBlk W bp v) (fun W h => h) hS1 ?_
        clear hK K
        iterate 1 (refine seqT_read (v := _) rfl (fun _ _ _ h => h) hS1 (Or.inl ⟨by rfl, fun W hW => by go_simp <;> with_reducible rfl⟩) ?_; simp only [Act.put, List.setIfInBounds_toArray, List.set_cons_zero, List.set_cons_succ])
        refine seqT_do rfl (fun K hK => ?_)
        go_simp
        have hbb := (Below.refl w4.heap.size w4).alloc (Nat.le_refl _) (pobj v)
        have hS2 : PBlk (w4.alloc (pobj v)) bp v := hS.below hbb hS.lt
        refine hK.out _ _ (fun W => PBlk W bp v) (fun W h => h) hS2 ?_
        clear hK K
        iterate 1 (refine seqT_read (v := _) rfl (fun _ _ _ h => h) hS2 (Or.inl ⟨by rfl, fun W hW => by go_simp <;> with_reducible rfl⟩) ?_; simp only [Act.put, List.setIfInBounds_toArray, List.set_cons_zero, List.set_cons_succ])
        refine seqT_end ?_
        have D6 := PBlk.new w4 v
        have ho6 := ho4'.below hbb (Nat.le_refl _)
        have hb6 : Below wx.heap.size wx (w4.alloc (pobj v)) := hb4'.trans (hbb.mono hb4'.size)
        have hq6 : wx.heap.size ≤ w4.heap.size := hb4'.size
        have hbs6 : wx.heap.size ≤ wx.heap.size := Nat.le_refl _
        clear hb4' ho4' hS hS1 hS2 hba hbb
        obtain ⟨W6, hW6⟩ : ∃ W6, w4.alloc (.cells #[.bool v.mrk, .int .i64 v.ty, .int .u16 v.seq, .int .u32 v.time, .int .u32 v.ssrc, .slice v.ca v.cn v.cc, .bool v.he, .int .u16 v.prof, .slice v.ea v.en v.ec, .slice v.pa v.pn v.pc, .int .i64 v.pad] 39) = W6 := ⟨_, rfl⟩
        have D6 : PBlk W6 w4.heap.size v := hW6 ▸ D6
        have ho6 : Own W6 wx.heap.size A len c xs := hW6 ▸ ho6
        have hb6 : Below wx.heap.size wx W6 := hW6 ▸ hb6
        rw [hW6]
        clear hW6
        generalize w4.heap.size = bq at *
        obtain ⟨base, hbase, ho6⟩ : ∃ base, wx.heap.size ≤ base ∧ Own W6 base A len c xs := ⟨_, Nat.le_refl _, ho6⟩
        have HO6 := Lib.hid ho6
        have HD6 := Lib.hid D6
        have hz6 : wx.heap.size ≤ W6.heap.size := hb6.size
        have hbw6 : base ≤ W6.heap.size ∨ A = none := by
          rcases ho6.2.2.2.2 with ⟨h, -, -⟩ | ⟨g, T, h, hg, hk, -⟩
          · exact .inr h
          · exact .inl (Nat.le_trans hg (Nat.le_of_lt hk.lt))
        have HL := Lib.hid hbw6
        clear ho6 D6 hbw6
        go_wp2_with fail
        refine (C1.out W6 base A c HO6.out).mono ?_
        rintro e w7 ⟨rfl, ho7, ha7⟩
        have hb67 : Below wx.heap.size W6 w7 := ha7.below (HO6.out.lower hbase) hz6
        have D7 : PBlk w7 bq v := PBlk.at HD6.out ha7 HO6.out
        have hb7 := hb6.trans hb67
        clear ha7 hb67 HL HD6 HO6
        have x3 := D7.c3
        have y3 := D7.frozen 3
        have D8 := pset_time D7 y1
        have hO := (Off.refl bq w7).set (k := 3) (.int .u32 y1)
        have ho8 := ho7.off D7 hO
        have hb8 := hb7.setCell (p := ⟨bq, 3, none⟩) hq6 (.int .u32 y1)
        have hv8 : ({ v with time := y1 } : PV) = pvOf { p with time := y1 } lc := by rw [← HV.out]; rfl
        rw [hv8] at D8
        have hb38 := HBX.out.trans (hb8.mono HBX.out.size)
        have hq8 : PRd (w7.setCell ⟨bq, 3, none⟩ (.int .u32 y1)) (w7.setCell ⟨bq, 3, none⟩ (.int .u32 y1)).heap.size { p with time := y1 } lc := by
          have := (HQ3.out.below hb38).more hb38.size
          exact ⟨this.csrc, this.ext, this.pay, this.cn, this.en, this.pn, this.cc, this.ec, this.pc⟩
        have HC := Lib.hid (P1.out _ lc hq8)
        obtain ⟨v8, hv8'⟩ : ∃ v8, pvOf { p with time := y1 } lc = v8 := ⟨_, rfl⟩
        rw [hv8'] at HC D8
        have s1 := str_run ho8.rd (c := c)
        have HO8 := Lib.hid ho8
        have HB38 := Lib.hid hb38
        have d0 := D8.c0
        have d1 := D8.c1
        have d2 := D8.c2
        have d3 := D8.c3
        have d4 := D8.c4
        have d5 := D8.c5
        have d6 := D8.c6
        have d7 := D8.c7
        have d8 := D8.c8
        have d9 := D8.c9
        have d10 := D8.c10
        clear hv8 hv8' hq8 hb8 hb7 hb38 hO ho7 ho8 D7 D8 hb6
        go_wp2_with fail
        refine HC.out.mono ?_
        rintro e w9 ⟨A9, c9, rfl, ho9, hb9⟩
        have s3 := str_run (HO8.out.below hb9 (Nat.le_refl _)).rd (c := c)
        have s4 := str_run ho9.rd (c := c9)
        have HB9 := Lib.hid (HB38.out.trans (hb9.mono HB38.out.size))
        clear s1 HO8 ho9 hb9 HC d0 d1 d2 d3 d4 d5 d6 d7 d8 d9 d10 x3 y3
        go_wp2
        go_roundw
        case rel => exact ⟨2, by omega, by omega, by first | rfl | go_num, HB9.out⟩
        case measure => simp [intOf]
      · skip
        go_simp
        have hba := (Below.refl wx.heap.size wx).alloc (Nat.le_refl _) (pobj zpv)
        have hS1 : PBlk (wx.alloc (pobj zpv)).drew bp v := pdrew (Dp.below hba hzx)
        have E4 := PBlk.new wx zpv
        refine hK.out _ _ (fun W => PBlk W bp v) (fun W h => h) hS1 ?_
        clear hK K
        generalize wx.alloc (pobj zpv) = w4 at *
        refine seqT_do rfl (fun K hK => ?_)
        go_simp
        refine (CC.out _ (HBW.out.trans (hba.drew.mono HBW.out.size))).mono ?_
        rintro e w5 ⟨A, c, rfl, ho5, hb5⟩
        have hb5' : Below w4.heap.size w4 w5 := ((Below.refl w4.heap.size w4).drew).trans hb5
        have ho5' : Own w5 w4.heap.size A len c xs := ho5
        have hS : PBlk w5 bp v := (pundrew hS1).below hb5' (pundrew hS1).lt
        have E5 := E4.below hb5' E4.lt
        have hbx5 := hba.trans (hb5'.mono hba.size)
        refine hK.out _ _ (fun W => PBlk W bp v) (fun W h => h) hS ?_
        clear hK K hb5 ho5 hS1
        iterate 1 (refine seqT_read (v := _) rfl (fun _ _ _ h => h) hS (Or.inl ⟨by rfl, fun W hW => by go_simp <;> with_reducible rfl⟩) ?_; simp only [Act.put, List.setIfInBounds_toArray, List.set_cons_zero, List.set_cons_succ])
        have f0 := E5.c0
        have f1 := E5.c1
        have f2 := E5.c2
        have f3 := E5.c3
        have f4 := E5.c4
        have f5 := E5.c5
        have f6 := E5.c6
        have f7 := E5.c7
        have f8 := E5.c8
        have f9 := E5.c9
        have f10 := E5.c10
        have g0 := E5.frozen 0
        have g1 := E5.frozen 1
        have g2 := E5.frozen 2
        have g3 := E5.frozen 3
        have g4 := E5.frozen 4
        have g5 := E5.frozen 5
        have g6 := E5.frozen 6
        have g7 := E5.frozen 7
        have g8 := E5.frozen 8
        have g9 := E5.frozen 9
        have g10 := E5.frozen 10
        have HO := Rtp.off_pstore wx.heap.size w5 (.bool v.mrk) (.int .i64 v.ty) (.int .u16 v.seq) (.int .u32 v.time) (.int .u32 v.ssrc) (.slice v.ca v.cn v.cc) (.bool v.he) (.int .u16 v.prof) (.slice v.ea v.en v.ec) (.slice v.pa v.pn v.pc) (.int .i64 v.pad)
        have D6 := E5.store v
        have ho6 := ho5'.off E5 HO
        have hb6 := Rtp.below_pstore hbx5 (Nat.le_refl _) (.bool v.mrk) (.int .i64 v.ty) (.int .u16 v.seq) (.int .u32 v.time) (.int .u32 v.ssrc) (.slice v.ca v.cn v.cc) (.bool v.he) (.int .u16 v.prof) (.slice v.ea v.en v.ec) (.slice v.pa v.pn v.pc) (.int .i64 v.pad)
        have hS2 : PBlk (PW w5 wx.heap.size v) bp v := Rtp.PBlk.offb hS (Nat.ne_of_lt hzx) HO
        have hz4 := hba.size
        clear HO E4 E5 ho5' hb5' hbx5 hba
        have HD6 := Lib.hid D6
        have HO6 := Lib.hid ho6
        have HB6 := Lib.hid hb6
        clear D6 ho6 hb6
        refine seqT_do rfl (fun K hK => ?_)
        go_simp
        refine hK.out _ _ (fun W => PBlk W bp v) (fun W h => h) hS2 ?_
        clear hK K f0 f1 f2 f3 f4 f5 f6 f7 f8 f9 f10 g0 g1 g2 g3 g4 g5 g6 g7 g8 g9 g10
        iterate 1 (refine seqT_read (v := _) rfl (fun _ _ _ h => h) hS2 (Or.inl ⟨by rfl, fun W hW => by go_simp <;> with_reducible rfl⟩) ?_; simp only [Act.put, List.setIfInBounds_toArray, List.set_cons_zero, List.set_cons_succ])
        refine seqT_end ?_
        have D6 := HD6.out
        have ho6 := HO6.out
        have hb6 := HB6.out
        clear HD6 HO6 HB6 hS hS2
        obtain ⟨W6, hW6⟩ : ∃ W6, (((((((((((w5.setCell ⟨wx.heap.size, 0, none⟩ (.bool v.mrk)).setCell ⟨wx.heap.size, 1, none⟩ (.int .i64 v.ty)).setCell ⟨wx.heap.size, 2, none⟩ (.int .u16 v.seq)).setCell ⟨wx.heap.size, 3, none⟩ (.int .u32 v.time)).setCell ⟨wx.heap.size, 4, none⟩ (.int .u32 v.ssrc)).setCell ⟨wx.heap.size, 5, none⟩ (.slice v.ca v.cn v.cc)).setCell ⟨wx.heap.size, 6, none⟩ (.bool v.he)).setCell ⟨wx.heap.size, 7, none⟩ (.int .u16 v.prof)).setCell ⟨wx.heap.size, 8, none⟩ (.slice v.ea v.en v.ec)).setCell ⟨wx.heap.size, 9, none⟩ (.slice v.pa v.pn v.pc)).setCell ⟨wx.heap.size, 10, none⟩ (.int .i64 v.pad)) = W6 := ⟨_, rfl⟩
        rw [hW6] at D6 ho6 hb6 ⊢
        clear hW6
        have hq6 : wx.heap.size ≤ wx.heap.size := Nat.le_refl _
        obtain ⟨bq, hbq⟩ : ∃ bq, wx.heap.size = bq := ⟨_, rfl⟩
        obtain ⟨base, hbase, ho6⟩ : ∃ base, wx.heap.size ≤ base ∧ Own W6 base A len c xs := ⟨_, hz4, ho6⟩
        have D6 : PBlk W6 bq v := hbq ▸ D6
        have hq6 : wx.heap.size ≤ bq := Nat.le_of_eq hbq
        rw [hbq]
        clear hbq hz4
        have HO6 := Lib.hid ho6
        have HD6 := Lib.hid D6
        have hz6 : wx.heap.size ≤ W6.heap.size := hb6.size
        have hbw6 : base ≤ W6.heap.size ∨ A = none := by
          rcases ho6.2.2.2.2 with ⟨h, -, -⟩ | ⟨g, T, h, hg, hk, -⟩
          · exact .inr h
          · exact .inl (Nat.le_trans hg (Nat.le_of_lt hk.lt))
        have HL := Lib.hid hbw6
        clear ho6 D6 hbw6
        go_wp2_with fail
        refine (C1.out W6 base A c HO6.out).mono ?_
        rintro e w7 ⟨rfl, ho7, ha7⟩
        have hb67 : Below wx.heap.size W6 w7 := ha7.below (HO6.out.lower hbase) hz6
        have D7 : PBlk w7 bq v := PBlk.at HD6.out ha7 HO6.out
        have hb7 := hb6.trans hb67
        clear ha7 hb67 HL HD6 HO6
        have x3 := D7.c3
        have y3 := D7.frozen 3
        have D8 := pset_time D7 y1
        have hO := (Off.refl bq w7).set (k := 3) (.int .u32 y1)
        have ho8 := ho7.off D7 hO
        have hb8 := hb7.setCell (p := ⟨bq, 3, none⟩) hq6 (.int .u32 y1)
        have hv8 : ({ v with time := y1 } : PV) = pvOf { p with time := y1 } lc := by rw [← HV.out]; rfl
        rw [hv8] at D8
        have hb38 := HBX.out.trans (hb8.mono HBX.out.size)
        have hq8 : PRd (w7.setCell ⟨bq, 3, none⟩ (.int .u32 y1)) (w7.setCell ⟨bq, 3, none⟩ (.int .u32 y1)).heap.size { p with time := y1 } lc := by
          have := (HQ3.out.below hb38).more hb38.size
          exact ⟨this.csrc, this.ext, this.pay, this.cn, this.en, this.pn, this.cc, this.ec, this.pc⟩
        have HC := Lib.hid (P1.out _ lc hq8)
        obtain ⟨v8, hv8'⟩ : ∃ v8, pvOf { p with time := y1 } lc = v8 := ⟨_, rfl⟩
        rw [hv8'] at HC D8
        have s1 := str_run ho8.rd (c := c)
        have HO8 := Lib.hid ho8
        have HB38 := Lib.hid hb38
        have d0 := D8.c0
        have d1 := D8.c1
        have d2 := D8.c2
        have d3 := D8.c3
        have d4 := D8.c4
        have d5 := D8.c5
        have d6 := D8.c6
        have d7 := D8.c7
        have d8 := D8.c8
        have d9 := D8.c9
        have d10 := D8.c10
        clear hv8 hv8' hq8 hb8 hb7 hb38 hO ho7 ho8 D7 D8 hb6
        go_wp2_with fail
        refine HC.out.mono ?_
        rintro e w9 ⟨A9, c9, rfl, ho9, hb9⟩
        have s3 := str_run (HO8.out.below hb9 (Nat.le_refl _)).rd (c := c)
        have s4 := str_run ho9.rd (c := c9)
        have HB9 := Lib.hid (HB38.out.trans (hb9.mono HB38.out.size))
        clear s1 HO8 ho9 hb9 HC d0 d1 d2 d3 d4 d5 d6 d7 d8 d9 d10 x3 y3
        go_wp2
        go_roundw
        case rel => exact ⟨2, by omega, by omega, by first | rfl | go_num, HB9.out⟩
        case measure => simp [intOf]
    · skip
      go_wp2_with fail
      have hS : PBlk wx.drew bp v := pdrew Dp
      have c0 : ∀ W, PBlk W bp v → W.cell? ⟨bp, 0, none⟩ = some (.bool v.mrk) := fun W h => h.c0
      have c1 : ∀ W, PBlk W bp v → W.cell? ⟨bp, 1, none⟩ = some (.int .i64 v.ty) := fun W h => h.c1
      have c2 : ∀ W, PBlk W bp v → W.cell? ⟨bp, 2, none⟩ = some (.int .u16 v.seq) := fun W h => h.c2
      have c3 : ∀ W, PBlk W bp v → W.cell? ⟨bp, 3, none⟩ = some (.int .u32 v.time) := fun W h => h.c3
      have c4 : ∀ W, PBlk W bp v → W.cell? ⟨bp, 4, none⟩ = some (.int .u32 v.ssrc) := fun W h => h.c4
      have c5 : ∀ W, PBlk W bp v → W.cell? ⟨bp, 5, none⟩ = some (.slice v.ca v.cn v.cc) := fun W h => h.c5
      have c6 : ∀ W, PBlk W bp v → W.cell? ⟨bp, 6, none⟩ = some (.bool v.he) := fun W h => h.c6
      have c7 : ∀ W, PBlk W bp v → W.cell? ⟨bp, 7, none⟩ = some (.int .u16 v.prof) := fun W h => h.c7
      have c8 : ∀ W, PBlk W bp v → W.cell? ⟨bp, 8, none⟩ = some (.slice v.ea v.en v.ec) := fun W h => h.c8
      have c9 : ∀ W, PBlk W bp v → W.cell? ⟨bp, 9, none⟩ = some (.slice v.pa v.pn v.pc) := fun W h => h.c9
      have c10 : ∀ W, PBlk W bp v → W.cell? ⟨bp, 10, none⟩ = some (.int .i64 v.pad) := fun W h => h.c10
      refine region_tree (fun W => PBlk W bp v) (.rd 0 (.rd 2 (.fk 1 3 (.dn 3 (.rd 4 (.dn 5 (.rd 6 .nil)))) (.dn 1 (.rd 4 (.dn 5 (.rd 6 .nil))))))) (by kernel_rfl) (by kernel_rfl) rfl (by kernel_rfl) ?_
      iterate 2 (refine seqT_read (v := _) rfl (fun _ _ _ h => h) hS (Or.inl ⟨by rfl, fun W hW => by go_simp <;> with_reducible rfl⟩) ?_; simp only [Act.put, List.setIfInBounds_toArray, List.set_cons_zero, List.set_cons_succ])
      clear c0 c1 c2 c3 c4 c5 c6 c7 c8 c9 c10
      refine seqT_fork rfl rfl (fun K hK => ?_) (fun K hK => ?_)
      · skip
        go_simp
        refine (CC.out _ HBW.out.drew).mono ?_
        rintro e w4 ⟨A, c, rfl, ho4, hb4⟩
        have hb4' : Below wx.heap.size wx w4 := ((Below.refl wx.heap.size wx).drew).trans hb4
        have ho4' : Own w4 wx.heap.size A len c xs := ho4
        have hS : PBlk w4 bp v := Dp.below hb4' hzx
        refine hK.out _ _ (fun W => PBlk W bp v) (fun W h => h) hS ?_
        clear hK K hb4 ho4
        refine seqT_do rfl (fun K hK => ?_)
        go_simp
        have hba := (Below.refl w4.heap.size w4).alloc (Nat.le_refl _) (pobj zpv)
        have hS1 : PBlk (w4.alloc (pobj zpv)) bp v := hS.below hba hS.lt
        refine hK.out _ _ (fun W => PBlk W bp v) (fun W h => h) hS1 ?_
        clear hK K
        iterate 1 (refine seqT_read (v := _) rfl (fun _ _ _ h => h) hS1 (Or.inl ⟨by rfl, fun W hW => by go_simp <;> with_reducible rfl⟩) ?_; simp only [Act.put, List.setIfInBounds_toArray, List.set_cons_zero, List.set_cons_succ])
        refine seqT_do rfl (fun K hK => ?_)
        go_simp
        have hbb := (Below.refl w4.heap.size w4).alloc (Nat.le_refl _) (pobj v)
        have hS2 : PBlk (w4.alloc (pobj v)) bp v := hS.below hbb hS.lt
        refine hK.out _ _ (fun W => PBlk W bp v) (fun W h => h) hS2 ?_
        clear hK K
        iterate 1 (refine seqT_read (v := _) rfl (fun _ _ _ h => h) hS2 (Or.inl ⟨by rfl, fun W hW => by go_simp <;> with_reducible rfl⟩) ?_; simp only [Act.put, List.setIfInBounds_toArray, List.set_cons_zero, List.set_cons_succ])
        refine seqT_end ?_
        have D6 := PBlk.new w4 v
        have ho6 := ho4'.below hbb (Nat.le_refl _)
        have hb6 : Below wx.heap.size wx (w4.alloc (pobj v)) := hb4'.trans (hbb.mono hb4'.size)
        have hq6 : wx.heap.size ≤ w4.heap.size := hb4'.size
        have hbs6 : wx.heap.size ≤ wx.heap.size := Nat.le_refl _
        clear hb4' ho4' hS hS1 hS2 hba hbb
        obtain ⟨W6, hW6⟩ : ∃ W6, w4.alloc (.cells #[.bool v.mrk, .int .i64 v.ty, .int .u16 v.seq, .int .u32 v.time, .int .u32 v.ssrc, .slice v.ca v.cn v.cc, .bool v.he, .int .u16 v.prof, .slice v.ea v.en v.ec, .slice v.pa v.pn v.pc, .int .i64 v.pad] 39) = W6 := ⟨_, rfl⟩
        have D6 : PBlk W6 w4.heap.size v := hW6 ▸ D6
        have ho6 : Own W6 wx.heap.size A len c xs := hW6 ▸ ho6
        have hb6 : Below wx.heap.size wx W6 := hW6 ▸ hb6
        rw [hW6]
        clear hW6
        generalize w4.heap.size = bq at *
        obtain ⟨base, hbase, ho6⟩ : ∃ base, wx.heap.size ≤ base ∧ Own W6 base A len c xs := ⟨_, Nat.le_refl _, ho6⟩
        have HO6 := Lib.hid ho6
        have HD6 := Lib.hid D6
        have hz6 : wx.heap.size ≤ W6.heap.size := hb6.size
        have hbw6 : base ≤ W6.heap.size ∨ A = none := by
          rcases ho6.2.2.2.2 with ⟨h, -, -⟩ | ⟨g, T, h, hg, hk, -⟩
          · exact .inr h
          · exact .inl (Nat.le_trans hg (Nat.le_of_lt hk.lt))
        have HL := Lib.hid hbw6
        clear ho6 D6 hbw6
        go_wp2_with fail
        refine (C2.out W6 base A c HO6.out).mono ?_
        rintro e w7 ⟨rfl, ho7, ha7⟩
        have hb67 : Below wx.heap.size W6 w7 := ha7.below (HO6.out.lower hbase) hz6
        have D7 : PBlk w7 bq v := PBlk.at HD6.out ha7 HO6.out
        have hb7 := hb6.trans hb67
        clear ha7 hb67 HL HD6 HO6
        have x4 := D7.c4
        have y4 := D7.frozen 4
        have D8 := pset_ssrc D7 y2
        have hO := (Off.refl bq w7).set (k := 4) (.int .u32 y2)
        have ho8 := ho7.off D7 hO
        have hb8 := hb7.setCell (p := ⟨bq, 4, none⟩) hq6 (.int .u32 y2)
        have hv8 : ({ v with ssrc := y2 } : PV) = pvOf { p with ssrc := y2 } lc := by rw [← HV.out]; rfl
        rw [hv8] at D8
        have hb38 := HBX.out.trans (hb8.mono HBX.out.size)
        have hq8 : PRd (w7.setCell ⟨bq, 4, none⟩ (.int .u32 y2)) (w7.setCell ⟨bq, 4, none⟩ (.int .u32 y2)).heap.size { p with ssrc := y2 } lc := by
          have := (HQ3.out.below hb38).more hb38.size
          exact ⟨this.csrc, this.ext, this.pay, this.cn, this.en, this.pn, this.cc, this.ec, this.pc⟩
        have HC := Lib.hid (P2.out _ lc hq8)
        obtain ⟨v8, hv8'⟩ : ∃ v8, pvOf { p with ssrc := y2 } lc = v8 := ⟨_, rfl⟩
        rw [hv8'] at HC D8
        have s1 := str_run ho8.rd (c := c)
        have HO8 := Lib.hid ho8
        have HB38 := Lib.hid hb38
        have d0 := D8.c0
        have d1 := D8.c1
        have d2 := D8.c2
        have d3 := D8.c3
        have d4 := D8.c4
        have d5 := D8.c5
        have d6 := D8.c6
        have d7 := D8.c7
        have d8 := D8.c8
        have d9 := D8.c9
        have d10 := D8.c10
        clear hv8 hv8' hq8 hb8 hb7 hb38 hO ho7 ho8 D7 D8 hb6
        go_wp2_with fail
        refine HC.out.mono ?_
        rintro e w9 ⟨A9, c9, rfl, ho9, hb9⟩
        have s3 := str_run (HO8.out.below hb9 (Nat.le_refl _)).rd (c := c)
        have s4 := str_run ho9.rd (c := c9)
        have HB9 := Lib.hid (HB38.out.trans (hb9.mono HB38.out.size))
        clear s1 HO8 ho9 hb9 HC d0 d1 d2 d3 d4 d5 d6 d7 d8 d9 d10 x4 y4
        go_wp2
        go_roundw
        case rel => exact ⟨3, by omega, by omega, by first | rfl | go_num, HB9.out⟩
        case measure => simp [intOf]
      · skip
        go_simp
        have hba := (Below.refl wx.heap.size wx).alloc (Nat.le_refl _) (pobj zpv)
        have hS1 : PBlk (wx.alloc (pobj zpv)).drew bp v := pdrew (Dp.below hba hzx)
        have E4 := PBlk.new wx zpv
        refine hK.out _ _ (fun W => PBlk W bp v) (fun W h => h) hS1 ?_
        clear hK K
        generalize wx.alloc (pobj zpv) = w4 at *
        refine seqT_do rfl (fun K hK => ?_)
        go_simp
        refine (CC.out _ (HBW.out.trans (hba.drew.mono HBW.out.size))).mono ?_
        rintro e w5 ⟨A, c, rfl, ho5, hb5⟩
        have hb5' : Below w4.heap.size w4 w5 := ((Below.refl w4.heap.size w4).drew).trans hb5
        have ho5' : Own w5 w4.heap.size A len c xs := ho5
        have hS : PBlk w5 bp v := (pundrew hS1).below hb5' (pundrew hS1).lt
        have E5 := E4.below hb5' E4.lt
        have hbx5 := hba.trans (hb5'.mono hba.size)
        refine hK.out _ _ (fun W => PBlk W bp v) (fun W h => h) hS ?_
        clear hK K hb5 ho5 hS1
        iterate 1 (refine seqT_read (v := _) rfl (fun _ _ _ h => h) hS (Or.inl ⟨by rfl, fun W hW => by go_simp <;> with_reducible rfl⟩) ?_; simp only [Act.put, List.setIfInBounds_toArray, List.set_cons_zero, List.set_cons_succ])
        have f0 := E5.c0
        have f1 := E5.c1
        have f2 := E5.c2
        have f3 := E5.c3
        have f4 := E5.c4
        have f5 := E5.c5
        have f6 := E5.c6
        have f7 := E5.c7
        have f8 := E5.c8
        have f9 := E5.c9
        have f10 := E5.c10
        have g0 := E5.frozen 0
        have g1 := E5.frozen 1
        have g2 := E5.frozen 2
        have g3 := E5.frozen 3
        have g4 := E5.frozen 4
        have g5 := E5.frozen 5
        have g6 := E5.frozen 6
        have g7 := E5.frozen 7
        have g8 := E5.frozen 8
        have g9 := E5.frozen 9
        have g10 := E5.frozen 10
        have HO := Rtp.off_pstore wx.heap.size w5 (.bool v.mrk) (.int .i64 v.ty) (.int .u16 v.seq) (.int .u32 v.time) (.int .u32 v.ssrc) (.slice v.ca v.cn v.cc) (.bool v.he) (.int .u16 v.prof) (.slice v.ea v.en v.ec) (.slice v.pa v.pn v.pc) (.int .i64 v.pad)
        have D6 := E5.store v
        have ho6 := ho5'.off E5 HO
        have hb6 := Rtp.below_pstore hbx5 (Nat.le_refl _) (.bool v.mrk) (.int .i64 v.ty) (.int .u16 v.seq) (.int .u32 v.time) (.int .u32 v.ssrc) (.slice v.ca v.cn v.cc) (.bool v.he) (.int .u16 v.prof) (.slice v.ea v.en v.ec) (.slice v.pa v.pn v.pc) (.int .i64 v.pad)
        have hS2 : PBlk (PW w5 wx.heap.size v) bp v := Rtp.PBlk.offb hS (Nat.ne_of_lt hzx) HO
        have hz4 := hba.size
        clear HO E4 E5 ho5' hb5' hbx5 hba
        have HD6 := Lib.hid D6
        have HO6 := Lib.hid ho6
        have HB6 := Lib.hid hb6
        clear D6 ho6 hb6
        refine seqT_do rfl (fun K hK => ?_)
        go_simp
        refine hK.out _ _ (fun W => PBlk W bp v) (fun W h => h) hS2 ?_
        clear hK K f0 f1 f2 f3 f4 f5 f6 f7 f8 f9 f10 g0 g1 g2 g3 g4 g5 g6 g7 g8 g9 g10
        iterate 1 (refine seqT_read (v := _) rfl (fun _ _ _ h => h) hS2 (Or.inl ⟨by rfl, fun W hW => by go_simp <;> with_reducible rfl⟩) ?_; simp only [Act.put, List.setIfInBounds_toArray, List.set_cons_zero, List.set_cons_succ])
        refine seqT_end ?_
        have D6 := HD6.out
        have ho6 := HO6.out
        have hb6 := HB6.out
        clear HD6 HO6 HB6 hS hS2
        obtain ⟨W6, hW6⟩ : ∃ W6, (((((((((((w5.setCell ⟨wx.heap.size, 0, none⟩ (.bool v.mrk)).setCell ⟨wx.heap.size, 1, none⟩ (.int .i64 v.ty)).setCell ⟨wx.heap.size, 2, none⟩ (.int .u16 v.seq)).setCell ⟨wx.heap.size, 3, none⟩ (.int .u32 v.time)).setCell ⟨wx.heap.size, 4, none⟩ (.int .u32 v.ssrc)).setCell ⟨wx.heap.size, 5, none⟩ (.slice v.ca v.cn v.cc)).setCell ⟨wx.heap.size, 6, none⟩ (.bool v.he)).setCell ⟨wx.heap.size, 7, none⟩ (.int .u16 v.prof)).setCell ⟨wx.heap.size, 8, none⟩ (.slice v.ea v.en v.ec)).setCell ⟨wx.heap.size, 9, none⟩ (.slice v.pa v.pn v.pc)).setCell ⟨wx.heap.size, 10, none⟩ (.int .i64 v.pad)) = W6 := ⟨_, rfl⟩
        rw [hW6] at D6 ho6 hb6 ⊢
        clear hW6
        have hq6 : wx.heap.size ≤ wx.heap.size := Nat.le_refl _
        obtain ⟨bq, hbq⟩ : ∃ bq, wx.heap.size = bq := ⟨_, rfl⟩
        obtain ⟨base, hbase, ho6⟩ : ∃ base, wx.heap.size ≤ base ∧ Own W6 base A len c xs := ⟨_, hz4, ho6⟩
        have D6 : PBlk W6 bq v := hbq ▸ D6
        have hq6 : wx.heap.size ≤ bq := Nat.le_of_eq hbq
        rw [hbq]
        clear hbq hz4
        have HO6 := Lib.hid ho6
        have HD6 := Lib.hid D6
        have hz6 : wx.heap.size ≤ W6.heap.size := hb6.size
        have hbw6 : base ≤ W6.heap.size ∨ A = none := by
          rcases ho6.2.2.2.2 with ⟨h, -, -⟩ | ⟨g, T, h, hg, hk, -⟩
          · exact .inr h
          · exact .inl (Nat.le_trans hg (Nat.le_of_lt hk.lt))
        have HL := Lib.hid hbw6
        clear ho6 D6 hbw6
        go_wp2_with fail
        refine (C2.out W6 base A c HO6.out).mono ?_
        rintro e w7 ⟨rfl, ho7, ha7⟩
        have hb67 : Below wx.heap.size W6 w7 := ha7.below (HO6.out.lower hbase) hz6
        have D7 : PBlk w7 bq v := PBlk.at HD6.out ha7 HO6.out
        have hb7 := hb6.trans hb67
        clear ha7 hb67 HL HD6 HO6
        have x4 := D7.c4
        have y4 := D7.frozen 4
        have D8 := pset_ssrc D7 y2
        have hO := (Off.refl bq w7).set (k := 4) (.int .u32 y2)
        have ho8 := ho7.off D7 hO
        have hb8 := hb7.setCell (p := ⟨bq, 4, none⟩) hq6 (.int .u32 y2)
        have hv8 : ({ v with ssrc := y2 } : PV) = pvOf { p with ssrc := y2 } lc := by rw [← HV.out]; rfl
        rw [hv8] at D8
        have hb38 := HBX.out.trans (hb8.mono HBX.out.size)
        have hq8 : PRd (w7.setCell ⟨bq, 4, none⟩ (.int .u32 y2)) (w7.setCell ⟨bq, 4, none⟩ (.int .u32 y2)).heap.size { p with ssrc := y2 } lc := by
          have := (HQ3.out.below hb38).more hb38.size
          exact ⟨this.csrc, this.ext, this.pay, this.cn, this.en, this.pn, this.cc, this.ec, this.pc⟩
        have HC := Lib.hid (P2.out _ lc hq8)
        obtain ⟨v8, hv8'⟩ : ∃ v8, pvOf { p with ssrc := y2 } lc = v8 := ⟨_, rfl⟩
        rw [hv8'] at HC D8
        have s1 := str_run ho8.rd (c := c)
        have HO8 := Lib.hid ho8
        have HB38 := Lib.hid hb38
        have d0 := D8.c0
        have d1 := D8.c1
        have d2 := D8.c2
        have d3 := D8.c3
        have d4 := D8.c4
        have d5 := D8.c5
        have d6 := D8.c6
        have d7 := D8.c7
        have d8 := D8.c8
        have d9 := D8.c9
        have d10 := D8.c10
        clear hv8 hv8' hq8 hb8 hb7 hb38 hO ho7 ho8 D7 D8 hb6
        go_wp2_with fail
        refine HC.out.mono ?_
        rintro e w9 ⟨A9, c9, rfl, ho9, hb9⟩
        have s3 := str_run (HO8.out.below hb9 (Nat.le_refl _)).rd (c := c)
        have s4 := str_run ho9.rd (c := c9)
        have HB9 := Lib.hid (HB38.out.trans (hb9.mono HB38.out.size))
        clear s1 HO8 ho9 hb9 HC d0 d1 d2 d3 d4 d5 d6 d7 d8 d9 d10 x4 y4
        go_wp2
        go_roundw
        case rel => exact ⟨3, by omega, by omega, by first | rfl | go_num, HB9.out⟩
        case measure => simp [intOf]
    · go_wp2
      go_ret
      exact ⟨rfl, HBW.out⟩

set_option maxHeartbeats 20000000 in
theorem one_no (a : Option Addr) (len cap : Nat) (y0 y1 y2 f t n m0 m1 m2 : Int) (p : Pkt) (xs z0 z1 z2 : List Int) (w : World) (hn : (n == 0) = false)
    (HR : Hid (∀ W, Below w.heap.size w W → Rd W w.heap.size a len xs))
    (CG : Hid (∀ W, Below w.heap.size w W → Calls Try.prog 16 #[.slice a len cap] W (Rtp.RRet W p f t n)))
    (CC : Hid (∀ W, Below w.heap.size w W → Calls Try.prog 9 #[.slice a len cap] W (CopyRow W len xs)))
    (C0 : Hid (∀ W base A c, Own W base A len c xs → Calls Try.prog 17 #[.slice A len c, .int .u16 y0] W (Wrote W base A len c xs false)))
    (P0 : Hid (∀ W lc, PRd W W.heap.size { p with seq := y0 } lc → Calls Try.prog 20 #[pkt (pvOf { p with seq := y0 } lc)] W (Rtp.RetR W z0 m0)))
    (C1 : Hid (∀ W base A c, Own W base A len c xs → Calls Try.prog 18 #[.slice A len c, .int .u32 y1] W (Wrote W base A len c xs false)))
    (P1 : Hid (∀ W lc, PRd W W.heap.size { p with time := y1 } lc → Calls Try.prog 20 #[pkt (pvOf { p with time := y1 } lc)] W (Rtp.RetR W z1 m1)))
    (C2 : Hid (∀ W base A c, Own W base A len c xs → Calls Try.prog 19 #[.slice A len c, .int .u32 y2] W (Wrote W base A len c xs false)))
    (P2 : Hid (∀ W lc, PRd W W.heap.size { p with ssrc := y2 } lc → Calls Try.prog 20 #[pkt (pvOf { p with ssrc := y2 } lc)] W (Rtp.RetR W z2 m2))) :
    Calls Try.prog 4 #[.slice a len cap, .int .u16 y0, .int .u32 y1, .int .u32 y2] w (Rtp.RetB w true) := by
  go_enter Try.func4, Try.ntmps4
  go_wp2_with fail
  refine (shown_any _).mono ?_
  rintro e w1 ⟨rfl, hb1⟩
  go_wp2_with fail
  refine (CG.out _ hb1).mono ?_
  rintro e w2 ⟨lc, rfl, hq, hb2⟩
  obtain ⟨v, hv⟩ : ∃ v, pvOf p lc = v := ⟨_, rfl⟩
  rw [hv]
  have hb3 := (Below.refl w2.heap.size w2).alloc (Nat.le_refl _) (pobj v)
  have HB3 := Lib.hid ((hb1.trans (hb2.mono hb1.size)).trans (hb3.mono (Nat.le_trans hb1.size hb2.size)))
  have HP3 := Lib.hid (PBlk.new w2 v)
  have HQ3 := Lib.hid ((hq.below hb3).more hb3.size)
  have HV := Lib.hid hv
  have hz3 : w2.heap.size < (w2.alloc (pobj v)).heap.size := HP3.out.lt
  clear hb1 hb2 hb3 hq hv CG
  go_wp2_with fail
  generalize w2.alloc (pobj v) = w3 at *
  generalize w2.heap.size = bp at *
  go_loopw [13] (fun j wx => ∃ i : Int, 0 ≤ i ∧ i ≤ 3 ∧ j = .int .i64 i ∧ Below w3.heap.size w3 wx) (fun j _ => (3 - intOf j).toNat)
  case atStart => exact ⟨0, by omega, by omega, rfl, Below.refl _ _⟩
  case round =>
    obtain ⟨i, hi0, hi3, rfl, hbx⟩ := hrel
    rename World => wx
    have HBX := Lib.hid hbx
    have HBW := Lib.hid (HB3.out.trans (hbx.mono HB3.out.size))
    have Dp := HP3.out.below hbx hz3
    have hzx : bp < wx.heap.size := Dp.lt
    clear hbx
    obtain rfl | rfl | rfl | rfl : i = 0 ∨ i = 1 ∨ i = 2 ∨ i = 3 := by omega
    · skip
      go_wp2_with fail
      have hS : PBlk wx.drew bp v := pdrew Dp
      have c0 : ∀ W, PBlk W bp v → W.cell? ⟨bp, 0, none⟩ = some (.bool v.mrk) := fun W h => h.c0
      have c1 : ∀ W, PBlk W bp v → W.cell? ⟨bp, 1, none⟩ = some (.int .i64 v.ty) := fun W h => h.c1
      have c2 : ∀ W, PBlk W bp v → W.cell? ⟨bp, 2, none⟩ = some (.int .u16 v.seq) := fun W h => h.c2
      have c3 : ∀ W, PBlk W bp v → W.cell? ⟨bp, 3, none⟩ = some (.int .u32 v.time) := fun W h => h.c3
      have c4 : ∀ W, PBlk W bp v → W.cell? ⟨bp, 4, none⟩ = some (.int .u32 v.ssrc) := fun W h => h.c4
      have c5 : ∀ W, PBlk W bp v → W.cell? ⟨bp, 5, none⟩ = some (.slice v.ca v.cn v.cc) := fun W h => h.c5
      have c6 : ∀ W, PBlk W bp v → W.cell? ⟨bp, 6, none⟩ = some (.bool v.he) := fun W h => h.c6
      have c7 : ∀ W, PBlk W bp v → W.cell? ⟨bp, 7, none⟩ = some (.int .u16 v.prof) := fun W h => h.c7
      have c8 : ∀ W, PBlk W bp v → W.cell? ⟨bp, 8, none⟩ = some (.slice v.ea v.en v.ec) := fun W h => h.c8
      have c9 : ∀ W, PBlk W bp v → W.cell? ⟨bp, 9, none⟩ = some (.slice v.pa v.pn v.pc) := fun W h => h.c9
      have c10 : ∀ W, PBlk W bp v → W.cell? ⟨bp, 10, none⟩ = some (.int .i64 v.pad) := fun W h => h.c10
      refine region_tree (fun W => PBlk W bp v) (.rd 0 (.rd 2 (.fk 1 3 (.dn 3 (.rd 4 (.dn 5 (.rd 6 .nil)))) (.dn 1 (.rd 4 (.dn 5 (.rd 6 .nil))))))) (by kernel_rfl) (by kernel_rfl) rfl (by kernel_rfl) ?_
      iterate 2 (refine seqT_read (v := _) rfl (fun _ _ _ h => h) hS (Or.inl ⟨by rfl, fun W hW => by go_simp <;> with_reducible rfl⟩) ?_; simp only [Act.put, List.setIfInBounds_toArray, List.set_cons_zero, List.set_cons_succ])
      clear c0 c1 c2 c3 c4 c5 c6 c7 c8 c9 c10
      refine seqT_fork rfl rfl (fun K hK => ?_) (fun K hK => ?_)
      · skip
        go_simp
        refine (CC.out _ HBW.out.drew).mono ?_
        rintro e w4 ⟨A, c, rfl, ho4, hb4⟩
        have hb4' : Below wx.heap.size wx w4 := ((Below.refl wx.heap.size wx).drew).trans hb4
        have ho4' : Own w4 wx.heap.size A len c xs := ho4
        have hS : PBlk w4 bp v := Dp.below hb4' hzx
        refine hK.out _ _ (fun W => PBlk W bp v) (fun W h => h) hS ?_
        clear hK K hb4 ho4
        refine seqT_do rfl (fun K hK => ?_)
        go_simp
        have hba := (Below.refl w4.heap.size w4).alloc (Nat.le_refl _) (pobj zpv)
        have hS1 : PBlk (w4.alloc (pobj zpv)) bp v := hS.below hba hS.lt
        refine hK.out _ _ (fun W => PBlk W bp v) (fun W h => h) hS1 ?_
        clear hK K
        iterate 1 (refine seqT_read (v := _) rfl (fun _ _ _ h => h) hS1 (Or.inl ⟨by rfl, fun W hW => by go_simp <;> with_reducible rfl⟩) ?_; simp only [Act.put, List.setIfInBounds_toArray, List.set_cons_zero, List.set_cons_succ])
        refine seqT_do rfl (fun K hK => ?_)
        go_simp
        have hbb := (Below.refl w4.heap.size w4).alloc (Nat.le_refl _) (pobj v)
        have hS2 : PBlk (w4.alloc (pobj v)) bp v := hS.below hbb hS.lt
        refine hK.out _ _ (fun W => PBlk W bp v) (fun W h => h) hS2 ?_
        clear hK K
        iterate 1 (refine seqT_read (v := _) rfl (fun _ _ _ h => h) hS2 (Or.inl ⟨by rfl, fun W hW => by go_simp <;> with_reducible rfl⟩) ?_; simp only [Act.put, List.setIfInBounds_toArray, List.set_cons_zero, List.set_cons_succ])
        refine seqT_end ?_
        have D6 := PBlk.new w4 v
        have ho6 := ho4'.below hbb (Nat.le_refl _)
        have hb6 : Below wx.heap.size wx (w4.alloc (pobj v)) := hb4'.trans (hbb.mono hb4'.size)
        have hq6 : wx.heap.size ≤ w4.heap.size := hb4'.size
        have hbs6 : wx.heap.size ≤ wx.heap.size := Nat.le_refl _
        clear hb4' ho4' hS hS1 hS2 hba hbb
        obtain ⟨W6, hW6⟩ : ∃ W6, w4.alloc (.cells #[.bool v.mrk, .int .i64 v.ty, .int .u16 v.seq, .int .u32 v.time, .int .u32 v.ssrc, .slice v.ca v.cn v.cc, .bool v.he, .int .u16 v.prof, .slice v.ea v.en v.ec, .slice v.pa v.pn v.pc, .int .i64 v.pad] 39) = W6 := ⟨_, rfl⟩
        have D6 : PBlk W6 w4.heap.size v := hW6 ▸ D6
        have ho6 : Own W6 wx.heap.size A len c xs := hW6 ▸ ho6
        have hb6 : Below wx.heap.size wx W6 := hW6 ▸ hb6
        rw [hW6]
        clear hW6
        generalize w4.heap.size = bq at *
        obtain ⟨base, hbase, ho6⟩ : ∃ base, wx.heap.size ≤ base ∧ Own W6 base A len c xs := ⟨_, Nat.le_refl _, ho6⟩
        have HO6 := Lib.hid ho6
        have HD6 := Lib.hid D6
        have hz6 : wx.heap.size ≤ W6.heap.size := hb6.size
        have hbw6 : base ≤ W6.heap.size ∨ A = none := by
          rcases ho6.2.2.2.2 with ⟨h, -, -⟩ | ⟨g, T, h, hg, hk, -⟩
          · exact .inr h
          · exact .inl (Nat.le_trans hg (Nat.le_of_lt hk.lt))
        have HL := Lib.hid hbw6
        clear ho6 D6 hbw6
        go_wp2_with fail
        refine (C0.out W6 base A c HO6.out).mono ?_
        rintro e w7 ⟨rfl, ho7, ha7⟩
        have hb67 : Below wx.heap.size W6 w7 := ha7.below (HO6.out.lower hbase) hz6
        have D7 : PBlk w7 bq v := PBlk.at HD6.out ha7 HO6.out
        have hb7 := hb6.trans hb67
        clear ha7 hb67 HL HD6 HO6
        have x2 := D7.c2
        have y2 := D7.frozen 2
        have D8 := pset_seq D7 y0
        have hO := (Off.refl bq w7).set (k := 2) (.int .u16 y0)
        have ho8 := ho7.off D7 hO
        have hb8 := hb7.setCell (p := ⟨bq, 2, none⟩) hq6 (.int .u16 y0)
        have hv8 : ({ v with seq := y0 } : PV) = pvOf { p with seq := y0 } lc := by rw [← HV.out]; rfl
        rw [hv8] at D8
        have hb38 := HBX.out.trans (hb8.mono HBX.out.size)
        have hq8 : PRd (w7.setCell ⟨bq, 2, none⟩ (.int .u16 y0)) (w7.setCell ⟨bq, 2, none⟩ (.int .u16 y0)).heap.size { p with seq := y0 } lc := by
          have := (HQ3.out.below hb38).more hb38.size
          exact ⟨this.csrc, this.ext, this.pay, this.cn, this.en, this.pn, this.cc, this.ec, this.pc⟩
        have HC := Lib.hid (P0.out _ lc hq8)
        obtain ⟨v8, hv8'⟩ : ∃ v8, pvOf { p with seq := y0 } lc = v8 := ⟨_, rfl⟩
        rw [hv8'] at HC D8
        have s1 := str_run ho8.rd (c := c)
        have s0 := str_run (HR.out _ (HB3.out.trans (hb38.mono HB3.out.size))) (c := cap)
        have HO8 := Lib.hid ho8
        have HB38 := Lib.hid hb38
        have d0 := D8.c0
        have d1 := D8.c1
        have d2 := D8.c2
        have d3 := D8.c3
        have d4 := D8.c4
        have d5 := D8.c5
        have d6 := D8.c6
        have d7 := D8.c7
        have d8 := D8.c8
        have d9 := D8.c9
        have d10 := D8.c10
        clear hv8 hv8' hq8 hb8 hb7 hb38 hO ho7 ho8 D7 D8 hb6
        go_wp2_with fail
        refine HC.out.mono ?_
        rintro e w9 ⟨A9, c9, rfl, ho9, hb9⟩
        have s3 := str_run (HO8.out.below hb9 (Nat.le_refl _)).rd (c := c)
        have s4 := str_run ho9.rd (c := c9)
        have HB9 := Lib.hid (HB38.out.trans (hb9.mono HB38.out.size))
        clear s1 s0 HO8 ho9 hb9 HC d0 d1 d2 d3 d4 d5 d6 d7 d8 d9 d10 x2 y2
        go_wp2
        go_roundw
        case rel => exact ⟨1, by omega, by omega, by first | rfl | go_num, HB9.out⟩
        case measure => simp [intOf]
      · skip
        go_simp
        have hba := (Below.refl wx.heap.size wx).alloc (Nat.le_refl _) (pobj zpv)
        have hS1 : PBlk (wx.alloc (pobj zpv)).drew bp v := pdrew (Dp.below hba hzx)
        have E4 := PBlk.new wx zpv
        refine hK.out _ _ (fun W => PBlk W bp v) (fun W h => h) hS1 ?_
        clear hK K
        generalize wx.alloc (pobj zpv) = w4 at *
        refine seqT_do rfl (fun K hK => ?_)
        go_simp
        refine (CC.out _ (HBW.out.trans (hba.drew.mono HBW.out.size))).mono ?_
        rintro e w5 ⟨A, c, rfl, ho5, hb5⟩
        have hb5' : Below w4.heap.size w4 w5 := ((Below.refl w4.heap.size w4).drew).trans hb5
        have ho5' : Own w5 w4.heap.size A len c xs := ho5
        have hS : PBlk w5 bp v := (pundrew hS1).below hb5' (pundrew hS1).lt
        have E5 := E4.below hb5' E4.lt
        have hbx5 := hba.trans (hb5'.mono hba.size)
        refine hK.out _ _ (fun W => PBlk W bp v) (fun W h => h) hS ?_
        clear hK K hb5 ho5 hS1
        iterate 1 (refine seqT_read (v := _) rfl (fun _ _ _ h => h) hS (Or.inl ⟨by rfl, fun W hW => by go_simp <;> with_reducible rfl⟩) ?_; simp only [Act.put, List.setIfInBounds_toArray, List.set_cons_zero, List.set_cons_succ])
        have f0 := E5.c0
        have f1 := E5.c1
        have f2 := E5.c2
        have f3 := E5.c3
        have f4 := E5.c4
        have f5 := E5.c5
        have f6 := E5.c6
        have f7 := E5.c7
        have f8 := E5.c8
        have f9 := E5.c9
        have f10 := E5.c10
        have g0 := E5.frozen 0
        have g1 := E5.frozen 1
        have g2 := E5.frozen 2
        have g3 := E5.frozen 3
        have g4 := E5.frozen 4
        have g5 := E5.frozen 5
        have g6 := E5.frozen 6
        have g7 := E5.frozen 7
        have g8 := E5.frozen 8
        have g9 := E5.frozen 9
        have g10 := E5.frozen 10
        have HO := Rtp.off_pstore wx.heap.size w5 (.bool v.mrk) (.int .i64 v.ty) (.int .u16 v.seq) (.int .u32 v.time) (.int .u32 v.ssrc) (.slice v.ca v.cn v.cc) (.bool v.he) (.int .u16 v.prof) (.slice v.ea v.en v.ec) (.slice v.pa v.pn v.pc) (.int .i64 v.pad)
        have D6 := E5.store v
        have ho6 := ho5'.off E5 HO
        have hb6 := Rtp.below_pstore hbx5 (Nat.le_refl _) (.bool v.mrk) (.int .i64 v.ty) (.int .u16 v.seq) (.int .u32 v.time) (.int .u32 v.ssrc) (.slice v.ca v.cn v.cc) (.bool v.he) (.int .u16 v.prof) (.slice v.ea v.en v.ec) (.slice v.pa v.pn v.pc) (.int .i64 v.pad)
        have hS2 : PBlk (PW w5 wx.heap.size v) bp v := Rtp.PBlk.offb hS (Nat.ne_of_lt hzx) HO
        have hz4 := hba.size
        clear HO E4 E5 ho5' hb5' hbx5 hba
        have HD6 := Lib.hid D6
        have HO6 := Lib.hid ho6
        have HB6 := Lib.hid hb6
        clear D6 ho6 hb6
        refine seqT_do rfl (fun K hK => ?_)
        go_simp
        refine hK.out _ _ (fun W => PBlk W bp v) (fun W h => h) hS2 ?_
        clear hK K f0 f1 f2 f3 f4 f5 f6 f7 f8 f9 f10 g0 g1 g2 g3 g4 g5 g6 g7 g8 g9 g10
        iterate 1 (refine seqT_read (v := _) rfl (fun _ _ _ h => h) hS2 (Or.inl ⟨by rfl, fun W hW => by go_simp <;> with_reducible rfl⟩) ?_; simp only [Act.put, List.setIfInBounds_toArray, List.set_cons_zero, List.set_cons_succ])
        refine seqT_end ?_
        have D6 := HD6.out
        have ho6 := HO6.out
        have hb6 := HB6.out
        clear HD6 HO6 HB6 hS hS2
        obtain ⟨W6, hW6⟩ : ∃ W6, (((((((((((w5.setCell ⟨wx.heap.size, 0, none⟩ (.bool v.mrk)).setCell ⟨wx.heap.size, 1, none⟩ (.int .i64 v.ty)).setCell ⟨wx.heap.size, 2, none⟩ (.int .u16 v.seq)).setCell ⟨wx.heap.size, 3, none⟩ (.int .u32 v.time)).setCell ⟨wx.heap.size, 4, none⟩ (.int .u32 v.ssrc)).setCell ⟨wx.heap.size, 5, none⟩ (.slice v.ca v.cn v.cc)).setCell ⟨wx.heap.size, 6, none⟩ (.bool v.he)).setCell ⟨wx.heap.size, 7, none⟩ (.int .u16 v.prof)).setCell ⟨wx.heap.size, 8, none⟩ (.slice v.ea v.en v.ec)).setCell ⟨wx.heap.size, 9, none⟩ (.slice v.pa v.pn v.pc)).setCell ⟨wx.heap.size, 10, none⟩ (.int .i64 v.pad)) = W6 := ⟨_, rfl⟩
        rw [hW6] at D6 ho6 hb6 ⊢
        clear hW6
        have hq6 : wx.heap.size ≤ wx.heap.size := Nat.le_refl _
        obtain ⟨bq, hbq⟩ : ∃ bq, wx.heap.size = bq := ⟨_, rfl⟩
        obtain ⟨base, hbase, ho6⟩ : ∃ base, wx.heap.size ≤ base ∧ Own W6 base A len c xs := ⟨_, hz4, ho6⟩
        have D6 : PBlk W6 bq v := hbq ▸ D6
        have hq6 : wx.heap.size ≤ bq := Nat.le_of_eq hbq
        rw [hbq]
        clear hbq hz4
        have HO6 := Lib.hid ho6
        have HD6 := Lib.hid D6
        have hz6 : wx.heap.size ≤ W6.heap.size := hb6.size
        have hbw6 : base ≤ W6.heap.size ∨ A = none := by
          rcases ho6.2.2.2.2 with ⟨h, -, -⟩ | ⟨g, T, h, hg, hk, -⟩
          · exact .inr h
          · exact .inl (Nat.le_trans hg (Nat.le_of_lt hk.lt))
        have HL := Lib.hid hbw6
        clear ho6 D6 hbw6
        go_wp2_with fail
        refine (C0.out W6 base A c HO6.out).mono ?_
        rintro e w7 ⟨rfl, ho7, ha7⟩
        have hb67 : Below wx.heap.size W6 w7 := ha7.below (HO6.out.lower hbase) hz6
        have D7 : PBlk w7 bq v := PBlk.at HD6.out ha7 HO6.out
        have hb7 := hb6.trans hb67
        clear ha7 hb67 HL HD6 HO6
        have x2 := D7.c2
        have y2 := D7.frozen 2
        have D8 := pset_seq D7 y0
        have hO := (Off.refl bq w7).set (k := 2) (.int .u16 y0)
        have ho8 := ho7.off D7 hO
        have hb8 := hb7.setCell (p := ⟨bq, 2, none⟩) hq6 (.int .u16 y0)
        have hv8 : ({ v with seq := y0 } : PV) = pvOf { p with seq := y0 } lc := by rw [← HV.out]; rfl
        rw [hv8] at D8
        have hb38 := HBX.out.trans (hb8.mono HBX.out.size)
        have hq8 : PRd (w7.setCell ⟨bq, 2, none⟩ (.int .u16 y0)) (w7.setCell ⟨bq, 2, none⟩ (.int .u16 y0)).heap.size { p with seq := y0 } lc := by
          have := (HQ3.out.below hb38).more hb38.size
          exact ⟨this.csrc, this.ext, this.pay, this.cn, this.en, this.pn, this.cc, this.ec, this.pc⟩
        have HC := Lib.hid (P0.out _ lc hq8)
        obtain ⟨v8, hv8'⟩ : ∃ v8, pvOf { p with seq := y0 } lc = v8 := ⟨_, rfl⟩
        rw [hv8'] at HC D8
        have s1 := str_run ho8.rd (c := c)
        have s0 := str_run (HR.out _ (HB3.out.trans (hb38.mono HB3.out.size))) (c := cap)
        have HO8 := Lib.hid ho8
        have HB38 := Lib.hid hb38
        have d0 := D8.c0
        have d1 := D8.c1
        have d2 := D8.c2
        have d3 := D8.c3
        have d4 := D8.c4
        have d5 := D8.c5
        have d6 := D8.c6
        have d7 := D8.c7
        have d8 := D8.c8
        have d9 := D8.c9
        have d10 := D8.c10
        clear hv8 hv8' hq8 hb8 hb7 hb38 hO ho7 ho8 D7 D8 hb6
        go_wp2_with fail
        refine HC.out.mono ?_
        rintro e w9 ⟨A9, c9, rfl, ho9, hb9⟩
        have s3 := str_run (HO8.out.below hb9 (Nat.le_refl _)).rd (c := c)
        have s4 := str_run ho9.rd (c := c9)
        have HB9 := Lib.hid (HB38.out.trans (hb9.mono HB38.out.size))
        clear s1 s0 HO8 ho9 hb9 HC d0 d1 d2 d3 d4 d5 d6 d7 d8 d9 d10 x2 y2
        go_wp2
        go_roundw
        case rel => exact ⟨1, by omega, by omega, by first | rfl | go_num, HB9.out⟩
        case measure => simp [intOf]
    · skip
      go_wp2_with fail
      have hS : PBlk wx.drew bp v := pdrew Dp
      have c0 : ∀ W, PBlk W bp v → W.cell? ⟨bp, 0, none⟩ = some (.bool v.mrk) := fun W h => h.c0
      have c1 : ∀ W, PBlk W bp v → W.cell? ⟨bp, 1, none⟩ = some (.int .i64 v.ty) := fun W h => h.c1
      have c2 : ∀ W, PBlk W bp v → W.cell? ⟨bp, 2, none⟩ = some (.int .u16 v.seq) := fun W h => h.c2
      have c3 : ∀ W, PBlk W bp v → W.cell? ⟨bp, 3, none⟩ = some (.int .u32 v.time) := fun W h => h.c3
      have c4 : ∀ W, PBlk W bp v → W.cell? ⟨bp, 4, none⟩ = some (.int .u32 v.ssrc) := fun W h => h.c4
      have c5 : ∀ W, PBlk W bp v → W.cell? ⟨bp, 5, none⟩ = some (.slice v.ca v.cn v.cc) := fun W h => h.c5
      have c6 : ∀ W, PBlk W bp v → W.cell? ⟨bp, 6, none⟩ = some (.bool v.he) := fun W h => h.c6
      have c7 : ∀ W, PBlk W bp v → W.cell? ⟨bp, 7, none⟩ = some (.int .u16 v.prof) := fun W h => h.c7
      have c8 : ∀ W, PBlk W bp v → W.cell? ⟨bp, 8, none⟩ = some (.slice v.ea v.en v.ec) := fun W h => h.c8
      have c9 : ∀ W, PBlk W bp v → W.cell? ⟨bp, 9, none⟩ = some (.slice v.pa v.pn v.pc) := fun W h => h.c9
      have c10 : ∀ W, PBlk W bp v → W.cell? ⟨bp, 10, none⟩ = some (.int .i64 v.pad) := fun W h => h.c10
      refine region_tree (fun W => PBlk W bp v) (.rd 0 (.rd 2 (.fk 1 3 (.dn 3 (.rd 4 (.dn 5 (.rd 6 .nil)))) (.dn 1 (.rd 4 (.dn 5 (.rd 6 .nil))))))) (by kernel_rfl) (by kernel_rfl) rfl (by kernel_rfl) ?_
      iterate 2 (refine seqT_read (v := _) rfl (fun _ _ _ h => h) hS (Or.inl ⟨by rfl, fun W hW => by go_simp <;> with_reducible rfl⟩) ?_; simp only [Act.put, List.setIfInBounds_toArray, List.set_cons_zero, List.set_cons_succ])
      clear c0 c1 c2 c3 c4 c5 c6 c7 c8 c9 c10
      refine seqT_fork rfl rfl (fun K hK => ?_) (fun K hK => ?_)
      · skip
        go_simp
        refine (CC.out _ HBW.out.drew).mono ?_
        rintro e w4 ⟨A, c, rfl, ho4, hb4⟩
        have hb4' : Below wx.heap.size wx w4 := ((Below.refl wx.heap.size wx).drew).trans hb4
        have ho4' : Own w4 wx.heap.size A len c xs := ho4
        have hS : PBlk w4 bp v := Dp.below hb4' hzx
        refine hK.out _ _ (fun W => PBlk W bp v) (fun W h => h) hS ?_
        clear hK K hb4 ho4
        refine seqT_do rfl (fun K hK => ?_)
        go_simp
        have hba := (Below.refl w4.heap.size w4).alloc (Nat.le_refl _) (pobj zpv)
        have hS1 : PBlk (w4.alloc (pobj zpv)) bp v := hS.below hba hS.lt
        refine hK.out _ _ (fun W => PBlk W bp v) (fun W h => h) hS1 ?_
        clear hK K
        iterate 1 (refine seqT_read (v := _) rfl (fun _ _ _ h => h) hS1 (Or.inl ⟨by rfl, fun W hW => by go_simp <;> with_reducible rfl⟩) ?_; simp only [Act.put, List.setIfInBounds_toArray, List.set_cons_zero, List.set_cons_succ])
        refine seqT_do rfl (fun K hK => ?_)
        go_simp
        have hbb := (Below.refl w4.heap.size w4).alloc (Nat.le_refl _) (pobj v)
        have hS2 : PBlk (w4.alloc (pobj v)) bp v := hS.below hbb hS.lt
        refine hK.out _ _ (fun W => PBlk W bp v) (fun W h => h) hS2 ?_
        clear hK K
        iterate 1 (refine seqT_read (v := _) rfl (fun _ _ _ h => h) hS2 (Or.inl ⟨by rfl, fun W hW => by go_simp <;> with_reducible rfl⟩) ?_; simp only [Act.put, List.setIfInBounds_toArray, List.set_cons_zero, List.set_cons_succ])
        refine seqT_end ?_
        have D6 := PBlk.new w4 v
        have ho6 := ho4'.below hbb (Nat.le_refl _)
        have hb6 : Below wx.heap.size wx (w4.alloc (pobj v)) := hb4'.trans (hbb.mono hb4'.size)
        have hq6 : wx.heap.size ≤ w4.heap.size := hb4'.size
        have hbs6 : wx.heap.size ≤ wx.heap.size := Nat.le_refl _
        clear hb4' ho4' hS hS1 hS2 hba hbb
        obtain ⟨W6, hW6⟩ : ∃ W6, w4.alloc (.cells #[.bool v.mrk, .int .i64 v.ty, .int .u16 v.seq, .int .u32 v.time, .int .u32 v.ssrc, .slice v.ca v.cn v.cc, .bool v.he, .int .u16 v.prof, .slice v.ea v.en v.ec, .slice v.pa v.pn v.pc, .int .i64 v.pad] 39) = W6 := ⟨_, rfl⟩
        have D6 : PBlk W6 w4.heap.size v := hW6 ▸ D6
        have ho6 : Own W6 wx.heap.size A len c xs := hW6 ▸ ho6
        have hb6 : Below wx.heap.size wx W6 := hW6 ▸ hb6
        rw [hW6]
        clear hW6
        generalize w4.heap.size = bq at *
        obtain ⟨base, hbase, ho6⟩ : ∃ base, wx.heap.size ≤ base ∧ Own W6 base A len c xs := ⟨_, Nat.le_refl _, ho6⟩
        have HO6 := Lib.hid ho6
        have HD6 := Lib.hid D6
        have hz6 : wx.heap.size ≤ W6.heap.size := hb6.size
        have hbw6 : base ≤ W6.heap.size ∨ A = none := by
          rcases ho6.2.2.2.2 with ⟨h, -, -⟩ | ⟨g, T, h, hg, hk, -⟩
          · exact .inr h
          · exact .inl (Nat.le_trans hg (Nat.le_of_lt hk.lt))
        have HL := Lib.hid hbw6
        clear ho6 D6 hbw6
        go_wp2_with fail
        refine (C1.out W6 base A c HO6.out).mono ?_
        rintro e w7 ⟨rfl, ho7, ha7⟩
        have hb67 : Below wx.heap.size W6 w7 := ha7.below (HO6.out.lower hbase) hz6
        have D7 : PBlk w7 bq v := PBlk.at HD6.out ha7 HO6.out
        have hb7 := hb6.trans hb67
        clear ha7 hb67 HL HD6 HO6
        have x3 := D7.c3
        have y3 := D7.frozen 3
        have D8 := pset_time D7 y1
        have hO := (Off.refl bq w7).set (k := 3) (.int .u32 y1)
        have ho8 := ho7.off D7 hO
        have hb8 := hb7.setCell (p := ⟨bq, 3, none⟩) hq6 (.int .u32 y1)
        have hv8 : ({ v with time := y1 } : PV) = pvOf { p with time := y1 } lc := by rw [← HV.out]; rfl
        rw [hv8] at D8
        have hb38 := HBX.out.trans (hb8.mono HBX.out.size)
        have hq8 : PRd (w7.setCell ⟨bq, 3, none⟩ (.int .u32 y1)) (w7.setCell ⟨bq, 3, none⟩ (.int .u32 y1)).heap.size { p with time := y1 } lc := by
          have := (HQ3.out.below hb38).more hb38.size
          exact ⟨this.csrc, this.ext, this.pay, this.cn, this.en, this.pn, this.cc, this.ec, this.pc⟩
        have HC := Lib.hid (P1.out _ lc hq8)
        obtain ⟨v8, hv8'⟩ : ∃ v8, pvOf { p with time := y1 } lc = v8 := ⟨_, rfl⟩
        rw [hv8'] at HC D8
        have s1 := str_run ho8.rd (c := c)
        have s0 := str_run (HR.out _ (HB3.out.trans (hb38.mono HB3.out.size))) (c := cap)
        have HO8 := Lib.hid ho8
        have HB38 := Lib.hid hb38
        have d0 := D8.c0
        have d1 := D8.c1
        have d2 := D8.c2
        have d3 := D8.c3
        have d4 := D8.c4
        have d5 := D8.c5
        have d6 := D8.c6
        have d7 := D8.c7
        have d8 := D8.c8
        have d9 := D8.c9
        have d10 := D8.c10
        clear hv8 hv8' hq8 hb8 hb7 hb38 hO ho7 ho8 D7 D8 hb6
        go_wp2_with fail
        refine HC.out.mono ?_
        rintro e w9 ⟨A9, c9, rfl, ho9, hb9⟩
        have s3 := str_run (HO8.out.below hb9 (Nat.le_refl _)).rd (c := c)
        have s4 := str_run ho9.rd (c := c9)
        have HB9 := Lib.hid (HB38.out.trans (hb9.mono HB38.out.size))
        clear s1 s0 HO8 ho9 hb9 HC d0 d1 d2 d3 d4 d5 d6 d7 d8 d9 d10 x3 y3
        go_wp2
        go_roundw
        case rel => exact ⟨2, by omega, by omega, by first | rfl | go_num, HB9.out⟩
        case measure => simp [intOf]
      · skip
        go_simp
        have hba := (Below.refl wx.heap.size wx).alloc (Nat.le_refl _) (pobj zpv)
        have hS1 : PBlk (wx.alloc (pobj zpv)).drew bp v := pdrew (Dp.below hba hzx)
        have E4 := PBlk.new wx zpv
        refine hK.out _ _ (fun W => PBlk W bp v) (fun W h => h) hS1 ?_
        clear hK K
        generalize wx.alloc (pobj zpv) = w4 at *
        refine seqT_do rfl (fun K hK => ?_)
        go_simp
        refine (CC.out _ (HBW.out.trans (hba.drew.mono HBW.out.size))).mono ?_
        rintro e w5 ⟨A, c, rfl, ho5, hb5⟩
        have hb5' : Below w4.heap.size w4 w5 := ((Below.refl w4.heap.size w4).drew).trans hb5
        have ho5' : Own w5 w4.heap.size A len c xs := ho5
        have hS : PBlk w5 bp v := (pundrew hS1).below hb5' (pundrew hS1).lt
        have E5 := E4.below hb5' E4.lt
        have hbx5 := hba.trans (hb5'.mono hba.size)
        refine hK.out _ _ (fun W => PBlk W bp v) (fun W h => h) hS ?_
        clear hK K hb5 ho5 hS1
        iterate 1 (refine seqT_read (v := _) rfl (fun _ _ _ h => h) hS (Or.inl ⟨by rfl, fun W hW => by go_simp <;> with_reducible rfl⟩) ?_; simp only [Act.put, List.setIfInBounds_toArray, List.set_cons_zero, List.set_cons_succ])
        have f0 := E5.c0
        have f1 := E5.c1
        have f2 := E5.c2
        have f3 := E5.c3
        have f4 := E5.c4
        have f5 := E5.c5
        have f6 := E5.c6
        have f7 := E5.c7
        have f8 := E5.c8
        have f9 := E5.c9
        have f10 := E5.c10
        have g0 := E5.frozen 0
        have g1 := E5.frozen 1
        have g2 := E5.frozen 2
        have g3 := E5.frozen 3
        have g4 := E5.frozen 4
        have g5 := E5.frozen 5
        have g6 := E5.frozen 6
        have g7 := E5.frozen 7
        have g8 := E5.frozen 8
        have g9 := E5.frozen 9
        have g10 := E5.frozen 10
        have HO := Rtp.off_pstore wx.heap.size w5 (.bool v.mrk) (.int .i64 v.ty) (.int .u16 v.seq) (.int .u32 v.time) (.int .u32 v.ssrc) (.slice v.ca v.cn v.cc) (.bool v.he) (.int .u16 v.prof) (.slice v.ea v.en v.ec) (.slice v.pa v.pn v.pc) (.int .i64 v.pad)
        have D6 := E5.store v
        have ho6 := ho5'.off E5 HO
        have hb6 := Rtp.below_pstore hbx5 (Nat.le_refl _) (.bool v.mrk) (.int .i64 v.ty) (.int .u16 v.seq) (.int .u32 v.time) (.int .u32 v.ssrc) (.slice v.ca v.cn v.cc) (.bool v.he) (.int .u16 v.prof) (.slice v.ea v.en v.ec) (.slice v.pa v.pn v.pc) (.int .i64 v.pad)
        have hS2 : PBlk (PW w5 wx.heap.size v) bp v := Rtp.PBlk.offb hS (Nat.ne_of_lt hzx) HO
        have hz4 := hba.size
        clear HO E4 E5 ho5' hb5' hbx5 hba
        have HD6 := Lib.hid D6
        have HO6 := Lib.hid ho6
        have HB6 := Lib.hid hb6
        clear D6 ho6 hb6
        refine seqT_do rfl (fun K hK => ?_)
        go_simp
        refine hK.out _ _ (fun W => PBlk W bp v) (fun W h => h) hS2 ?_
        clear hK K f0 f1 f2 f3 f4 f5 f6 f7 f8 f9 f10 g0 g1 g2 g3 g4 g5 g6 g7 g8 g9 g10
        iterate 1 (refine seqT_read (v := _) rfl (fun _ _ _ h => h) hS2 (Or.inl ⟨by rfl, fun W hW => by go_simp <;> with_reducible rfl⟩) ?_; simp only [Act.put, List.setIfInBounds_toArray, List.set_cons_zero, List.set_cons_succ])
        refine seqT_end ?_
        have D6 := HD6.out
        have ho6 := HO6.out
        have hb6 := HB6.out
        clear HD6 HO6 HB6 hS hS2
        obtain ⟨W6, hW6⟩ : ∃ W6, (((((((((((w5.setCell ⟨wx.heap.size, 0, none⟩ (.bool v.mrk)).setCell ⟨wx.heap.size, 1, none⟩ (.int .i64 v.ty)).setCell ⟨wx.heap.size, 2, none⟩ (.int .u16 v.seq)).setCell ⟨wx.heap.size, 3, none⟩ (.int .u32 v.time)).setCell ⟨wx.heap.size, 4, none⟩ (.int .u32 v.ssrc)).setCell ⟨wx.heap.size, 5, none⟩ (.slice v.ca v.cn v.cc)).setCell ⟨wx.heap.size, 6, none⟩ (.bool v.he)).setCell ⟨wx.heap.size, 7, none⟩ (.int .u16 v.prof)).setCell ⟨wx.heap.size, 8, none⟩ (.slice v.ea v.en v.ec)).setCell ⟨wx.heap.size, 9, none⟩ (.slice v.pa v.pn v.pc)).setCell ⟨wx.heap.size, 10, none⟩ (.int .i64 v.pad)) = W6 := ⟨_, rfl⟩
        rw [hW6] at D6 ho6 hb6 ⊢
        clear hW6
        have hq6 : wx.heap.size ≤ wx.heap.size := Nat.le_refl _
        obtain ⟨bq, hbq⟩ : ∃ bq, wx.heap.size = bq := ⟨_, rfl⟩
        obtain ⟨base, hbase, ho6⟩ : ∃ base, wx.heap.size ≤ base ∧ Own W6 base A len c xs := ⟨_, hz4, ho6⟩
        have D6 : PBlk W6 bq v := hbq ▸ D6
        have hq6 : wx.heap.size ≤ bq := Nat.le_of_eq hbq
        rw [hbq]
        clear hbq hz4
        have HO6 := Lib.hid ho6
        have HD6 := Lib.hid D6
        have hz6 : wx.heap.size ≤ W6.heap.size := hb6.size
        have hbw6 : base ≤ W6.heap.size ∨ A = none := by
          rcases ho6.2.2.2.2 with ⟨h, -, -⟩ | ⟨g, T, h, hg, hk, -⟩
          · exact .inr h
          · exact .inl (Nat.le_trans hg (Nat.le_of_lt hk.lt))
        have HL := Lib.hid hbw6
        clear ho6 D6 hbw6
        go_wp2_with fail
        refine (C1.out W6 base A c HO6.out).mono ?_
        rintro e w7 ⟨rfl, ho7, ha7⟩
        have hb67 : Below wx.heap.size W6 w7 := ha7.below (HO6.out.lower hbase) hz6
        have D7 : PBlk w7 bq v := PBlk.at HD6.out ha7 HO6.out
        have hb7 := hb6.trans hb67
        clear ha7 hb67 HL HD6 HO6
        have x3 := D7.c3
        have y3 := D7.frozen 3
        have D8 := pset_time D7 y1
        have hO := (Off.refl bq w7).set (k := 3) (.int .u32 y1)
        have ho8 := ho7.off D7 hO
        have hb8 := hb7.setCell (p := ⟨bq, 3, none⟩) hq6 (.int .u32 y1)
        have hv8 : ({ v with time := y1 } : PV) = pvOf { p with time := y1 } lc := by rw [← HV.out]; rfl
        rw [hv8] at D8
        have hb38 := HBX.out.trans (hb8.mono HBX.out.size)
        have hq8 : PRd (w7.setCell ⟨bq, 3, none⟩ (.int .u32 y1)) (w7.setCell ⟨bq, 3, none⟩ (.int .u32 y1)).heap.size { p with time := y1 } lc := by
          have := (HQ3.out.below hb38).more hb38.size
          exact ⟨this.csrc, this.ext, this.pay, this.cn, this.en, this.pn, this.cc, this.ec, this.pc⟩
        have HC := Lib.hid (P1.out _ lc hq8)
        obtain ⟨v8, hv8'⟩ : ∃ v8, pvOf { p with time := y1 } lc = v8 := ⟨_, rfl⟩
        rw [hv8'] at HC D8
        have s1 := str_run ho8.rd (c := c)
        have s0 := str_run (HR.out _ (HB3.out.trans (hb38.mono HB3.out.size))) (c := cap)
        have HO8 := Lib.hid ho8
        have HB38 := Lib.hid hb38
        have d0 := D8.c0
        have d1 := D8.c1
        have d2 := D8.c2
        have d3 := D8.c3
        have d4 := D8.c4
        have d5 := D8.c5
        have d6 := D8.c6
        have d7 := D8.c7
        have d8 := D8.c8
        have d9 := D8.c9
        have d10 := D8.c10
        clear hv8 hv8' hq8 hb8 hb7 hb38 hO ho7 ho8 D7 D8 hb6
        go_wp2_with fail
        refine HC.out.mono ?_
        rintro e w9 ⟨A9, c9, rfl, ho9, hb9⟩
        have s3 := str_run (HO8.out.below hb9 (Nat.le_refl _)).rd (c := c)
        have s4 := str_run ho9.rd (c := c9)
        have HB9 := Lib.hid (HB38.out.trans (hb9.mono HB38.out.size))
        clear s1 s0 HO8 ho9 hb9 HC d0 d1 d2 d3 d4 d5 d6 d7 d8 d9 d10 x3 y3
        go_wp2
        go_roundw
        case rel => exact ⟨2, by omega, by omega, by first | rfl | go_num, HB9.out⟩
        case measure => simp [intOf]
    · skip
      go_wp2_with fail
      have hS : PBlk wx.drew bp v := pdrew Dp
      have c0 : ∀ W, PBlk W bp v → W.cell? ⟨bp, 0, none⟩ = some (.bool v.mrk) := fun W h => h.c0
      have c1 : ∀ W, PBlk W bp v → W.cell? ⟨bp, 1, none⟩ = some (.int .i64 v.ty) := fun W h => h.c1
      have c2 : ∀ W, PBlk W bp v → W.cell? ⟨bp, 2, none⟩ = some (.int .u16 v.seq) := fun W h => h.c2
      have c3 : ∀ W, PBlk W bp v → W.cell? ⟨bp, 3, none⟩ = some (.int .u32 v.time) := fun W h => h.c3
      have c4 : ∀ W, PBlk W bp v → W.cell? ⟨bp, 4, none⟩ = some (.int .u32 v.ssrc) := fun W h => h.c4
      have c5 : ∀ W, PBlk W bp v → W.cell? ⟨bp, 5, none⟩ = some (.slice v.ca v.cn v.cc) := fun W h => h.c5
      have c6 : ∀ W, PBlk W bp v → W.cell? ⟨bp, 6, none⟩ = some (.bool v.he) := fun W h => h.c6
      have c7 : ∀ W, PBlk W bp v → W.cell? ⟨bp, 7, none⟩ = some (.int .u16 v.prof) := fun W h => h.c7
      have c8 : ∀ W, PBlk W bp v → W.cell? ⟨bp, 8, none⟩ = some (.slice v.ea v.en v.ec) := fun W h => h.c8
      have c9 : ∀ W, PBlk W bp v → W.cell? ⟨bp, 9, none⟩ = some (.slice v.pa v.pn v.pc) := fun W h => h.c9
      have c10 : ∀ W, PBlk W bp v → W.cell? ⟨bp, 10, none⟩ = some (.int .i64 v.pad) := fun W h => h.c10
      refine region_tree (fun W => PBlk W bp v) (.rd 0 (.rd 2 (.fk 1 3 (.dn 3 (.rd 4 (.dn 5 (.rd 6 .nil)))) (.dn 1 (.rd 4 (.dn 5 (.rd 6 .nil))))))) (by kernel_rfl) (by kernel_rfl) rfl (by kernel_rfl) ?_
      iterate 2 (refine seqT_read (v := _) rfl (fun _ _ _ h => h) hS (Or.inl ⟨by rfl, fun W hW => by go_simp <;> with_reducible rfl⟩) ?_; simp only [Act.put, List.setIfInBounds_toArray, List.set_cons_zero, List.set_cons_succ])
      clear c0 c1 c2 c3 c4 c5 c6 c7 c8 c9 c10
      refine seqT_fork rfl rfl (fun K hK => ?_) (fun K hK => ?_)
      · skip
        go_simp
        refine (CC.out _ HBW.out.drew).mono ?_
        rintro e w4 ⟨A, c, rfl, ho4, hb4⟩
        have hb4' : Below wx.heap.size wx w4 := ((Below.refl wx.heap.size wx).drew).trans hb4
        have ho4' : Own w4 wx.heap.size A len c xs := ho4
        have hS : PBlk w4 bp v := Dp.below hb4' hzx
        refine hK.out _ _ (fun W => PBlk W bp v) (fun W h => h) hS ?_
        clear hK K hb4 ho4
        refine seqT_do rfl (fun K hK => ?_)
        go_simp
        have hba := (Below.refl w4.heap.size w4).alloc (Nat.le_refl _) (pobj zpv)
        have hS1 : PBlk (w4.alloc (pobj zpv)) bp v := hS.below hba hS.lt
        refine hK.out _ _ (fun W => PBlk W bp v) (fun W h => h) hS1 ?_
        clear hK K
        iterate 1 (refine seqT_read (v := _) rfl (fun _ _ _ h => h) hS1 (Or.inl ⟨by rfl, fun W hW => by go_simp <;> with_reducible rfl⟩) ?_; simp only [Act.put, List.setIfInBounds_toArray, List.set_cons_zero, List.set_cons_succ])
        refine seqT_do rfl (fun K hK => ?_)
        go_simp
        have hbb := (Below.refl w4.heap.size w4).alloc (Nat.le_refl _) (pobj v)
        have hS2 : PBlk (w4.alloc (pobj v)) bp v := hS.below hbb hS.lt
        refine hK.out _ _ (fun W => PBlk W bp v) (fun W h => h) hS2 ?_
        clear hK K
        iterate 1 (refine seqT_read (v := _) rfl (fun _ _ _ h => h) hS2 (Or.inl ⟨by rfl, fun W hW => by go_simp <;> with_reducible rfl⟩) ?_; simp only [Act.put, List.setIfInBounds_toArray, List.set_cons_zero, List.set_cons_succ])
        refine seqT_end ?_
        have D6 := PBlk.new w4 v
        have ho6 := ho4'.below hbb (Nat.le_refl _)
        have hb6 : Below wx.heap.size wx (w4.alloc (pobj v)) := hb4'.trans (hbb.mono hb4'.size)
        have hq6 : wx.heap.size ≤ w4.heap.size := hb4'.size
        have hbs6 : wx.heap.size ≤ wx.heap.size := Nat.le_refl _
        clear hb4' ho4' hS hS1 hS2 hba hbb
        obtain ⟨W6, hW6⟩ : ∃ W6, w4.alloc (.cells #[.bool v.mrk, .int .i64 v.ty, .int .u16 v.seq, .int .u32 v.time, .int .u32 v.ssrc, .slice v.ca v.cn v.cc, .bool v.he, .int .u16 v.prof, .slice v.ea v.en v.ec, .slice v.pa v.pn v.pc, .int .i64 v.pad] 39) = W6 := ⟨_, rfl⟩
        have D6 : PBlk W6 w4.heap.size v := hW6 ▸ D6
        have ho6 : Own W6 wx.heap.size A len c xs := hW6 ▸ ho6
        have hb6 : Below wx.heap.size wx W6 := hW6 ▸ hb6
        rw [hW6]
        clear hW6
        generalize w4.heap.size = bq at *
        obtain ⟨base, hbase, ho6⟩ : ∃ base, wx.heap.size ≤ base ∧ Own W6 base A len c xs := ⟨_, Nat.le_refl _, ho6⟩
        have HO6 := Lib.hid ho6
        have HD6 := Lib.hid D6
        have hz6 : wx.heap.size ≤ W6.heap.size := hb6.size
        have hbw6 : base ≤ W6.heap.size ∨ A = none := by
          rcases ho6.2.2.2.2 with ⟨h, -, -⟩ | ⟨g, T, h, hg, hk, -⟩
          · exact .inr h
          · exact .inl (Nat.le_trans hg (Nat.le_of_lt hk.lt))
        have HL := Lib.hid hbw6
        clear ho6 D6 hbw6
        go_wp2_with fail
        refine (C2.out W6 base A c HO6.out).mono ?_
        rintro e w7 ⟨rfl, ho7, ha7⟩
        have hb67 : Below wx.heap.size W6 w7 := ha7.below (HO6.out.lower hbase) hz6
        have D7 : PBlk w7 bq v := PBlk.at HD6.out ha7 HO6.out
        have hb7 := hb6.trans hb67
        clear ha7 hb67 HL HD6 HO6
        have x4 := D7.c4
        have y4 := D7.frozen 4
        have D8 := pset_ssrc D7 y2
        have hO := (Off.refl bq w7).set (k := 4) (.int .u32 y2)
        have ho8 := ho7.off D7 hO
        have hb8 := hb7.setCell (p := ⟨bq, 4, none⟩) hq6 (.int .u32 y2)
        have hv8 : ({ v with ssrc := y2 } : PV) = pvOf { p with ssrc := y2 } lc := by rw [← HV.out]; rfl
        rw [hv8] at D8
        have hb38 := HBX.out.trans (hb8.mono HBX.out.size)
        have hq8 : PRd (w7.setCell ⟨bq, 4, none⟩ (.int .u32 y2)) (w7.setCell ⟨bq, 4, none⟩ (.int .u32 y2)).heap.size { p with ssrc := y2 } lc := by
          have := (HQ3.out.below hb38).more hb38.size
          exact ⟨this.csrc, this.ext, this.pay, this.cn, this.en, this.pn, this.cc, this.ec, this.pc⟩
        have HC := Lib.hid (P2.out _ lc hq8)
        obtain ⟨v8, hv8'⟩ : ∃ v8, pvOf { p with ssrc := y2 } lc = v8 := ⟨_, rfl⟩
        rw [hv8'] at HC D8
        have s1 := str_run ho8.rd (c := c)
        have s0 := str_run (HR.out _ (HB3.out.trans (hb38.mono HB3.out.size))) (c := cap)
        have HO8 := Lib.hid ho8
        have HB38 := Lib.hid hb38
        have d0 := D8.c0
        have d1 := D8.c1
        have d2 := D8.c2
        have d3 := D8.c3
        have d4 := D8.c4
        have d5 := D8.c5
        have d6 := D8.c6
        have d7 := D8.c7
        have d8 := D8.c8
        have d9 := D8.c9
        have d10 := D8.c10
        clear hv8 hv8' hq8 hb8 hb7 hb38 hO ho7 ho8 D7 D8 hb6
        go_wp2_with fail
        refine HC.out.mono ?_
        rintro e w9 ⟨A9, c9, rfl, ho9, hb9⟩
        have s3 := str_run (HO8.out.below hb9 (Nat.le_refl _)).rd (c := c)
        have s4 := str_run ho9.rd (c := c9)
        have HB9 := Lib.hid (HB38.out.trans (hb9.mono HB38.out.size))
        clear s1 s0 HO8 ho9 hb9 HC d0 d1 d2 d3 d4 d5 d6 d7 d8 d9 d10 x4 y4
        go_wp2
        go_roundw
        case rel => exact ⟨3, by omega, by omega, by first | rfl | go_num, HB9.out⟩
        case measure => simp [intOf]
      · skip
        go_simp
        have hba := (Below.refl wx.heap.size wx).alloc (Nat.le_refl _) (pobj zpv)
        have hS1 : PBlk (wx.alloc (pobj zpv)).drew bp v := pdrew (Dp.below hba hzx)
        have E4 := PBlk.new wx zpv
        refine hK.out _ _ (fun W => PBlk W bp v) (fun W h => h) hS1 ?_
        clear hK K
        generalize wx.alloc (pobj zpv) = w4 at *
        refine seqT_do rfl (fun K hK => ?_)
        go_simp
        refine (CC.out _ (HBW.out.trans (hba.drew.mono HBW.out.size))).mono ?_
        rintro e w5 ⟨A, c, rfl, ho5, hb5⟩
        have hb5' : Below w4.heap.size w4 w5 := ((Below.refl w4.heap.size w4).drew).trans hb5
        have ho5' : Own w5 w4.heap.size A len c xs := ho5
        have hS : PBlk w5 bp v := (pundrew hS1).below hb5' (pundrew hS1).lt
        have E5 := E4.below hb5' E4.lt
        have hbx5 := hba.trans (hb5'.mono hba.size)
        refine hK.out _ _ (fun W => PBlk W bp v) (fun W h => h) hS ?_
        clear hK K hb5 ho5 hS1
        iterate 1 (refine seqT_read (v := _) rfl (fun _ _ _ h => h) hS (Or.inl ⟨by rfl, fun W hW => by go_simp <;> with_reducible rfl⟩) ?_; simp only [Act.put, List.setIfInBounds_toArray, List.set_cons_zero, List.set_cons_succ])
        have f0 := E5.c0
        have f1 := E5.c1
        have f2 := E5.c2
        have f3 := E5.c3
        have f4 := E5.c4
        have f5 := E5.c5
        have f6 := E5.c6
        have f7 := E5.c7
        have f8 := E5.c8
        have f9 := E5.c9
        have f10 := E5.c10
        have g0 := E5.frozen 0
        have g1 := E5.frozen 1
        have g2 := E5.frozen 2
        have g3 := E5.frozen 3
        have g4 := E5.frozen 4
        have g5 := E5.frozen 5
        have g6 := E5.frozen 6
        have g7 := E5.frozen 7
        have g8 := E5.frozen 8
        have g9 := E5.frozen 9
        have g10 := E5.frozen 10
        have HO := Rtp.off_pstore wx.heap.size w5 (.bool v.mrk) (.int .i64 v.ty) (.int .u16 v.seq) (.int .u32 v.time) (.int .u32 v.ssrc) (.slice v.ca v.cn v.cc) (.bool v.he) (.int .u16 v.prof) (.slice v.ea v.en v.ec) (.slice v.pa v.pn v.pc) (.int .i64 v.pad)
        have D6 := E5.store v
        have ho6 := ho5'.off E5 HO
        have hb6 := Rtp.below_pstore hbx5 (Nat.le_refl _) (.bool v.mrk) (.int .i64 v.ty) (.int .u16 v.seq) (.int .u32 v.time) (.int .u32 v.ssrc) (.slice v.ca v.cn v.cc) (.bool v.he) (.int .u16 v.prof) (.slice v.ea v.en v.ec) (.slice v.pa v.pn v.pc) (.int .i64 v.pad)
        have hS2 : PBlk (PW w5 wx.heap.size v) bp v := Rtp.PBlk.offb hS (Nat.ne_of_lt hzx) HO
        have hz4 := hba.size
        clear HO E4 E5 ho5' hb5' hbx5 hba
        have HD6 := Lib.hid D6
        have HO6 := Lib.hid ho6
        have HB6 := Lib.hid hb6
        clear D6 ho6 hb6
        refine seqT_do rfl (fun K hK => ?_)
        go_simp
        refine hK.out _ _ (fun W => PBlk W bp v) (fun W h => h) hS2 ?_
        clear hK K f0 f1 f2 f3 f4 f5 f6 f7 f8 f9 f10 g0 g1 g2 g3 g4 g5 g6 g7 g8 g9 g10
        iterate 1 (refine seqT_read (v := _) rfl (fun _ _ _ h => h) hS2 (Or.inl ⟨by rfl, fun W hW => by go_simp <;> with_reducible rfl⟩) ?_; simp only [Act.put, List.setIfInBounds_toArray, List.set_cons_zero, List.set_cons_succ])
        refine seqT_end ?_
        have D6 := HD6.out
        have ho6 := HO6.out
        have hb6 := HB6.out
        clear HD6 HO6 HB6 hS hS2
        obtain ⟨W6, hW6⟩ : ∃ W6, (((((((((((w5.setCell ⟨wx.heap.size, 0, none⟩ (.bool v.mrk)).setCell ⟨wx.heap.size, 1, none⟩ (.int .i64 v.ty)).setCell ⟨wx.heap.size, 2, none⟩ (.int .u16 v.seq)).setCell ⟨wx.heap.size, 3, none⟩ (.int .u32 v.time)).setCell ⟨wx.heap.size, 4, none⟩ (.int .u32 v.ssrc)).setCell ⟨wx.heap.size, 5, none⟩ (.slice v.ca v.cn v.cc)).setCell ⟨wx.heap.size, 6, none⟩ (.bool v.he)).setCell ⟨wx.heap.size, 7, none⟩ (.int .u16 v.prof)).setCell ⟨wx.heap.size, 8, none⟩ (.slice v.ea v.en v.ec)).setCell ⟨wx.heap.size, 9, none⟩ (.slice v.pa v.pn v.pc)).setCell ⟨wx.heap.size, 10, none⟩ (.int .i64 v.pad)) = W6 := ⟨_, rfl⟩
        rw [hW6] at D6 ho6 hb6 ⊢
        clear hW6
        have hq6 : wx.heap.size ≤ wx.heap.size := Nat.le_refl _
        obtain ⟨bq, hbq⟩ : ∃ bq, wx.heap.size = bq := ⟨_, rfl⟩
        obtain ⟨base, hbase, ho6⟩ : ∃ base, wx.heap.size ≤ base ∧ Own W6 base A len c xs := ⟨_, hz4, ho6⟩
        have D6 : PBlk W6 bq v := hbq ▸ D6
        have hq6 : wx.heap.size ≤ bq := Nat.le_of_eq hbq
        rw [hbq]
        clear hbq hz4
        have HO6 := Lib.hid ho6
        have HD6 := Lib.hid D6
        have hz6 : wx.heap.size ≤ W6.heap.size := hb6.size
        have hbw6 : base ≤ W6.heap.size ∨ A = none := by
          rcases ho6.2.2.2.2 with ⟨h, -, -⟩ | ⟨g, T, h, hg, hk, -⟩
          · exact .inr h
          · exact .inl (Nat.le_trans hg (Nat.le_of_lt hk.lt))
        have HL := Lib.hid hbw6
        clear ho6 D6 hbw6
        go_wp2_with fail
        refine (C2.out W6 base A c HO6.out).mono ?_
        rintro e w7 ⟨rfl, ho7, ha7⟩
        have hb67 : Below wx.heap.size W6 w7 := ha7.below (HO6.out.lower hbase) hz6
        have D7 : PBlk w7 bq v := PBlk.at HD6.out ha7 HO6.out
        have hb7 := hb6.trans hb67
        clear ha7 hb67 HL HD6 HO6
        have x4 := D7.c4
        have y4 := D7.frozen 4
        have D8 := pset_ssrc D7 y2
        have hO := (Off.refl bq w7).set (k := 4) (.int .u32 y2)
        have ho8 := ho7.off D7 hO
        have hb8 := hb7.setCell (p := ⟨bq, 4, none⟩) hq6 (.int .u32 y2)
        have hv8 : ({ v with ssrc := y2 } : PV) = pvOf { p with ssrc := y2 } lc := by rw [← HV.out]; rfl
        rw [hv8] at D8
        have hb38 := HBX.out.trans (hb8.mono HBX.out.size)
        have hq8 : PRd (w7.setCell ⟨bq, 4, none⟩ (.int .u32 y2)) (w7.setCell ⟨bq, 4, none⟩ (.int .u32 y2)).heap.size { p with ssrc := y2 } lc := by
          have := (HQ3.out.below hb38).more hb38.size
          exact ⟨this.csrc, this.ext, this.pay, this.cn, this.en, this.pn, this.cc, this.ec, this.pc⟩
        have HC := Lib.hid (P2.out _ lc hq8)
        obtain ⟨v8, hv8'⟩ : ∃ v8, pvOf { p with ssrc := y2 } lc = v8 := ⟨_, rfl⟩
        rw [hv8'] at HC D8
        have s1 := str_run ho8.rd (c := c)
        have s0 := str_run (HR.out _ (HB3.out.trans (hb38.mono HB3.out.size))) (c := cap)
        have HO8 := Lib.hid ho8
        have HB38 := Lib.hid hb38
        have d0 := D8.c0
        have d1 := D8.c1
        have d2 := D8.c2
        have d3 := D8.c3
        have d4 := D8.c4
        have d5 := D8.c5
        have d6 := D8.c6
        have d7 := D8.c7
        have d8 := D8.c8
        have d9 := D8.c9
        have d10 := D8.c10
        clear hv8 hv8' hq8 hb8 hb7 hb38 hO ho7 ho8 D7 D8 hb6
        go_wp2_with fail
        refine HC.out.mono ?_
        rintro e w9 ⟨A9, c9, rfl, ho9, hb9⟩
        have s3 := str_run (HO8.out.below hb9 (Nat.le_refl _)).rd (c := c)
        have s4 := str_run ho9.rd (c := c9)
        have HB9 := Lib.hid (HB38.out.trans (hb9.mono HB38.out.size))
        clear s1 s0 HO8 ho9 hb9 HC d0 d1 d2 d3 d4 d5 d6 d7 d8 d9 d10 x4 y4
        go_wp2
        go_roundw
        case rel => exact ⟨3, by omega, by omega, by first | rfl | go_num, HB9.out⟩
        case measure => simp [intOf]
    · go_wp2
      go_ret
      exact ⟨rfl, HBW.out⟩

theorem one_law (a : Option Addr) (len cap : Nat) (y0 y1 y2 : Int) (xs : List Int) (w : World) (h0 : 0 ≤ y0 ∧ y0 ≤ 65535) (h1 : 0 ≤ y1 ∧ y1 ≤ 4294967295) (h2 : 0 ≤ y2 ∧ y2 ≤ 4294967295) (hl : len ≤ 140737488351232) (hlc : len ≤ cap) (hr : Rd w w.heap.size a len xs) :
    Calls Try.prog 4 #[.slice a len cap, .int .u16 y0, .int .u32 y1, .int .u32 y2] w (Rtp.RetB w true) := by
  have hl' : len ≤ maxLen := by unfold maxLen; omega
  have CC := fun W (hW : Below w.heap.size w W) => copy_any a len cap _ xs W hl (hr.below hW)
  have CG := fun W (hW : Below w.heap.size w W) => Rtp.rget_any a len cap _ xs W hl' hlc (hr.below hW) hW.size
  have HR : Hid (∀ W, Below w.heap.size w W → Rd W w.heap.size a len xs) := fun W hW => hr.below hW
  by_cases h : pE xs = 0
  · rw [Rtp.gP, if_pos h, h] at CG
    obtain ⟨a1, a2, a3, -, -⟩ := seq_up hr.2.1 h h0.1 h0.2
    obtain ⟨b1, b2, b3, -, -⟩ := time_up hr.2.1 h h1.1 h1.2
    obtain ⟨c1, c2, c3, -, -⟩ := ssrc_up hr.2.1 h h2.1 h2.2
    obtain ⟨g1, g2, g3⟩ := Rtp.get_put a3 a1
    obtain ⟨i1, i2, i3⟩ := Rtp.get_put b3 b1
    obtain ⟨j1, j2, j3⟩ := Rtp.get_put c3 c1
    rw [a2] at g1 g2 g3
    rw [b2] at i1 i2 i3
    rw [c2] at j1 j2 j3
    have hm : media xs = true := decide_eq_true h
    refine one_yes a len cap y0 y1 y2 _ _ (pQ xs) xs (seqL xs y0) (timeL xs y1) (ssrcL xs y2) w HR CG CC (fun W base A c ho => hm ▸ seq_own A len c base y0 xs W ho h0.1 h0.2) (fun W lc hq => ?_) (fun W base A c ho => hm ▸ time_own A len c base y1 xs W ho h1.1 h1.2) (fun W lc hq => ?_) (fun W base A c ho => hm ▸ ssrc_own A len c base y2 xs W ho h2.1 h2.2) (fun W lc hq => ?_)
    · have := Rtp.rput_pkt W W.heap.size _ lc g1 hq (Nat.le_refl _)
      rw [g2, g3] at this
      exact this
    · have := Rtp.rput_pkt W W.heap.size _ lc i1 hq (Nat.le_refl _)
      rw [i2, i3] at this
      exact this
    · have := Rtp.rput_pkt W W.heap.size _ lc j1 hq (Nat.le_refl _)
      rw [j2, j3] at this
      exact this
  · rw [Rtp.gP, if_neg h] at CG
    have hm : media xs = false := decide_eq_false h
    have z : zeroPkt.Ok := ⟨by decide, by decide, by decide, by decide, by decide, by decide, Words.nil, by decide, by decide, Bytes.nil, Bytes.nil⟩
    refine one_no a len cap y0 y1 y2 _ _ (pE xs) _ _ _ zeroPkt xs _ _ _ w (by simpa using h) HR CG CC (fun W base A c ho => ?_) (fun W lc hq => Rtp.rput_pkt W W.heap.size _ lc (Ok_seq z h0.1 h0.2) hq (Nat.le_refl _)) (fun W base A c ho => ?_) (fun W lc hq => Rtp.rput_pkt W W.heap.size _ lc (Ok_time z h1.1 h1.2) hq (Nat.le_refl _)) (fun W base A c ho => ?_) (fun W lc hq => Rtp.rput_pkt W W.heap.size _ lc (Ok_ssrc z h2.1 h2.2) hq (Nat.le_refl _))
    · have := seq_own A len c base y0 xs W ho h0.1 h0.2
      rw [hm, seqL, if_neg h] at this
      exact this
    · have := time_own A len c base y1 xs W ho h1.1 h1.2
      rw [hm, timeL, if_neg h] at this
      exact this
    · have := ssrc_own A len c base y2 xs W ho h2.1 h2.2
      rw [hm, ssrcL, if_neg h] at this
      exact this
end Go.Proofs.Ytjmlimfheiogcaa.Pat
