/- The contract of the reference's Pack. -/
import Derived.Test.YtmgpphgiigppgaaUf
namespace Go.Proofs.Ytmgpphgiigppgaa.Nck
open Go.RowKit Go.Proofs.Ytmgpphgiigppgaa.Fbk
set_option linter.unusedVariables false

/-- What is packed behind k numbers, if the next begins a pair. -/
def Nx (ms : List Int) (k : Nat) : Prop := ∀ x, ms[k]? = some x → pk (ms.take (k + 1)) = pk (ms.take k) ++ [(x, 0)]
set_option maxHeartbeats 8000000 in
theorem rpack_any (a : Option Addr) (cap B : Nat) (ms : List Int) (w : World) (hl : ms.length ≤ 17592186044416) (hr : RowRd w16L w B a ms.length ms) (hB : B ≤ w.heap.size) (hok : ∀ x ∈ ms, U16 x) :
    Calls Try.prog 12 #[.slice a ms.length cap] w fun e w' => NewP w (pk ms) e w' := by
  obtain ⟨i0, hi0, hz0, hz1, hz2⟩ := info_parts infoP
  have HI := Lib.hid (And.intro hi0 (And.intro hz0 (And.intro hz1 hz2)))
  clear hi0 hz0 hz1 hz2
  have HR := Lib.hid hr
  have HO := Lib.hid hok
  obtain ⟨n, hn⟩ : ∃ n, ms.length = n := ⟨_, rfl⟩
  have HN := Lib.hid hn
  rw [hn] at HR hl ⊢
  have fin : Hid (∀ A N c w1, RowOwn pairL w1 w.heap.size A N c (pk ms) → Below w.heap.size w w1 → NewP w (pk ms) (.returned (.slice A N c)) w1) := by
    intro A N c w1 ho hb
    obtain rfl := ho.1
    exact ⟨A, c, rfl, ho, hb⟩
  have nx0 : Hid (Nx ms 0) := by
    intro x hx
    rw [take_snoc' ms 0 x hx, pk_snoc]
    rfl
  clear hr hok hn
  go_enter Try.func12, Try.ntmps12
  go_wp2
  go_loopw [3, 4] (fun sl sk wx => ∃ (k N : Nat) (A : Option Addr) (c : Nat), k ≤ n ∧ sk = .int .i64 k ∧ sl = .slice A N c ∧ Hid (RowOwn pairL wx w.heap.size A N c (pk (ms.take k))) ∧ Hid (Below w.heap.size w wx) ∧ Hid (Nx ms k)) (fun _ sk _ => n - (intOf sk).toNat)
  case atStart => exact ⟨0, 0, none, 0, by omega, rfl, rfl, RowOwn.nil _ _, Below.refl _ _, nx0⟩
  case round =>
    clear nx0
    obtain ⟨k, N, A, c, hk, rfl, rfl, ho, hb, hnx⟩ := hrel
    rename World => wx
    by_cases hlt : k < n
    · obtain ⟨b, off, x0, rfl, hbB, hs, c0⟩ := u16_at (HR.out.below (hb.out.mono hB)) hlt
      have HX := Lib.hid (HO.out x0 (List.mem_of_getElem? hs))
      have HP0 := Lib.hid (hnx.out x0 hs)
      clear hs hnx
      have hNk : N ≤ k := by
        have h1 := pk_len (ms.take k)
        rw [ho.out.1] at h1
        have h2 := List.length_take_le k ms
        omega
      obtain ⟨Z, hZ⟩ : ∃ Z, pk (ms.take k) = Z := ⟨_, rfl⟩
      rw [hZ] at ho HP0
      clear hZ
      have HPn : Hid (PrBlk (wx.alloc (pairO (x0, 0))) wx.heap.size (x0, 0)) := PrBlk.new wx (x0, 0)
      have HBn : Hid (Below wx.heap.size wx (wx.alloc (pairO (x0, 0)))) := (Below.refl _ _).alloc (Nat.le_refl _) _
      have hqw : w.heap.size ≤ wx.heap.size := hb.out.size
      obtain ⟨q, hq⟩ : ∃ q, wx.heap.size = q := ⟨_, rfl⟩
      have HQ := Lib.hid hq
      rw [hq] at HPn
      clear hq
      go_wp2_with fail
      rw [HQ.out]
      clear c0
      go_loopw [4] (fun sj wy => ∃ (j : Nat) (x1 : Int), k ≤ j ∧ j < n ∧ sj = .int .i64 ((j + 1 : Nat) : Int) ∧ Hid (pk (ms.take (j + 1)) = Z ++ [(x0, x1)]) ∧ Hid (Below wx.heap.size wx wy) ∧ Hid (PrBlk wy q (x0, x1))) (fun sj _ => n - (intOf sj).toNat)
      case atStart => exact ⟨k, 0, Nat.le_refl _, hlt, by go_num, HP0, HBn, HPn⟩
      case round =>
        clear HP0 HBn HPn
        obtain ⟨j, x1, hkj, hjn, rfl, HPK, hb2, hp2⟩ := hrel
        rename World => wy
        by_cases hj : j + 1 < n
        · have HRy := Lib.hid (HR.out.below ((hb.out.trans (hb2.out.mono hqw)).mono hB))
          obtain ⟨b1, o1, s, e1, hb1, hs, c1⟩ := u16_at HRy.out hj
          obtain ⟨b3, o3, last, e3, hb3, hs3, c3⟩ := u16_at HRy.out hjn
          clear HRy
          simp only [Option.some.injEq, Addr.mk.injEq, and_true] at e1 e3
          obtain ⟨rfl, rfl⟩ := e1
          obtain ⟨rfl, rfl⟩ := e3
          have HS := Lib.hid (HO.out s (List.mem_of_getElem? hs))
          have HLW := Lib.hid (HO.out last (List.mem_of_getElem? hs3))
          have hgl : (ms.take (j + 1)).getLastD 0 = last := by rw [take_snoc' ms j last hs3, getLastD_snoc]
          have hst : pk (ms.take (j + 1 + 1)) = pkStep (Z ++ [(x0, x1)]) last s := by rw [take_snoc' ms (j + 1) s hs, pk_snoc, hgl, HPK.out]
          have HK := Lib.hid (pk_ok (ms.take (j + 1)) (fun x hx => HO.out x (List.mem_of_mem_take hx)))
          obtain ⟨h, h16, hd, hp0, hph, _⟩ := HK.out.last Z (x0, x1) HPK.out
          rw [hgl] at hd
          have HYES : Hid (joins (x0, x1) last s = true → pk (ms.take (j + 1 + 1)) = Z ++ [(x0, x1 + bitAt (x0, x1) s)] ∧ 0 ≤ x1 ∧ x1 < bitAt (x0, x1) s) := fun hj => ⟨by rw [hst, pkStep_join _ _ _ _ hj], hp0, join_lt (x0, x1) last s h HS.out HLW.out HX.out h16 hd hph hj⟩
          have HNO : Hid (joins (x0, x1) last s = false → Nx ms (j + 1)) := by
            intro hj y hy
            rw [hs] at hy
            simp only [Option.some.injEq] at hy
            subst hy
            rw [hst, pkStep_new _ _ _ _ hj, HPK.out]
          clear hs hs3 hgl hst HK hd hp0 hph h16
          have HJ : Hid (joins (x0, x1) last s = (withinP ((s - x0) % 65536) && decide (0 < d16 s last))) := rfl
          have HBA : Hid (bitAt (x0, x1) s = 2 ^ (((s - x0) % 65536).toNat - 1)) := rfl
          have q1 : IntKind.u16.wrap (s - x0) = (s - x0) % 65536 := wrap16 _
          have hd0 : 0 ≤ (s - x0) % 65536 := by omega
          have hd1 : (s - x0) % 65536 ≤ 65535 := by omega
          generalize (s - x0) % 65536 = d at *
          have qd : IntKind.i64.wrap d = d := by simp [IntKind.wrap, IntKind.bits, IntKind.signed]; omega
          have qn : (j : Int) + 1 < n := by omega
          have qn0 : (0 : Int) ≤ (j : Int) + 1 := by omega
          have qj : IntKind.i64.wrap (j : Int) = j := by simp [IntKind.wrap, IntKind.bits, IntKind.signed]; omega
          have qj2 : (j : Int) < n := by omega
          have hS : (fun W : World => W.cell? ⟨b, off + (j + 1), none⟩ = some (.int .u16 s) ∧ W.cell? ⟨b, off + j, none⟩ = some (.int .u16 last) ∧ W.cell? ⟨q, 0, none⟩ = some (.int .u16 x0)) wy.drew := ⟨c1, c3, hp2.out.c0⟩
          have hb3 : Hid (Below wx.heap.size wx wy.drew) := hb2.out.drew
          have hp3 : Hid (PrBlk wy.drew q (x0, x1)) := hp2
          clear hb2 hp2 c1 c3
          have hb2 := hb3
          have hp2 := hp3
          clear hb3 hp3
          have f1 : ∀ W : World, (fun W : World => W.cell? ⟨b, off + (j + 1), none⟩ = some (.int .u16 s) ∧ W.cell? ⟨b, off + j, none⟩ = some (.int .u16 last) ∧ W.cell? ⟨q, 0, none⟩ = some (.int .u16 x0)) W → W.cell? ⟨b, off + (j + 1), none⟩ = some (.int .u16 s) := fun W h => h.1
          have f2 : ∀ W : World, (fun W : World => W.cell? ⟨b, off + (j + 1), none⟩ = some (.int .u16 s) ∧ W.cell? ⟨b, off + j, none⟩ = some (.int .u16 last) ∧ W.cell? ⟨q, 0, none⟩ = some (.int .u16 x0)) W → W.cell? ⟨b, off + j, none⟩ = some (.int .u16 last) := fun W h => h.2.1
          have f3 : ∀ W : World, (fun W : World => W.cell? ⟨b, off + (j + 1), none⟩ = some (.int .u16 s) ∧ W.cell? ⟨b, off + j, none⟩ = some (.int .u16 last) ∧ W.cell? ⟨q, 0, none⟩ = some (.int .u16 x0)) W → W.cell? ⟨q, 0, none⟩ = some (.int .u16 x0) := fun W h => h.2.2
          go_wp2_with fail
          refine region_seq (fun W : World => W.cell? ⟨b, off + (j + 1), none⟩ = some (.int .u16 s) ∧ W.cell? ⟨b, off + j, none⟩ = some (.int .u16 last) ∧ W.cell? ⟨q, 0, none⟩ = some (.int .u16 x0)) [(0, false), (1, false), (2, false), (3, false), (4, false), (5, false), (6, false), (7, false), (8, false)] (by kernel_rfl) (by kernel_rfl) rfl (by kernel_rfl) ?_
          generalize wy.drew = wz at *
          iterate 9 (refine seq_read (v := _) rfl (fun _ _ _ h => h) hS (Or.inl ⟨by rfl, fun W hW => by have g1 := f1 W hW; have g2 := f2 W hW; have g3 := f3 W hW; go_simp <;> with_reducible rfl⟩) ?_; simp only [Act.put, List.setIfInBounds_toArray, List.set_cons_zero, List.set_cons_succ])
          refine seq_end ?_

          have hS2 : (fun W : World => W.cell? ⟨b, off + (j + 1), none⟩ = some (.int .u16 s) ∧ W.cell? ⟨b, off + j, none⟩ = some (.int .u16 last) ∧ W.cell? ⟨q, 0, none⟩ = some (.int .u16 x0)) wz.drew := hS
          have hb3 : Hid (Below wx.heap.size wx wz.drew) := hb2.out.drew
          have hp3 : Hid (PrBlk wz.drew q (x0, x1)) := hp2
          clear hS hb2 hp2
          have hS := hS2
          have hb2 := hb3
          have hp2 := hp3
          clear hS2 hb3 hp3

          by_cases hlo : d < 1
          · have hjf := HJ.out
            rw [show withinP d = false from by simp [withinP]; omega, Bool.false_and] at hjf
            have HNX := Lib.hid (HNO.out hjf)
            clear hjf HNO HYES HJ HBA
            go_wp2_with fail
            refine region_seq (fun W : World => W.cell? ⟨b, off + (j + 1), none⟩ = some (.int .u16 s) ∧ W.cell? ⟨b, off + j, none⟩ = some (.int .u16 last) ∧ W.cell? ⟨q, 0, none⟩ = some (.int .u16 x0)) [(0, false), (1, false), (2, false), (3, false), (4, false), (5, false), (6, false), (7, false), (8, false), (9, false), (10, false), (11, false), (12, false), (13, false), (14, false), (15, false), (16, true), (17, false), (18, false)] (by kernel_rfl) (by kernel_rfl) rfl (by kernel_rfl) ?_
            generalize wz.drew = wt at *
            iterate 3 (refine seq_read (v := _) rfl (fun _ _ _ h => h) hS (Or.inl ⟨by rfl, fun W hW => by have g1 := f1 W hW; have g2 := f2 W hW; have g3 := f3 W hW; go_simp <;> with_reducible rfl⟩) ?_; simp only [Act.put, List.setIfInBounds_toArray, List.set_cons_zero, List.set_cons_succ])
            iterate 2 (refine seq_read (v := undef) rfl (fun _ _ _ h => h) hS (Or.inr ⟨by rfl, rfl⟩) ?_; simp only [Act.put, List.setIfInBounds_toArray, List.set_cons_zero, List.set_cons_succ])
            iterate 2 (refine seq_read (v := _) rfl (fun _ _ _ h => h) hS (Or.inl ⟨by rfl, fun W hW => by have g1 := f1 W hW; have g2 := f2 W hW; have g3 := f3 W hW; go_simp <;> with_reducible rfl⟩) ?_; simp only [Act.put, List.setIfInBounds_toArray, List.set_cons_zero, List.set_cons_succ])
            iterate 9 (refine seq_read (v := undef) rfl (fun _ _ _ h => h) hS (Or.inr ⟨by rfl, rfl⟩) ?_; simp only [Act.put, List.setIfInBounds_toArray, List.set_cons_zero, List.set_cons_succ])
            refine seq_pass rfl (by rfl) hS ?_; simp only [Act.put, List.setIfInBounds_toArray, List.set_cons_zero, List.set_cons_succ]
            refine seq_read (v := undef) rfl (fun _ _ _ h => h) hS (Or.inr ⟨by rfl, rfl⟩) ?_; simp only [Act.put, List.setIfInBounds_toArray, List.set_cons_zero, List.set_cons_succ]
            refine seq_read (v := _) rfl (fun _ _ _ h => h) hS (Or.inl ⟨by rfl, fun W hW => by have g1 := f1 W hW; have g2 := f2 W hW; have g3 := f3 W hW; go_simp <;> with_reducible rfl⟩) ?_; simp only [Act.put, List.setIfInBounds_toArray, List.set_cons_zero, List.set_cons_succ]
            refine seq_end ?_
            clear hS f1 f2 f3
            have d0 : wt.cell? ⟨q, 0, none⟩ = some (.int .u16 x0) := hp2.out.c0
            have d1 : wt.cell? ⟨q, 1, none⟩ = some (.int .u16 x1) := hp2.out.c1
            have HB2 : Hid (Below w.heap.size w (wt.alloc (pairO (x0, x1)))) := (hb.out.trans (hb2.out.mono hqw)).alloc (Nat.le_trans hqw hb2.out.size) _
            have HO2 : Hid (RowOwn pairL (wt.alloc (pairO (x0, x1))) w.heap.size A N c Z) := (ho.out.bel hb2.out).bel ((Below.refl _ _).alloc (Nat.le_refl _) _)
            have R2 := Lib.hid (one_pair wt (x0, x1))
            clear hb2 hp2
            go_wp2_with (at_builtin; refine wpList_append_keep (L := pairL) (N := N + 1) rfl (.tmp 59) (.tmp 61) rfl Try.underlying22 HI.out.1 HI.out.2.1 HI.out.2.2.1 HI.out.2.2.2 rfl (pk (ms.take (j + 1))) rfl HPK.out.symm rfl rfl HO2.out R2.out HB2.out.size (by unfold maxLen; omega) (by omega) ?_; intro A4 e4 w4 ho4 hb4 hk4)
            go_roundw
            case rel => exact ⟨j + 1, N + 1, A4, e4, by omega, by go_num, rfl, ho4, HB2.out.trans hb4, HNX⟩
            case measure => simp [intOf]; omega
          · have w1 : decide (d < 1) = false := by simp; omega
            by_cases hhi : d > 16
            · have w2 : decide (d > 16) = true := by simp; omega
              have w3 : decide (16 < d) = true := by simp; omega
              have hjf := HJ.out
              rw [show withinP d = false from by simp [withinP]; omega, Bool.false_and] at hjf
              have HNX := Lib.hid (HNO.out hjf)
              clear hjf HNO HYES HJ HBA
              go_wp2_with fail
              refine region_seq (fun W : World => W.cell? ⟨b, off + (j + 1), none⟩ = some (.int .u16 s) ∧ W.cell? ⟨b, off + j, none⟩ = some (.int .u16 last) ∧ W.cell? ⟨q, 0, none⟩ = some (.int .u16 x0)) [(0, false), (1, false), (2, false), (3, false), (4, false), (5, false), (6, false), (7, false), (8, false), (9, false), (10, false), (11, false), (12, false), (13, false), (14, false), (15, false), (16, true), (17, false), (18, false)] (by kernel_rfl) (by kernel_rfl) rfl (by kernel_rfl) ?_
              generalize wz.drew = wt at *
              iterate 7 (refine seq_read (v := _) rfl (fun _ _ _ h => h) hS (Or.inl ⟨by rfl, fun W hW => by have g1 := f1 W hW; have g2 := f2 W hW; have g3 := f3 W hW; go_simp <;> with_reducible rfl⟩) ?_; simp only [Act.put, List.setIfInBounds_toArray, List.set_cons_zero, List.set_cons_succ])
              iterate 9 (refine seq_read (v := undef) rfl (fun _ _ _ h => h) hS (Or.inr ⟨by rfl, rfl⟩) ?_; simp only [Act.put, List.setIfInBounds_toArray, List.set_cons_zero, List.set_cons_succ])
              refine seq_pass rfl (by rfl) hS ?_; simp only [Act.put, List.setIfInBounds_toArray, List.set_cons_zero, List.set_cons_succ]
              refine seq_read (v := undef) rfl (fun _ _ _ h => h) hS (Or.inr ⟨by rfl, rfl⟩) ?_; simp only [Act.put, List.setIfInBounds_toArray, List.set_cons_zero, List.set_cons_succ]
              refine seq_read (v := _) rfl (fun _ _ _ h => h) hS (Or.inl ⟨by rfl, fun W hW => by have g1 := f1 W hW; have g2 := f2 W hW; have g3 := f3 W hW; go_simp <;> with_reducible rfl⟩) ?_; simp only [Act.put, List.setIfInBounds_toArray, List.set_cons_zero, List.set_cons_succ]
              refine seq_end ?_
              clear hS f1 f2 f3
              have d0 : wt.cell? ⟨q, 0, none⟩ = some (.int .u16 x0) := hp2.out.c0
              have d1 : wt.cell? ⟨q, 1, none⟩ = some (.int .u16 x1) := hp2.out.c1
              have HB2 : Hid (Below w.heap.size w (wt.alloc (pairO (x0, x1)))) := (hb.out.trans (hb2.out.mono hqw)).alloc (Nat.le_trans hqw hb2.out.size) _
              have HO2 : Hid (RowOwn pairL (wt.alloc (pairO (x0, x1))) w.heap.size A N c Z) := (ho.out.bel hb2.out).bel ((Below.refl _ _).alloc (Nat.le_refl _) _)
              have R2 := Lib.hid (one_pair wt (x0, x1))
              clear hb2 hp2
              go_wp2_with (at_builtin; refine wpList_append_keep (L := pairL) (N := N + 1) rfl (.tmp 59) (.tmp 61) rfl Try.underlying22 HI.out.1 HI.out.2.1 HI.out.2.2.1 HI.out.2.2.2 rfl (pk (ms.take (j + 1))) rfl HPK.out.symm rfl rfl HO2.out R2.out HB2.out.size (by unfold maxLen; omega) (by omega) ?_; intro A4 e4 w4 ho4 hb4 hk4)
              go_roundw
              case rel => exact ⟨j + 1, N + 1, A4, e4, by omega, by go_num, rfl, ho4, HB2.out.trans hb4, HNX⟩
              case measure => simp [intOf]; omega
            · have w2 : decide (d > 16) = false := by simp; omega
              have w3 : decide (16 < d) = false := by simp; omega
              have hwi : withinP d = true := by simp [withinP]; omega
              rw [hwi, Bool.true_and] at HJ
              clear hwi
              have CD : Hid (∀ W, Calls Try.prog 18 #[.int .u16 s, .int .u16 last] W fun e w' => e = .returned (.int .i64 (d16 s last)) ∧ W = w') := fun W => rdiff16_any s last W HS.out.1 HS.out.2 HLW.out.1 HLW.out.2
              generalize d16 s last = D at *
              by_cases hD : 0 < D
              · obtain ⟨hpk, hx0, hx1⟩ := HYES.out (by rw [HJ.out]; simp [hD])
                rw [HBA.out] at hpk hx1
                have hDl : decide (D ≤ 0) = false := by simp; omega
                obtain ⟨k2, hk2⟩ : ∃ k2 : Nat, d = ((k2 + 1 : Nat) : Int) := ⟨(d - 1).toNat, by omega⟩
                have hk16 : k2 < 16 := by omega
                rw [show d.toNat - 1 = k2 from by omega] at hpk hx1
                have hp1 := p2_16 hk16
                have hp0 := p2_pos k2
                have r1 : d - 1 = k2 := by omega
                have r2 : IntKind.i64.wrap (k2 : Int) = k2 := by simp [IntKind.wrap, IntKind.bits, IntKind.signed]; omega
                have r3 : IntKind.u64.wrap (k2 : Int) = k2 := by simp [IntKind.wrap, IntKind.bits, IntKind.signed]; omega
                have r4 : IntKind.u16.wrap (1 * 2 ^ (min k2 16)) = 2 ^ k2 := by rw [wrap16, Nat.min_eq_left (by omega)]; omega
                have r5 : IntKind.u16.wrap (x1 + 2 ^ k2) = x1 + 2 ^ k2 := by rw [wrap16]; omega
                have HPK2 := Lib.hid hpk
                obtain ⟨p, hp⟩ : ∃ p, (2 : Int) ^ k2 = p := ⟨_, rfl⟩
                have r6 : IntKind.u16.wrap (2 ^ k2) = p := by rw [wrap16, ← hp]; omega
                rw [hp] at r5 HPK2
                clear r4 hp0 hp1 hp
                clear HNO HYES HJ HBA hpk hk2 hx0 hx1
                go_wp2_with fail
                refine region_seq (fun W : World => W.cell? ⟨b, off + (j + 1), none⟩ = some (.int .u16 s) ∧ W.cell? ⟨b, off + j, none⟩ = some (.int .u16 last) ∧ W.cell? ⟨q, 0, none⟩ = some (.int .u16 x0)) [(0, false), (1, false), (2, false), (3, false), (4, false), (5, false), (6, false), (7, false), (8, false), (9, false), (10, false), (11, false), (12, false), (13, false), (14, false), (15, false), (16, true), (17, false), (18, false)] (by kernel_rfl) (by kernel_rfl) rfl (by kernel_rfl) ?_
                generalize wz.drew = wt at *
                iterate 16 (refine seq_read (v := _) rfl (fun _ _ _ h => h) hS (Or.inl ⟨by rfl, fun W hW => by have g1 := f1 W hW; have g2 := f2 W hW; have g3 := f3 W hW; go_simp <;> with_reducible rfl⟩) ?_; simp only [Act.put, List.setIfInBounds_toArray, List.set_cons_zero, List.set_cons_succ])
                refine seq_do rfl (fun K hK => ?_)
                go_simp
                refine (CD.out _).mono ?_
                rintro e wv ⟨rfl, rfl⟩
                refine hK.out _ _ _ (fun W h => h) hS ?_
                clear hK K
                iterate 2 (refine seq_read (v := _) rfl (fun _ _ _ h => h) hS (Or.inl ⟨by rfl, fun W hW => by have g1 := f1 W hW; have g2 := f2 W hW; have g3 := f3 W hW; go_simp <;> with_reducible rfl⟩) ?_; simp only [Act.put, List.setIfInBounds_toArray, List.set_cons_zero, List.set_cons_succ])
                refine seq_end ?_
                clear hS f1 f2 f3 CD
                have d1 : wt.cell? ⟨q, 1, none⟩ = some (.int .u16 x1) := hp2.out.c1
                have d2 : wt.frozen? ⟨q, 1, none⟩ = false := frozen_of_row wt q 1 _ _ hp2.out
                have HPn : Hid (PrBlk (wt.setCell ⟨q, 1, none⟩ (.int .u16 (x1 + p))) q (x0, x1 + p)) := heap_setCell_same wt q 1 _ 31 (.int .u16 (x1 + p)) hp2.out
                have HBn : Hid (Below wx.heap.size wx (wt.setCell ⟨q, 1, none⟩ (.int .u16 (x1 + p)))) := hb2.out.setCell (p := ⟨q, 1, none⟩) (Nat.le_of_eq HQ.out) _
                clear hb2 hp2
                go_wp2_with fail
                go_roundw
                case rel => exact ⟨j + 1, x1 + p, by omega, by omega, by go_num, HPK2, HBn, HPn⟩
                case measure => simp [intOf]; omega
              · have HNX := Lib.hid (HNO.out (by rw [HJ.out]; simp [hD]))
                have hDl : decide (D ≤ 0) = true := by simp; omega
                clear HNO HYES HJ HBA hD
                go_wp2_with fail
                refine region_seq (fun W : World => W.cell? ⟨b, off + (j + 1), none⟩ = some (.int .u16 s) ∧ W.cell? ⟨b, off + j, none⟩ = some (.int .u16 last) ∧ W.cell? ⟨q, 0, none⟩ = some (.int .u16 x0)) [(0, false), (1, false), (2, false), (3, false), (4, false), (5, false), (6, false), (7, false), (8, false), (9, false), (10, false), (11, false), (12, false), (13, false), (14, false), (15, false), (16, true), (17, false), (18, false)] (by kernel_rfl) (by kernel_rfl) rfl (by kernel_rfl) ?_
                generalize wz.drew = wt at *
                iterate 16 (refine seq_read (v := _) rfl (fun _ _ _ h => h) hS (Or.inl ⟨by rfl, fun W hW => by have g1 := f1 W hW; have g2 := f2 W hW; have g3 := f3 W hW; go_simp <;> with_reducible rfl⟩) ?_; simp only [Act.put, List.setIfInBounds_toArray, List.set_cons_zero, List.set_cons_succ])
                refine seq_do rfl (fun K hK => ?_)
                go_simp
                refine (CD.out _).mono ?_
                rintro e wv ⟨rfl, rfl⟩
                refine hK.out _ _ _ (fun W h => h) hS ?_
                clear hK K
                iterate 2 (refine seq_read (v := _) rfl (fun _ _ _ h => h) hS (Or.inl ⟨by rfl, fun W hW => by have g1 := f1 W hW; have g2 := f2 W hW; have g3 := f3 W hW; go_simp <;> with_reducible rfl⟩) ?_; simp only [Act.put, List.setIfInBounds_toArray, List.set_cons_zero, List.set_cons_succ])
                refine seq_end ?_
                clear hS f1 f2 f3 CD
                have d0 : wt.cell? ⟨q, 0, none⟩ = some (.int .u16 x0) := hp2.out.c0
                have d1 : wt.cell? ⟨q, 1, none⟩ = some (.int .u16 x1) := hp2.out.c1
                have HB2 : Hid (Below w.heap.size w (wt.alloc (pairO (x0, x1)))) := (hb.out.trans (hb2.out.mono hqw)).alloc (Nat.le_trans hqw hb2.out.size) _
                have HO2 : Hid (RowOwn pairL (wt.alloc (pairO (x0, x1))) w.heap.size A N c Z) := (ho.out.bel hb2.out).bel ((Below.refl _ _).alloc (Nat.le_refl _) _)
                have R2 := Lib.hid (one_pair wt (x0, x1))
                clear hb2 hp2
                go_wp2_with (at_builtin; refine wpList_append_keep (L := pairL) (N := N + 1) rfl (.tmp 59) (.tmp 61) rfl Try.underlying22 HI.out.1 HI.out.2.1 HI.out.2.2.1 HI.out.2.2.2 rfl (pk (ms.take (j + 1))) rfl HPK.out.symm rfl rfl HO2.out R2.out HB2.out.size (by unfold maxLen; omega) (by omega) ?_; intro A4 e4 w4 ho4 hb4 hk4)
                go_roundw
                case rel => exact ⟨j + 1, N + 1, A4, e4, by omega, by go_num, rfl, ho4, HB2.out.trans hb4, HNX⟩
                case measure => simp [intOf]; omega
        · obtain rfl : n = j + 1 := by omega
          have HNX : Hid (Nx ms (j + 1)) := by
            intro y hy
            have := (List.getElem?_eq_some_iff.1 hy).1
            have := HN.out
            omega
          have d0 : wy.cell? ⟨q, 0, none⟩ = some (.int .u16 x0) := hp2.out.c0
          have d1 : wy.cell? ⟨q, 1, none⟩ = some (.int .u16 x1) := hp2.out.c1
          have HB2 : Hid (Below w.heap.size w (wy.alloc (pairO (x0, x1)))) := (hb.out.trans (hb2.out.mono hqw)).alloc (Nat.le_trans hqw hb2.out.size) _
          have HO2 : Hid (RowOwn pairL (wy.alloc (pairO (x0, x1))) w.heap.size A N c Z) := (ho.out.bel hb2.out).bel ((Below.refl _ _).alloc (Nat.le_refl _) _)
          have R2 := Lib.hid (one_pair wy (x0, x1))
          clear hb2 hp2
          go_wp2_with (at_builtin; refine wpList_append_keep (L := pairL) (N := N + 1) rfl (.tmp 59) (.tmp 61) rfl Try.underlying22 HI.out.1 HI.out.2.1 HI.out.2.2.1 HI.out.2.2.2 rfl (pk (ms.take (j + 1))) rfl HPK.out.symm rfl rfl HO2.out R2.out HB2.out.size (by unfold maxLen; omega) (by omega) ?_; intro A4 e4 w4 ho4 hb4 hk4)
          go_roundw
          case rel => exact ⟨j + 1, N + 1, A4, e4, by omega, by go_num, rfl, ho4, HB2.out.trans hb4, HNX⟩
          case measure => simp [intOf]; omega
    · obtain rfl : k = n := by omega
      go_wp2
      go_ret
      have := ho.out
      rw [List.take_of_length_le (by rw [HN.out]; exact Nat.le_refl _)] at this
      exact fin.out A N c wx this hb
end Go.Proofs.Ytmgpphgiigppgaa.Nck
