/- HistoryPlays walked: the history beside the row of all that was pushed. -/
import Derived.Test.YtjiofhlmfmhhmaaZp
import Derived.Deep.DeepCutAuto
set_option maxRecDepth 100000
namespace Go.Proofs.Ytjiofhlmfmhhmaa.Hst
open Go.RowKit
open Go.Proofs.Ytjiofhlmfmhhmaa.Arn
set_option linter.unusedVariables false

set_option maxHeartbeats 8000000 in
theorem plays_any (w : World) (n : Int) (a : Option Addr) (cap : Nat) (xs : List Hact) (hn1 : -9223372036854775808 ≤ n) (hn2 : n ≤ 9223372036854775807) (hr : RowRd hactL w w.heap.size a xs.length xs) (hb : xs.length * 48 ≤ 140737488351232) :
    Calls Try.prog 3 #[.int .i64 n, .slice a xs.length cap] w fun e w' => e = .returned (.bool true) ∧ Below w.heap.size w w' := by
  have CS := Lib.hid (shown_any w)
  have CN := Lib.hid (fun W => new_any W n hn1 hn2)
  obtain ⟨C, hC⟩ : ∃ C, capN n = C := ⟨_, rfl⟩
  have hC64 : C ≤ 64 := by rw [← hC]; exact capN_le n
  have HC := Lib.hid hC
  have HR := Lib.hid hr
  have HNN := Lib.hid (And.intro hn1 hn2)
  obtain ⟨m, hm⟩ : ∃ m, xs.length = m := ⟨_, rfl⟩
  rw [hm] at hb ⊢
  have HM := Lib.hid hm
  have hm62 : m ≤ 4611686018427387904 := by omega
  obtain ⟨i0, hi0, hz0, hz1, hz2⟩ := info_parts info_en
  have HI := Lib.hid (And.intro hi0 (And.intro hz0 (And.intro hz1 hz2)))
  clear hC hr hm hn1 hn2 hb hi0 hz0 hz1 hz2
  go_enter Try.func3, Try.ntmps3
  go_wp2_with fail
  refine CS.out.mono ?_
  rintro e w1 ⟨rfl, hb1⟩
  have H1 := Lib.hid hb1
  clear hb1 CS
  go_wp2_with fail
  refine (CN.out _).mono ?_
  rintro e w2 ⟨b, g, rfl, hA, hbb, hg, hB⟩
  rw [HC.out] at hA
  have HF : Hid (Gs w w2 w2.heap.size b g C (rv C []) none 0 0 []) := Lib.hid ⟨⟨by rw [show rv C [] = [] from by simp [rv]]; exact hA, H1.out.trans (hB.mono H1.out.size), Nat.le_trans H1.out.size hbb, Nat.le_trans H1.out.size hg⟩, RowOwn.nil _ _, ⟨hA.lt.1, hA.lt.2, (H1.out.trans (hB.mono H1.out.size)).size, Nat.le_refl _⟩⟩
  clear hA hbb hg hB H1 CN
  obtain ⟨base, hbase⟩ : ∃ base, w2.heap.size = base := ⟨_, rfl⟩
  rw [hbase] at HF
  clear hbase
  go_wp2
  go_loopw [6, 7] (fun s6 s7 wx => ∃ (i k : Nat) (A : Option Addr) (c : Nat) (G : List En), i ≤ m ∧ i ≤ 200 ∧ k ≤ i ∧ s6 = .slice A k c ∧ s7 = .int .i64 i ∧ Hid (Gs w wx base b g C (rv C G) A k c G)) (fun _ s7 _ => m - (intOf s7).toNat)
  case atStart => exact ⟨0, 0, none, 0, [], by omega, by omega, by omega, rfl, rfl, HF⟩
  case round =>
    obtain ⟨i, k, A, c, G, him, hi2, hki, rfl, rfl, hF⟩ := hrel
    rename World => wx
    clear HF
    by_cases h1 : i < m ∧ i < 200
    · have hd1 : decide (i < m) = true := by simp; exact h1.1
      have hd2 : decide ((i : Int) < 200) = true := by simp; omega
      obtain ⟨tb, toff, x, rfl, htb, hx, t0, t1, t2, t3, t4, t5, t6, t7⟩ := hact_at (by have := HR.out; rw [HM.out] at this; exact this) h1.1
      have t0 : wx.cell? ⟨tb, toff + i * 8, none⟩ = some (.int .i64 x.kd) := (hF.out.hl.bel.cell (p := ⟨tb, toff + i * 8, none⟩) htb).trans t0; have t1 : wx.cell? ⟨tb, toff + i * 8 + 1, none⟩ = some (.int .u16 x.e.sq) := (hF.out.hl.bel.cell (p := ⟨tb, toff + i * 8 + 1, none⟩) htb).trans t1; have t2 : wx.cell? ⟨tb, toff + i * 8 + 2, none⟩ = some (.int .i64 x.e.sl) := (hF.out.hl.bel.cell (p := ⟨tb, toff + i * 8 + 2, none⟩) htb).trans t2; have t3 : wx.cell? ⟨tb, toff + i * 8 + 3, none⟩ = some (.int .u32 x.e.gn) := (hF.out.hl.bel.cell (p := ⟨tb, toff + i * 8 + 3, none⟩) htb).trans t3; have t4 : wx.cell? ⟨tb, toff + i * 8 + 4, none⟩ = some (.int .u16 x.e.ps) := (hF.out.hl.bel.cell (p := ⟨tb, toff + i * 8 + 4, none⟩) htb).trans t4; have t5 : wx.cell? ⟨tb, toff + i * 8 + 5, none⟩ = some (.int .u32 x.e.pt) := (hF.out.hl.bel.cell (p := ⟨tb, toff + i * 8 + 5, none⟩) htb).trans t5; have t6 : wx.cell? ⟨tb, toff + i * 8 + 6, none⟩ = some (.int .u32 x.e.pc) := (hF.out.hl.bel.cell (p := ⟨tb, toff + i * 8 + 6, none⟩) htb).trans t6; have t7 : wx.cell? ⟨tb, toff + i * 8 + 7, none⟩ = some (.int .u16 x.e.pf) := (hF.out.hl.bel.cell (p := ⟨tb, toff + i * 8 + 7, none⟩) htb).trans t7
      have H3 := Lib.hid (hF.out.alloc (hactO x))
      have D3 := Lib.hid (ABlk.new wx x)
      have HK := Lib.hid (show G.length = k from hF.out.ro.1)
      have LO := Lib.hid hF.out.lo
      clear hx htb hF
      go_upto_block 2 with fail
      obtain ⟨w3, hw3⟩ : ∃ w3, wx.alloc (hactO x) = w3 := ⟨_, rfl⟩
      obtain ⟨p, hp⟩ : ∃ p, wx.heap.size = p := ⟨_, rfl⟩
      rw [hw3] at H3 D3 ⊢
      rw [hp] at D3 ⊢
      have HP : Hid (b < p ∧ g < p ∧ b < base ∧ g < base ∧ base ≤ p) := by
        have := H3.out.lo
        have := LO.out
        exact ⟨by omega, by omega, this.1, this.2.1, by omega⟩
      clear hw3 hp t0 t1 t2 t3 t4 t5 t6 t7 LO
      clear wx
      go_cut [6, 9, 10, 11, 12, 13, 14, 15, 16, 17, 18] from 23 to 123 (fun s6 _ _ _ _ _ _ _ _ _ _ wc => ∃ (k' : Nat) (A' : Option Addr) (c' : Nat) (G' : List En), k' ≤ i + 1 ∧ s6 = .slice A' k' c' ∧ Hid (Gs w wc base b g C (rv C G') A' k' c' G'))
      case first =>
        by_cases h0 : x.kd = 0
        · have hk0 : (x.kd == 0) = true := by simp [h0]
          clear h0
          have CL := Lib.hid (H3.out.last n HNN.out.1 HNN.out.2 HC.out (by omega))
          obtain ⟨l, hl⟩ : ∃ l, k - (k - C) = l := ⟨_, rfl⟩
          obtain ⟨Dr, hDr⟩ : ∃ Dr, G.drop (k - C) = Dr := ⟨_, rfl⟩
          rw [hl, hDr] at CL
          have HLD := Lib.hid (And.intro hl hDr)
          have hl64 : l ≤ 64 := by omega
          clear hl hDr
          go_wp2_with fail
          refine CL.out.mono ?_
          rintro e w4 ⟨X, cX, rfl, hV, hin, hF4, hb4⟩
          have D4 := D3.out.more hb4
          have c0 := D4.c0; have c1 := D4.c1; have c2 := D4.c2; have c3 := D4.c3; have c4 := D4.c4; have c5 := D4.c5; have c6 := D4.c6
          have hbx : Below w4.heap.size w4 (w4.alloc (enO x.e)) := (Below.refl _ _).alloc (Nat.le_refl _) _
          have F5 := Lib.hid (hF4.alloc (enO x.e))
          have V5 := Lib.hid (hV.bel hbx)
          have X5 := Lib.hid (one_rec enL w4 x.e)
          have D5 := Lib.hid (D4.more hbx)
          have HIN := Lib.hid hin
          have HO := Lib.hid F5.out.ro
          have HS := Lib.hid F5.out.lo.2.2.2
          clear hV hin hF4 hb4 hbx D4 H3 D3 CL
          go_wp2_with (at_builtin; refine wpList_append_keep (L := enL) (N := k + 1) (by rfl) (.tmp 51) (.tmp 54) rfl Try.underlying26 HI.out.1 HI.out.2.1 HI.out.2.2.1 HI.out.2.2.2 rfl (G ++ [x.e]) rfl rfl rfl rfl HO.out X5.out (by decide) HS.out (by unfold maxLen; omega) (by omega) ?_; intro A6 ca6 w6 ho6 hu6 hk6)
          have F6 := Lib.hid (F5.out.app ho6 hu6)
          have D6 := Lib.hid (D5.out.upd hu6 (F5.out.ro.not_at D5.out (by decide)))
          have V6 : Hid (Vw w6 base X l Dr) := ⟨(hk6 _ _ _ _ (Nat.le_refl _) V5.out.rd HIN.out).more hu6.size, V5.out.lo⟩
          have CL := Lib.hid (F6.out.last n HNN.out.1 HNN.out.2 HC.out (by omega))
          obtain ⟨l2, hl2⟩ : ∃ l2, k + 1 - (k + 1 - C) = l2 := ⟨_, rfl⟩
          rw [hl2] at CL
          have HL2 := Lib.hid hl2
          clear ho6 hu6 hk6 F5 V5 X5 D5 HO HS HIN hl2 c0 c1 c2 c3 c4 c5 c6
          refine CL.out.mono ?_
          rintro e w7 ⟨X2, cX2, rfl, -, -, hF7, hb7⟩
          have CP := Lib.hid (hF7.pushU x.e)
          rw [rv_push] at CP
          have D7 := D6.out.more hb7
          have c0 := D7.c0; have c1 := D7.c1; have c2 := D7.c2; have c3 := D7.c3; have c4 := D7.c4; have c5 := D7.c5; have c6 := D7.c6
          have V7 := Lib.hid (V6.out.bel hb7)
          have D7 := Lib.hid D7
          obtain ⟨y, hy⟩ : ∃ y, goneV C (rv C G) x.e = y := ⟨_, rfl⟩
          obtain ⟨ok, hok⟩ : ∃ ok, decide (C ≤ (rv C G).length) = ok := ⟨_, rfl⟩
          rw [hy, hok] at CP
          have HYO := Lib.hid (And.intro hy hok)
          clear hF7 hb7 hy hok F6 D6 V6 CL
          go_wp2_with fail
          refine CP.out.mono ?_
          rintro e w8 ⟨rfl, hF8, hu8⟩
          have D8 := D7.out.upd hu8 (by have := HP.out; rintro (h | h) <;> omega)
          have V8 := V7.out.upd hu8 (by have := HP.out; rintro q hq (h | h) <;> omega)
          have hb9 : Below w8.heap.size w8 ((w8.alloc (enO y)).alloc (enO en0)) := ((Below.refl w8.heap.size w8).alloc (Nat.le_refl _) (enO y)).alloc (((Below.refl w8.heap.size w8).alloc (Nat.le_refl _) (enO y)).size) (enO en0)
          have F10 := Lib.hid (hF8.more hb9)
          have D10 := Lib.hid (D8.more hb9)
          have V10 := Lib.hid (V8.bel hb9)
          have E10 := Lib.hid ((EBlk.new w8 y).more ((Below.refl (w8.alloc (enO y)).heap.size (w8.alloc (enO y))).alloc (Nat.le_refl _) (enO en0)))
          have Z10 := Lib.hid (EBlk.new (w8.alloc (enO y)) en0)
          rw [show (w8.alloc (enO y)).heap.size = w8.heap.size + 1 from by simp] at Z10
          have HV : Hid (base ≤ w8.heap.size + 1 ∧ A6 ≠ some ⟨w8.heap.size + 1, 0, none⟩ ∧ ¬ w8.heap.size = w8.heap.size + 1) := ⟨Nat.le_succ_of_le hF8.lo.2.2.2, fun e => (by have := (hF8.ro.lt_at e).2; omega), by omega⟩
          have HPV : Hid (¬ p = w8.heap.size + 1) := by have := D8.lt; show ¬ p = w8.heap.size + 1; omega
          clear hF8 hu8 hb9 CP V7 D7 D8 V8 c0 c1 c2 c3 c4 c5 c6
          cases ok with
          | false =>
            have hCk : k < C := by have h := HYO.out.2; rw [rv_len HK.out] at h; have h2 := of_decide_eq_false h; omega
            obtain rfl : en0 = y := by rw [← HYO.out.1]; exact (gone_none x.e (by rw [rv_len HK.out]; omega)).symm
            have hq : ((l2 : Int) == (l : Int)) = false := by have := HL2.out; have := HLD.out.1; simp; omega
            have E := E10.out
            have Z := Z10.out
            have d0 := E.c0; have d1 := E.c1; have d2 := E.c2; have d3 := E.c3; have d4 := E.c4; have d5 := E.c5; have d6 := E.c6
            have r0 := Z.c0; have r1 := Z.c1; have r2 := Z.c2; have r3 := Z.c3; have r4 := Z.c4; have r5 := Z.c5; have r6 := Z.c6
            have qn := neq_same en0
            clear E Z HLD HL2 HYO hCk
            go_wp2_with fail
            go_meet
            case rel => exact ⟨k + 1, A6, ca6, G ++ [x.e], by omega, rfl, F10⟩
          | true =>
            have hCk : C ≤ k := by have h := HYO.out.2; rw [rv_len HK.out] at h; have h2 := of_decide_eq_true h; omega
            have HY : Hid ((Dr ++ [x.e])[0]? = some y) := by rw [← HLD.out.2, ← HYO.out.1]; exact rv_gone HK.out hCk
            have hq : ((l2 : Int) == (l : Int)) = true := by have := HL2.out; have := HLD.out.1; simp; omega
            clear HLD HL2 HYO hCk
            go_wp2_with fail
            obtain ⟨w10, hw10⟩ : ∃ w10, (w8.alloc (enO y)).alloc (enO en0) = w10 := ⟨_, rfl⟩
            obtain ⟨v, hv⟩ : ∃ v, w8.heap.size + 1 = v := ⟨_, rfl⟩
            obtain ⟨s, hs⟩ : ∃ s, w8.heap.size = s := ⟨_, rfl⟩
            rw [hw10] at F10 D10 V10 E10 Z10 ⊢
            rw [hv] at Z10 HV HPV ⊢
            rw [hs] at E10 HV ⊢
            clear hw10 hv hs
            clear w8
            have c0 : ∀ W, Upd (fun i => i = v) w10 W → W.cell? ⟨p, 1, none⟩ = some (.int .u16 x.e.sq) := fun W h => (D10.out.upd h HPV.out).c0; have c1 : ∀ W, Upd (fun i => i = v) w10 W → W.cell? ⟨p, 2, none⟩ = some (.int .i64 x.e.sl) := fun W h => (D10.out.upd h HPV.out).c1; have c2 : ∀ W, Upd (fun i => i = v) w10 W → W.cell? ⟨p, 3, none⟩ = some (.int .u32 x.e.gn) := fun W h => (D10.out.upd h HPV.out).c2; have c3 : ∀ W, Upd (fun i => i = v) w10 W → W.cell? ⟨p, 4, none⟩ = some (.int .u16 x.e.ps) := fun W h => (D10.out.upd h HPV.out).c3; have c4 : ∀ W, Upd (fun i => i = v) w10 W → W.cell? ⟨p, 5, none⟩ = some (.int .u32 x.e.pt) := fun W h => (D10.out.upd h HPV.out).c4; have c5 : ∀ W, Upd (fun i => i = v) w10 W → W.cell? ⟨p, 6, none⟩ = some (.int .u32 x.e.pc) := fun W h => (D10.out.upd h HPV.out).c5; have c6 : ∀ W, Upd (fun i => i = v) w10 W → W.cell? ⟨p, 7, none⟩ = some (.int .u16 x.e.pf) := fun W h => (D10.out.upd h HPV.out).c6
            have hB : Below w10.heap.size w10 w10.drew := (Below.refl _ _).drew
            refine region_tree (fun W => Upd (fun i => i = v) w10 W) (.rd 0 (.rd 2 (.rd 3 (.fk 1 4 (.dn 4 (.dn 5 (.rd 6 (.rd 7 (.dn 8 .nil))))) (.dn 1 (.dn 5 (.rd 6 (.rd 7 (.dn 8 .nil))))))))) (by kernel_rfl) (by kernel_rfl) rfl (by kernel_rfl) ?_
            obtain ⟨u0, hu0⟩ : ∃ u0, w10.drew = u0 := ⟨_, rfl⟩
            rw [hu0] at hB ⊢
            clear hu0
            have hS : Upd (fun i => i = v) w10 u0 := Upd.of hB
            have hV := V10.out.bel hB
            iterate 3 (refine seqT_read (v := _) rfl (fun _ _ _ h => h) hS (Or.inl ⟨by rfl, fun W hW => by go_simp <;> with_reducible rfl⟩) ?_; simp only [Act.put, List.setIfInBounds_toArray, List.set_cons_zero, List.set_cons_succ])
            clear c0 c1 c2 c3 c4 c5 c6 hS
            refine seqT_fork rfl rfl (fun K hK => ?_) (fun K hK => ?_)
            · rw [if_pos (by rfl)]
              refine oper_append_upd (L := enL) (base := u0.heap.size) (N := l) (.const (.slice none 0 0)) (.tmp 73) rfl Try.underlying26 HI.out.1 HI.out.2.1 HI.out.2.2.1 HI.out.2.2.2 rfl Dr (Nat.zero_add l) rfl rfl rfl (RowOwn.nil _ _) hV.rd (Nat.le_refl _) (by unfold maxLen; omega) (by omega) ?_
              intro A1 ca1 u1 ho hu _
              have hb : Below u0.heap.size u0 u1 := hu.below (Nat.le_refl _) (fun k e => by cases e)
              have hW0 : w10.heap.size ≤ u0.heap.size := hB.size
              replace hB := hB.trans (hb.mono hB.size)
              refine hK.out _ _ _ (fun W h => h) (Upd.of hB) ?_
              clear hK K hV hu
              have hbu := hb.size
              clear hb
              refine seqT_do rfl (fun K hK => ?_)
              go_simp
              have hb : Below u1.heap.size u1 (u1.alloc (enO x.e)) := (Below.refl _ _).alloc (Nat.le_refl _) _
              have hr : RowRd enL (u1.alloc (enO x.e)) (u1.alloc (enO x.e)).heap.size (some ⟨u1.heap.size, 0, none⟩) 1 [x.e] := (one_rec enL u1 x.e).more (by simp)
              obtain ⟨t, ht⟩ : ∃ t, u1.heap.size = t := ⟨_, rfl⟩
              obtain ⟨u2, hV2⟩ : ∃ V, u1.alloc (enO x.e) = V := ⟨_, rfl⟩
              rw [hV2] at hb hr ⊢
              rw [ht] at hr ⊢
              clear hV2 ht
              replace ho := ho.bel hb
              have hbase : u0.heap.size ≤ u2.heap.size := Nat.le_trans hbu hb.size
              replace hB := hB.trans (hb.mono hB.size)
              refine hK.out _ _ _ (fun W h => h) (Upd.of hB) ?_
              clear hK K hb hbu
              refine seqT_do rfl (fun K hK => ?_)
              rw [if_pos (by rfl)]
              refine oper_append_upd (L := enL) (N := l + 1) (.tmp 74) (.tmp 77) rfl Try.underlying26 HI.out.1 HI.out.2.1 HI.out.2.2.1 HI.out.2.2.2 rfl (Dr ++ [x.e]) rfl rfl rfl rfl ho hr hbase (by unfold maxLen; omega) (by omega) ?_
              intro A2 ca2 u3 ho3 hu3 _
              obtain ⟨q, rfl, hq0, hqlt, -⟩ := Go.Proofs.Ytjiofhlmfmhhmaa.Arn.own_blk ho3 (Nat.succ_pos l)
              have hB3 := hB.trans (hu3.below hB.size (fun j e => Nat.le_trans hW0 (ho.lt_at e).1))
              have HZ3 := Lib.hid (Z10.out.more hB3)
              have hqv : q ≠ v := by have := Z10.out.lt; omega
              have HRD := Lib.hid ho3.rd
              have HB3 := Lib.hid hB3
              have HQ := Lib.hid (And.intro hqv hqlt)
              have hS : Upd (fun i => i = v) w10 u3 ∧ u3.heap[q]? = u3.heap[q]? := ⟨Upd.of hB3, rfl⟩
              refine hK.out _ _ (fun W => Upd (fun i => i = v) w10 W ∧ W.heap[q]? = u3.heap[q]?) (fun W h => h.1) hS ?_
              clear hK K ho hr hbase hu3 ho3 hB hB3 hq0 hqlt hqv hW0
              have g0 : ∀ W, (Upd (fun i => i = v) w10 W ∧ W.heap[q]? = u3.heap[q]?) → W.cell? ⟨q, 0, none⟩ = some (.int .u16 y.sq) := fun W h => (cell_heap h.2).trans (row_first HRD.out HY.out 0 _ rfl); have g1 : ∀ W, (Upd (fun i => i = v) w10 W ∧ W.heap[q]? = u3.heap[q]?) → W.cell? ⟨q, 1, none⟩ = some (.int .i64 y.sl) := fun W h => (cell_heap h.2).trans (row_first HRD.out HY.out 1 _ rfl); have g2 : ∀ W, (Upd (fun i => i = v) w10 W ∧ W.heap[q]? = u3.heap[q]?) → W.cell? ⟨q, 2, none⟩ = some (.int .u32 y.gn) := fun W h => (cell_heap h.2).trans (row_first HRD.out HY.out 2 _ rfl); have g3 : ∀ W, (Upd (fun i => i = v) w10 W ∧ W.heap[q]? = u3.heap[q]?) → W.cell? ⟨q, 3, none⟩ = some (.int .u16 y.ps) := fun W h => (cell_heap h.2).trans (row_first HRD.out HY.out 3 _ rfl); have g4 : ∀ W, (Upd (fun i => i = v) w10 W ∧ W.heap[q]? = u3.heap[q]?) → W.cell? ⟨q, 4, none⟩ = some (.int .u32 y.pt) := fun W h => (cell_heap h.2).trans (row_first HRD.out HY.out 4 _ rfl); have g5 : ∀ W, (Upd (fun i => i = v) w10 W ∧ W.heap[q]? = u3.heap[q]?) → W.cell? ⟨q, 5, none⟩ = some (.int .u32 y.pc) := fun W h => (cell_heap h.2).trans (row_first HRD.out HY.out 5 _ rfl); have g6 : ∀ W, (Upd (fun i => i = v) w10 W ∧ W.heap[q]? = u3.heap[q]?) → W.cell? ⟨q, 6, none⟩ = some (.int .u16 y.pf) := fun W h => (cell_heap h.2).trans (row_first HRD.out HY.out 6 _ rfl)
              iterate 2 (refine seqT_read (v := _) rfl (fun _ _ _ h => h) hS (Or.inl ⟨by rfl, fun W hW => by go_simp <;> with_reducible rfl⟩) ?_; simp only [Act.put, List.setIfInBounds_toArray, List.set_cons_zero, List.set_cons_succ])
              clear g0 g1 g2 g3 g4 g5 g6
              refine seqT_do rfl (fun K hK => ?_)
              have DZ := HZ3.out
              have d0 := DZ.c0; have d1 := DZ.c1; have d2 := DZ.c2; have d3 := DZ.c3; have d4 := DZ.c4; have d5 := DZ.c5; have d6 := DZ.c6
              have f0 := DZ.frozen 0; have f1 := DZ.frozen 1; have f2 := DZ.frozen 2; have f3 := DZ.frozen 3; have f4 := DZ.frozen 4; have f5 := DZ.frozen 5; have f6 := DZ.frozen 6
              go_simp
              clear d0 d1 d2 d3 d4 d5 d6 f0 f1 f2 f3 f4 f5 f6
              obtain ⟨u4, hu4⟩ : ∃ u4, ((((((u3.setCell ⟨v, 0, none⟩ (.int .u16 y.sq)).setCell ⟨v, 1, none⟩ (.int .i64 y.sl)).setCell ⟨v, 2, none⟩ (.int .u32 y.gn)).setCell ⟨v, 3, none⟩ (.int .u16 y.ps)).setCell ⟨v, 4, none⟩ (.int .u32 y.pt)).setCell ⟨v, 5, none⟩ (.int .u32 y.pc)).setCell ⟨v, 6, none⟩ (.int .u16 y.pf) = u4 := ⟨_, rfl⟩
              have E4 : EBlk u4 v y := by rw [← hu4]; exact DZ.store y
              have U4 : Upd (fun i => i = v) u3 u4 := by rw [← hu4]; exact upd_putE (Upd.refl (fun i => i = v) u3) (b := v) (i := 0) (.inl rfl) y
              rw [hu4]
              clear hu4
              have W4 : Upd (fun i => i = v) w10 u4 := (Upd.of HB3.out).trans U4
              refine hK.out _ _ (fun W => Upd (fun i => i = v) w10 W ∧ W.heap[q]? = u3.heap[q]?) (fun W h => h) ⟨W4, U4.2 q HQ.out.2 HQ.out.1⟩ ?_
              clear hK K hS
              refine seqT_end ?_
              have F4 := Lib.hid (F10.out.upd1 W4 HV.out.1 HV.out.2.1)
              have EE := E10.out.upd W4 HV.out.2.2
              have d0 := E4.c0; have d1 := E4.c1; have d2 := E4.c2; have d3 := E4.c3; have d4 := E4.c4; have d5 := E4.c5; have d6 := E4.c6
              have r0 := EE.c0; have r1 := EE.c1; have r2 := EE.c2; have r3 := EE.c3; have r4 := EE.c4; have r5 := EE.c5; have r6 := EE.c6
              have qn := neq_same y
              clear E4 EE U4 W4 DZ HZ3 HRD HB3 HQ
              go_wp2_with fail
              go_meet
              case rel => exact ⟨k + 1, A6, ca6, G ++ [x.e], by omega, rfl, F4⟩
            · go_simp
              have hb : Below u0.heap.size u0 (u0.alloc (enO x.e)) := (Below.refl _ _).alloc (Nat.le_refl _) _
              have hr : RowRd enL (u0.alloc (enO x.e)) (u0.alloc (enO x.e)).heap.size (some ⟨u0.heap.size, 0, none⟩) 1 [x.e] := (one_rec enL u0 x.e).more (by simp)
              obtain ⟨t, ht⟩ : ∃ t, u0.heap.size = t := ⟨_, rfl⟩
              obtain ⟨u1, hV2⟩ : ∃ V, u0.alloc (enO x.e) = V := ⟨_, rfl⟩
              rw [hV2] at hb hr ⊢
              rw [ht] at hr ⊢
              clear hV2 ht
              replace hV := hV.bel hb
              replace hB := hB.trans (hb.mono hB.size)
              refine hK.out _ _ _ (fun W h => h) (Upd.of hB) ?_
              clear hK K hb
              refine seqT_do rfl (fun K hK => ?_)
              rw [if_pos (by rfl)]
              refine oper_append_upd (L := enL) (base := u1.heap.size) (N := l) (.const (.slice none 0 0)) (.tmp 73) rfl Try.underlying26 HI.out.1 HI.out.2.1 HI.out.2.2.1 HI.out.2.2.2 rfl Dr (Nat.zero_add l) rfl rfl rfl (RowOwn.nil _ _) hV.rd (Nat.le_refl _) (by unfold maxLen; omega) (by omega) ?_
              intro A1 ca1 u2 ho hu _
              have hb : Below u1.heap.size u1 u2 := hu.below (Nat.le_refl _) (fun k e => by cases e)
              have hW0 : w10.heap.size ≤ u1.heap.size := hB.size
              replace hr := hr.below hb
              have hbase : u1.heap.size ≤ u2.heap.size := hb.size
              replace hB := hB.trans (hb.mono hB.size)
              refine hK.out _ _ _ (fun W h => h) (Upd.of hB) ?_
              clear hK K hb hu hV
              refine seqT_do rfl (fun K hK => ?_)
              rw [if_pos (by rfl)]
              refine oper_append_upd (L := enL) (N := l + 1) (.tmp 74) (.tmp 77) rfl Try.underlying26 HI.out.1 HI.out.2.1 HI.out.2.2.1 HI.out.2.2.2 rfl (Dr ++ [x.e]) rfl rfl rfl rfl ho hr hbase (by unfold maxLen; omega) (by omega) ?_
              intro A2 ca2 u3 ho3 hu3 _
              obtain ⟨q, rfl, hq0, hqlt, -⟩ := Go.Proofs.Ytjiofhlmfmhhmaa.Arn.own_blk ho3 (Nat.succ_pos l)
              have hB3 := hB.trans (hu3.below hB.size (fun j e => Nat.le_trans hW0 (ho.lt_at e).1))
              have HZ3 := Lib.hid (Z10.out.more hB3)
              have hqv : q ≠ v := by have := Z10.out.lt; omega
              have HRD := Lib.hid ho3.rd
              have HB3 := Lib.hid hB3
              have HQ := Lib.hid (And.intro hqv hqlt)
              have hS : Upd (fun i => i = v) w10 u3 ∧ u3.heap[q]? = u3.heap[q]? := ⟨Upd.of hB3, rfl⟩
              refine hK.out _ _ (fun W => Upd (fun i => i = v) w10 W ∧ W.heap[q]? = u3.heap[q]?) (fun W h => h.1) hS ?_
              clear hK K ho hr hbase hu3 ho3 hB hB3 hq0 hqlt hqv hW0
              have g0 : ∀ W, (Upd (fun i => i = v) w10 W ∧ W.heap[q]? = u3.heap[q]?) → W.cell? ⟨q, 0, none⟩ = some (.int .u16 y.sq) := fun W h => (cell_heap h.2).trans (row_first HRD.out HY.out 0 _ rfl); have g1 : ∀ W, (Upd (fun i => i = v) w10 W ∧ W.heap[q]? = u3.heap[q]?) → W.cell? ⟨q, 1, none⟩ = some (.int .i64 y.sl) := fun W h => (cell_heap h.2).trans (row_first HRD.out HY.out 1 _ rfl); have g2 : ∀ W, (Upd (fun i => i = v) w10 W ∧ W.heap[q]? = u3.heap[q]?) → W.cell? ⟨q, 2, none⟩ = some (.int .u32 y.gn) := fun W h => (cell_heap h.2).trans (row_first HRD.out HY.out 2 _ rfl); have g3 : ∀ W, (Upd (fun i => i = v) w10 W ∧ W.heap[q]? = u3.heap[q]?) → W.cell? ⟨q, 3, none⟩ = some (.int .u16 y.ps) := fun W h => (cell_heap h.2).trans (row_first HRD.out HY.out 3 _ rfl); have g4 : ∀ W, (Upd (fun i => i = v) w10 W ∧ W.heap[q]? = u3.heap[q]?) → W.cell? ⟨q, 4, none⟩ = some (.int .u32 y.pt) := fun W h => (cell_heap h.2).trans (row_first HRD.out HY.out 4 _ rfl); have g5 : ∀ W, (Upd (fun i => i = v) w10 W ∧ W.heap[q]? = u3.heap[q]?) → W.cell? ⟨q, 5, none⟩ = some (.int .u32 y.pc) := fun W h => (cell_heap h.2).trans (row_first HRD.out HY.out 5 _ rfl); have g6 : ∀ W, (Upd (fun i => i = v) w10 W ∧ W.heap[q]? = u3.heap[q]?) → W.cell? ⟨q, 6, none⟩ = some (.int .u16 y.pf) := fun W h => (cell_heap h.2).trans (row_first HRD.out HY.out 6 _ rfl)
              iterate 2 (refine seqT_read (v := _) rfl (fun _ _ _ h => h) hS (Or.inl ⟨by rfl, fun W hW => by go_simp <;> with_reducible rfl⟩) ?_; simp only [Act.put, List.setIfInBounds_toArray, List.set_cons_zero, List.set_cons_succ])
              clear g0 g1 g2 g3 g4 g5 g6
              refine seqT_do rfl (fun K hK => ?_)
              have DZ := HZ3.out
              have d0 := DZ.c0; have d1 := DZ.c1; have d2 := DZ.c2; have d3 := DZ.c3; have d4 := DZ.c4; have d5 := DZ.c5; have d6 := DZ.c6
              have f0 := DZ.frozen 0; have f1 := DZ.frozen 1; have f2 := DZ.frozen 2; have f3 := DZ.frozen 3; have f4 := DZ.frozen 4; have f5 := DZ.frozen 5; have f6 := DZ.frozen 6
              go_simp
              clear d0 d1 d2 d3 d4 d5 d6 f0 f1 f2 f3 f4 f5 f6
              obtain ⟨u4, hu4⟩ : ∃ u4, ((((((u3.setCell ⟨v, 0, none⟩ (.int .u16 y.sq)).setCell ⟨v, 1, none⟩ (.int .i64 y.sl)).setCell ⟨v, 2, none⟩ (.int .u32 y.gn)).setCell ⟨v, 3, none⟩ (.int .u16 y.ps)).setCell ⟨v, 4, none⟩ (.int .u32 y.pt)).setCell ⟨v, 5, none⟩ (.int .u32 y.pc)).setCell ⟨v, 6, none⟩ (.int .u16 y.pf) = u4 := ⟨_, rfl⟩
              have E4 : EBlk u4 v y := by rw [← hu4]; exact DZ.store y
              have U4 : Upd (fun i => i = v) u3 u4 := by rw [← hu4]; exact upd_putE (Upd.refl (fun i => i = v) u3) (b := v) (i := 0) (.inl rfl) y
              rw [hu4]
              clear hu4
              have W4 : Upd (fun i => i = v) w10 u4 := (Upd.of HB3.out).trans U4
              refine hK.out _ _ (fun W => Upd (fun i => i = v) w10 W ∧ W.heap[q]? = u3.heap[q]?) (fun W h => h) ⟨W4, U4.2 q HQ.out.2 HQ.out.1⟩ ?_
              clear hK K hS
              refine seqT_end ?_
              have F4 := Lib.hid (F10.out.upd1 W4 HV.out.1 HV.out.2.1)
              have EE := E10.out.upd W4 HV.out.2.2
              have d0 := E4.c0; have d1 := E4.c1; have d2 := E4.c2; have d3 := E4.c3; have d4 := E4.c4; have d5 := E4.c5; have d6 := E4.c6
              have r0 := EE.c0; have r1 := EE.c1; have r2 := EE.c2; have r3 := EE.c3; have r4 := EE.c4; have r5 := EE.c5; have r6 := EE.c6
              have qn := neq_same y
              clear E4 EE U4 W4 DZ HZ3 HRD HB3 HQ
              go_wp2_with fail
              go_meet
              case rel => exact ⟨k + 1, A6, ca6, G ++ [x.e], by omega, rfl, F4⟩
        by_cases h9 : x.kd = 1
        · have hk0 : (x.kd == 0) = false := by simp [h0]
          have hk1 : (x.kd == 1) = true := by simp [h9]
          clear h0 h9
          have CF := Lib.hid (H3.out.find x.e.sq)
          obtain ⟨F, hF⟩ : ∃ F, findO (rv C G) x.e.sq = F := ⟨_, rfl⟩
          obtain ⟨f, hf⟩ : ∃ f, F.getD en0 = f := ⟨_, rfl⟩
          obtain ⟨ok, hok⟩ : ∃ ok, F.isSome = ok := ⟨_, rfl⟩
          rw [hF, hf, hok] at CF
          have HFO : Hid (findO (G.drop (k - C)).reverse x.e.sq = F ∧ F.getD en0 = f ∧ F.isSome = ok) := ⟨by rw [← rv_of HK.out]; exact hF, hf, hok⟩
          have c0 := D3.out.c0
          clear hF hf hok
          go_wp2_with fail
          refine CF.out.mono ?_
          rintro e w4 ⟨rfl, hF4, hb4⟩
          have hbx : Below w4.heap.size w4 (w4.alloc (enO f)) := (Below.refl _ _).alloc (Nat.le_refl _) _
          have F5 := Lib.hid (hF4.alloc (enO f))
          have E5 := Lib.hid (EBlk.new w4 f)
          have D5 := Lib.hid ((D3.out.more hb4).more hbx)
          clear hF4 hb4 hbx CF c0 H3 D3
          go_wp2_with fail
          obtain ⟨w5, hw5⟩ : ∃ w5, w4.alloc (enO f) = w5 := ⟨_, rfl⟩
          obtain ⟨s, hs⟩ : ∃ s, w4.heap.size = s := ⟨_, rfl⟩
          rw [hw5] at F5 E5 D5 ⊢
          rw [hs] at E5 ⊢
          clear hw5 hs
          clear w4
          have CL := Lib.hid (fun W (hW : Below w5.heap.size w5 W) => (F5.out.more hW).last n HNN.out.1 HNN.out.2 HC.out (by omega))
          have c0 : ∀ W, Below w5.heap.size w5 W → W.cell? ⟨p, 1, none⟩ = some (.int .u16 x.e.sq) := fun W h => (D5.out.more h).c0
          have hS : Below w5.heap.size w5 w5.drew := (Below.refl _ _).drew
          refine region_tree (Below w5.heap.size w5) (.rd 0 (.rd 1 (.rd 3 (.rd 4 (.rd 5 (.fk 2 10 (.fk 6 10 (.rd 7 (.rd 8 (.rd 9 (.dn 10 (.dn 11 (.rd 12 .nil)))))) (.dn 6 (.rd 7 (.rd 8 (.rd 9 (.dn 11 (.rd 12 .nil))))))) (.dn 2 (.dn 6 (.rd 7 (.rd 8 (.rd 9 (.dn 11 (.rd 12 .nil))))))))))))) (by kernel_rfl) (by kernel_rfl) rfl (by kernel_rfl) ?_
          obtain ⟨u0, hu0⟩ : ∃ u0, w5.drew = u0 := ⟨_, rfl⟩
          rw [hu0] at hS ⊢
          clear hu0
          iterate 5 (refine seqT_read (v := _) rfl (fun _ _ _ h => h) hS (Or.inl ⟨by rfl, fun W hW => by go_simp <;> with_reducible rfl⟩) ?_; simp only [Act.put, List.setIfInBounds_toArray, List.set_cons_zero, List.set_cons_succ])
          clear c0
          refine seqT_fork rfl rfl (fun K hK => ?_) (fun K hK => ?_)
          · go_simp
            refine (CL.out u0 hS).mono ?_
            rintro e u1 ⟨X, cX, rfl, hX, -, -, hb⟩
            have HV := Lib.hid hX
            replace hS := hS.trans (hb.mono hS.size)
            refine hK.out _ _ _ (fun W h => h) hS ?_
            clear hK K hb hX
            refine seqT_fork rfl rfl (fun K hK => ?_) (fun K hK => ?_)
            · have CR := Lib.hid (rfind_any u1 X _ cX _ _ x.e.sq HV.out.rd (Nat.le_refl _) (by omega))
              rw [HFO.out.1, HFO.out.2.1, HFO.out.2.2] at CR
              go_simp
              refine CR.out.mono ?_
              rintro e u2 ⟨rfl, hb⟩
              replace hS := hS.trans (hb.mono hS.size)
              refine hK.out _ _ _ (fun W h => h) hS ?_
              clear hK K hb CR HV
              iterate 3 (refine seqT_read (v := _) rfl (fun _ _ _ h => h) hS (Or.inl ⟨by rfl, fun W hW => by go_simp <;> with_reducible rfl⟩) ?_; simp only [Act.put, List.setIfInBounds_toArray, List.set_cons_zero, List.set_cons_succ])
              refine seqT_do rfl (fun K hK => ?_)
              go_simp
              have hbx : Below u2.heap.size u2 (u2.alloc (enO en0)) := (Below.refl _ _).alloc (Nat.le_refl _) _
              have LZ := hS.size
              have DZ := EBlk.new u2 en0
              replace hS := hS.trans (hbx.mono hS.size)
              obtain ⟨z, hz⟩ : ∃ z, u2.heap.size = z := ⟨_, rfl⟩
              obtain ⟨u3, hV⟩ : ∃ V, u2.alloc (enO en0) = V := ⟨_, rfl⟩
              rw [hV, hz] at DZ
              rw [hV] at hS
              rw [hz] at LZ
              rw [hV, hz]
              clear hV hz hbx
              refine hK.out _ _ _ (fun W h => h) hS ?_
              clear hK K
              refine seqT_do rfl (fun K hK => ?_)
              have d0 := DZ.c0; have d1 := DZ.c1; have d2 := DZ.c2; have d3 := DZ.c3; have d4 := DZ.c4; have d5 := DZ.c5; have d6 := DZ.c6
              have y0 := DZ.frozen 0; have y1 := DZ.frozen 1; have y2 := DZ.frozen 2; have y3 := DZ.frozen 3; have y4 := DZ.frozen 4; have y5 := DZ.frozen 5; have y6 := DZ.frozen 6
              go_simp
              clear d0 d1 d2 d3 d4 d5 d6 y0 y1 y2 y3 y4 y5 y6
              replace hS := bel_putE (i := 0) hS LZ f
              replace DZ := DZ.store f
              dsimp only [putE] at hS DZ
              obtain ⟨u4, hV⟩ : ∃ V, ((((((u3.setCell ⟨z, 0, none⟩ (.int .u16 f.sq)).setCell ⟨z, 1, none⟩ (.int .i64 f.sl)).setCell ⟨z, 2, none⟩ (.int .u32 f.gn)).setCell ⟨z, 3, none⟩ (.int .u16 f.ps)).setCell ⟨z, 4, none⟩ (.int .u32 f.pt)).setCell ⟨z, 5, none⟩ (.int .u32 f.pc)).setCell ⟨z, 6, none⟩ (.int .u16 f.pf) = V := ⟨_, rfl⟩
              rw [hV] at hS DZ
              rw [hV]
              clear hV
              refine hK.out _ _ _ (fun W h => h) hS ?_
              clear hK K
              iterate 1 (refine seqT_read (v := _) rfl (fun _ _ _ h => h) hS (Or.inl ⟨by rfl, fun W hW => by go_simp <;> with_reducible rfl⟩) ?_; simp only [Act.put, List.setIfInBounds_toArray, List.set_cons_zero, List.set_cons_succ])
              refine seqT_end ?_
              have EF := E5.out.more hS
              have HF := Lib.hid (F5.out.more hS)
              have d0 := DZ.c0; have d1 := DZ.c1; have d2 := DZ.c2; have d3 := DZ.c3; have d4 := DZ.c4; have d5 := DZ.c5; have d6 := DZ.c6
              have v0 := EF.c0; have v1 := EF.c1; have v2 := EF.c2; have v3 := EF.c3; have v4 := EF.c4; have v5 := EF.c5; have v6 := EF.c6
              have qn := neq_same f
              clear hS DZ EF LZ F5 E5 D5 CL
              go_wp2_with fail
              go_meet
              case rel => exact ⟨k, A, c, G, by omega, rfl, HF⟩
            · go_simp
              have hbx : Below u1.heap.size u1 (u1.alloc (enO en0)) := (Below.refl _ _).alloc (Nat.le_refl _) _
              have LZ := hS.size
              have DZ := EBlk.new u1 en0
              replace hS := hS.trans (hbx.mono hS.size)
              replace HV := Lib.hid (HV.out.bel hbx)
              obtain ⟨z, hz⟩ : ∃ z, u1.heap.size = z := ⟨_, rfl⟩
              obtain ⟨u2, hV⟩ : ∃ V, u1.alloc (enO en0) = V := ⟨_, rfl⟩
              rw [hV, hz] at DZ
              rw [hV] at hS
              rw [hz] at LZ
              rw [hV] at HV
              rw [hV, hz]
              clear hV hz hbx
              refine hK.out _ _ _ (fun W h => h) hS ?_
              clear hK K
              refine seqT_do rfl (fun K hK => ?_)
              have CR := Lib.hid (rfind_any u2 X _ cX _ _ x.e.sq HV.out.rd (Nat.le_refl _) (by omega))
              rw [HFO.out.1, HFO.out.2.1, HFO.out.2.2] at CR
              go_simp
              refine CR.out.mono ?_
              rintro e u3 ⟨rfl, hb⟩
              replace hS := hS.trans (hb.mono hS.size)
              replace DZ := DZ.more hb
              refine hK.out _ _ _ (fun W h => h) hS ?_
              clear hK K hb CR HV
              iterate 3 (refine seqT_read (v := _) rfl (fun _ _ _ h => h) hS (Or.inl ⟨by rfl, fun W hW => by go_simp <;> with_reducible rfl⟩) ?_; simp only [Act.put, List.setIfInBounds_toArray, List.set_cons_zero, List.set_cons_succ])
              refine seqT_do rfl (fun K hK => ?_)
              have d0 := DZ.c0; have d1 := DZ.c1; have d2 := DZ.c2; have d3 := DZ.c3; have d4 := DZ.c4; have d5 := DZ.c5; have d6 := DZ.c6
              have y0 := DZ.frozen 0; have y1 := DZ.frozen 1; have y2 := DZ.frozen 2; have y3 := DZ.frozen 3; have y4 := DZ.frozen 4; have y5 := DZ.frozen 5; have y6 := DZ.frozen 6
              go_simp
              clear d0 d1 d2 d3 d4 d5 d6 y0 y1 y2 y3 y4 y5 y6
              replace hS := bel_putE (i := 0) hS LZ f
              replace DZ := DZ.store f
              dsimp only [putE] at hS DZ
              obtain ⟨u4, hV⟩ : ∃ V, ((((((u3.setCell ⟨z, 0, none⟩ (.int .u16 f.sq)).setCell ⟨z, 1, none⟩ (.int .i64 f.sl)).setCell ⟨z, 2, none⟩ (.int .u32 f.gn)).setCell ⟨z, 3, none⟩ (.int .u16 f.ps)).setCell ⟨z, 4, none⟩ (.int .u32 f.pt)).setCell ⟨z, 5, none⟩ (.int .u32 f.pc)).setCell ⟨z, 6, none⟩ (.int .u16 f.pf) = V := ⟨_, rfl⟩
              rw [hV] at hS DZ
              rw [hV]
              clear hV
              refine hK.out _ _ _ (fun W h => h) hS ?_
              clear hK K
              iterate 1 (refine seqT_read (v := _) rfl (fun _ _ _ h => h) hS (Or.inl ⟨by rfl, fun W hW => by go_simp <;> with_reducible rfl⟩) ?_; simp only [Act.put, List.setIfInBounds_toArray, List.set_cons_zero, List.set_cons_succ])
              refine seqT_end ?_
              have EF := E5.out.more hS
              have HF := Lib.hid (F5.out.more hS)
              have d0 := DZ.c0; have d1 := DZ.c1; have d2 := DZ.c2; have d3 := DZ.c3; have d4 := DZ.c4; have d5 := DZ.c5; have d6 := DZ.c6
              have v0 := EF.c0; have v1 := EF.c1; have v2 := EF.c2; have v3 := EF.c3; have v4 := EF.c4; have v5 := EF.c5; have v6 := EF.c6
              have qn := neq_same f
              clear hS DZ EF LZ F5 E5 D5 CL
              go_wp2_with fail
              go_meet
              case rel => exact ⟨k, A, c, G, by omega, rfl, HF⟩
          · go_simp
            have hbx : Below u0.heap.size u0 (u0.alloc (enO en0)) := (Below.refl _ _).alloc (Nat.le_refl _) _
            have LZ := hS.size
            have DZ := EBlk.new u0 en0
            replace hS := hS.trans (hbx.mono hS.size)
            obtain ⟨z, hz⟩ : ∃ z, u0.heap.size = z := ⟨_, rfl⟩
            obtain ⟨u1, hV⟩ : ∃ V, u0.alloc (enO en0) = V := ⟨_, rfl⟩
            rw [hV, hz] at DZ
            rw [hV] at hS
            rw [hz] at LZ
            rw [hV, hz]
            clear hV hz hbx
            refine hK.out _ _ _ (fun W h => h) hS ?_
            clear hK K
            refine seqT_do rfl (fun K hK => ?_)
            go_simp
            refine (CL.out u1 hS).mono ?_
            rintro e u2 ⟨X, cX, rfl, hX, -, -, hb⟩
            have HV := Lib.hid hX
            replace hS := hS.trans (hb.mono hS.size)
            replace DZ := DZ.more hb
            refine hK.out _ _ _ (fun W h => h) hS ?_
            clear hK K hb hX
            refine seqT_do rfl (fun K hK => ?_)
            have CR := Lib.hid (rfind_any u2 X _ cX _ _ x.e.sq HV.out.rd (Nat.le_refl _) (by omega))
            rw [HFO.out.1, HFO.out.2.1, HFO.out.2.2] at CR
            go_simp
            refine CR.out.mono ?_
            rintro e u3 ⟨rfl, hb⟩
            replace hS := hS.trans (hb.mono hS.size)
            replace DZ := DZ.more hb
            refine hK.out _ _ _ (fun W h => h) hS ?_
            clear hK K hb CR HV
            iterate 3 (refine seqT_read (v := _) rfl (fun _ _ _ h => h) hS (Or.inl ⟨by rfl, fun W hW => by go_simp <;> with_reducible rfl⟩) ?_; simp only [Act.put, List.setIfInBounds_toArray, List.set_cons_zero, List.set_cons_succ])
            refine seqT_do rfl (fun K hK => ?_)
            have d0 := DZ.c0; have d1 := DZ.c1; have d2 := DZ.c2; have d3 := DZ.c3; have d4 := DZ.c4; have d5 := DZ.c5; have d6 := DZ.c6
            have y0 := DZ.frozen 0; have y1 := DZ.frozen 1; have y2 := DZ.frozen 2; have y3 := DZ.frozen 3; have y4 := DZ.frozen 4; have y5 := DZ.frozen 5; have y6 := DZ.frozen 6
            go_simp
            clear d0 d1 d2 d3 d4 d5 d6 y0 y1 y2 y3 y4 y5 y6
            replace hS := bel_putE (i := 0) hS LZ f
            replace DZ := DZ.store f
            dsimp only [putE] at hS DZ
            obtain ⟨u4, hV⟩ : ∃ V, ((((((u3.setCell ⟨z, 0, none⟩ (.int .u16 f.sq)).setCell ⟨z, 1, none⟩ (.int .i64 f.sl)).setCell ⟨z, 2, none⟩ (.int .u32 f.gn)).setCell ⟨z, 3, none⟩ (.int .u16 f.ps)).setCell ⟨z, 4, none⟩ (.int .u32 f.pt)).setCell ⟨z, 5, none⟩ (.int .u32 f.pc)).setCell ⟨z, 6, none⟩ (.int .u16 f.pf) = V := ⟨_, rfl⟩
            rw [hV] at hS DZ
            rw [hV]
            clear hV
            refine hK.out _ _ _ (fun W h => h) hS ?_
            clear hK K
            iterate 1 (refine seqT_read (v := _) rfl (fun _ _ _ h => h) hS (Or.inl ⟨by rfl, fun W hW => by go_simp <;> with_reducible rfl⟩) ?_; simp only [Act.put, List.setIfInBounds_toArray, List.set_cons_zero, List.set_cons_succ])
            refine seqT_end ?_
            have EF := E5.out.more hS
            have HF := Lib.hid (F5.out.more hS)
            have d0 := DZ.c0; have d1 := DZ.c1; have d2 := DZ.c2; have d3 := DZ.c3; have d4 := DZ.c4; have d5 := DZ.c5; have d6 := DZ.c6
            have v0 := EF.c0; have v1 := EF.c1; have v2 := EF.c2; have v3 := EF.c3; have v4 := EF.c4; have v5 := EF.c5; have v6 := EF.c6
            have qn := neq_same f
            clear hS DZ EF LZ F5 E5 D5 CL
            go_wp2_with fail
            go_meet
            case rel => exact ⟨k, A, c, G, by omega, rfl, HF⟩
        have hk0 : (x.kd == 0) = false := by simp [h0]
        have hk1 : (x.kd == 1) = false := by simp [h9]
        have CC := Lib.hid H3.out.clear
        rw [rv_len HK.out, rv_rev HK.out] at CC
        clear h0 h9 D3
        go_wp2_with fail
        refine CC.out.mono ?_
        rintro e w4 ⟨A1, c1, rfl, hr1, hF4, -⟩
        have CL := Lib.hid (hF4.last n HNN.out.1 HNN.out.2 HC.out (by omega))
        have HR1 := Lib.hid hr1
        clear hr1 hF4 H3 CC
        go_wp2_with fail
        refine CL.out.mono ?_
        rintro e w5 ⟨X, cX, rfl, hV, -, hF5, hb5⟩
        have CQ := Lib.hid (same_any w5 A1 X _ c1 cX _ _ _ (HR1.out.below hb5) hV.rd (by omega))
        have F5 := Lib.hid hF5
        clear hV hF5 hb5 HR1 CL
        go_wp2_with fail
        refine CQ.out.mono ?_
        rintro e w6 ⟨rfl, hb6⟩
        have F6 : Hid (Gs w w6 base b g C (rv C []) none 0 0 []) := by rw [show rv C [] = [] from by simp [rv]]; exact (F5.out.more hb6).reset
        clear hb6 CQ F5
        go_wp2_with fail
        go_meet
        case rel => exact ⟨0, none, 0, [], by omega, rfl, F6⟩
      case rest =>
      obtain ⟨k', A', c', G', hk', rfl, hF⟩ := hcut
      have HK' := Lib.hid (show G'.length = k' from hF.out.ro.1)
      have CA := Lib.hid hF.out.all
      rw [rv_len HK'.out, rv_rev HK'.out] at CA
      clear H3 D3 HK hF
      go_wp2_with fail
      refine CA.out.mono ?_
      rintro e w4 ⟨A1, c1, rfl, hr1, hF4⟩
      have CL := Lib.hid (hF4.last n HNN.out.1 HNN.out.2 HC.out (by omega))
      have HR1 := Lib.hid hr1
      clear hr1 hF4 CA
      go_wp2_with fail
      refine CL.out.mono ?_
      rintro e w5 ⟨X, cX, rfl, hV, -, hF5, hb5⟩
      have CQ := Lib.hid (same_any w5 A1 X _ c1 cX _ _ _ (HR1.out.below hb5) hV.rd (by omega))
      have F5 := Lib.hid hF5
      clear hV hF5 hb5 HR1 CL
      go_wp2_with fail
      refine CQ.out.mono ?_
      rintro e w6 ⟨rfl, hb6⟩
      have F6 := Lib.hid (F5.out.more hb6)
      clear hb6 CQ F5
      go_wp2_with fail
      go_roundw
      case rel => exact ⟨i + 1, k', A', c', G', by omega, by omega, hk', rfl, by go_num, F6⟩
      case measure => simp [intOf]; omega
    · have hd : decide (i < m) = false ∨ (decide (i < m) = true ∧ decide ((i : Int) < 200) = false) := by
        by_cases h : i < m
        · exact .inr ⟨by simp; exact h, by simp; omega⟩
        · exact .inl (by simp; omega)
      have HB := Lib.hid hF.out.hl.bel
      clear h1 hF
      rcases hd with hd1 | ⟨hd1, hd2⟩
      · go_wp2
        go_ret
        exact ⟨rfl, HB.out⟩
      · go_wp2
        go_ret
        exact ⟨rfl, HB.out⟩
end Go.Proofs.Ytjiofhlmfmhhmaa.Hst
