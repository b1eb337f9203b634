/- The contract of nack.Pack. -/
import Derived.Test.YtmgpphgiigppgaaUc
namespace Go.Proofs.Ytmgpphgiigppgaa.Nck
open Go.RowKit Go.Proofs.Ytmgpphgiigppgaa.Fbk
set_option linter.unusedVariables false

/-- A row of pairs that the call made. -/
def NewP (w : World) (ys : List (Int × Int)) (e : Ending) (w' : World) : Prop := ∃ A c, e = .returned (.slice A ys.length c) ∧ RowOwn pairL w' w.heap.size A ys.length c ys ∧ Below w.heap.size w w'
theorem pk_len : ∀ m : List Int, (pk m).length ≤ m.length := by
  refine snoc_rec ?_ ?_
  · simp [pk, pkGo]
  · intro m x ih
    rw [pk_snoc, List.length_append]
    unfold pkStep
    split
    · split
      · simp; omega
      · simp; omega
    · simp
theorem one_pair (w : World) (x : Int × Int) : RowRd pairL (w.alloc (pairO x)) (w.heap.size + 1) (some ⟨w.heap.size, 0, none⟩) 1 [x] := by
  have := rowRd_blk (L := pairL) (w := w.alloc (pairO x)) (g := w.heap.size) (xs := [x]) (n := 1) (heap_alloc_new w _) rfl
  simpa using this
theorem infoP : (Try.prog.info? 31).map (fun i => (i.zero, i.size, i.bytes)) = some (some (.agg #[.int .u16 0, .int .u16 0]), 2, 4) := by kernel_rfl
/-- The last pair of a row of the call's own: its cells, and a new second word in it. -/
theorem own_last {w : World} {base n c : Nat} {A : Option Addr} {qs : List (Int × Int)} {p : Int × Int} (h : RowOwn pairL w base A n c (qs ++ [p])) : ∃ g, A = some ⟨g, 0, none⟩ ∧ base ≤ g ∧ n = qs.length + 1 ∧ w.cell? ⟨g, qs.length * 2, none⟩ = some (.int .u16 p.1) ∧ w.cell? ⟨g, qs.length * 2 + 1, none⟩ = some (.int .u16 p.2) ∧ w.frozen? ⟨g, qs.length * 2 + 1, none⟩ = false ∧
    ∀ y, RowOwn pairL (w.setCell ⟨g, qs.length * 2 + 1, none⟩ (.int .u16 y)) base A n c (qs ++ [(p.1, y)]) := by
  obtain ⟨hx, hnc, hcm, h⟩ := h
  rcases h with ⟨rfl, rfl, rfl⟩ | ⟨g, T, rfl, hbg, hg, hl⟩
  · simp at hx
  · have hf : flat pairL (qs ++ [p]) = flat pairL qs ++ [.int .u16 p.1, .int .u16 p.2] := by rw [← flat_append]; rfl
    have hfl : (flat pairL qs).length = qs.length * 2 := flat_len pairL qs
    have hn : n = qs.length + 1 := by rw [← hx]; simp
    have c0 : w.cell? ⟨g, qs.length * 2, none⟩ = some (.int .u16 p.1) := by
      rw [cell_of_row w g _ _ _ _ hg, hf, List.getElem?_toArray, List.append_assoc, List.getElem?_append_right (by omega), hfl, Nat.sub_self]; rfl
    have c1 : w.cell? ⟨g, qs.length * 2 + 1, none⟩ = some (.int .u16 p.2) := by
      rw [cell_of_row w g _ _ _ _ hg, hf, List.getElem?_toArray, List.append_assoc, List.getElem?_append_right (by omega), hfl, show qs.length * 2 + 1 - qs.length * 2 = 1 from by omega]; rfl
    refine ⟨g, rfl, hbg, hn, c0, c1, frozen_of_row w g _ _ _ hg, fun y => ⟨by rw [← hx]; simp, hnc, hcm, .inr ⟨g, T, rfl, hbg, ?_, ?_⟩⟩⟩
    · have hf2 : flat pairL (qs ++ [(p.1, y)]) = flat pairL qs ++ [.int .u16 p.1, .int .u16 y] := by rw [← flat_append]; rfl
      have := heap_setCell_same w g (qs.length * 2 + 1) _ _ (.int .u16 y) hg
      rw [this, hf, hf2, List.setIfInBounds_toArray, List.append_assoc, List.append_assoc, List.set_append_right _ _ (by omega), hfl, show qs.length * 2 + 1 - qs.length * 2 = 1 from by omega]
      rfl
    · rw [← hl, flat_len, flat_len]; simp
theorem join_lt (p : Int × Int) (last x : Int) (h : Nat) (hx : U16 x) (hl : U16 last) (hp : U16 p.1) (h16 : h ≤ 16) (hd : (last - p.1) % 65536 = h) (hph : p.2 < 2 ^ h) (hj : joins p last x = true) : p.2 < bitAt p x := by
  simp only [joins, Bool.and_eq_true, decide_eq_true_eq] at hj
  obtain ⟨⟨hd1, hd2⟩, hah0⟩ := hj
  have hah : 0 < d16 x last := of_decide_eq_true hah0
  unfold d16 at hah
  obtain ⟨d, hdd⟩ : ∃ d : Nat, (x - p.1) % 65536 = d := ⟨((x - p.1) % 65536).toNat, by omega⟩
  have hgt : h < d := by
    have := hx.1; have := hx.2; have := hl.1; have := hl.2; have := hp.1; have := hp.2
    omega
  unfold bitAt
  rw [hdd]
  exact Int.lt_of_lt_of_le hph (p2_mono (by simp; omega))
set_option maxHeartbeats 4000000 in
theorem pack_any (a : Option Addr) (cap B : Nat) (ms : List Int) (w : World) (hl : ms.length ≤ 17592186044416) (hr : RowRd w16L w B a ms.length ms) (hB : B ≤ w.heap.size) (hok : ∀ x ∈ ms, U16 x) :
    Calls Try.prog 11 #[.slice a ms.length cap] w fun e w' => NewP w (pk ms) e w' := by
  obtain ⟨i0, hi0, hz0, hz1, hz2⟩ := info_parts infoP
  have HI := Lib.hid (And.intro hi0 (And.intro hz0 (And.intro hz1 hz2)))
  clear hi0 hz0 hz1 hz2
  have HR := Lib.hid hr
  have HO := Lib.hid hok
  obtain ⟨n, hn⟩ : ∃ n, ms.length = n := ⟨_, rfl⟩
  have HN := Lib.hid hn
  rw [hn] at HR hl ⊢
  have fin : Hid (∀ A N c w1, RowOwn pairL w1 w.heap.size A N c (pk ms) → Below w.heap.size w w1 → NewP w (pk ms) (.returned (.slice A N c)) w1) := by
    intro A N c w1 ho hb
    obtain rfl := ho.1
    exact ⟨A, c, rfl, ho, hb⟩
  clear hr hok hn
  go_enter Try.func11, Try.ntmps11
  go_wp2
  go_loopw [3, 8] (fun sl sk wx => ∃ (k N : Nat) (A : Option Addr) (c : Nat), k ≤ n ∧ sk = .int .i64 k ∧ sl = .slice A N c ∧ Hid (RowOwn pairL wx w.heap.size A N c (pk (ms.take k))) ∧ Hid (Below w.heap.size w wx)) (fun _ sk _ => n - (intOf sk).toNat)
  case atStart => exact ⟨0, 0, none, 0, by omega, rfl, rfl, RowOwn.nil _ _, Below.refl _ _⟩
  case round =>
    obtain ⟨k, N, A, c, hk, rfl, rfl, ho, hb⟩ := hrel
    rename World => wx
    by_cases hlt : k < n
    · obtain ⟨b, off, s, rfl, hbB, hs, c0⟩ := u16_at (HR.out.below (hb.out.mono hB)) hlt
      have HS := Lib.hid (HO.out s (List.mem_of_getElem? hs))
      have HT := Lib.hid (show pk (ms.take (k + 1)) = pkStep (pk (ms.take k)) ((ms.take k).getLastD 0) s from by rw [take_snoc' ms k s hs, pk_snoc])
      clear hs
      have hNk : N ≤ k := by
        have h1 := pk_len (ms.take k)
        rw [ho.out.1] at h1
        have h2 := List.length_take_le k ms
        omega
      rcases Nat.eq_zero_or_pos k with rfl | hk0
      · rw [Nat.add_zero] at c0
        obtain rfl : N = 0 := by omega
        have ho' : Hid (RowOwn pairL wx.drew w.heap.size A 0 c []) := ho
        have HT2 := Lib.hid (show pk (ms.take 1) = [(s, 0)] from HT.out)
        have hS : (fun _ : World => True) wx.drew := trivial
        have hb' : Hid (Below w.heap.size w wx.drew) := hb.out.drew
        go_wp2_with fail
        refine region_seq (fun _ : World => True) [(0, false), (1, false), (2, false), (3, false), (4, false), (5, false), (6, false), (7, false), (8, false), (9, false), (10, false), (11, false), (12, false), (13, false), (14, true), (15, false)] (by kernel_rfl) (by kernel_rfl) rfl (by kernel_rfl) ?_
        generalize wx.drew = wz at *
        iterate 3 (refine seq_read (v := _) rfl (fun _ _ _ h => h) hS (Or.inl ⟨by rfl, fun W hW => by go_simp <;> with_reducible rfl⟩) ?_; simp only [Act.put, List.setIfInBounds_toArray, List.set_cons_zero, List.set_cons_succ])
        iterate 11 (refine seq_read (v := undef) rfl (fun _ _ _ h => h) hS (Or.inr ⟨by rfl, rfl⟩) ?_; simp only [Act.put, List.setIfInBounds_toArray, List.set_cons_zero, List.set_cons_succ])
        refine seq_pass rfl (by rfl) hS ?_; simp only [Act.put, List.setIfInBounds_toArray, List.set_cons_zero, List.set_cons_succ]
        refine seq_read (v := _) rfl (fun _ _ _ h => h) hS (Or.inl ⟨by rfl, fun W hW => by go_simp <;> with_reducible rfl⟩) ?_; simp only [Act.put, List.setIfInBounds_toArray, List.set_cons_zero, List.set_cons_succ]
        refine seq_end ?_
        clear hS c0
        have HB2 : Hid (Below w.heap.size w (wz.alloc (pairO (s, 0)))) := hb'.out.alloc hb'.out.size _
        have HO2 : Hid (RowOwn pairL (wz.alloc (pairO (s, 0))) w.heap.size A 0 c []) := ho'.out.bel ((Below.refl _ _).alloc (Nat.le_refl _) _)
        have R2 := Lib.hid (one_pair wz (s, 0))
        clear ho'
        go_wp2_with (at_builtin; refine wpList_append_keep (L := pairL) (N := 1) rfl (.tmp 29) (.tmp 32) rfl Try.underlying22 HI.out.1 HI.out.2.1 HI.out.2.2.1 HI.out.2.2.2 rfl [(s, 0)] rfl rfl rfl rfl HO2.out R2.out HB2.out.size (by unfold maxLen; omega) (by omega) ?_; intro A4 e4 w4 ho4 hb4 hk4)
        go_roundw
        case rel => exact ⟨1, 1, A4, e4, by omega, by go_num, rfl, by rw [HT2.out]; exact ho4, HB2.out.trans hb4⟩
        case measure => simp [intOf]; omega
      · obtain ⟨k', rfl⟩ : ∃ k', k = k' + 1 := ⟨k - 1, by omega⟩
        obtain ⟨b', off', last, e', hbB', hs', c1⟩ := u16_at (HR.out.below (hb.out.mono hB)) (show k' < n from by omega)
        simp only [Option.some.injEq, Addr.mk.injEq, and_true] at e'
        obtain ⟨rfl, rfl⟩ := e'
        have hgl : (ms.take (k' + 1)).getLastD 0 = last := by rw [take_snoc' ms k' last hs', getLastD_snoc]
        rw [hgl] at HT
        have hne : ms.take (k' + 1) ≠ [] := by rw [take_snoc' ms k' last hs']; simp
        have HK := Lib.hid (pk_ok (ms.take (k' + 1)) (fun x hx => HO.out x (List.mem_of_mem_take hx)))
        obtain ⟨qs, p, hqp⟩ := HK.out.some_ hne
        obtain ⟨h, h16, hd, hp0, hph, _⟩ := HK.out.last qs p hqp
        have hpw := HK.out.words p (by rw [hqp]; simp)
        rw [hgl] at hd
        rw [hqp] at HT ho
        have HLW := Lib.hid (HO.out last (List.mem_of_getElem? hs'))
        clear hs' hgl hne HK hqp
        obtain ⟨g, rfl, hbg, hN, g0, g1, gf, gs⟩ := own_last ho.out
        have HG := Lib.hid gs
        clear gs
        obtain ⟨t, ht⟩ : ∃ t, qs.length = t := ⟨_, rfl⟩
        rw [ht] at hN g0 g1 gf HG
        subst hN
        have hS : (fun W : World => W.cell? ⟨b, off + k', none⟩ = some (.int .u16 last)) wx.drew := c1
        have hb' : Hid (Below w.heap.size w wx.drew) := hb.out.drew
        have g0' : wx.drew.cell? ⟨g, t * 2, none⟩ = some (.int .u16 p.1) := g0
        have g1' : wx.drew.cell? ⟨g, t * 2 + 1, none⟩ = some (.int .u16 p.2) := g1
        have gf' : wx.drew.frozen? ⟨g, t * 2 + 1, none⟩ = false := gf
        have HG' : Hid (∀ y, RowOwn pairL (wx.drew.setCell ⟨g, t * 2 + 1, none⟩ (.int .u16 y)) w.heap.size (some ⟨g, 0, none⟩) (t + 1) c (qs ++ [(p.1, y)])) := HG
        have ho' : Hid (RowOwn pairL wx.drew w.heap.size (some ⟨g, 0, none⟩) (t + 1) c (qs ++ [p])) := ho
        have qt : IntKind.i64.wrap (t : Int) = t := by simp [IntKind.wrap, IntKind.bits, IntKind.signed]; omega
        have qt2 : (t : Int) < t + 1 := by omega
        have qk : IntKind.i64.wrap (k' : Int) = k' := by simp [IntKind.wrap, IntKind.bits, IntKind.signed]; omega
        have qk2 : (k' : Int) < n := by omega
        rcases hj : joins p last s with _ | _
        · have CT := Lib.hid (fun W hW => take_no p g (t * 2) last s W HS.out hW hj)
          have HT2 := Lib.hid (show pk (ms.take (k' + 1 + 1)) = (qs ++ [p]) ++ [(s, 0)] from by rw [HT.out, pkStep_new _ _ _ _ hj])
          clear hj HT hp0 hph hd g0 g1 gf HG ho hb c1 HG' g1' gf'
          go_wp2_with fail
          refine region_seq (fun W : World => W.cell? ⟨b, off + k', none⟩ = some (.int .u16 last)) [(0, false), (1, false), (2, false), (3, false), (4, false), (5, false), (6, false), (7, false), (8, false), (9, false), (10, false), (11, false), (12, false), (13, false), (14, true), (15, false)] (by kernel_rfl) (by kernel_rfl) rfl (by kernel_rfl) ?_
          generalize wx.drew = wz at *
          clear c0
          iterate 14 (refine seq_read (v := _) rfl (fun _ _ _ h => h) hS (Or.inl ⟨by rfl, fun W hW => by go_simp <;> with_reducible rfl⟩) ?_; simp only [Act.put, List.setIfInBounds_toArray, List.set_cons_zero, List.set_cons_succ])
          refine seq_do rfl (fun K hK => ?_)
          go_simp
          refine (CT.out _ g0').mono ?_
          rintro e wq ⟨rfl, rfl⟩
          refine hK.out _ _ _ (fun W h => h) hS ?_
          clear hK K
          refine seq_read (v := _) rfl (fun _ _ _ h => h) hS (Or.inl ⟨by rfl, fun W hW => by go_simp <;> with_reducible rfl⟩) ?_; simp only [Act.put, List.setIfInBounds_toArray, List.set_cons_zero, List.set_cons_succ]
          refine seq_end ?_
          clear hS CT g0' qt qt2 qk qk2
          have HB2 : Hid (Below w.heap.size w (wz.alloc (pairO (s, 0)))) := hb'.out.alloc hb'.out.size _
          have HO2 : Hid (RowOwn pairL (wz.alloc (pairO (s, 0))) w.heap.size (some ⟨g, 0, none⟩) (t + 1) c (qs ++ [p])) := ho'.out.bel ((Below.refl _ _).alloc (Nat.le_refl _) _)
          have R2 := Lib.hid (one_pair wz (s, 0))
          clear ho' hb'
          go_wp2_with (at_builtin; refine wpList_append_keep (L := pairL) (N := t + 1 + 1) rfl (.tmp 29) (.tmp 32) rfl Try.underlying22 HI.out.1 HI.out.2.1 HI.out.2.2.1 HI.out.2.2.2 rfl (qs ++ [p] ++ [(s, 0)]) rfl rfl rfl rfl HO2.out R2.out HB2.out.size (by unfold maxLen; omega) (by omega) ?_; intro A4 e4 w4 ho4 hb4 hk4)
          go_roundw
          case rel => exact ⟨k' + 1 + 1, t + 1 + 1, A4, e4, by omega, by go_num, rfl, by rw [HT2.out]; exact ho4, HB2.out.trans hb4⟩
          case measure => simp [intOf]; omega
        · have hlt2 := join_lt p last s h HS.out HLW.out hpw.1 h16 hd hph hj
          have CT := Lib.hid (fun W h0 h1 h2 => take_yes p g (t * 2) last s W HS.out hpw.1 h0 h1 h2 hj hp0 hlt2)
          have HT2 := Lib.hid (show pk (ms.take (k' + 1 + 1)) = qs ++ [(p.1, p.2 + bitAt p s)] from by rw [HT.out, pkStep_join _ _ _ _ hj])
          clear hj HT hp0 hph hd g0 g1 gf HG ho hb c1 hlt2
          generalize p.2 + bitAt p s = z at *
          go_wp2_with fail
          refine region_seq (fun W : World => W.cell? ⟨b, off + k', none⟩ = some (.int .u16 last)) [(0, false), (1, false), (2, false), (3, false), (4, false), (5, false), (6, false), (7, false), (8, false), (9, false), (10, false), (11, false), (12, false), (13, false), (14, true), (15, false)] (by kernel_rfl) (by kernel_rfl) rfl (by kernel_rfl) ?_
          generalize wx.drew = wz at *
          clear c0
          iterate 14 (refine seq_read (v := _) rfl (fun _ _ _ h => h) hS (Or.inl ⟨by rfl, fun W hW => by go_simp <;> with_reducible rfl⟩) ?_; simp only [Act.put, List.setIfInBounds_toArray, List.set_cons_zero, List.set_cons_succ])
          refine seq_do rfl (fun K hK => ?_)
          go_simp
          refine (CT.out _ g0' g1' gf').mono ?_
          rintro e wq ⟨rfl, hwq⟩
          have HO2 : Hid (RowOwn pairL wq w.heap.size (some ⟨g, 0, none⟩) (t + 1) c (qs ++ [(p.1, z)])) := by rw [hwq]; exact HG'.out z
          have HB2 : Hid (Below w.heap.size w wq) := by rw [hwq]; exact hb'.out.drew.setCell (p := ⟨g, t * 2 + 1, none⟩) hbg _
          have hS2 : wq.cell? ⟨b, off + k', none⟩ = some (.int .u16 last) := by
            have hz : Below w.heap.size wz wq := by rw [hwq]; exact (Below.refl w.heap.size wz).drew.setCell (p := ⟨g, t * 2 + 1, none⟩) hbg _
            exact (hz.cell (p := ⟨b, off + k', none⟩) (show b < w.heap.size from by omega)).trans hS
          clear hwq hS
          have hS : (fun W : World => W.cell? ⟨b, off + k', none⟩ = some (.int .u16 last)) wq := hS2
          clear hS2
          refine hK.out _ _ _ (fun W h => h) hS ?_
          clear hK K CT g0' g1' gf' HG' ho' hb'
          refine seq_read (v := _) rfl (fun _ _ _ h => h) hS (Or.inl ⟨by rfl, fun W hW => by go_simp <;> with_reducible rfl⟩) ?_; simp only [Act.put, List.setIfInBounds_toArray, List.set_cons_zero, List.set_cons_succ]
          refine seq_end ?_
          go_wp2_with fail
          go_roundw
          case rel => exact ⟨k' + 1 + 1, t + 1, _, c, by omega, by go_num, rfl, by rw [HT2.out]; exact HO2, HB2⟩
          case measure => simp [intOf]; omega
    · obtain rfl : k = n := by omega
      go_wp2
      go_ret
      have := ho.out
      rw [List.take_of_length_le (by rw [HN.out]; exact Nat.le_refl _)] at this
      exact fin.out A N c wx this hb
end Go.Proofs.Ytmgpphgiigppgaa.Nck
