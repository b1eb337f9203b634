/- The contracts of the reference's Patch, Keep, Drop on its store with rows of bytes. -/
import Derived.Test.YtdnnfoacpjgloaaGg
set_option maxRecDepth 100000
namespace Go.Proofs.Ytdnnfoacpjgloaa.Stv
open Go.RowKit
open Arn (Slt St OkS Upd hnV hnO HBlk refsV callE keepL dropL freeN liveB live_cases refsV_at refsV_no newL slcL RBlk SHead)
open Pat (hasD applyL pch QBlk PF)
set_option linter.unusedVariables false

theorem rkeep_st (w : World) (base b q c p cB : Nat) (E : List (Option Addr × Nat × Nat)) (L : List Slt) (D : List (List Int)) (s gn M : Int) (h : RSt w base b q c p cB E L D) (hN : 0 < L.length) (hL : L.length ≤ 1024) (hO : OkS M L) (hM : M ≤ 4611686018427387904) :
    Calls Try.prog 14 #[.pointer (some ⟨b, 0, none⟩), hnV s gn] w fun e w' => e = .returned (.int .i64 (callE L s gn)) ∧ RSt w' base b q c p cB E (keepL L s gn) D ∧ Upd (· = q) w w' := by
  refine (Arn.rkeep_any w b q c _ L s gn M h.st hL hO hM).mono ?_
  rintro e w' ⟨rfl, hs, hu⟩
  exact ⟨rfl, h.slots hN hs hu (Arn.keepL_len L s gn), hu⟩
theorem rdrop_st (w : World) (base b q c p cB : Nat) (E : List (Option Addr × Nat × Nat)) (L : List Slt) (D : List (List Int)) (s gn M : Int) (h : RSt w base b q c p cB E L D) (hN : 0 < L.length) (hL : L.length ≤ 1024) (hO : OkS M L) (hM : M ≤ 4611686018427387904) :
    Calls Try.prog 16 #[.pointer (some ⟨b, 0, none⟩), hnV s gn] w fun e w' => e = .returned (.int .i64 (callE L s gn)) ∧ RSt w' base b q c p cB E (dropL L s gn) D ∧ Upd (· = q) w w' := by
  refine (Arn.rdrop_any w b q c _ L s gn M h.st hL hO hM).mono ?_
  rintro e w' ⟨rfl, hs, hu⟩
  exact ⟨rfl, h.slots hN hs hu (Arn.dropL_len L s gn), hu⟩

/-- What Patch leaves and tells of a live slot with one reference. -/
theorem patch_no {L : List Slt} {D : List (List Int)} {k : Nat} {x : Slt} {g : Int} {d : List Int} (q t r f : Int) (hx : L[k]? = some x) (hl : liveB L k g = true) (h1 : x.2 = 1) (hd : D[k]? = some d) (hn : hasD d = false) : patchE L D k g = 1 ∧ patchD L D k g q t r f = D := by
  rw [patchE, patchD, hl, if_pos rfl, Int.toNat_natCast, getD_of' hd, refsV_at hx hl, if_pos h1, if_pos (show true = true ∧ x.2 = 1 from ⟨rfl, h1⟩), hn]
  exact ⟨rfl, by rw [applyL, hn, if_neg (by decide), set_same hd]⟩
theorem patch_yes {L : List Slt} {D : List (List Int)} {k : Nat} {x : Slt} {g : Int} {d : List Int} (q t r f : Int) (hx : L[k]? = some x) (hl : liveB L k g = true) (h1 : x.2 = 1) (hd : D[k]? = some d) (hn : hasD d = true) : patchE L D k g = 0 ∧ patchD L D k g q t r f = D.set k (applyL d q t r f) := by
  rw [patchE, patchD, hl, if_pos rfl, Int.toNat_natCast, getD_of' hd, refsV_at hx hl, if_pos h1, if_pos (show true = true ∧ x.2 = 1 from ⟨rfl, h1⟩), hn]
  exact ⟨rfl, rfl⟩
theorem patch_many {L : List Slt} {D : List (List Int)} {k : Nat} {x : Slt} {g : Int} (q t r f : Int) (hx : L[k]? = some x) (hl : liveB L k g = true) (h1 : x.2 ≠ 1) : patchE L D k g = 11 ∧ patchD L D k g q t r f = D := by
  rw [patchE, patchD, hl, if_pos rfl, refsV_at hx hl, if_neg h1, if_neg (fun e => h1 e.2)]
  exact ⟨rfl, rfl⟩
theorem patch_dead {L : List Slt} {D : List (List Int)} {s g : Int} (q t r f : Int) (hl : liveB L s g = false) : patchE L D s g = 7 ∧ patchD L D s g q t r f = D := by
  rw [patchE, patchD, hl, if_neg (by decide), if_neg (by simp)]
  exact ⟨rfl, rfl⟩

set_option maxHeartbeats 4000000 in
theorem rpatch_st (w : World) (base b q c p cB : Nat) (E : List (Option Addr × Nat × Nat)) (L : List Slt) (D : List (List Int)) (s gn M u t r f : Int) (h : RSt w base b q c p cB E L D) (hN : 0 < L.length) (hL : L.length ≤ 1024) (hO : OkS M L) (hbs : base ≤ w.heap.size) (hp : PF u t r f) :
    Calls Try.prog 18 #[.pointer (some ⟨b, 0, none⟩), hnV s gn, pch u t r f] w fun e w' => e = .returned (.int .i64 (patchE L D s gn)) ∧ (∃ E', RSt w' base b q c p cB E' L (patchD L D s gn u t r f)) ∧ Upd (· = p) w w' := by
  have CL : Hid (∀ W, Below w.heap.size w W → Calls Try.prog 35 #[.pointer (some ⟨b, 0, none⟩), hnV s gn] W fun e w' => e = .returned (.bool (liveB L s gn)) ∧ Below W.heap.size W w') := fun W hW => Arn.rlive_any W b q c _ L s gn (h.bel hW).st hL
  have hB1 := (Below.refl w.heap.size w).alloc (Nat.le_refl _) (hnO s gn)
  have hB := hB1.alloc hB1.size (.cells #[.int .u16 u, .int .u32 t, .int .u32 r, .int .u16 f] 35)
  have hD := (HBlk.new w s gn).bel ((Below.refl (w.alloc (hnO s gn)).heap.size _).alloc (Nat.le_refl _) (.cells #[.int .u16 u, .int .u32 t, .int .u32 r, .int .u16 f] 35)) (by simp)
  have hQ := QBlk.new (w.alloc (hnO s gn)) u t r f
  rw [show (w.alloc (hnO s gn)).heap.size = w.heap.size + 1 from by simp] at hQ
  have hg := h.lt hN
  generalize hw1 : (w.alloc (hnO s gn)).alloc (.cells #[.int .u16 u, .int .u32 t, .int .u32 r, .int .u16 f] 35) = w1 at hB hD hQ
  have c0 := hD.c0
  have c1 := hD.c1
  have HB := Lib.hid hB
  have HD := Lib.hid hD
  have HQ := Lib.hid hQ
  have H := Lib.hid h
  have HG := Lib.hid hg
  clear hB hD h hB1 hQ hg
  rcases live_cases L s gn with hl | ⟨k, x, rfl, hx, hp0, rfl, hl⟩
  · obtain ⟨e1, e2⟩ := patch_dead (D := D) u t r f hl
    rw [e1, e2]
    rw [hl] at CL
    clear hl e1 e2
    go_enter Try.func18, Try.ntmps18
    go_wp2_with fail
    refine (CL.out _ HB.out).mono ?_
    rintro e w2 ⟨rfl, hb2⟩
    have H2 := Lib.hid (HB.out.trans (hb2.mono HB.out.size))
    clear hb2 CL
    go_wp2_with fail
    go_ret
    exact ⟨rfl, ⟨E, H.out.bel H2.out⟩, .of H2.out⟩
  · have hkl : k < L.length := (List.getElem?_eq_some_iff.1 hx).1
    obtain ⟨⟨ea, en, ec⟩, d, he, hd, ho, hdl, hce⟩ := H.out.elem hkl
    simp only at ho hce
    have hdn := ho.len
    have hnc := ho.2.2.1
    obtain ⟨N, hNN⟩ : ∃ N, L.length = N := ⟨_, rfl⟩
    have hkN : k < N := by omega
    have qN : decide (N ≤ k) = false := by simp; omega
    have HO := Lib.hid ho
    have HCE := Lib.hid hce
    have CA : Hid (∀ W, Below w.heap.size w W → Calls Try.prog 27 #[.slice ea en ec, pch u t r f] W (PairRow W (applyL d u t r f) (hasD d))) := fun W hW => by
      have hr := (HO.out.below hW (Nat.le_refl _)).rd
      exact Pat.rapply_any ea en ec W.heap.size d u t r f W (by omega) hnc hr (Nat.le_refl _) hp
    clear ho hce
    rw [hl] at CL
    -- the walk up to the reading of Refs
    have f0 : ∀ W, (HBlk W w.heap.size k x.1 ∧ QBlk W (w.heap.size + 1) u t r f ∧ Below w.heap.size w W) → W.cell? ⟨w.heap.size, 0, none⟩ = some (.int .i64 (k : Int)) := fun W h => h.1.c0
    have fq0 : ∀ W, (HBlk W w.heap.size k x.1 ∧ QBlk W (w.heap.size + 1) u t r f ∧ Below w.heap.size w W) → W.cell? ⟨w.heap.size + 1, 0, none⟩ = some (.int .u16 u) := fun W h => h.2.1.c0
    have fq1 : ∀ W, (HBlk W w.heap.size k x.1 ∧ QBlk W (w.heap.size + 1) u t r f ∧ Below w.heap.size w W) → W.cell? ⟨w.heap.size + 1, 1, none⟩ = some (.int .u32 t) := fun W h => h.2.1.c1
    have fq2 : ∀ W, (HBlk W w.heap.size k x.1 ∧ QBlk W (w.heap.size + 1) u t r f ∧ Below w.heap.size w W) → W.cell? ⟨w.heap.size + 1, 2, none⟩ = some (.int .u32 r) := fun W h => h.2.1.c2
    have fq3 : ∀ W, (HBlk W w.heap.size k x.1 ∧ QBlk W (w.heap.size + 1) u t r f ∧ Below w.heap.size w W) → W.cell? ⟨w.heap.size + 1, 3, none⟩ = some (.int .u16 f) := fun W h => h.2.1.c3
    have fl : ∀ W, (HBlk W w.heap.size k x.1 ∧ QBlk W (w.heap.size + 1) u t r f ∧ Below w.heap.size w W) → W.cell? ⟨b, 0, none⟩ = some (.slice (some ⟨q, 0, none⟩) N c) := fun W h => by rw [← hNN]; exact (H.out.bel h.2.2).st.blk.c0
    have fb : ∀ W, (HBlk W w.heap.size k x.1 ∧ QBlk W (w.heap.size + 1) u t r f ∧ Below w.heap.size w W) → W.cell? ⟨b, 1, none⟩ = some (.slice (some ⟨p, 0, none⟩) N cB) := fun W h => by rw [← hNN]; exact (H.out.bel h.2.2).st.blk.c1
    have fr : ∀ W, (HBlk W w.heap.size k x.1 ∧ QBlk W (w.heap.size + 1) u t r f ∧ Below w.heap.size w W) → W.cell? ⟨q, k * 2 + 1, none⟩ = some (.int .i64 x.2) := fun W h => (H.out.bel h.2.2).st.row.refs hx
    have fe : ∀ W, (HBlk W w.heap.size k x.1 ∧ QBlk W (w.heap.size + 1) u t r f ∧ Below w.heap.size w W) → W.cell? ⟨p, k, none⟩ = some (.slice ea en ec) := fun W h => by
      rw [h.2.2.cell (p := ⟨p, k, none⟩) HG.out.2.2]; exact HCE.out
    by_cases h1 : x.2 = 1
    · have q1 : (x.2 != 1) = false := by simp [h1]
      have HPB : Hid (Bytes d) := HO.out.bytes
      have HLN : Hid ((applyL d u t r f).length = d.length) := apply_len HPB.out hp
      rcases hok : hasD d with _ | _
      · obtain ⟨e1, e2⟩ := patch_no u t r f hx hl h1 hd hok
        rw [e1, e2]
        rw [hok] at CA
        clear hl hp0 h1 hd hx e1 e2 hok
        go_enter Try.func18, Try.ntmps18
        go_wp2_with fail
        refine (CL.out _ HB.out).mono ?_
        rintro e w2 ⟨rfl, hb2⟩
        have H2 := Lib.hid (HB.out.trans (hb2.mono HB.out.size))
        have HD2 := Lib.hid (HD.out.bel hb2 HD.out.lt)
        have HQ2 := Lib.hid (HQ.out.below hb2 HQ.out.lt)
        clear hb2 CL c0 c1
        go_wp2_with fail
        have hS : HBlk w2.drew w.heap.size k x.1 ∧ QBlk w2.drew (w.heap.size + 1) u t r f ∧ Below w.heap.size w w2.drew := ⟨HD2.out, HQ2.out, H2.out.drew⟩
        refine region_seq (fun W => HBlk W w.heap.size k x.1 ∧ QBlk W (w.heap.size + 1) u t r f ∧ Below w.heap.size w W) [(0, false), (1, false), (2, false), (3, false), (4, false), (5, false), (6, false), (7, false), (8, false), (9, false)] (by kernel_rfl) (by kernel_rfl) rfl (by kernel_rfl) ?_
        iterate 10 (refine seq_read (v := _) rfl (fun _ _ _ h => h) hS (Or.inl ⟨by rfl, fun W hW => by go_simp <;> with_reducible rfl⟩) ?_; simp only [Act.put, List.setIfInBounds_toArray, List.set_cons_zero, List.set_cons_succ])
        refine seq_end ?_
        go_wp2_with fail
        have hS : HBlk w2.drew.drew w.heap.size k x.1 ∧ QBlk w2.drew.drew (w.heap.size + 1) u t r f ∧ Below w.heap.size w w2.drew.drew := ⟨HD2.out, HQ2.out, H2.out.drew.drew⟩
        refine region_seq (fun W => HBlk W w.heap.size k x.1 ∧ QBlk W (w.heap.size + 1) u t r f ∧ Below w.heap.size w W) [(0, false), (1, false), (2, false), (3, false), (4, false), (5, false), (6, false), (7, false), (8, false), (9, true), (10, false), (11, false), (12, false), (13, false), (14, false)] (by kernel_rfl) (by kernel_rfl) rfl (by kernel_rfl) ?_
        iterate 9 (refine seq_read (v := _) rfl (fun _ _ _ h => h) hS (Or.inl ⟨by rfl, fun W hW => by go_simp <;> with_reducible rfl⟩) ?_; simp only [Act.put, List.setIfInBounds_toArray, List.set_cons_zero, List.set_cons_succ])
        refine seq_do rfl (fun K hK => ?_)
        go_simp
        refine (CA.out _ hS.2.2).mono ?_
        rintro e w3 ⟨A3, c3, rfl, ho3, hb3⟩
        have hS3 : HBlk w3 w.heap.size k x.1 ∧ QBlk w3 (w.heap.size + 1) u t r f ∧ Below w.heap.size w w3 := ⟨hS.1.bel hb3 hS.1.lt, hS.2.1.below hb3 hS.2.1.lt, hS.2.2.trans (hb3.mono hS.2.2.size)⟩
        clear hS
        have hS := hS3
        refine hK.out _ _ _ (fun W h => h) hS ?_
        clear hK K CA hb3 hS3 ho3
        iterate 5 (refine seq_read (v := _) rfl (fun _ _ _ h => h) hS (Or.inl ⟨by rfl, fun W hW => by go_simp <;> with_reducible rfl⟩) ?_; simp only [Act.put, List.setIfInBounds_toArray, List.set_cons_zero, List.set_cons_succ])
        refine seq_end ?_
        have H3 := Lib.hid hS.2.2
        clear hS f0 fq0 fq1 fq2 fq3 fl fb fr fe
        go_wp2_with fail
        go_ret
        exact ⟨rfl, ⟨E, H.out.bel H3.out⟩, .of H3.out⟩
      · obtain ⟨e1, e2⟩ := patch_yes u t r f hx hl h1 hd hok
        rw [e1, e2]
        rw [hok] at CA
        have HL3 : Hid ((applyL d u t r f).length ≤ 512) := by show _ ≤ _; rw [HLN.out]; exact hdl
        clear hl hp0 h1 hd hx e1 e2 hok HLN
        generalize applyL d u t r f = d' at CA HL3 ⊢
        go_enter Try.func18, Try.ntmps18
        go_wp2_with fail
        refine (CL.out _ HB.out).mono ?_
        rintro e w2 ⟨rfl, hb2⟩
        have H2 := Lib.hid (HB.out.trans (hb2.mono HB.out.size))
        have HD2 := Lib.hid (HD.out.bel hb2 HD.out.lt)
        have HQ2 := Lib.hid (HQ.out.below hb2 HQ.out.lt)
        clear hb2 CL c0 c1
        go_wp2_with fail
        have hS : HBlk w2.drew w.heap.size k x.1 ∧ QBlk w2.drew (w.heap.size + 1) u t r f ∧ Below w.heap.size w w2.drew := ⟨HD2.out, HQ2.out, H2.out.drew⟩
        refine region_seq (fun W => HBlk W w.heap.size k x.1 ∧ QBlk W (w.heap.size + 1) u t r f ∧ Below w.heap.size w W) [(0, false), (1, false), (2, false), (3, false), (4, false), (5, false), (6, false), (7, false), (8, false), (9, false)] (by kernel_rfl) (by kernel_rfl) rfl (by kernel_rfl) ?_
        iterate 10 (refine seq_read (v := _) rfl (fun _ _ _ h => h) hS (Or.inl ⟨by rfl, fun W hW => by go_simp <;> with_reducible rfl⟩) ?_; simp only [Act.put, List.setIfInBounds_toArray, List.set_cons_zero, List.set_cons_succ])
        refine seq_end ?_
        go_wp2_with fail
        have hS : HBlk w2.drew.drew w.heap.size k x.1 ∧ QBlk w2.drew.drew (w.heap.size + 1) u t r f ∧ Below w.heap.size w w2.drew.drew := ⟨HD2.out, HQ2.out, H2.out.drew.drew⟩
        refine region_seq (fun W => HBlk W w.heap.size k x.1 ∧ QBlk W (w.heap.size + 1) u t r f ∧ Below w.heap.size w W) [(0, false), (1, false), (2, false), (3, false), (4, false), (5, false), (6, false), (7, false), (8, false), (9, true), (10, false), (11, false), (12, false), (13, false), (14, false)] (by kernel_rfl) (by kernel_rfl) rfl (by kernel_rfl) ?_
        iterate 9 (refine seq_read (v := _) rfl (fun _ _ _ h => h) hS (Or.inl ⟨by rfl, fun W hW => by go_simp <;> with_reducible rfl⟩) ?_; simp only [Act.put, List.setIfInBounds_toArray, List.set_cons_zero, List.set_cons_succ])
        refine seq_do rfl (fun K hK => ?_)
        go_simp
        refine (CA.out _ hS.2.2).mono ?_
        rintro e w3 ⟨A3, c3, rfl, ho3, hb3⟩
        have HO3 : Hid (Own w3 base A3 d'.length c3 d') := ho3.lower (Nat.le_trans hbs hS.2.2.size)
        have hS3 : HBlk w3 w.heap.size k x.1 ∧ QBlk w3 (w.heap.size + 1) u t r f ∧ Below w.heap.size w w3 := ⟨hS.1.bel hb3 hS.1.lt, hS.2.1.below hb3 hS.2.1.lt, hS.2.2.trans (hb3.mono hS.2.2.size)⟩
        clear hS
        have hS := hS3
        refine hK.out _ _ _ (fun W h => h) hS ?_
        clear hK K CA hb3 hS3 ho3
        iterate 5 (refine seq_read (v := _) rfl (fun _ _ _ h => h) hS (Or.inl ⟨by rfl, fun W hW => by go_simp <;> with_reducible rfl⟩) ?_; simp only [Act.put, List.setIfInBounds_toArray, List.set_cons_zero, List.set_cons_succ])
        refine seq_end ?_
        have HX := Lib.hid hS
        clear hS
        go_wp2_with fail
        obtain ⟨wd, hwd⟩ : ∃ wd, w3.drew = wd := ⟨_, rfl⟩
        have hS : HBlk wd w.heap.size k x.1 ∧ QBlk wd (w.heap.size + 1) u t r f ∧ Below w.heap.size w wd := hwd ▸ ⟨HX.out.1, HX.out.2.1, HX.out.2.2.drew⟩
        have HOd : Hid (Own wd base A3 d'.length c3 d') := hwd ▸ HO3.out
        refine region_seqX (fun W => HBlk W w.heap.size k x.1 ∧ QBlk W (w.heap.size + 1) u t r f ∧ Below w.heap.size w W) 8 [(0, false), (1, false), (2, false), (3, false), (4, false), (5, false), (6, false), (7, false), (8, true)] (by kernel_rfl) (by kernel_rfl) rfl (by kernel_rfl) ?_
        rw [hwd]
        iterate 8 (refine seqX_read (v := _) rfl (fun _ _ _ h => h) hS (Or.inl ⟨by rfl, fun W hW => by go_simp <;> with_reducible rfl⟩) ?_; simp only [Act.put, List.setIfInBounds_toArray, List.set_cons_zero, List.set_cons_succ])
        have HS4 := Lib.hid (H.out.bel hS.2.2)
        obtain ⟨e', d2, -, -, -, -, hce⟩ := HS4.out.elem hkl
        obtain ⟨T, hpb, -⟩ := HS4.out.blkP hN
        have hfz := frozen_of_row wd p k _ _ hpb
        obtain ⟨hst, hu6⟩ := HS4.out.store hN hkl HOd.out HL3.out
        have HST := Lib.hid hst
        have HU6 : Hid (Upd (· = p) w (wd.setCell ⟨p, k, none⟩ (.slice A3 d'.length c3))) := (Upd.of hS.2.2).trans hu6
        clear hst hu6 hpb hS hwd f0 fq0 fq1 fq2 fq3 fl fb fr fe
        refine seqX_last rfl (fun K hK => ?_)
        go_simp
        refine hK.out _ _ ?_
        clear hK K hce hfz
        go_wp2_with fail
        go_ret
        exact ⟨rfl, ⟨_, HST.out⟩, HU6.out⟩
    · obtain ⟨e1, e2⟩ := patch_many (D := D) u t r f hx hl h1
      rw [e1, e2]
      have q1 : (x.2 != 1) = true := by simp [h1]
      clear hl hp0 h1 hd hx e1 e2
      go_enter Try.func18, Try.ntmps18
      go_wp2_with fail
      refine (CL.out _ HB.out).mono ?_
      rintro e w2 ⟨rfl, hb2⟩
      have H2 := Lib.hid (HB.out.trans (hb2.mono HB.out.size))
      have HD2 := Lib.hid (HD.out.bel hb2 HD.out.lt)
      have HQ2 := Lib.hid (HQ.out.below hb2 HQ.out.lt)
      clear hb2 CL c0 c1
      go_wp2_with fail
      have hS : HBlk w2.drew w.heap.size k x.1 ∧ QBlk w2.drew (w.heap.size + 1) u t r f ∧ Below w.heap.size w w2.drew := ⟨HD2.out, HQ2.out, H2.out.drew⟩
      refine region_seq (fun W => HBlk W w.heap.size k x.1 ∧ QBlk W (w.heap.size + 1) u t r f ∧ Below w.heap.size w W) [(0, false), (1, false), (2, false), (3, false), (4, false), (5, false), (6, false), (7, false), (8, false), (9, false)] (by kernel_rfl) (by kernel_rfl) rfl (by kernel_rfl) ?_
      iterate 10 (refine seq_read (v := _) rfl (fun _ _ _ h => h) hS (Or.inl ⟨by rfl, fun W hW => by go_simp <;> with_reducible rfl⟩) ?_; simp only [Act.put, List.setIfInBounds_toArray, List.set_cons_zero, List.set_cons_succ])
      refine seq_end ?_
      clear hS f0 fq0 fq1 fq2 fq3 fl fb fr fe
      go_wp2_with fail
      go_ret
      exact ⟨rfl, ⟨E, H.out.bel H2.out.drew⟩, .of H2.out.drew⟩
end Go.Proofs.Ytdnnfoacpjgloaa.Stv
