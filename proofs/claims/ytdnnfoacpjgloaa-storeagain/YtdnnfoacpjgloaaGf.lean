/- The reference's Store with its rows of bytes; the contracts of its New, Bytes. -/
import Derived.Test.YtdnnfoacpjgloaaGe
import Derived.Test.YtdnnfoacpjgloaaEl
import Derived.Test.YtdnnfoacpjgloaaNi
set_option maxRecDepth 100000
namespace Go.Proofs.Ytdnnfoacpjgloaa.Stv
open Go.RowKit
open Arn (Slt St OkS Upd hnV hnO HBlk refsV callE keepL dropL freeN liveB live_cases refsV_at refsV_no newL slcL RBlk SHead)
open Pat (hasD applyL pch QBlk PF)
set_option linter.unusedVariables false

/-- A row of bytes of the call's own stays where no block of bytes is other. -/
theorem own_upd {S : Nat → Prop} {w w' : World} {base n c : Nat} {A : Option Addr} {xs : List Int} (h : Own w base A n c xs) (hu : Upd S w w') (hS : ∀ k cs fz, S k → w.heap[k]? ≠ some (.cells cs 5 fz)) : Own w' base A n c xs := by
  obtain ⟨h1, h2, h3, h4, h5⟩ := h
  refine ⟨h1, h2, h3, h4, ?_⟩
  rcases h5 with h5 | ⟨g, T, e, hg, hk, hl⟩
  · exact .inl h5
  · exact .inr ⟨g, T, e, hg, hu.keep hk (fun hs => hS g _ _ hs hk), hl⟩
/-- The reference's store at block b: its slots at q, its row of slices at p, each of them bytes of the call's own. -/
structure RSt (w : World) (base b q c p cB : Nat) (E : List (Option Addr × Nat × Nat)) (L : List Slt) (D : List (List Int)) : Prop where
  st : St w b q c (.slice (some ⟨p, 0, none⟩) L.length cB) L
  row : RowOwn slcL w base (some ⟨p, 0, none⟩) L.length cB E
  len : D.length = L.length
  each : ∀ (k : Nat) e d, E[k]? = some e → D[k]? = some d → Own w base e.1 e.2.1 e.2.2 d ∧ d.length ≤ 512
section
variable {w w' : World} {base b q c p cB k : Nat} {E : List (Option Addr × Nat × Nat)} {L : List Slt} {D : List (List Int)} {S : Nat → Prop}
theorem RSt.blkP (h : RSt w base b q c p cB E L D) (hN : 0 < L.length) : ∃ T, w.heap[p]? = some (.cells (flat slcL E ++ T).toArray 36 (0, 0)) ∧ base ≤ p := by
  rcases h.row.2.2.2 with ⟨e, -⟩ | ⟨g, T, e, hg, hk, -⟩
  · cases e
  · obtain rfl : p = g := by simpa using e
    exact ⟨T, hk, hg⟩
theorem RSt.lt (h : RSt w base b q c p cB E L D) (hN : 0 < L.length) : b < w.heap.size ∧ q < w.heap.size ∧ p < w.heap.size := by
  obtain ⟨T, hk, -⟩ := h.blkP hN
  exact ⟨h.st.lt.1, h.st.lt.2, lt_of_some hk⟩
theorem RSt.ne (h : RSt w base b q c p cB E L D) (hN : 0 < L.length) : b ≠ q ∧ b ≠ p ∧ q ≠ p := by
  obtain ⟨T, hk, -⟩ := h.blkP hN
  refine ⟨h.st.ne, ?_, ?_⟩
  · rintro rfl
    have := Eq.trans (Eq.symm h.st.blk) hk
    simp at this
  · rintro rfl
    obtain ⟨T', hr⟩ := h.st.row
    have := hr.symm.trans hk
    simp at this
theorem RSt.bel (h : RSt w base b q c p cB E L D) (hb : Below w.heap.size w w') : RSt w' base b q c p cB E L D :=
  ⟨h.st.bel hb, h.row.bel hb, h.len, fun k e d he hd => ⟨(h.each k e d he hd).1.below hb (Nat.le_refl _), (h.each k e d he hd).2⟩⟩
theorem RSt.upd (h : RSt w base b q c p cB E L D) (hu : Upd S w w') (hb : ¬ S b) (hq : ¬ S q) (hp : ¬ S p) (hS : ∀ k cs fz, S k → w.heap[k]? ≠ some (.cells cs 5 fz)) : RSt w' base b q c p cB E L D :=
  ⟨h.st.upd hu hb hq, h.row.upd hu (fun k hk => by obtain rfl : p = k := (by simpa using hk); exact hp), h.len, fun k e d he hd => ⟨own_upd (h.each k e d he hd).1 hu hS, (h.each k e d he hd).2⟩⟩
theorem RSt.elem (h : RSt w base b q c p cB E L D) (hk : k < L.length) : ∃ e d, E[k]? = some e ∧ D[k]? = some d ∧ Own w base e.1 e.2.1 e.2.2 d ∧ d.length ≤ 512 ∧ w.cell? ⟨p, k, none⟩ = some (.slice e.1 e.2.1 e.2.2) := by
  obtain ⟨b', off, e, he, -, hx, hc⟩ := Arn.row_at h.row.rd hk
  simp only [Option.some.injEq, Addr.mk.injEq, and_true] at he
  obtain ⟨rfl, rfl⟩ := he
  have hd := List.getElem?_eq_getElem (show k < D.length by rw [h.len]; exact hk)
  have := hc 0 _ rfl
  rw [show slcL.s = 1 from rfl, Nat.zero_add, Nat.mul_one, Nat.add_zero] at this
  exact ⟨e, _, hx, hd, (h.each k e _ hx hd).1, (h.each k e _ hx hd).2, this⟩
/-- Behind a call on its slots. -/
theorem RSt.slots (h : RSt w base b q c p cB E L D) (hN : 0 < L.length) {L' : List Slt} (hs : St w' b q c (.slice (some ⟨p, 0, none⟩) L.length cB) L') (hu : Upd (· = q) w w') (hl : L'.length = L.length) : RSt w' base b q c p cB E L' D := by
  refine ⟨by rw [hl]; exact hs, ?_, by rw [hl]; exact h.len, fun k e d he hd => ⟨own_upd (h.each k e d he hd).1 hu ?_, (h.each k e d he hd).2⟩⟩
  · rw [hl]
    exact h.row.upd hu fun k hk => by obtain rfl : p = k := (by simpa using hk); exact Ne.symm (h.ne hN).2.2
  · rintro k cs fz rfl hk
    obtain ⟨T, hr⟩ := h.st.row
    have := hr.symm.trans hk
    simp at this
/-- Behind a store of other bytes. -/
theorem RSt.store (h : RSt w base b q c p cB E L D) (hN : 0 < L.length) {A : Option Addr} {n m : Nat} {xs : List Int} (hk : k < L.length) (ho : Own w base A n m xs) (hx : xs.length ≤ 512) :
    RSt (w.setCell ⟨p, k, none⟩ (.slice A n m)) base b q c p cB (E.set k (A, n, m)) L (D.set k xs) ∧ Upd (· = p) w (w.setCell ⟨p, k, none⟩ (.slice A n m)) := by
  have hu : Upd (· = p) w (w.setCell ⟨p, k, none⟩ (.slice A n m)) := (Upd.refl (· = p) w).setCell (b := p) (i := k) (.inl rfl) _
  obtain ⟨T, hp, -⟩ := h.blkP hN
  have hS : ∀ j cs fz, j = p → w.heap[j]? ≠ some (.cells cs 5 fz) := by
    rintro j cs fz rfl hj
    have := hp.symm.trans hj
    simp at this
  obtain ⟨e, d, he, hd, -, -, -⟩ := h.elem hk
  have hrow := (Arn.own_set (j := 0) (y := (A, n, m)) h.row he (.slice A n m) (by decide) rfl).1
  rw [show slcL.s = 1 from rfl, Nat.mul_one, Nat.add_zero] at hrow
  refine ⟨⟨h.st.upd hu (h.ne hN).2.1 (h.ne hN).2.2, hrow, by rw [List.length_set]; exact h.len, fun j e' d' he' hd' => ?_⟩, hu⟩
  have hel : k < E.length := (List.getElem?_eq_some_iff.1 he).1
  have hdl : k < D.length := (List.getElem?_eq_some_iff.1 hd).1
  rw [List.getElem?_set] at he' hd'
  by_cases ej : k = j
  · subst ej
    rw [if_pos rfl, if_pos hel] at he'
    rw [if_pos rfl, if_pos hdl] at hd'
    obtain rfl := Option.some.inj he'
    obtain rfl := Option.some.inj hd'
    exact ⟨own_upd ho hu hS, hx⟩
  · rw [if_neg ej] at he' hd'
    exact ⟨own_upd (h.each j e' d' he' hd').1 hu hS, (h.each j e' d' he' hd').2⟩
end

/-- A new store of the reference's. -/
def RetRS (w : World) (n : Int) (e : Ending) (w' : World) : Prop := ∃ b q c p cB, e = .returned (.pointer (some ⟨b, 0, none⟩)) ∧ RSt w' w.heap.size b q c p cB (List.replicate (newL n).length (none, 0, 0)) (newL n) (List.replicate (newL n).length []) ∧ w.heap.size ≤ b ∧ w.heap.size ≤ q ∧ w.heap.size ≤ p ∧ Below w.heap.size w w'
theorem rnew_st (w : World) (n : Int) (hw1 : -9223372036854775808 ≤ n) (hw2 : n ≤ 9223372036854775807) : Calls Try.prog 9 #[.int .i64 n] w (RetRS w n) := by
  have hN : 0 < (newL n).length := by have := Arn.newL_len n; omega
  refine (Arn.rnew_any w n hw1 hw2).mono ?_
  rintro e w' ⟨b, g, c, B, cB, rfl, hs, hr, hb, hbg, hB⟩
  obtain ⟨p, rfl, hp, -, -⟩ := Arn.own_blk hr hN
  refine ⟨b, g, c, p, cB, rfl, ⟨hs, ⟨hr.1, hr.2.1, hr.2.2.1, ?_⟩, by rw [List.length_replicate], fun k e d he hd => ?_⟩, hb, by omega, by omega, hB⟩
  · rcases hr.2.2.2 with h | ⟨g', T, e, hg', h2⟩
    · exact .inl h
    · exact .inr ⟨g', T, e, by omega, h2⟩
  · rw [List.getElem?_replicate] at he hd
    split at he
    · rename_i hk
      rw [if_pos hk] at hd
      obtain rfl := Option.some.inj he
      obtain rfl := Option.some.inj hd
      exact ⟨Own.nil _ _, by simp⟩
    · cases he

set_option maxHeartbeats 4000000 in
theorem rbytes_st (w : World) (base b q c p cB : Nat) (E : List (Option Addr × Nat × Nat)) (L : List Slt) (D : List (List Int)) (s gn : Int) (h : RSt w base b q c p cB E L D) (hN : 0 < L.length) (hL : L.length ≤ 1024) :
    Calls Try.prog 20 #[.pointer (some ⟨b, 0, none⟩), hnV s gn] w (Rtp.RetR w (bytesV L D s gn) (callE L s gn)) := by
  have CL : Hid (∀ W, Below w.heap.size w W → Calls Try.prog 35 #[.pointer (some ⟨b, 0, none⟩), hnV s gn] W fun e w' => e = .returned (.bool (liveB L s gn)) ∧ Below W.heap.size W w') := fun W hW => Arn.rlive_any W b q c _ L s gn (h.bel hW).st hL
  have hB := (Below.refl w.heap.size w).alloc (Nat.le_refl _) (hnO s gn)
  have hD := HBlk.new w s gn
  generalize hw1 : w.alloc (hnO s gn) = w1 at hB hD
  have c0 := hD.c0
  have c1 := hD.c1
  have HB := Lib.hid hB
  have HD := Lib.hid hD
  have H := Lib.hid h
  clear hB hD h
  rcases live_cases L s gn with hl | ⟨k, x, rfl, hx, hp, rfl, hl⟩
  · rw [hl] at CL
    rw [bytesV, hl, if_neg (by decide), Arn.callE_no hl]
    clear hl
    go_enter Try.func20, Try.ntmps20
    go_wp2_with fail
    refine (CL.out _ HB.out).mono ?_
    rintro e w2 ⟨rfl, hb2⟩
    have H2 := Lib.hid (HB.out.trans (hb2.mono HB.out.size))
    clear hb2 CL
    go_wp2_with fail
    go_ret2
    exact ⟨none, 0, rfl, Own.nil _ _, H2.out⟩
  · have hkl : k < L.length := (List.getElem?_eq_some_iff.1 hx).1
    obtain ⟨N, hNN⟩ : ∃ N, L.length = N := ⟨_, rfl⟩
    have hkN : k < N := by omega
    have qN : decide (N ≤ k) = false := by simp; omega
    obtain ⟨⟨ea, en, ec⟩, d, he, hd, ho, hdl, hce⟩ := H.out.elem hkl
    simp only at ho hce
    have hdn := ho.len
    rw [hl] at CL
    rw [bytesV, hl, if_pos rfl, Int.toNat_natCast, getD_of' hd, Arn.callE_yes hl]
    have fin0 : Hid (∀ A cc w4, Own w4 w.heap.size A en cc d → Below w.heap.size w w4 → Rtp.RetR w d 0 (.returned (.tuple #[.slice A en cc, .int .i64 0])) w4) := by
      intro A cc w4 ho hb
      subst hdn
      exact ⟨A, cc, rfl, ho, hb⟩
    have HO := Lib.hid ho
    have HCE := Lib.hid hce
    clear hl hp ho hce
    go_enter Try.func20, Try.ntmps20
    go_wp2_with fail
    refine (CL.out _ HB.out).mono ?_
    rintro e w2 ⟨rfl, hb2⟩
    have H2 := Lib.hid (HB.out.trans (hb2.mono HB.out.size))
    have HD2 := Lib.hid (HD.out.bel hb2 HD.out.lt)
    have HS2 := Lib.hid (H.out.bel H2.out)
    have HP := Lib.hid (H.out.lt (by omega))
    clear hb2 CL c0 c1
    have f0 : ∀ W, Below w2.heap.size w2 W → W.cell? ⟨w.heap.size, 0, none⟩ = some (.int .i64 (k : Int)) := fun W hW => (HD2.out.bel hW HD2.out.lt).c0
    have f1 : ∀ W, Below w2.heap.size w2 W → W.cell? ⟨b, 1, none⟩ = some (.slice (some ⟨p, 0, none⟩) N cB) := fun W hW => by rw [← hNN]; exact (HS2.out.bel hW).st.blk.c1
    have f2 : ∀ W, Below w2.heap.size w2 W → W.cell? ⟨p, k, none⟩ = some (.slice ea en ec) := fun W hW => by
      rw [hW.cell (p := ⟨p, k, none⟩) (by have := HP.out.2.2; have := H2.out.size; show p < _; omega), H2.out.cell (p := ⟨p, k, none⟩) HP.out.2.2]; exact HCE.out
    go_wp2_with fail
    have hS : Below w2.heap.size w2 w2.drew := (Below.refl _ _).drew
    refine region_seq (Below w2.heap.size w2) [(0, false), (1, false), (2, false), (3, false), (4, false), (5, false), (6, false), (7, false), (8, true), (9, false), (10, false)] (by kernel_rfl) (by kernel_rfl) rfl (by kernel_rfl) ?_
    obtain ⟨w3, hw3⟩ : ∃ w3, w2.drew = w3 := ⟨_, rfl⟩
    rw [hw3] at hS ⊢
    clear hw3
    iterate 8 (refine seq_read (v := _) rfl (fun _ _ _ h => h) hS (Or.inl ⟨by rfl, fun W hW => by go_simp <;> with_reducible rfl⟩) ?_; simp only [Act.put, List.setIfInBounds_toArray, List.set_cons_zero, List.set_cons_succ])
    have H3 := Lib.hid (H2.out.trans (hS.mono H2.out.size))
    have HR3 := Lib.hid ((HO.out.below H3.out (Nat.le_refl _)).rd)
    refine seq_do rfl (fun K hK => ?_)
    rw [if_pos (by rfl)]
    refine Pat.oper_append_bytes (.const (.slice none 0 0)) (.tmp 17) rfl w3.heap.size w3.heap.size 0 0 en ec en none ea [] d d (Nat.zero_add _) rfl rfl rfl (Own.nil _ _) HR3.out (Nat.le_refl _) (by omega) (fun A4 c4 w4 ho4 hb4 => hK.out _ _ _ (fun W h => h) (hS.trans (hb4.mono hS.size)) ?_)
    clear hK K
    simp only [Act.put, List.setIfInBounds_toArray, List.set_cons_zero, List.set_cons_succ]
    have H4 := Lib.hid (And.intro (show Own w4 w.heap.size A4 en c4 d from ho4.lower H3.out.size) (H3.out.trans (hb4.mono H3.out.size)))
    have hS4 : Below w2.heap.size w2 w4 := hS.trans (hb4.mono hS.size)
    clear hS ho4 hb4
    have hS := hS4
    clear hS4
    iterate 2 (refine seq_read (v := _) rfl (fun _ _ _ h => h) hS (Or.inl ⟨by rfl, fun W hW => by go_simp <;> with_reducible rfl⟩) ?_; simp only [Act.put, List.setIfInBounds_toArray, List.set_cons_zero, List.set_cons_succ])
    refine seq_end ?_
    go_wp2_with fail
    go_ret2
    exact fin0.out A4 c4 _ H4.out.1 H4.out.2
end Go.Proofs.Ytdnnfoacpjgloaa.Stv
