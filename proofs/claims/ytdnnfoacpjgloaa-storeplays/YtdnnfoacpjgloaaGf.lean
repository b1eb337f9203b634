/- The reference's Store with its rows of bytes; the contracts of its New, Bytes. · The contracts of the reference's Put, Patch, Keep, Drop on its store with rows of bytes. · The contracts of the reference's Patch, Keep, Drop on its store with rows of bytes. -/
import Derived.Test.YtdnnfoacpjgloaaGb
import Derived.Test.YtdnnfoacpjgloaaEl
import Derived.Test.YtdnnfoacpjgloaaNi
set_option maxRecDepth 100000
namespace Go.Proofs.Ytdnnfoacpjgloaa.Stv
open Go.RowKit
open Arn (Slt St OkS Upd hnV hnO HBlk refsV callE keepL dropL freeN liveB live_cases refsV_at refsV_no newL slcL RBlk SHead)
open Pat (hasD applyL pch QBlk PF)
set_option linter.unusedVariables false

/-- A row of bytes of the call's own stays where no block of bytes is other. -/
theorem own_upd {S : Nat → Prop} {w w' : World} {base n c : Nat} {A : Option Addr} {xs : List Int} (h : Own w base A n c xs) (hu : Upd S w w') (hS : ∀ k cs fz, S k → w.heap[k]? ≠ some (.cells cs 5 fz)) : Own w' base A n c xs := by
  obtain ⟨h1, h2, h3, h4, h5⟩ := h
  refine ⟨h1, h2, h3, h4, ?_⟩
  rcases h5 with h5 | ⟨g, T, e, hg, hk, hl⟩
  · exact .inl h5
  · exact .inr ⟨g, T, e, hg, hu.keep hk (fun hs => hS g _ _ hs hk), hl⟩
/-- The reference's store at block b: its slots at q, its row of slices at p, each of them bytes of the call's own. -/
structure RSt (w : World) (base b q c p cB : Nat) (E : List (Option Addr × Nat × Nat)) (L : List Slt) (D : List (List Int)) : Prop where
  st : St w b q c (.slice (some ⟨p, 0, none⟩) L.length cB) L
  row : RowOwn slcL w base (some ⟨p, 0, none⟩) L.length cB E
  len : D.length = L.length
  each : ∀ (k : Nat) e d, E[k]? = some e → D[k]? = some d → Own w base e.1 e.2.1 e.2.2 d ∧ d.length ≤ 512
section
variable {w w' : World} {base b q c p cB k : Nat} {E : List (Option Addr × Nat × Nat)} {L : List Slt} {D : List (List Int)} {S : Nat → Prop}
theorem RSt.blkP (h : RSt w base b q c p cB E L D) (hN : 0 < L.length) : ∃ T, w.heap[p]? = some (.cells (flat slcL E ++ T).toArray 36 (0, 0)) ∧ base ≤ p := by
  rcases h.row.2.2.2 with ⟨e, -⟩ | ⟨g, T, e, hg, hk, -⟩
  · cases e
  · obtain rfl : p = g := by simpa using e
    exact ⟨T, hk, hg⟩
theorem RSt.lt (h : RSt w base b q c p cB E L D) (hN : 0 < L.length) : b < w.heap.size ∧ q < w.heap.size ∧ p < w.heap.size := by
  obtain ⟨T, hk, -⟩ := h.blkP hN
  exact ⟨h.st.lt.1, h.st.lt.2, lt_of_some hk⟩
theorem RSt.ne (h : RSt w base b q c p cB E L D) (hN : 0 < L.length) : b ≠ q ∧ b ≠ p ∧ q ≠ p := by
  obtain ⟨T, hk, -⟩ := h.blkP hN
  refine ⟨h.st.ne, ?_, ?_⟩
  · rintro rfl
    have := Eq.trans (Eq.symm h.st.blk) hk
    simp at this
  · rintro rfl
    obtain ⟨T', hr⟩ := h.st.row
    have := hr.symm.trans hk
    simp at this
theorem RSt.bel (h : RSt w base b q c p cB E L D) (hb : Below w.heap.size w w') : RSt w' base b q c p cB E L D :=
  ⟨h.st.bel hb, h.row.bel hb, h.len, fun k e d he hd => ⟨(h.each k e d he hd).1.below hb (Nat.le_refl _), (h.each k e d he hd).2⟩⟩
theorem RSt.upd (h : RSt w base b q c p cB E L D) (hu : Upd S w w') (hb : ¬ S b) (hq : ¬ S q) (hp : ¬ S p) (hS : ∀ k cs fz, S k → w.heap[k]? ≠ some (.cells cs 5 fz)) : RSt w' base b q c p cB E L D :=
  ⟨h.st.upd hu hb hq, h.row.upd hu (fun k hk => by obtain rfl : p = k := (by simpa using hk); exact hp), h.len, fun k e d he hd => ⟨own_upd (h.each k e d he hd).1 hu hS, (h.each k e d he hd).2⟩⟩
theorem RSt.elem (h : RSt w base b q c p cB E L D) (hk : k < L.length) : ∃ e d, E[k]? = some e ∧ D[k]? = some d ∧ Own w base e.1 e.2.1 e.2.2 d ∧ d.length ≤ 512 ∧ w.cell? ⟨p, k, none⟩ = some (.slice e.1 e.2.1 e.2.2) := by
  obtain ⟨b', off, e, he, -, hx, hc⟩ := Arn.row_at h.row.rd hk
  simp only [Option.some.injEq, Addr.mk.injEq, and_true] at he
  obtain ⟨rfl, rfl⟩ := he
  have hd := List.getElem?_eq_getElem (show k < D.length by rw [h.len]; exact hk)
  have := hc 0 _ rfl
  rw [show slcL.s = 1 from rfl, Nat.zero_add, Nat.mul_one, Nat.add_zero] at this
  exact ⟨e, _, hx, hd, (h.each k e _ hx hd).1, (h.each k e _ hx hd).2, this⟩
/-- Behind a call on its slots. -/
theorem RSt.slots (h : RSt w base b q c p cB E L D) (hN : 0 < L.length) {L' : List Slt} (hs : St w' b q c (.slice (some ⟨p, 0, none⟩) L.length cB) L') (hu : Upd (· = q) w w') (hl : L'.length = L.length) : RSt w' base b q c p cB E L' D := by
  refine ⟨by rw [hl]; exact hs, ?_, by rw [hl]; exact h.len, fun k e d he hd => ⟨own_upd (h.each k e d he hd).1 hu ?_, (h.each k e d he hd).2⟩⟩
  · rw [hl]
    exact h.row.upd hu fun k hk => by obtain rfl : p = k := (by simpa using hk); exact Ne.symm (h.ne hN).2.2
  · rintro k cs fz rfl hk
    obtain ⟨T, hr⟩ := h.st.row
    have := hr.symm.trans hk
    simp at this
/-- Behind a store of other bytes. -/
theorem RSt.store (h : RSt w base b q c p cB E L D) (hN : 0 < L.length) {A : Option Addr} {n m : Nat} {xs : List Int} (hk : k < L.length) (ho : Own w base A n m xs) (hx : xs.length ≤ 512) :
    RSt (w.setCell ⟨p, k, none⟩ (.slice A n m)) base b q c p cB (E.set k (A, n, m)) L (D.set k xs) ∧ Upd (· = p) w (w.setCell ⟨p, k, none⟩ (.slice A n m)) := by
  have hu : Upd (· = p) w (w.setCell ⟨p, k, none⟩ (.slice A n m)) := (Upd.refl (· = p) w).setCell (b := p) (i := k) (.inl rfl) _
  obtain ⟨T, hp, -⟩ := h.blkP hN
  have hS : ∀ j cs fz, j = p → w.heap[j]? ≠ some (.cells cs 5 fz) := by
    rintro j cs fz rfl hj
    have := hp.symm.trans hj
    simp at this
  obtain ⟨e, d, he, hd, -, -, -⟩ := h.elem hk
  have hrow := (Arn.own_set (j := 0) (y := (A, n, m)) h.row he (.slice A n m) (by decide) rfl).1
  rw [show slcL.s = 1 from rfl, Nat.mul_one, Nat.add_zero] at hrow
  refine ⟨⟨h.st.upd hu (h.ne hN).2.1 (h.ne hN).2.2, hrow, by rw [List.length_set]; exact h.len, fun j e' d' he' hd' => ?_⟩, hu⟩
  have hel : k < E.length := (List.getElem?_eq_some_iff.1 he).1
  have hdl : k < D.length := (List.getElem?_eq_some_iff.1 hd).1
  rw [List.getElem?_set] at he' hd'
  by_cases ej : k = j
  · subst ej
    rw [if_pos rfl, if_pos hel] at he'
    rw [if_pos rfl, if_pos hdl] at hd'
    obtain rfl := Option.some.inj he'
    obtain rfl := Option.some.inj hd'
    exact ⟨own_upd ho hu hS, hx⟩
  · rw [if_neg ej] at he' hd'
    exact ⟨own_upd (h.each j e' d' he' hd').1 hu hS, (h.each j e' d' he' hd').2⟩
end

/-- A new store of the reference's. -/
def RetRS (w : World) (n : Int) (e : Ending) (w' : World) : Prop := ∃ b q c p cB, e = .returned (.pointer (some ⟨b, 0, none⟩)) ∧ RSt w' w.heap.size b q c p cB (List.replicate (newL n).length (none, 0, 0)) (newL n) (List.replicate (newL n).length []) ∧ w.heap.size ≤ b ∧ w.heap.size ≤ q ∧ w.heap.size ≤ p ∧ Below w.heap.size w w'
theorem rnew_st (w : World) (n : Int) (hw1 : -9223372036854775808 ≤ n) (hw2 : n ≤ 9223372036854775807) : Calls Try.prog 9 #[.int .i64 n] w (RetRS w n) := by
  have hN : 0 < (newL n).length := by have := Arn.newL_len n; omega
  refine (Arn.rnew_any w n hw1 hw2).mono ?_
  rintro e w' ⟨b, g, c, B, cB, rfl, hs, hr, hb, hbg, hB⟩
  obtain ⟨p, rfl, hp, -, -⟩ := Arn.own_blk hr hN
  refine ⟨b, g, c, p, cB, rfl, ⟨hs, ⟨hr.1, hr.2.1, hr.2.2.1, ?_⟩, by rw [List.length_replicate], fun k e d he hd => ?_⟩, hb, by omega, by omega, hB⟩
  · rcases hr.2.2.2 with h | ⟨g', T, e, hg', h2⟩
    · exact .inl h
    · exact .inr ⟨g', T, e, by omega, h2⟩
  · rw [List.getElem?_replicate] at he hd
    split at he
    · rename_i hk
      rw [if_pos hk] at hd
      obtain rfl := Option.some.inj he
      obtain rfl := Option.some.inj hd
      exact ⟨Own.nil _ _, by simp⟩
    · cases he

set_option maxHeartbeats 4000000 in
theorem rbytes_st (w : World) (base b q c p cB : Nat) (E : List (Option Addr × Nat × Nat)) (L : List Slt) (D : List (List Int)) (s gn : Int) (h : RSt w base b q c p cB E L D) (hN : 0 < L.length) (hL : L.length ≤ 1024) :
    Calls Try.prog 20 #[.pointer (some ⟨b, 0, none⟩), hnV s gn] w (Rtp.RetR w (bytesV L D s gn) (callE L s gn)) := by
  have CL : Hid (∀ W, Below w.heap.size w W → Calls Try.prog 35 #[.pointer (some ⟨b, 0, none⟩), hnV s gn] W fun e w' => e = .returned (.bool (liveB L s gn)) ∧ Below W.heap.size W w') := fun W hW => Arn.rlive_any W b q c _ L s gn (h.bel hW).st hL
  have hB := (Below.refl w.heap.size w).alloc (Nat.le_refl _) (hnO s gn)
  have hD := HBlk.new w s gn
  generalize hw1 : w.alloc (hnO s gn) = w1 at hB hD
  have c0 := hD.c0
  have c1 := hD.c1
  have HB := Lib.hid hB
  have HD := Lib.hid hD
  have H := Lib.hid h
  clear hB hD h
  rcases live_cases L s gn with hl | ⟨k, x, rfl, hx, hp, rfl, hl⟩
  · rw [hl] at CL
    rw [bytesV, hl, if_neg (by decide), Arn.callE_no hl]
    clear hl
    go_enter Try.func20, Try.ntmps20
    go_wp2_with fail
    refine (CL.out _ HB.out).mono ?_
    rintro e w2 ⟨rfl, hb2⟩
    have H2 := Lib.hid (HB.out.trans (hb2.mono HB.out.size))
    clear hb2 CL
    go_wp2_with fail
    go_ret2
    exact ⟨none, 0, rfl, Own.nil _ _, H2.out⟩
  · have hkl : k < L.length := (List.getElem?_eq_some_iff.1 hx).1
    obtain ⟨N, hNN⟩ : ∃ N, L.length = N := ⟨_, rfl⟩
    have hkN : k < N := by omega
    have qN : decide (N ≤ k) = false := by simp; omega
    obtain ⟨⟨ea, en, ec⟩, d, he, hd, ho, hdl, hce⟩ := H.out.elem hkl
    simp only at ho hce
    have hdn := ho.len
    rw [hl] at CL
    rw [bytesV, hl, if_pos rfl, Int.toNat_natCast, getD_of' hd, Arn.callE_yes hl]
    have fin0 : Hid (∀ A cc w4, Own w4 w.heap.size A en cc d → Below w.heap.size w w4 → Rtp.RetR w d 0 (.returned (.tuple #[.slice A en cc, .int .i64 0])) w4) := by
      intro A cc w4 ho hb
      subst hdn
      exact ⟨A, cc, rfl, ho, hb⟩
    have HO := Lib.hid ho
    have HCE := Lib.hid hce
    clear hl hp ho hce
    go_enter Try.func20, Try.ntmps20
    go_wp2_with fail
    refine (CL.out _ HB.out).mono ?_
    rintro e w2 ⟨rfl, hb2⟩
    have H2 := Lib.hid (HB.out.trans (hb2.mono HB.out.size))
    have HD2 := Lib.hid (HD.out.bel hb2 HD.out.lt)
    have HS2 := Lib.hid (H.out.bel H2.out)
    have HP := Lib.hid (H.out.lt (by omega))
    clear hb2 CL c0 c1
    have f0 : ∀ W, Below w2.heap.size w2 W → W.cell? ⟨w.heap.size, 0, none⟩ = some (.int .i64 (k : Int)) := fun W hW => (HD2.out.bel hW HD2.out.lt).c0
    have f1 : ∀ W, Below w2.heap.size w2 W → W.cell? ⟨b, 1, none⟩ = some (.slice (some ⟨p, 0, none⟩) N cB) := fun W hW => by rw [← hNN]; exact (HS2.out.bel hW).st.blk.c1
    have f2 : ∀ W, Below w2.heap.size w2 W → W.cell? ⟨p, k, none⟩ = some (.slice ea en ec) := fun W hW => by
      rw [hW.cell (p := ⟨p, k, none⟩) (by have := HP.out.2.2; have := H2.out.size; show p < _; omega), H2.out.cell (p := ⟨p, k, none⟩) HP.out.2.2]; exact HCE.out
    go_wp2_with fail
    have hS : Below w2.heap.size w2 w2.drew := (Below.refl _ _).drew
    refine region_seq (Below w2.heap.size w2) [(0, false), (1, false), (2, false), (3, false), (4, false), (5, false), (6, false), (7, false), (8, true), (9, false), (10, false)] (by kernel_rfl) (by kernel_rfl) rfl (by kernel_rfl) ?_
    obtain ⟨w3, hw3⟩ : ∃ w3, w2.drew = w3 := ⟨_, rfl⟩
    rw [hw3] at hS ⊢
    clear hw3
    iterate 8 (refine seq_read (v := _) rfl (fun _ _ _ h => h) hS (Or.inl ⟨by rfl, fun W hW => by go_simp <;> with_reducible rfl⟩) ?_; simp only [Act.put, List.setIfInBounds_toArray, List.set_cons_zero, List.set_cons_succ])
    have H3 := Lib.hid (H2.out.trans (hS.mono H2.out.size))
    have HR3 := Lib.hid ((HO.out.below H3.out (Nat.le_refl _)).rd)
    refine seq_do rfl (fun K hK => ?_)
    rw [if_pos (by rfl)]
    refine Pat.oper_append_bytes (.const (.slice none 0 0)) (.tmp 17) rfl w3.heap.size w3.heap.size 0 0 en ec en none ea [] d d (Nat.zero_add _) rfl rfl rfl (Own.nil _ _) HR3.out (Nat.le_refl _) (by omega) (fun A4 c4 w4 ho4 hb4 => hK.out _ _ _ (fun W h => h) (hS.trans (hb4.mono hS.size)) ?_)
    clear hK K
    simp only [Act.put, List.setIfInBounds_toArray, List.set_cons_zero, List.set_cons_succ]
    have H4 := Lib.hid (And.intro (show Own w4 w.heap.size A4 en c4 d from ho4.lower H3.out.size) (H3.out.trans (hb4.mono H3.out.size)))
    have hS4 : Below w2.heap.size w2 w4 := hS.trans (hb4.mono hS.size)
    clear hS ho4 hb4
    have hS := hS4
    clear hS4
    iterate 2 (refine seq_read (v := _) rfl (fun _ _ _ h => h) hS (Or.inl ⟨by rfl, fun W hW => by go_simp <;> with_reducible rfl⟩) ?_; simp only [Act.put, List.setIfInBounds_toArray, List.set_cons_zero, List.set_cons_succ])
    refine seq_end ?_
    go_wp2_with fail
    go_ret2
    exact fin0.out A4 c4 _ H4.out.1 H4.out.2
end Go.Proofs.Ytdnnfoacpjgloaa.Stv

namespace Go.Proofs.Ytdnnfoacpjgloaa.Stv
open Go.RowKit
open Arn (Slt St OkS Upd hnV hnO HBlk refsV callE keepL dropL freeN liveB live_cases refsV_at refsV_no newL slcL RBlk SHead takeH takeE takeL take_cases)
open Pat (hasD applyL pch QBlk PF)
set_option linter.unusedVariables false

theorem apply_len {d : List Int} {q t r f : Int} (hb : Bytes d) (hp : PF q t r f) : (applyL d q t r f).length = d.length := by
  by_cases h : hasD d = true
  · exact (Pat.apply_steps hb h ⟨hp.q0, hp.q1⟩ ⟨hp.t0, hp.t1⟩ ⟨hp.s0, hp.s1⟩ ⟨hp.f0, hp.f1⟩).2.2.2.2.1
  · rw [applyL, if_neg h]
theorem set_same {α : Type} {D : List α} {k : Nat} {d : α} (h : D[k]? = some d) : D.set k d = D := by
  apply List.ext_getElem?
  intro j
  rw [List.getElem?_set]
  by_cases e : k = j
  · subst e; rw [if_pos rfl, if_pos (List.getElem?_eq_some_iff.1 h).1, h]
  · rw [if_neg e]

set_option maxHeartbeats 4000000 in
theorem rput_st (w : World) (base b q c p cB n m B : Nat) (E : List (Option Addr × Nat × Nat)) (a : Option Addr) (L : List Slt) (D : List (List Int)) (xs : List Int) (h : RSt w base b q c p cB E L D) (hN : 0 < L.length) (hL : L.length ≤ 1024) (hbs : base ≤ w.heap.size) (hx : xs.length = n) (hr : ∀ W, Upd (· = q) w W → Rd W W.heap.size a n xs) :
    Calls Try.prog 12 #[.pointer (some ⟨b, 0, none⟩), .slice a n m] w fun e w' => e = .returned (.tuple #[hnV (putH L n).1 (putH L n).2, .int .i64 (putE L n)]) ∧ (∃ E', RSt w' base b q c p cB E' (putL L n) (putD L D xs)) ∧ Upd (fun k => k = q ∨ k = p) w w' := by
  have hB := (Below.refl w.heap.size w).alloc (Nat.le_refl _) (hnO 0 0)
  have hD := HBlk.new w 0 0
  have h1 := h.bel hB
  have hg := h.lt hN
  have hne := h.ne hN
  generalize hw1 : w.alloc (hnO 0 0) = w1 at hB hD h1
  have HB := Lib.hid hB
  have HD := Lib.hid hD
  have H1 := Lib.hid h1
  have HG := Lib.hid hg
  have HNE := Lib.hid hne
  have HR := Lib.hid hr
  have d0 := hD.c0
  have d1 := hD.c1
  have f0 := hD.frozen 0
  have f1 := hD.frozen 1
  clear hB hD h1 h hg hr hne
  have offC : Hid (∀ W, RSt W base b q c p cB E L D → ∀ W', Upd (· = w.heap.size) W W' → (∃ cs t fz, W.heap[w.heap.size]? = some (.cells cs t fz) ∧ t ≠ 5) → RSt W' base b q c p cB E L D) := fun W hW W' hu ⟨cs, t, fz, ht, hne⟩ =>
    hW.upd hu (by show b ≠ w.heap.size; have := HG.out; omega) (by show q ≠ w.heap.size; have := HG.out; omega) (by show p ≠ w.heap.size; have := HG.out; omega) (by
      rintro k cs' fz' rfl hk
      have := ht.symm.trans hk
      simp only [Option.some.injEq, Obj.cells.injEq] at this
      exact hne this.2.1)
  by_cases h5 : 512 < n
  · rw [putH, putE, putL, putD, hx, if_pos h5, if_pos h5, if_pos h5, if_pos h5]
    have hd : decide ((512 : Int) < n) = true := by simp; omega
    clear h5
    go_enter Try.func12, Try.ntmps12
    go_wp2_with fail
    have D2 := HBlk.new w 0 0
    rw [hw1] at D2
    first
      | exact retP_at Try.results12 D2 ⟨rfl, ⟨E, H1.out⟩, .of HB.out⟩
      | (have D3 := D2.store 0 0
         have HU := Lib.hid (((Upd.of (S := fun k => k = q ∨ k = p) HB.out).setCell (b := w.heap.size) (i := 0) (.inr (Nat.le_refl _)) (.int .i64 0)).setCell (b := w.heap.size) (i := 1) (.inr (Nat.le_refl _)) (.int .u32 0))
         have H3 := offC.out _ H1.out _ (((Upd.refl (· = w.heap.size) w1).setCell (b := w.heap.size) (i := 0) (.inl rfl) (.int .i64 0)).setCell (b := w.heap.size) (i := 1) (.inl rfl) (.int .u32 0)) ⟨_, _, _, HD.out, by decide⟩
         exact retP_at Try.results12 D3 ⟨rfl, ⟨E, H3⟩, HU.out⟩)
  · rw [putH, putE, putL, putD, hx, if_neg h5, if_neg h5, if_neg h5, if_neg h5]
    have hd : decide ((512 : Int) < n) = false := by simp; omega
    have hn5 : n ≤ 512 := by omega
    clear h5
    have CT : Hid (Calls Try.prog 33 #[.pointer (some ⟨b, 0, none⟩)] w1 fun e w' => e = .returned (.tuple #[hnV (takeH L).1 (takeH L).2, .int .i64 (takeE L)]) ∧ St w' b q c (.slice (some ⟨p, 0, none⟩) L.length cB) (takeL L) ∧ Upd (· = q) w1 w') := Arn.rtake_any w1 b q c _ L H1.out.st hL
    rcases take_cases L with ⟨e0, e1, e2, e3, -⟩ | ⟨k, x, e0, hk, e1, e2, e3, -⟩
    · rw [e0, e1, e2, e3]
      rw [e1, e2, e3] at CT
      clear e0 e1 e2 e3
      go_enter Try.func12, Try.ntmps12
      go_wp2_with fail
      refine CT.out.mono ?_
      rintro e w2 ⟨rfl, hs, hu⟩
      have hS2 := H1.out.slots hN hs hu rfl
      have hD2 := HD.out.upd hu (by show _ ≠ _; have := HG.out; omega)
      have hU2 : Upd (fun k => k = q ∨ k = p) w w2 := (Upd.of HB.out).trans (hu.mono fun k hk => .inl hk)
      have hba := (Below.refl w2.heap.size w2).alloc (Nat.le_refl _) (hnO 0 0)
      have HS3 := Lib.hid (hS2.bel hba)
      have HD3 := Lib.hid (hD2.bel hba hD2.lt)
      have HU3 := Lib.hid (hU2.alloc (hnO 0 0))
      have HE3 := Lib.hid (HBlk.new w2 0 0)
      have d0 := HD3.out.c0
      have d1 := HD3.out.c1
      have f0 := HD3.out.frozen 0
      have f1 := HD3.out.frozen 1
      have hwne : w2.heap.size ≠ w.heap.size := by have := hD2.lt; omega
      clear hS2 hD2 hU2 hba hs hu CT hw1
      go_wp2_with fail
      generalize w2.alloc (hnO 0 0) = w3 at *
      have D4 := HD3.out.store 0 0
      have HU := Lib.hid ((HU3.out.setCell (b := w.heap.size) (i := 0) (.inr (Nat.le_refl _)) (.int .i64 0)).setCell (b := w.heap.size) (i := 1) (.inr (Nat.le_refl _)) (.int .u32 0))
      have H4 := offC.out _ HS3.out _ (((Upd.refl (· = w.heap.size) w3).setCell (b := w.heap.size) (i := 0) (.inl rfl) (.int .i64 0)).setCell (b := w.heap.size) (i := 1) (.inl rfl) (.int .u32 0)) ⟨_, _, _, HD3.out, by decide⟩
      exact retP_at Try.results12 D4 ⟨rfl, ⟨E, H4⟩, HU.out⟩
    · rw [e0, e1, e2, e3]
      rw [e1, e2, e3] at CT
      clear e0 e1 e2 e3
      have hkl : k < L.length := (List.getElem?_eq_some_iff.1 hk).1
      obtain ⟨N, hNN⟩ : ∃ N, L.length = N := ⟨_, rfl⟩
      have hkN : k < N := by omega
      have qN : decide (N ≤ k) = false := by simp; omega
      go_enter Try.func12, Try.ntmps12
      go_wp2_with fail
      refine CT.out.mono ?_
      rintro e w2 ⟨rfl, hs, hu⟩
      have hS2 := H1.out.slots hN hs hu (by simp)
      have hD2 := HD.out.upd hu (by show _ ≠ _; have := HG.out; omega)
      have hU2 : Upd (· = q) w w2 := (Upd.of HB.out).trans hu
      have hba := (Below.refl w2.heap.size w2).alloc (Nat.le_refl _) (hnO k x)
      have HS3 := Lib.hid (hS2.bel hba)
      have HD3 := Lib.hid (hD2.bel hba hD2.lt)
      have HU3 := Lib.hid (hU2.alloc (hnO k x))
      have HE3 := Lib.hid (HBlk.new w2 k x)
      have HPB := Lib.hid (show p < w2.heap.size from (hS2.lt (by rw [List.length_set]; exact hN)).2.2)
      have hwne : w2.heap.size ≠ w.heap.size := by have := hD2.lt; omega
      clear hS2 hD2 hU2 hba hs hu CT d0 d1 f0 f1 hw1
      go_wp2_with fail
      obtain ⟨wd, hwd⟩ : ∃ wd, w2.alloc (hnO k x) = wd := ⟨_, rfl⟩
      rw [hwd]
      rw [hwd] at HS3 HD3 HU3 HE3
      obtain ⟨rb, hrb⟩ : ∃ rb, w2.heap.size = rb := ⟨_, rfl⟩
      rw [hrb] at HE3 hwne HPB ⊢
      clear hwd hrb
      have hS : Below wd.heap.size wd wd.drew := (Below.refl _ _).drew
      have g0 : ∀ W, Below wd.heap.size wd W → W.cell? ⟨b, 1, none⟩ = some (.slice (some ⟨p, 0, none⟩) N cB) := fun W hW => by have := (HS3.out.bel hW).st.blk.c1; rw [List.length_set, hNN] at this; exact this
      have g1 : ∀ W, Below wd.heap.size wd W → W.cell? ⟨rb, 0, none⟩ = some (.int .i64 (k : Int)) := fun W hW => (HE3.out.bel hW HE3.out.lt).c0
      refine region_seqX (Below wd.heap.size wd) 9 [(0, false), (1, false), (2, false), (3, false), (4, false), (5, false), (6, false), (7, true), (8, false), (9, true)] (by kernel_rfl) (by kernel_rfl) rfl (by kernel_rfl) ?_
      obtain ⟨wr, hwr⟩ : ∃ wr, wd.drew = wr := ⟨_, rfl⟩
      rw [hwr] at hS ⊢
      iterate 7 (refine seqX_read (v := _) rfl (fun _ _ _ h => h) hS (Or.inl ⟨by rfl, fun W hW => by go_simp <;> with_reducible rfl⟩) ?_; simp only [Act.put, List.setIfInBounds_toArray, List.set_cons_zero, List.set_cons_succ])
      have HU4 : Hid (Upd (· = q) w wr) := hwr ▸ HU3.out.drew
      have HR4 := Lib.hid (HR.out wr HU4.out)
      clear HU3 hwr
      refine seqX_do rfl (fun K hK => ?_)
      rw [if_pos (by rfl)]
      refine Pat.oper_append_bytes (.const (.slice none 0 0)) (.tmp 25) rfl wr.heap.size wr.heap.size 0 0 n m n none a [] xs xs (Nat.zero_add _) rfl rfl rfl (Own.nil _ _) HR4.out (Nat.le_refl _) (by omega) (fun A4 c4 w4 ho4 hb4 => hK.out _ _ _ (fun W h => h) (hS.trans (hb4.mono hS.size)) ?_)
      clear hK K
      simp only [Act.put, List.setIfInBounds_toArray, List.set_cons_zero, List.set_cons_succ]
      have hS4 : Below wd.heap.size wd w4 := hS.trans (hb4.mono hS.size)
      have HO4 : Hid (Own w4 base A4 n c4 xs) := ho4.lower (Nat.le_trans hbs HU4.out.size)
      have HU5 : Hid (Upd (fun k => k = q ∨ k = p) w w4) := (HU4.out.mono fun k hk => .inl hk).trans (.of hb4)
      clear hS ho4 hb4 HU4 HR4
      have hS := hS4
      clear hS4
      iterate 1 (refine seqX_read (v := _) rfl (fun _ _ _ h => h) hS (Or.inl ⟨by rfl, fun W hW => by go_simp <;> with_reducible rfl⟩) ?_; simp only [Act.put, List.setIfInBounds_toArray, List.set_cons_zero, List.set_cons_succ])
      have HS4 := Lib.hid (HS3.out.bel hS)
      have HD4 := Lib.hid (HD3.out.bel hS HD3.out.lt)
      have HE4 := Lib.hid (HE3.out.bel hS HE3.out.lt)
      have hN1 : 0 < (L.set k (x, 1)).length := by rw [List.length_set]; exact hN
      obtain ⟨e', d', -, -, -, -, hce⟩ := HS4.out.elem (k := k) (by rw [List.length_set]; exact hkl)
      obtain ⟨T, hpb, -⟩ := HS4.out.blkP hN1
      have hfz := frozen_of_row w4 p k _ _ hpb
      obtain ⟨hst, hu6⟩ := HS4.out.store hN1 (k := k) (by rw [List.length_set]; exact hkl) HO4.out (by omega)
      obtain ⟨w6, hw6⟩ : ∃ w6, w4.setCell ⟨p, k, none⟩ (.slice A4 n c4) = w6 := ⟨_, rfl⟩
      rw [hw6] at hst hu6
      have HS6 := Lib.hid hst
      have HD6 := Lib.hid (HD4.out.upd hu6 (by show _ ≠ _; have := HG.out; omega))
      have HE6 := Lib.hid (HE4.out.upd hu6 (by show rb ≠ p; have := HPB.out; omega))
      have HU6 : Hid (Upd (fun k => k = q ∨ k = p) w w6) := HU5.out.trans (hu6.mono fun k hk => .inr hk)
      clear hst hu6 hpb hS g0 g1 HS3 HD3 HE3 HS4 HD4 HE4 HU5 HO4
      refine seqX_last rfl (fun K hK => ?_)
      go_simp
      refine hK.out _ _ ?_
      clear hK K hce hfz
      have c0 := HE6.out.c0
      have c1 := HE6.out.c1
      have d0 := HD6.out.c0
      have d1 := HD6.out.c1
      have f0 := HD6.out.frozen 0
      have f1 := HD6.out.frozen 1
      go_wp2_with fail
      clear hw6
      have D7 := HD6.out.store (k : Int) x
      have HU := Lib.hid ((HU6.out.setCell (b := w.heap.size) (i := 0) (.inr (Nat.le_refl _)) (.int .i64 (k : Int))).setCell (b := w.heap.size) (i := 1) (.inr (Nat.le_refl _)) (.int .u32 x))
      have H7 := HS6.out.upd (((Upd.refl (· = w.heap.size) w6).setCell (b := w.heap.size) (i := 0) (.inl rfl) (.int .i64 (k : Int))).setCell (b := w.heap.size) (i := 1) (.inl rfl) (.int .u32 x)) (by show b ≠ w.heap.size; have := HG.out; omega) (by show q ≠ w.heap.size; have := HG.out; omega) (by show p ≠ w.heap.size; have := HG.out; omega) (by
        rintro j cs fz rfl hk
        have := Eq.trans (Eq.symm HD6.out) hk
        simp at this)
      generalize (w6.setCell ⟨w.heap.size, 0, none⟩ (.int .i64 (k : Int))).setCell ⟨w.heap.size, 1, none⟩ (.int .u32 x) = w7 at *
      exact retP_at Try.results12 D7 ⟨rfl, ⟨_, H7⟩, HU.out⟩
end Go.Proofs.Ytdnnfoacpjgloaa.Stv

namespace Go.Proofs.Ytdnnfoacpjgloaa.Stv
open Go.RowKit
open Arn (Slt St OkS Upd hnV hnO HBlk refsV callE keepL dropL freeN liveB live_cases refsV_at refsV_no newL slcL RBlk SHead)
open Pat (hasD applyL pch QBlk PF)
set_option linter.unusedVariables false

theorem rkeep_st (w : World) (base b q c p cB : Nat) (E : List (Option Addr × Nat × Nat)) (L : List Slt) (D : List (List Int)) (s gn M : Int) (h : RSt w base b q c p cB E L D) (hN : 0 < L.length) (hL : L.length ≤ 1024) (hO : OkS M L) (hM : M ≤ 4611686018427387904) :
    Calls Try.prog 14 #[.pointer (some ⟨b, 0, none⟩), hnV s gn] w fun e w' => e = .returned (.int .i64 (callE L s gn)) ∧ RSt w' base b q c p cB E (keepL L s gn) D ∧ Upd (· = q) w w' := by
  refine (Arn.rkeep_any w b q c _ L s gn M h.st hL hO hM).mono ?_
  rintro e w' ⟨rfl, hs, hu⟩
  exact ⟨rfl, h.slots hN hs hu (Arn.keepL_len L s gn), hu⟩
theorem rdrop_st (w : World) (base b q c p cB : Nat) (E : List (Option Addr × Nat × Nat)) (L : List Slt) (D : List (List Int)) (s gn M : Int) (h : RSt w base b q c p cB E L D) (hN : 0 < L.length) (hL : L.length ≤ 1024) (hO : OkS M L) (hM : M ≤ 4611686018427387904) :
    Calls Try.prog 16 #[.pointer (some ⟨b, 0, none⟩), hnV s gn] w fun e w' => e = .returned (.int .i64 (callE L s gn)) ∧ RSt w' base b q c p cB E (dropL L s gn) D ∧ Upd (· = q) w w' := by
  refine (Arn.rdrop_any w b q c _ L s gn M h.st hL hO hM).mono ?_
  rintro e w' ⟨rfl, hs, hu⟩
  exact ⟨rfl, h.slots hN hs hu (Arn.dropL_len L s gn), hu⟩

/-- What Patch leaves and tells of a live slot with one reference. -/
theorem patch_no {L : List Slt} {D : List (List Int)} {k : Nat} {x : Slt} {g : Int} {d : List Int} (q t r f : Int) (hx : L[k]? = some x) (hl : liveB L k g = true) (h1 : x.2 = 1) (hd : D[k]? = some d) (hn : hasD d = false) : patchE L D k g = 1 ∧ patchD L D k g q t r f = D := by
  rw [patchE, patchD, hl, if_pos rfl, Int.toNat_natCast, getD_of' hd, refsV_at hx hl, if_pos h1, if_pos (show true = true ∧ x.2 = 1 from ⟨rfl, h1⟩), hn]
  exact ⟨rfl, by rw [applyL, hn, if_neg (by decide), set_same hd]⟩
theorem patch_yes {L : List Slt} {D : List (List Int)} {k : Nat} {x : Slt} {g : Int} {d : List Int} (q t r f : Int) (hx : L[k]? = some x) (hl : liveB L k g = true) (h1 : x.2 = 1) (hd : D[k]? = some d) (hn : hasD d = true) : patchE L D k g = 0 ∧ patchD L D k g q t r f = D.set k (applyL d q t r f) := by
  rw [patchE, patchD, hl, if_pos rfl, Int.toNat_natCast, getD_of' hd, refsV_at hx hl, if_pos h1, if_pos (show true = true ∧ x.2 = 1 from ⟨rfl, h1⟩), hn]
  exact ⟨rfl, rfl⟩
theorem patch_many {L : List Slt} {D : List (List Int)} {k : Nat} {x : Slt} {g : Int} (q t r f : Int) (hx : L[k]? = some x) (hl : liveB L k g = true) (h1 : x.2 ≠ 1) : patchE L D k g = 11 ∧ patchD L D k g q t r f = D := by
  rw [patchE, patchD, hl, if_pos rfl, refsV_at hx hl, if_neg h1, if_neg (fun e => h1 e.2)]
  exact ⟨rfl, rfl⟩
theorem patch_dead {L : List Slt} {D : List (List Int)} {s g : Int} (q t r f : Int) (hl : liveB L s g = false) : patchE L D s g = 7 ∧ patchD L D s g q t r f = D := by
  rw [patchE, patchD, hl, if_neg (by decide), if_neg (by simp)]
  exact ⟨rfl, rfl⟩

set_option maxHeartbeats 4000000 in
theorem rpatch_st (w : World) (base b q c p cB : Nat) (E : List (Option Addr × Nat × Nat)) (L : List Slt) (D : List (List Int)) (s gn M u t r f : Int) (h : RSt w base b q c p cB E L D) (hN : 0 < L.length) (hL : L.length ≤ 1024) (hO : OkS M L) (hbs : base ≤ w.heap.size) (hp : PF u t r f) :
    Calls Try.prog 18 #[.pointer (some ⟨b, 0, none⟩), hnV s gn, pch u t r f] w fun e w' => e = .returned (.int .i64 (patchE L D s gn)) ∧ (∃ E', RSt w' base b q c p cB E' L (patchD L D s gn u t r f)) ∧ Upd (· = p) w w' := by
  have CL : Hid (∀ W, Below w.heap.size w W → Calls Try.prog 35 #[.pointer (some ⟨b, 0, none⟩), hnV s gn] W fun e w' => e = .returned (.bool (liveB L s gn)) ∧ Below W.heap.size W w') := fun W hW => Arn.rlive_any W b q c _ L s gn (h.bel hW).st hL
  have hB1 := (Below.refl w.heap.size w).alloc (Nat.le_refl _) (hnO s gn)
  have hB := hB1.alloc hB1.size (.cells #[.int .u16 u, .int .u32 t, .int .u32 r, .int .u16 f] 35)
  have hD := (HBlk.new w s gn).bel ((Below.refl (w.alloc (hnO s gn)).heap.size _).alloc (Nat.le_refl _) (.cells #[.int .u16 u, .int .u32 t, .int .u32 r, .int .u16 f] 35)) (by simp)
  have hQ := QBlk.new (w.alloc (hnO s gn)) u t r f
  rw [show (w.alloc (hnO s gn)).heap.size = w.heap.size + 1 from by simp] at hQ
  have hg := h.lt hN
  generalize hw1 : (w.alloc (hnO s gn)).alloc (.cells #[.int .u16 u, .int .u32 t, .int .u32 r, .int .u16 f] 35) = w1 at hB hD hQ
  have c0 := hD.c0
  have c1 := hD.c1
  have HB := Lib.hid hB
  have HD := Lib.hid hD
  have HQ := Lib.hid hQ
  have H := Lib.hid h
  have HG := Lib.hid hg
  clear hB hD h hB1 hQ hg
  rcases live_cases L s gn with hl | ⟨k, x, rfl, hx, hp0, rfl, hl⟩
  · obtain ⟨e1, e2⟩ := patch_dead (D := D) u t r f hl
    rw [e1, e2]
    rw [hl] at CL
    clear hl e1 e2
    go_enter Try.func18, Try.ntmps18
    go_wp2_with fail
    refine (CL.out _ HB.out).mono ?_
    rintro e w2 ⟨rfl, hb2⟩
    have H2 := Lib.hid (HB.out.trans (hb2.mono HB.out.size))
    clear hb2 CL
    go_wp2_with fail
    go_ret
    exact ⟨rfl, ⟨E, H.out.bel H2.out⟩, .of H2.out⟩
  · have hkl : k < L.length := (List.getElem?_eq_some_iff.1 hx).1
    obtain ⟨⟨ea, en, ec⟩, d, he, hd, ho, hdl, hce⟩ := H.out.elem hkl
    simp only at ho hce
    have hdn := ho.len
    have hnc := ho.2.2.1
    obtain ⟨N, hNN⟩ : ∃ N, L.length = N := ⟨_, rfl⟩
    have hkN : k < N := by omega
    have qN : decide (N ≤ k) = false := by simp; omega
    have HO := Lib.hid ho
    have HCE := Lib.hid hce
    have CA : Hid (∀ W, Below w.heap.size w W → Calls Try.prog 27 #[.slice ea en ec, pch u t r f] W (PairRow W (applyL d u t r f) (hasD d))) := fun W hW => by
      have hr := (HO.out.below hW (Nat.le_refl _)).rd
      exact Pat.rapply_any ea en ec W.heap.size d u t r f W (by omega) hnc hr (Nat.le_refl _) hp
    clear ho hce
    rw [hl] at CL
    -- the walk up to the reading of Refs
    have f0 : ∀ W, (HBlk W w.heap.size k x.1 ∧ QBlk W (w.heap.size + 1) u t r f ∧ Below w.heap.size w W) → W.cell? ⟨w.heap.size, 0, none⟩ = some (.int .i64 (k : Int)) := fun W h => h.1.c0
    have fq0 : ∀ W, (HBlk W w.heap.size k x.1 ∧ QBlk W (w.heap.size + 1) u t r f ∧ Below w.heap.size w W) → W.cell? ⟨w.heap.size + 1, 0, none⟩ = some (.int .u16 u) := fun W h => h.2.1.c0
    have fq1 : ∀ W, (HBlk W w.heap.size k x.1 ∧ QBlk W (w.heap.size + 1) u t r f ∧ Below w.heap.size w W) → W.cell? ⟨w.heap.size + 1, 1, none⟩ = some (.int .u32 t) := fun W h => h.2.1.c1
    have fq2 : ∀ W, (HBlk W w.heap.size k x.1 ∧ QBlk W (w.heap.size + 1) u t r f ∧ Below w.heap.size w W) → W.cell? ⟨w.heap.size + 1, 2, none⟩ = some (.int .u32 r) := fun W h => h.2.1.c2
    have fq3 : ∀ W, (HBlk W w.heap.size k x.1 ∧ QBlk W (w.heap.size + 1) u t r f ∧ Below w.heap.size w W) → W.cell? ⟨w.heap.size + 1, 3, none⟩ = some (.int .u16 f) := fun W h => h.2.1.c3
    have fl : ∀ W, (HBlk W w.heap.size k x.1 ∧ QBlk W (w.heap.size + 1) u t r f ∧ Below w.heap.size w W) → W.cell? ⟨b, 0, none⟩ = some (.slice (some ⟨q, 0, none⟩) N c) := fun W h => by rw [← hNN]; exact (H.out.bel h.2.2).st.blk.c0
    have fb : ∀ W, (HBlk W w.heap.size k x.1 ∧ QBlk W (w.heap.size + 1) u t r f ∧ Below w.heap.size w W) → W.cell? ⟨b, 1, none⟩ = some (.slice (some ⟨p, 0, none⟩) N cB) := fun W h => by rw [← hNN]; exact (H.out.bel h.2.2).st.blk.c1
    have fr : ∀ W, (HBlk W w.heap.size k x.1 ∧ QBlk W (w.heap.size + 1) u t r f ∧ Below w.heap.size w W) → W.cell? ⟨q, k * 2 + 1, none⟩ = some (.int .i64 x.2) := fun W h => (H.out.bel h.2.2).st.row.refs hx
    have fe : ∀ W, (HBlk W w.heap.size k x.1 ∧ QBlk W (w.heap.size + 1) u t r f ∧ Below w.heap.size w W) → W.cell? ⟨p, k, none⟩ = some (.slice ea en ec) := fun W h => by
      rw [h.2.2.cell (p := ⟨p, k, none⟩) HG.out.2.2]; exact HCE.out
    by_cases h1 : x.2 = 1
    · have q1 : (x.2 != 1) = false := by simp [h1]
      have HPB : Hid (Bytes d) := HO.out.bytes
      have HLN : Hid ((applyL d u t r f).length = d.length) := apply_len HPB.out hp
      rcases hok : hasD d with _ | _
      · obtain ⟨e1, e2⟩ := patch_no u t r f hx hl h1 hd hok
        rw [e1, e2]
        rw [hok] at CA
        clear hl hp0 h1 hd hx e1 e2 hok
        go_enter Try.func18, Try.ntmps18
        go_wp2_with fail
        refine (CL.out _ HB.out).mono ?_
        rintro e w2 ⟨rfl, hb2⟩
        have H2 := Lib.hid (HB.out.trans (hb2.mono HB.out.size))
        have HD2 := Lib.hid (HD.out.bel hb2 HD.out.lt)
        have HQ2 := Lib.hid (HQ.out.below hb2 HQ.out.lt)
        clear hb2 CL c0 c1
        go_wp2_with fail
        have hS : HBlk w2.drew w.heap.size k x.1 ∧ QBlk w2.drew (w.heap.size + 1) u t r f ∧ Below w.heap.size w w2.drew := ⟨HD2.out, HQ2.out, H2.out.drew⟩
        refine region_seq (fun W => HBlk W w.heap.size k x.1 ∧ QBlk W (w.heap.size + 1) u t r f ∧ Below w.heap.size w W) [(0, false), (1, false), (2, false), (3, false), (4, false), (5, false), (6, false), (7, false), (8, false), (9, false)] (by kernel_rfl) (by kernel_rfl) rfl (by kernel_rfl) ?_
        iterate 10 (refine seq_read (v := _) rfl (fun _ _ _ h => h) hS (Or.inl ⟨by rfl, fun W hW => by go_simp <;> with_reducible rfl⟩) ?_; simp only [Act.put, List.setIfInBounds_toArray, List.set_cons_zero, List.set_cons_succ])
        refine seq_end ?_
        go_wp2_with fail
        have hS : HBlk w2.drew.drew w.heap.size k x.1 ∧ QBlk w2.drew.drew (w.heap.size + 1) u t r f ∧ Below w.heap.size w w2.drew.drew := ⟨HD2.out, HQ2.out, H2.out.drew.drew⟩
        refine region_seq (fun W => HBlk W w.heap.size k x.1 ∧ QBlk W (w.heap.size + 1) u t r f ∧ Below w.heap.size w W) [(0, false), (1, false), (2, false), (3, false), (4, false), (5, false), (6, false), (7, false), (8, false), (9, true), (10, false), (11, false), (12, false), (13, false), (14, false)] (by kernel_rfl) (by kernel_rfl) rfl (by kernel_rfl) ?_
        iterate 9 (refine seq_read (v := _) rfl (fun _ _ _ h => h) hS (Or.inl ⟨by rfl, fun W hW => by go_simp <;> with_reducible rfl⟩) ?_; simp only [Act.put, List.setIfInBounds_toArray, List.set_cons_zero, List.set_cons_succ])
        refine seq_do rfl (fun K hK => ?_)
        go_simp
        refine (CA.out _ hS.2.2).mono ?_
        rintro e w3 ⟨A3, c3, rfl, ho3, hb3⟩
        have hS3 : HBlk w3 w.heap.size k x.1 ∧ QBlk w3 (w.heap.size + 1) u t r f ∧ Below w.heap.size w w3 := ⟨hS.1.bel hb3 hS.1.lt, hS.2.1.below hb3 hS.2.1.lt, hS.2.2.trans (hb3.mono hS.2.2.size)⟩
        clear hS
        have hS := hS3
        refine hK.out _ _ _ (fun W h => h) hS ?_
        clear hK K CA hb3 hS3 ho3
        iterate 5 (refine seq_read (v := _) rfl (fun _ _ _ h => h) hS (Or.inl ⟨by rfl, fun W hW => by go_simp <;> with_reducible rfl⟩) ?_; simp only [Act.put, List.setIfInBounds_toArray, List.set_cons_zero, List.set_cons_succ])
        refine seq_end ?_
        have H3 := Lib.hid hS.2.2
        clear hS f0 fq0 fq1 fq2 fq3 fl fb fr fe
        go_wp2_with fail
        go_ret
        exact ⟨rfl, ⟨E, H.out.bel H3.out⟩, .of H3.out⟩
      · obtain ⟨e1, e2⟩ := patch_yes u t r f hx hl h1 hd hok
        rw [e1, e2]
        rw [hok] at CA
        have HL3 : Hid ((applyL d u t r f).length ≤ 512) := by show _ ≤ _; rw [HLN.out]; exact hdl
        clear hl hp0 h1 hd hx e1 e2 hok HLN
        generalize applyL d u t r f = d' at CA HL3 ⊢
        go_enter Try.func18, Try.ntmps18
        go_wp2_with fail
        refine (CL.out _ HB.out).mono ?_
        rintro e w2 ⟨rfl, hb2⟩
        have H2 := Lib.hid (HB.out.trans (hb2.mono HB.out.size))
        have HD2 := Lib.hid (HD.out.bel hb2 HD.out.lt)
        have HQ2 := Lib.hid (HQ.out.below hb2 HQ.out.lt)
        clear hb2 CL c0 c1
        go_wp2_with fail
        have hS : HBlk w2.drew w.heap.size k x.1 ∧ QBlk w2.drew (w.heap.size + 1) u t r f ∧ Below w.heap.size w w2.drew := ⟨HD2.out, HQ2.out, H2.out.drew⟩
        refine region_seq (fun W => HBlk W w.heap.size k x.1 ∧ QBlk W (w.heap.size + 1) u t r f ∧ Below w.heap.size w W) [(0, false), (1, false), (2, false), (3, false), (4, false), (5, false), (6, false), (7, false), (8, false), (9, false)] (by kernel_rfl) (by kernel_rfl) rfl (by kernel_rfl) ?_
        iterate 10 (refine seq_read (v := _) rfl (fun _ _ _ h => h) hS (Or.inl ⟨by rfl, fun W hW => by go_simp <;> with_reducible rfl⟩) ?_; simp only [Act.put, List.setIfInBounds_toArray, List.set_cons_zero, List.set_cons_succ])
        refine seq_end ?_
        go_wp2_with fail
        have hS : HBlk w2.drew.drew w.heap.size k x.1 ∧ QBlk w2.drew.drew (w.heap.size + 1) u t r f ∧ Below w.heap.size w w2.drew.drew := ⟨HD2.out, HQ2.out, H2.out.drew.drew⟩
        refine region_seq (fun W => HBlk W w.heap.size k x.1 ∧ QBlk W (w.heap.size + 1) u t r f ∧ Below w.heap.size w W) [(0, false), (1, false), (2, false), (3, false), (4, false), (5, false), (6, false), (7, false), (8, false), (9, true), (10, false), (11, false), (12, false), (13, false), (14, false)] (by kernel_rfl) (by kernel_rfl) rfl (by kernel_rfl) ?_
        iterate 9 (refine seq_read (v := _) rfl (fun _ _ _ h => h) hS (Or.inl ⟨by rfl, fun W hW => by go_simp <;> with_reducible rfl⟩) ?_; simp only [Act.put, List.setIfInBounds_toArray, List.set_cons_zero, List.set_cons_succ])
        refine seq_do rfl (fun K hK => ?_)
        go_simp
        refine (CA.out _ hS.2.2).mono ?_
        rintro e w3 ⟨A3, c3, rfl, ho3, hb3⟩
        have HO3 : Hid (Own w3 base A3 d'.length c3 d') := ho3.lower (Nat.le_trans hbs hS.2.2.size)
        have hS3 : HBlk w3 w.heap.size k x.1 ∧ QBlk w3 (w.heap.size + 1) u t r f ∧ Below w.heap.size w w3 := ⟨hS.1.bel hb3 hS.1.lt, hS.2.1.below hb3 hS.2.1.lt, hS.2.2.trans (hb3.mono hS.2.2.size)⟩
        clear hS
        have hS := hS3
        refine hK.out _ _ _ (fun W h => h) hS ?_
        clear hK K CA hb3 hS3 ho3
        iterate 5 (refine seq_read (v := _) rfl (fun _ _ _ h => h) hS (Or.inl ⟨by rfl, fun W hW => by go_simp <;> with_reducible rfl⟩) ?_; simp only [Act.put, List.setIfInBounds_toArray, List.set_cons_zero, List.set_cons_succ])
        refine seq_end ?_
        have HX := Lib.hid hS
        clear hS
        go_wp2_with fail
        obtain ⟨wd, hwd⟩ : ∃ wd, w3.drew = wd := ⟨_, rfl⟩
        have hS : HBlk wd w.heap.size k x.1 ∧ QBlk wd (w.heap.size + 1) u t r f ∧ Below w.heap.size w wd := hwd ▸ ⟨HX.out.1, HX.out.2.1, HX.out.2.2.drew⟩
        have HOd : Hid (Own wd base A3 d'.length c3 d') := hwd ▸ HO3.out
        refine region_seqX (fun W => HBlk W w.heap.size k x.1 ∧ QBlk W (w.heap.size + 1) u t r f ∧ Below w.heap.size w W) 8 [(0, false), (1, false), (2, false), (3, false), (4, false), (5, false), (6, false), (7, false), (8, true)] (by kernel_rfl) (by kernel_rfl) rfl (by kernel_rfl) ?_
        rw [hwd]
        iterate 8 (refine seqX_read (v := _) rfl (fun _ _ _ h => h) hS (Or.inl ⟨by rfl, fun W hW => by go_simp <;> with_reducible rfl⟩) ?_; simp only [Act.put, List.setIfInBounds_toArray, List.set_cons_zero, List.set_cons_succ])
        have HS4 := Lib.hid (H.out.bel hS.2.2)
        obtain ⟨e', d2, -, -, -, -, hce⟩ := HS4.out.elem hkl
        obtain ⟨T, hpb, -⟩ := HS4.out.blkP hN
        have hfz := frozen_of_row wd p k _ _ hpb
        obtain ⟨hst, hu6⟩ := HS4.out.store hN hkl HOd.out HL3.out
        have HST := Lib.hid hst
        have HU6 : Hid (Upd (· = p) w (wd.setCell ⟨p, k, none⟩ (.slice A3 d'.length c3))) := (Upd.of hS.2.2).trans hu6
        clear hst hu6 hpb hS hwd f0 fq0 fq1 fq2 fq3 fl fb fr fe
        refine seqX_last rfl (fun K hK => ?_)
        go_simp
        refine hK.out _ _ ?_
        clear hK K hce hfz
        go_wp2_with fail
        go_ret
        exact ⟨rfl, ⟨_, HST.out⟩, HU6.out⟩
    · obtain ⟨e1, e2⟩ := patch_many (D := D) u t r f hx hl h1
      rw [e1, e2]
      have q1 : (x.2 != 1) = true := by simp [h1]
      clear hl hp0 h1 hd hx e1 e2
      go_enter Try.func18, Try.ntmps18
      go_wp2_with fail
      refine (CL.out _ HB.out).mono ?_
      rintro e w2 ⟨rfl, hb2⟩
      have H2 := Lib.hid (HB.out.trans (hb2.mono HB.out.size))
      have HD2 := Lib.hid (HD.out.bel hb2 HD.out.lt)
      have HQ2 := Lib.hid (HQ.out.below hb2 HQ.out.lt)
      clear hb2 CL c0 c1
      go_wp2_with fail
      have hS : HBlk w2.drew w.heap.size k x.1 ∧ QBlk w2.drew (w.heap.size + 1) u t r f ∧ Below w.heap.size w w2.drew := ⟨HD2.out, HQ2.out, H2.out.drew⟩
      refine region_seq (fun W => HBlk W w.heap.size k x.1 ∧ QBlk W (w.heap.size + 1) u t r f ∧ Below w.heap.size w W) [(0, false), (1, false), (2, false), (3, false), (4, false), (5, false), (6, false), (7, false), (8, false), (9, false)] (by kernel_rfl) (by kernel_rfl) rfl (by kernel_rfl) ?_
      iterate 10 (refine seq_read (v := _) rfl (fun _ _ _ h => h) hS (Or.inl ⟨by rfl, fun W hW => by go_simp <;> with_reducible rfl⟩) ?_; simp only [Act.put, List.setIfInBounds_toArray, List.set_cons_zero, List.set_cons_succ])
      refine seq_end ?_
      clear hS f0 fq0 fq1 fq2 fq3 fl fb fr fe
      go_wp2_with fail
      go_ret
      exact ⟨rfl, ⟨E, H.out.bel H2.out.drew⟩, .of H2.out.drew⟩
end Go.Proofs.Ytdnnfoacpjgloaa.Stv
