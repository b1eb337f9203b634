/- The contracts of the reference's Put, Patch, Keep, Drop on its store with rows of bytes. -/
import Derived.Test.YtdnnfoacpjgloaaGf
set_option maxRecDepth 100000
namespace Go.Proofs.Ytdnnfoacpjgloaa.Stv
open Go.RowKit
open Arn (Slt St OkS Upd hnV hnO HBlk refsV callE keepL dropL freeN liveB live_cases refsV_at refsV_no newL slcL RBlk SHead takeH takeE takeL take_cases)
open Pat (hasD applyL pch QBlk PF)
set_option linter.unusedVariables false

theorem apply_len {d : List Int} {q t r f : Int} (hb : Bytes d) (hp : PF q t r f) : (applyL d q t r f).length = d.length := by
  by_cases h : hasD d = true
  · exact (Pat.apply_steps hb h ⟨hp.q0, hp.q1⟩ ⟨hp.t0, hp.t1⟩ ⟨hp.s0, hp.s1⟩ ⟨hp.f0, hp.f1⟩).2.2.2.2.1
  · rw [applyL, if_neg h]
theorem set_same {α : Type} {D : List α} {k : Nat} {d : α} (h : D[k]? = some d) : D.set k d = D := by
  apply List.ext_getElem?
  intro j
  rw [List.getElem?_set]
  by_cases e : k = j
  · subst e; rw [if_pos rfl, if_pos (List.getElem?_eq_some_iff.1 h).1, h]
  · rw [if_neg e]

set_option maxHeartbeats 4000000 in
theorem rput_st (w : World) (base b q c p cB n m B : Nat) (E : List (Option Addr × Nat × Nat)) (a : Option Addr) (L : List Slt) (D : List (List Int)) (xs : List Int) (h : RSt w base b q c p cB E L D) (hN : 0 < L.length) (hL : L.length ≤ 1024) (hbs : base ≤ w.heap.size) (hx : xs.length = n) (hr : ∀ W, Upd (· = q) w W → Rd W W.heap.size a n xs) :
    Calls Try.prog 12 #[.pointer (some ⟨b, 0, none⟩), .slice a n m] w fun e w' => e = .returned (.tuple #[hnV (putH L n).1 (putH L n).2, .int .i64 (putE L n)]) ∧ (∃ E', RSt w' base b q c p cB E' (putL L n) (putD L D xs)) ∧ Upd (fun k => k = q ∨ k = p) w w' := by
  have hB := (Below.refl w.heap.size w).alloc (Nat.le_refl _) (hnO 0 0)
  have hD := HBlk.new w 0 0
  have h1 := h.bel hB
  have hg := h.lt hN
  have hne := h.ne hN
  generalize hw1 : w.alloc (hnO 0 0) = w1 at hB hD h1
  have HB := Lib.hid hB
  have HD := Lib.hid hD
  have H1 := Lib.hid h1
  have HG := Lib.hid hg
  have HNE := Lib.hid hne
  have HR := Lib.hid hr
  have d0 := hD.c0
  have d1 := hD.c1
  have f0 := hD.frozen 0
  have f1 := hD.frozen 1
  clear hB hD h1 h hg hr hne
  have offC : Hid (∀ W, RSt W base b q c p cB E L D → ∀ W', Upd (· = w.heap.size) W W' → (∃ cs t fz, W.heap[w.heap.size]? = some (.cells cs t fz) ∧ t ≠ 5) → RSt W' base b q c p cB E L D) := fun W hW W' hu ⟨cs, t, fz, ht, hne⟩ =>
    hW.upd hu (by show b ≠ w.heap.size; have := HG.out; omega) (by show q ≠ w.heap.size; have := HG.out; omega) (by show p ≠ w.heap.size; have := HG.out; omega) (by
      rintro k cs' fz' rfl hk
      have := ht.symm.trans hk
      simp only [Option.some.injEq, Obj.cells.injEq] at this
      exact hne this.2.1)
  by_cases h5 : 512 < n
  · rw [putH, putE, putL, putD, hx, if_pos h5, if_pos h5, if_pos h5, if_pos h5]
    have hd : decide ((512 : Int) < n) = true := by simp; omega
    clear h5
    go_enter Try.func12, Try.ntmps12
    go_wp2_with fail
    have D2 := HBlk.new w 0 0
    rw [hw1] at D2
    first
      | exact retP_at Try.results12 D2 ⟨rfl, ⟨E, H1.out⟩, .of HB.out⟩
      | (have D3 := D2.store 0 0
         have HU := Lib.hid (((Upd.of (S := fun k => k = q ∨ k = p) HB.out).setCell (b := w.heap.size) (i := 0) (.inr (Nat.le_refl _)) (.int .i64 0)).setCell (b := w.heap.size) (i := 1) (.inr (Nat.le_refl _)) (.int .u32 0))
         have H3 := offC.out _ H1.out _ (((Upd.refl (· = w.heap.size) w1).setCell (b := w.heap.size) (i := 0) (.inl rfl) (.int .i64 0)).setCell (b := w.heap.size) (i := 1) (.inl rfl) (.int .u32 0)) ⟨_, _, _, HD.out, by decide⟩
         exact retP_at Try.results12 D3 ⟨rfl, ⟨E, H3⟩, HU.out⟩)
  · rw [putH, putE, putL, putD, hx, if_neg h5, if_neg h5, if_neg h5, if_neg h5]
    have hd : decide ((512 : Int) < n) = false := by simp; omega
    have hn5 : n ≤ 512 := by omega
    clear h5
    have CT : Hid (Calls Try.prog 33 #[.pointer (some ⟨b, 0, none⟩)] w1 fun e w' => e = .returned (.tuple #[hnV (takeH L).1 (takeH L).2, .int .i64 (takeE L)]) ∧ St w' b q c (.slice (some ⟨p, 0, none⟩) L.length cB) (takeL L) ∧ Upd (· = q) w1 w') := Arn.rtake_any w1 b q c _ L H1.out.st hL
    rcases take_cases L with ⟨e0, e1, e2, e3, -⟩ | ⟨k, x, e0, hk, e1, e2, e3, -⟩
    · rw [e0, e1, e2, e3]
      rw [e1, e2, e3] at CT
      clear e0 e1 e2 e3
      go_enter Try.func12, Try.ntmps12
      go_wp2_with fail
      refine CT.out.mono ?_
      rintro e w2 ⟨rfl, hs, hu⟩
      have hS2 := H1.out.slots hN hs hu rfl
      have hD2 := HD.out.upd hu (by show _ ≠ _; have := HG.out; omega)
      have hU2 : Upd (fun k => k = q ∨ k = p) w w2 := (Upd.of HB.out).trans (hu.mono fun k hk => .inl hk)
      have hba := (Below.refl w2.heap.size w2).alloc (Nat.le_refl _) (hnO 0 0)
      have HS3 := Lib.hid (hS2.bel hba)
      have HD3 := Lib.hid (hD2.bel hba hD2.lt)
      have HU3 := Lib.hid (hU2.alloc (hnO 0 0))
      have HE3 := Lib.hid (HBlk.new w2 0 0)
      have d0 := HD3.out.c0
      have d1 := HD3.out.c1
      have f0 := HD3.out.frozen 0
      have f1 := HD3.out.frozen 1
      have hwne : w2.heap.size ≠ w.heap.size := by have := hD2.lt; omega
      clear hS2 hD2 hU2 hba hs hu CT hw1
      go_wp2_with fail
      generalize w2.alloc (hnO 0 0) = w3 at *
      have D4 := HD3.out.store 0 0
      have HU := Lib.hid ((HU3.out.setCell (b := w.heap.size) (i := 0) (.inr (Nat.le_refl _)) (.int .i64 0)).setCell (b := w.heap.size) (i := 1) (.inr (Nat.le_refl _)) (.int .u32 0))
      have H4 := offC.out _ HS3.out _ (((Upd.refl (· = w.heap.size) w3).setCell (b := w.heap.size) (i := 0) (.inl rfl) (.int .i64 0)).setCell (b := w.heap.size) (i := 1) (.inl rfl) (.int .u32 0)) ⟨_, _, _, HD3.out, by decide⟩
      exact retP_at Try.results12 D4 ⟨rfl, ⟨E, H4⟩, HU.out⟩
    · rw [e0, e1, e2, e3]
      rw [e1, e2, e3] at CT
      clear e0 e1 e2 e3
      have hkl : k < L.length := (List.getElem?_eq_some_iff.1 hk).1
      obtain ⟨N, hNN⟩ : ∃ N, L.length = N := ⟨_, rfl⟩
      have hkN : k < N := by omega
      have qN : decide (N ≤ k) = false := by simp; omega
      go_enter Try.func12, Try.ntmps12
      go_wp2_with fail
      refine CT.out.mono ?_
      rintro e w2 ⟨rfl, hs, hu⟩
      have hS2 := H1.out.slots hN hs hu (by simp)
      have hD2 := HD.out.upd hu (by show _ ≠ _; have := HG.out; omega)
      have hU2 : Upd (· = q) w w2 := (Upd.of HB.out).trans hu
      have hba := (Below.refl w2.heap.size w2).alloc (Nat.le_refl _) (hnO k x)
      have HS3 := Lib.hid (hS2.bel hba)
      have HD3 := Lib.hid (hD2.bel hba hD2.lt)
      have HU3 := Lib.hid (hU2.alloc (hnO k x))
      have HE3 := Lib.hid (HBlk.new w2 k x)
      have HPB := Lib.hid (show p < w2.heap.size from (hS2.lt (by rw [List.length_set]; exact hN)).2.2)
      have hwne : w2.heap.size ≠ w.heap.size := by have := hD2.lt; omega
      clear hS2 hD2 hU2 hba hs hu CT d0 d1 f0 f1 hw1
      go_wp2_with fail
      obtain ⟨wd, hwd⟩ : ∃ wd, w2.alloc (hnO k x) = wd := ⟨_, rfl⟩
      rw [hwd]
      rw [hwd] at HS3 HD3 HU3 HE3
      obtain ⟨rb, hrb⟩ : ∃ rb, w2.heap.size = rb := ⟨_, rfl⟩
      rw [hrb] at HE3 hwne HPB ⊢
      clear hwd hrb
      have hS : Below wd.heap.size wd wd.drew := (Below.refl _ _).drew
      have g0 : ∀ W, Below wd.heap.size wd W → W.cell? ⟨b, 1, none⟩ = some (.slice (some ⟨p, 0, none⟩) N cB) := fun W hW => by have := (HS3.out.bel hW).st.blk.c1; rw [List.length_set, hNN] at this; exact this
      have g1 : ∀ W, Below wd.heap.size wd W → W.cell? ⟨rb, 0, none⟩ = some (.int .i64 (k : Int)) := fun W hW => (HE3.out.bel hW HE3.out.lt).c0
      refine region_seqX (Below wd.heap.size wd) 9 [(0, false), (1, false), (2, false), (3, false), (4, false), (5, false), (6, false), (7, true), (8, false), (9, true)] (by kernel_rfl) (by kernel_rfl) rfl (by kernel_rfl) ?_
      obtain ⟨wr, hwr⟩ : ∃ wr, wd.drew = wr := ⟨_, rfl⟩
      rw [hwr] at hS ⊢
      iterate 7 (refine seqX_read (v := _) rfl (fun _ _ _ h => h) hS (Or.inl ⟨by rfl, fun W hW => by go_simp <;> with_reducible rfl⟩) ?_; simp only [Act.put, List.setIfInBounds_toArray, List.set_cons_zero, List.set_cons_succ])
      have HU4 : Hid (Upd (· = q) w wr) := hwr ▸ HU3.out.drew
      have HR4 := Lib.hid (HR.out wr HU4.out)
      clear HU3 hwr
      refine seqX_do rfl (fun K hK => ?_)
      rw [if_pos (by rfl)]
      refine Pat.oper_append_bytes (.const (.slice none 0 0)) (.tmp 25) rfl wr.heap.size wr.heap.size 0 0 n m n none a [] xs xs (Nat.zero_add _) rfl rfl rfl (Own.nil _ _) HR4.out (Nat.le_refl _) (by omega) (fun A4 c4 w4 ho4 hb4 => hK.out _ _ _ (fun W h => h) (hS.trans (hb4.mono hS.size)) ?_)
      clear hK K
      simp only [Act.put, List.setIfInBounds_toArray, List.set_cons_zero, List.set_cons_succ]
      have hS4 : Below wd.heap.size wd w4 := hS.trans (hb4.mono hS.size)
      have HO4 : Hid (Own w4 base A4 n c4 xs) := ho4.lower (Nat.le_trans hbs HU4.out.size)
      have HU5 : Hid (Upd (fun k => k = q ∨ k = p) w w4) := (HU4.out.mono fun k hk => .inl hk).trans (.of hb4)
      clear hS ho4 hb4 HU4 HR4
      have hS := hS4
      clear hS4
      iterate 1 (refine seqX_read (v := _) rfl (fun _ _ _ h => h) hS (Or.inl ⟨by rfl, fun W hW => by go_simp <;> with_reducible rfl⟩) ?_; simp only [Act.put, List.setIfInBounds_toArray, List.set_cons_zero, List.set_cons_succ])
      have HS4 := Lib.hid (HS3.out.bel hS)
      have HD4 := Lib.hid (HD3.out.bel hS HD3.out.lt)
      have HE4 := Lib.hid (HE3.out.bel hS HE3.out.lt)
      have hN1 : 0 < (L.set k (x, 1)).length := by rw [List.length_set]; exact hN
      obtain ⟨e', d', -, -, -, -, hce⟩ := HS4.out.elem (k := k) (by rw [List.length_set]; exact hkl)
      obtain ⟨T, hpb, -⟩ := HS4.out.blkP hN1
      have hfz := frozen_of_row w4 p k _ _ hpb
      obtain ⟨hst, hu6⟩ := HS4.out.store hN1 (k := k) (by rw [List.length_set]; exact hkl) HO4.out (by omega)
      obtain ⟨w6, hw6⟩ : ∃ w6, w4.setCell ⟨p, k, none⟩ (.slice A4 n c4) = w6 := ⟨_, rfl⟩
      rw [hw6] at hst hu6
      have HS6 := Lib.hid hst
      have HD6 := Lib.hid (HD4.out.upd hu6 (by show _ ≠ _; have := HG.out; omega))
      have HE6 := Lib.hid (HE4.out.upd hu6 (by show rb ≠ p; have := HPB.out; omega))
      have HU6 : Hid (Upd (fun k => k = q ∨ k = p) w w6) := HU5.out.trans (hu6.mono fun k hk => .inr hk)
      clear hst hu6 hpb hS g0 g1 HS3 HD3 HE3 HS4 HD4 HE4 HU5 HO4
      refine seqX_last rfl (fun K hK => ?_)
      go_simp
      refine hK.out _ _ ?_
      clear hK K hce hfz
      have c0 := HE6.out.c0
      have c1 := HE6.out.c1
      have d0 := HD6.out.c0
      have d1 := HD6.out.c1
      have f0 := HD6.out.frozen 0
      have f1 := HD6.out.frozen 1
      go_wp2_with fail
      clear hw6
      have D7 := HD6.out.store (k : Int) x
      have HU := Lib.hid ((HU6.out.setCell (b := w.heap.size) (i := 0) (.inr (Nat.le_refl _)) (.int .i64 (k : Int))).setCell (b := w.heap.size) (i := 1) (.inr (Nat.le_refl _)) (.int .u32 x))
      have H7 := HS6.out.upd (((Upd.refl (· = w.heap.size) w6).setCell (b := w.heap.size) (i := 0) (.inl rfl) (.int .i64 (k : Int))).setCell (b := w.heap.size) (i := 1) (.inl rfl) (.int .u32 x)) (by show b ≠ w.heap.size; have := HG.out; omega) (by show q ≠ w.heap.size; have := HG.out; omega) (by show p ≠ w.heap.size; have := HG.out; omega) (by
        rintro j cs fz rfl hk
        have := Eq.trans (Eq.symm HD6.out) hk
        simp at this)
      generalize (w6.setCell ⟨w.heap.size, 0, none⟩ (.int .i64 (k : Int))).setCell ⟨w.heap.size, 1, none⟩ (.int .u32 x) = w7 at *
      exact retP_at Try.results12 D7 ⟨rfl, ⟨_, H7⟩, HU.out⟩
end Go.Proofs.Ytdnnfoacpjgloaa.Stv
