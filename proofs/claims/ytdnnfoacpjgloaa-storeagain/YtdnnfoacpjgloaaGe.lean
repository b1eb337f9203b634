/- The contract of the store's Put. -/
import Derived.Test.YtdnnfoacpjgloaaGd
set_option maxRecDepth 100000
namespace Go.Proofs.Ytdnnfoacpjgloaa.Stv
open Go.RowKit
open Arn (Slt Ar OkS Upd hnV hnO HBlk takeH takeE takeL take_cases leastF)
set_option linter.unusedVariables false

/-- What Put tells of n bytes. -/
def putH (L : List Slt) (n : Nat) : Int × Int := if 512 < n then (0, 0) else takeH L
def putE (L : List Slt) (n : Nat) : Int := if 512 < n then 5 else takeE L
def putL (L : List Slt) (n : Nat) : List Slt := if 512 < n then L else takeL L
def putD (L : List Slt) (D : List (List Int)) (xs : List Int) : List (List Int) := if 512 < xs.length then D else match leastF L with | some k => D.set k xs | none => D
theorem putL_len (L : List Slt) (n : Nat) : (putL L n).length = L.length := by unfold putL; split <;> simp [Arn.takeL_len]
theorem putD_len (L : List Slt) (D : List (List Int)) (xs : List Int) : (putD L D xs).length = D.length := by
  unfold putD; split
  · rfl
  · split <;> simp
theorem OkS.put {M : Int} {L : List Slt} (h : OkS M L) (hM : 1 ≤ M) (n : Nat) : OkS M (putL L n) := by unfold putL; split; exact h; exact h.take hM
theorem retP_at {f : Func} {R : Ending → World → Prop} {W : World} {b : Nat} {s g n : Int} {tmps : Array Value} (hf : f.results = #[.cell 4 31, .tmp 5]) (D : HBlk W b s g) (hR : R (.returned (.tuple #[hnV s g, .int .i64 n])) W)
    (h4 : tmps[4]?.getD undef = .pointer (some ⟨b, 0, none⟩) := by rfl) (h5 : tmps[5]?.getD undef = .int .i64 n := by rfl) : bodyPost Try.prog f R .ret ⟨tmps, []⟩ W := by
  have c0 := D.c0
  have c1 := D.c1
  exact bodyPost_ret (v := .tuple #[hnV s g, .int .i64 n]) (by simp [results, hf, go_sem, h4, h5, c0, c1]) rfl hR

set_option maxHeartbeats 4000000 in
theorem put_st (w : World) (b ba ga g n c : Nat) (a : Option Addr) (L : List Slt) (D : List (List Int)) (xs : List Int) (h : Sto w b ba ga g L D) (hL : L.length ≤ 1024) (hx : xs.length = n) (hr : ∀ W, Upd (· = ga) w W → Rd W W.heap.size a n xs) :
    Calls Try.prog 11 #[.pointer (some ⟨b, 0, none⟩), .slice a n c] w fun e w' => e = .returned (.tuple #[hnV (putH L n).1 (putH L n).2, .int .i64 (putE L n)]) ∧ Sto w' b ba ga g (putL L n) (putD L D xs) ∧ Upd (fun k => k = ga ∨ k = g) w w' := by
  have hB := (Below.refl w.heap.size w).alloc (Nat.le_refl _) (hnO 0 0)
  have hD := HBlk.new w 0 0
  have h1 := h.bel hB
  have hg := h.lt
  generalize hw1 : w.alloc (hnO 0 0) = w1 at hB hD h1
  have HB := Lib.hid hB
  have HD := Lib.hid hD
  have H1 := Lib.hid h1
  have HG := Lib.hid hg
  have HR := Lib.hid hr
  have d0 := hD.c0
  have d1 := hD.c1
  have f0 := hD.frozen 0
  have f1 := hD.frozen 1
  clear hB hD h1 h hg hr
  by_cases h5 : 512 < n
  · rw [putH, putE, putL, putD, hx, if_pos h5, if_pos h5, if_pos h5, if_pos h5]
    have hd : decide ((512 : Int) < n) = true := by simp; omega
    clear h5
    go_enter Try.func11, Try.ntmps11
    go_wp2_with fail
    have D2 := HBlk.new w 0 0
    rw [hw1] at D2
    first
      | exact retP_at Try.results11 D2 ⟨rfl, H1.out, .of HB.out⟩
      | (have D3 := D2.store 0 0
         have HU := Lib.hid (((Upd.of (S := fun k => k = ga ∨ k = g) HB.out).setCell (b := w.heap.size) (i := 0) (.inr (Nat.le_refl _)) (.int .i64 0)).setCell (b := w.heap.size) (i := 1) (.inr (Nat.le_refl _)) (.int .u32 0))
         have H3 := H1.out.upd (((Upd.refl (· = w.heap.size) w1).setCell (b := w.heap.size) (i := 0) (.inl rfl) (.int .i64 0)).setCell (b := w.heap.size) (i := 1) (.inl rfl) (.int .u32 0)) (by show b ≠ w.heap.size; have := HG.out; omega) (by show ba ≠ w.heap.size; have := HG.out; omega) (by show ga ≠ w.heap.size; have := HG.out; omega) (by show g ≠ w.heap.size; have := HG.out; omega)
         exact retP_at Try.results11 D3 ⟨rfl, H3, HU.out⟩)
  · rw [putH, putE, putL, putD, hx, if_neg h5, if_neg h5, if_neg h5, if_neg h5]
    have hd : decide ((512 : Int) < n) = false := by simp; omega
    have hn5 : n ≤ 512 := by omega
    clear h5
    have CS : Hid (∀ W, Below w.heap.size w W → Sto W b ba ga g L D → Calls Try.prog 31 #[.pointer (some ⟨b, 0, none⟩)] W fun e w' => e = .returned (.pointer (some ⟨ba, 0, none⟩)) ∧ W = w') := fun W _ hW => slots_of W b ba ga g L D hW
    have CT : Hid (Calls Try.prog 32 #[.pointer (some ⟨ba, 0, none⟩)] w1 fun e w' => e = .returned (.tuple #[hnV (takeH L).1 (takeH L).2, .int .i64 (takeE L)]) ∧ Ar w' ba ga (takeL L) ∧ Upd (· = ga) w1 w') := Arn.take_any w1 ba ga L H1.out.ar hL
    rcases take_cases L with ⟨e0, e1, e2, e3, -⟩ | ⟨k, x, e0, hk, e1, e2, e3, -⟩
    · rw [e0, e1, e2, e3]
      rw [e1, e2, e3] at CT
      clear e0 e1 e2 e3
      go_enter Try.func11, Try.ntmps11
      go_wp2_with fail
      refine (CS.out _ HB.out H1.out).mono ?_
      rintro e w2 ⟨rfl, rfl⟩
      clear CS
      go_wp2_with fail
      refine CT.out.mono ?_
      rintro e w2 ⟨rfl, ha, hu⟩
      have hS2 := H1.out.slots ha hu rfl
      have hD2 := HD.out.upd hu (by show _ ≠ _; have := HG.out; omega)
      have hU2 : Upd (fun k => k = ga ∨ k = g) w w2 := (Upd.of HB.out).trans (hu.mono fun k hk => .inl hk)
      have hba := (Below.refl w2.heap.size w2).alloc (Nat.le_refl _) (hnO 0 0)
      have HS3 := Lib.hid (hS2.bel hba)
      have HD3 := Lib.hid (hD2.bel hba hD2.lt)
      have HU3 := Lib.hid (hU2.alloc (hnO 0 0))
      have d0 := HD3.out.c0
      have d1 := HD3.out.c1
      have f0 := HD3.out.frozen 0
      have f1 := HD3.out.frozen 1
      have hwne : w2.heap.size ≠ w.heap.size := by have := hD2.lt; omega
      clear hS2 hD2 hU2 hba ha hu CT hw1
      go_wp2_with fail
      generalize w2.alloc (hnO 0 0) = w3 at *
      have D4 := HD3.out.store 0 0
      have HU := Lib.hid ((HU3.out.setCell (b := w.heap.size) (i := 0) (.inr (Nat.le_refl _)) (.int .i64 0)).setCell (b := w.heap.size) (i := 1) (.inr (Nat.le_refl _)) (.int .u32 0))
      have H4 := HS3.out.upd (((Upd.refl (· = w.heap.size) w3).setCell (b := w.heap.size) (i := 0) (.inl rfl) (.int .i64 0)).setCell (b := w.heap.size) (i := 1) (.inl rfl) (.int .u32 0)) (by show b ≠ w.heap.size; have := HG.out; omega) (by show ba ≠ w.heap.size; have := HG.out; omega) (by show ga ≠ w.heap.size; have := HG.out; omega) (by show g ≠ w.heap.size; have := HG.out; omega)
      exact retP_at Try.results11 D4 ⟨rfl, H4, HU.out⟩
    · rw [e0, e1, e2, e3]
      rw [e1, e2, e3] at CT
      clear e0 e1 e2 e3
      have hkl : k < L.length := (List.getElem?_eq_some_iff.1 hk).1
      obtain ⟨d, hdk⟩ := room_of H1.out.len hk
      obtain ⟨N, hN⟩ : ∃ N, L.length = N := ⟨_, rfl⟩
      have hkN : k < N := by omega
      have qN : decide (N ≤ k) = false := by simp; omega
      go_enter Try.func11, Try.ntmps11
      go_wp2_with fail
      refine (CS.out _ HB.out H1.out).mono ?_
      rintro e w2 ⟨rfl, rfl⟩
      clear CS
      go_wp2_with fail
      refine CT.out.mono ?_
      rintro e w2 ⟨rfl, ha, hu⟩
      have hS2 := H1.out.slots ha hu (by simp)
      have hD2 := HD.out.upd hu (by show _ ≠ _; have := HG.out; omega)
      have hU2 : Upd (· = ga) w w2 := (Upd.of HB.out).trans hu
      have hba := (Below.refl w2.heap.size w2).alloc (Nat.le_refl _) (hnO k x)
      have HS3 := Lib.hid (hS2.bel hba)
      have HD3 := Lib.hid (hD2.bel hba hD2.lt)
      have HU3 := Lib.hid (hU2.alloc (hnO k x))
      have HE3 := Lib.hid (HBlk.new w2 k x)
      have hwne : w2.heap.size ≠ w.heap.size := by have := hD2.lt; omega
      have HGE := Lib.hid (show g < w2.heap.size from hS2.lt.2.2.2)
      have HQ := Lib.hid hwne
      clear hS2 hD2 hU2 hba ha hu CT d0 d1 f0 f1 hw1
      go_wp2_with fail
      obtain ⟨wd, hwd⟩ : ∃ wd, w2.alloc (hnO k x) = wd := ⟨_, rfl⟩
      rw [hwd]
      rw [hwd] at HS3 HD3 HU3 HE3
      obtain ⟨rb, hrb⟩ : ∃ rb, w2.heap.size = rb := ⟨_, rfl⟩
      rw [hrb] at HE3 hwne HGE HQ ⊢
      clear hwd hrb
      have hS : Below wd.heap.size wd wd.drew := (Below.refl _ _).drew
      have g0 : ∀ W, Below wd.heap.size wd W → W.cell? ⟨b, 1, none⟩ = some (.slice (some ⟨g, 0, none⟩) N N) := fun W hW => by have := (HS3.out.bel hW).c1; rw [List.length_set, hN] at this; exact this
      have g1 : ∀ W, Below wd.heap.size wd W → W.cell? ⟨rb, 0, none⟩ = some (.int .i64 (k : Int)) := fun W hW => (HE3.out.bel hW HE3.out.lt).c0
      refine region_seq (Below wd.heap.size wd) [(0, false), (1, false), (2, false), (3, false), (4, false), (5, false), (6, false), (7, false)] (by kernel_rfl) (by kernel_rfl) rfl (by kernel_rfl) ?_
      iterate 8 (refine seq_read (v := _) rfl (fun _ _ _ h => h) hS (Or.inl ⟨by rfl, fun W hW => by go_simp <;> with_reducible rfl⟩) ?_; simp only [Act.put, List.setIfInBounds_toArray, List.set_cons_zero, List.set_cons_succ])
      refine seq_end ?_
      clear g0 g1
      obtain ⟨wr, hwr⟩ : ∃ wr, wd.drew = wr := ⟨_, rfl⟩
      have HS4 : Hid (Sto wr b ba ga g (L.set k (x, 1)) D) := hwr ▸ HS3.out.bel (Below.refl _ _).drew
      have HD4 : Hid (HBlk wr w.heap.size 0 0) := hwr ▸ HD3.out
      have HE4 : Hid (HBlk wr rb k x) := hwr ▸ HE3.out
      have HU4 : Hid (Upd (· = ga) w wr) := hwr ▸ HU3.out.drew
      rw [hwr]
      clear hwr hS HS3 HD3 HE3 HU3 hwne
      obtain ⟨w5, hcp, hu5, ⟨u, hcu⟩, hfz, hsz, hrm⟩ := HS4.out.rm.copy (c := c) 3 hdk (HR.out wr HU4.out) hn5
      obtain ⟨w6, hw6⟩ : ∃ w6, w5.setCell ⟨g, k * 513 + 512, none⟩ (.int .i64 n) = w6 := ⟨_, rfl⟩
      rw [hw6] at hrm
      have hu6 : Upd (· = g) wr w6 := hw6 ▸ hu5.setCell (b := g) (i := k * 513 + 512) (.inl rfl) (.int .i64 n)
      have hr0 : w.heap.size ≠ g := by have := HG.out; omega
      have HD6 := Lib.hid (HD4.out.upd hu6 hr0)
      have HE6 := Lib.hid (HE4.out.upd hu6 (by show rb ≠ g; have := HGE.out; omega))
      have HS6 := Lib.hid (HS4.out.rooms hrm hu6 (by simp))
      have HU6 : Hid (Upd (fun k => k = ga ∨ k = g) w w6) := (HU4.out.mono fun k hk => .inl hk).trans (hu6.mono fun k hk => .inr hk)
      clear hrm hu6 hu5 hsz HS4 HD4 HE4 HU4 hr0 hdk hk
      have c0 := HE6.out.c0
      have c1 := HE6.out.c1
      have d0 := HD6.out.c0
      have d1 := HD6.out.c1
      have f0 := HD6.out.frozen 0
      have f1 := HD6.out.frozen 1
      go_wp2_with fail
      clear hw6
      have D7 := HD6.out.store (k : Int) x
      have HU := Lib.hid ((HU6.out.setCell (b := w.heap.size) (i := 0) (.inr (Nat.le_refl _)) (.int .i64 (k : Int))).setCell (b := w.heap.size) (i := 1) (.inr (Nat.le_refl _)) (.int .u32 x))
      have H7 := HS6.out.upd (((Upd.refl (· = w.heap.size) w6).setCell (b := w.heap.size) (i := 0) (.inl rfl) (.int .i64 (k : Int))).setCell (b := w.heap.size) (i := 1) (.inl rfl) (.int .u32 x)) (by show b ≠ w.heap.size; have := HG.out; omega) (by show ba ≠ w.heap.size; have := HG.out; omega) (by show ga ≠ w.heap.size; have := HG.out; omega) (by show g ≠ w.heap.size; have := HG.out; omega)
      generalize (w6.setCell ⟨w.heap.size, 0, none⟩ (.int .i64 (k : Int))).setCell ⟨w.heap.size, 1, none⟩ (.int .u32 x) = w7 at *
      exact retP_at Try.results11 D7 ⟨rfl, H7, HU.out⟩
end Go.Proofs.Ytdnnfoacpjgloaa.Stv
