/- The reference's Store: two rows in a struct at a block; the contract of its New. · The contracts of the reference's Live, Keep, Drop, Refs. · The contracts of the reference's Take, Free, SameSlots; of the law's some. -/
import Derived.Test.YtdnnfoacpjgloaaEf
import Derived.Test.YtdnnfoacpjgloaaXu
import Derived.Test.YtdnnfoacpjgloaaSqx
set_option maxRecDepth 100000
namespace Go.Proofs.Ytdnnfoacpjgloaa.Arn
open Go.RowKit
set_option linter.unusedVariables false

/-- A row of slices, one cell each. -/
def slcL : Lay (Option Addr × Nat × Nat) := ⟨36, 1, fun x => [.slice x.1 x.2.1 x.2.2], fun _ => rfl, fun x v hv => by
  simp only [List.mem_cons, List.not_mem_nil, or_false] at hv
  subst hv; rfl, by decide⟩
theorem info_slc : (Try.prog.info? 36).map (fun i => (i.zero, i.size, i.bytes)) = some (some (.slice none 0 0), 1, 24) := by kernel_rfl
theorem _root_.Go.Proofs.Ytdnnfoacpjgloaa.RowOwn.kept {α : Type} {L : Lay α} {w w' : World} {base n c : Nat} {A : Option Addr} {xs : List α} {t : TypeId} (h : RowOwn L w base A n c xs) (hk : Kept t w w') (ht : L.e ≠ t) : RowOwn L w' base A n c xs := by
  obtain ⟨h1, h2, h3, h4⟩ := h
  refine ⟨h1, h2, h3, ?_⟩
  rcases h4 with h | ⟨g, T, rfl, hbg, hg, hl⟩
  · exact .inl h
  · exact .inr ⟨g, T, rfl, hbg, hk.2 g _ _ _ ht hg, hl⟩
theorem one_rec {α : Type} (L : Lay α) (w : World) (x : α) : RowRd L (w.alloc (.cells (L.cel x).toArray L.e (0, 0))) (w.heap.size + 1) (some ⟨w.heap.size, 0, none⟩) 1 [x] := by
  have := rowRd_blk (L := L) (w := w.alloc (.cells (L.cel x).toArray L.e (0, 0))) (g := w.heap.size) (xs := [x]) (n := 1) (by rw [show flat L [x] = L.cel x from by simp [flat]]; exact heap_alloc_new w _) rfl
  simpa using this
/-- The struct of two slices. -/
def RBlk (w : World) (b : Nat) (x y : Value) : Prop := w.heap[b]? = some (.cells #[x, y] 53 (0, 0))
section
variable {w w' : World} {b : Nat} {x y : Value}
theorem RBlk.c0 (h : RBlk w b x y) : w.cell? ⟨b, 0, none⟩ = some x := by rw [cell_of_row w b 0 _ _ _ h]; rfl
theorem RBlk.c1 (h : RBlk w b x y) : w.cell? ⟨b, 1, none⟩ = some y := by rw [cell_of_row w b 1 _ _ _ h]; rfl
theorem RBlk.frozen (h : RBlk w b x y) (i : Nat) : w.frozen? ⟨b, i, none⟩ = false := frozen_of_row w b i _ _ h
theorem RBlk.lt (h : RBlk w b x y) : b < w.heap.size := lt_of_some h
theorem RBlk.bel {B : Nat} (h : RBlk w b x y) (hb : Below B w w') (hB : b < B) : RBlk w' b x y := (hb.block b hB).trans h
theorem RBlk.upd {S : Nat → Prop} (h : RBlk w b x y) (hu : Upd S w w') (hS : ¬ S b) : RBlk w' b x y := hu.keep h hS
theorem RBlk.set0 (h : RBlk w b x y) (u : Value) : RBlk (w.setCell ⟨b, 0, none⟩ u) b u y := heap_setCell_same w b 0 _ _ u h
theorem RBlk.set1 (h : RBlk w b x y) (u : Value) : RBlk (w.setCell ⟨b, 1, none⟩ u) b x u := heap_setCell_same w b 1 _ _ u h
end
/-- Slots that lie at the head of block g, whatever lies behind them. -/
def SHead (w : World) (g : Nat) (L : List Slt) : Prop := ∃ T, w.heap[g]? = some (.cells (flat slotL L ++ T).toArray 67 (0, 0))
section
variable {w w' : World} {b g k : Nat} {L : List Slt} {x : Slt}
theorem SHead.cell (h : SHead w g L) (hk : L[k]? = some x) (j : Nat) (v : Value) (hv : (slotL.cel x)[j]? = some v) : w.cell? ⟨g, k * 2 + j, none⟩ = some v := by
  obtain ⟨T, h⟩ := h
  have hf : (flat slotL L)[k * 2 + j]? = some v := flat_get slotL L k j x v hk hv
  rw [cell_of_row w g _ _ 67 (0, 0) h, List.getElem?_toArray, List.getElem?_append_left (List.getElem?_eq_some_iff.1 hf).1]
  exact hf
theorem SHead.gen (h : SHead w g L) (hk : L[k]? = some x) : w.cell? ⟨g, k * 2, none⟩ = some (.int .u32 x.1) := h.cell hk 0 _ rfl
theorem SHead.refs (h : SHead w g L) (hk : L[k]? = some x) : w.cell? ⟨g, k * 2 + 1, none⟩ = some (.int .i64 x.2) := h.cell hk 1 _ rfl
theorem SHead.frozen (h : SHead w g L) (i : Nat) : w.frozen? ⟨g, i, none⟩ = false := by obtain ⟨T, h⟩ := h; exact frozen_of_row w g i _ _ h
theorem SHead.lt (h : SHead w g L) : g < w.heap.size := by obtain ⟨T, h⟩ := h; exact lt_of_some h
theorem SHead.upd {S : Nat → Prop} (h : SHead w g L) (hu : Upd S w w') (hS : ¬ S g) : SHead w' g L := by obtain ⟨T, h⟩ := h; exact ⟨T, hu.keep h hS⟩
theorem SHead.bel {B : Nat} (h : SHead w g L) (hb : Below B w w') (hB : g < B) : SHead w' g L := by obtain ⟨T, h⟩ := h; exact ⟨T, (hb.block g hB).trans h⟩
theorem SHead.rd (h : SHead w g L) : RowRd slotL w w.heap.size (some ⟨g, 0, none⟩) L.length L := by
  refine ⟨rfl, fun _ => ⟨g, 0, rfl, h.lt, fun i x hi j v hv => ?_⟩⟩
  rw [Nat.zero_add]
  exact h.cell hi j v hv
theorem SHead.setGen (h : SHead w g L) (hk : L[k]? = some x) (n : Int) : SHead (w.setCell ⟨g, k * 2, none⟩ (.int .u32 n)) g (L.set k (n, x.2)) := by
  obtain ⟨T, h⟩ := h
  have := heap_setCell_same w g (k * 2) _ _ (.int .u32 n) h
  have hf := flat_set slotL T L k 0 x (n, x.2) (.int .u32 n) hk (by decide) rfl
  exact ⟨T, by rw [this, List.setIfInBounds_toArray, ← hf]; rfl⟩
theorem SHead.setRefs (h : SHead w g L) (hk : L[k]? = some x) (n : Int) : SHead (w.setCell ⟨g, k * 2 + 1, none⟩ (.int .i64 n)) g (L.set k (x.1, n)) := by
  obtain ⟨T, h⟩ := h
  have := heap_setCell_same w g (k * 2 + 1) _ _ (.int .i64 n) h
  have hf := flat_set slotL T L k 1 x (x.1, n) (.int .i64 n) hk (by decide) rfl
  exact ⟨T, by rw [this, List.setIfInBounds_toArray, ← hf]; rfl⟩
end
/-- The reference's store at block b: its slots at the head of block g, its other slice is y. -/
structure St (w : World) (b g c : Nat) (y : Value) (L : List Slt) : Prop where
  blk : RBlk w b (.slice (some ⟨g, 0, none⟩) L.length c) y
  row : SHead w g L
  cap : L.length ≤ c
section
variable {w w' : World} {b g c k : Nat} {y : Value} {L : List Slt} {S : Nat → Prop}
theorem St.ne (h : St w b g c y L) : b ≠ g := by
  rintro rfl
  obtain ⟨T, hr⟩ := h.row
  have := Eq.trans (Eq.symm h.blk) hr
  simp at this
theorem St.bel (h : St w b g c y L) (hb : Below w.heap.size w w') : St w' b g c y L := ⟨h.blk.bel hb h.blk.lt, h.row.bel hb h.row.lt, h.cap⟩
theorem St.upd (h : St w b g c y L) (hu : Upd S w w') (hb : ¬ S b) (hg : ¬ S g) : St w' b g c y L := ⟨h.blk.upd hu hb, h.row.upd hu hg, h.cap⟩
theorem St.lt (h : St w b g c y L) : b < w.heap.size ∧ g < w.heap.size := ⟨h.blk.lt, h.row.lt⟩
end
/-- A new store of the reference's, with a row of as many nil slices. -/
def RetSt (w : World) (n : Int) (e : Ending) (w' : World) : Prop := ∃ b g c B cB, e = .returned (.pointer (some ⟨b, 0, none⟩)) ∧ St w' b g c (.slice B (newL n).length cB) (newL n) ∧ RowOwn slcL w' (b + 1) B (newL n).length cB (List.replicate (newL n).length (none, 0, 0)) ∧ w.heap.size ≤ b ∧ b < g ∧ Below w.heap.size w w'
set_option maxHeartbeats 4000000 in
theorem rnew_any (w : World) (n : Int) (hw1 : -9223372036854775808 ≤ n) (hw2 : n ≤ 9223372036854775807) : Calls Try.prog 9 #[.int .i64 n] w (RetSt w n) := by
  obtain ⟨N, hN⟩ : ∃ N, (min (max n 1) 1024).toNat = N := ⟨_, rfl⟩
  have hN1 : 1 ≤ N := by omega
  have hN2 : N ≤ 1024 := by omega
  have hL : newL n = List.replicate N (1, 0) := by unfold newL; rw [hN]
  obtain ⟨m, hm⟩ : ∃ m, (if n < 1 then 1 else n) = m := ⟨_, rfl⟩
  have hmN : (if 1024 < m then 1024 else m) = (N : Int) := by omega
  have fin : Hid (∀ b w1 A cA B cB, RBlk w1 b (.slice A N cA) (.slice B N cB) → RowOwn slotL w1 (b + 1) A N cA (List.replicate N (1, 0)) → RowOwn slcL w1 (b + 1) B N cB (List.replicate N (none, 0, 0)) → w.heap.size ≤ b → Below w.heap.size w w1 → RetSt w n (.returned (.pointer (some ⟨b, 0, none⟩))) w1) := by
    intro b w1 A cA B cB h1 h2 h3 h4 h5
    rcases h2.2.2.2 with ⟨-, h0, -⟩ | ⟨g, T, rfl, hg, hk, hl⟩
    · omega
    · refine ⟨b, g, cA, B, cB, rfl, ⟨?_, ⟨T, ?_⟩, ?_⟩, ?_, h4, by omega, h5⟩
      · rw [hL, List.length_replicate]; exact h1
      · rw [hL]; exact hk
      · rw [hL, List.length_replicate]; exact h2.2.1
      · rw [hL, List.length_replicate]; exact h3
  obtain ⟨i0, hi0, hz0, hz1, hz2⟩ := info_parts info_slot
  have HI := Lib.hid (And.intro hi0 (And.intro hz0 (And.intro hz1 hz2)))
  obtain ⟨i1, hj0, hy0, hy1, hy2⟩ := info_parts info_slc
  have HJ := Lib.hid (And.intro hj0 (And.intro hy0 (And.intro hy1 hy2)))
  clear hL hi0 hz0 hz1 hz2 hj0 hy0 hy1 hy2 hN
  go_enter Try.func9, Try.ntmps9
  go_wp2
  go_loopw [4] (fun sk wx => ∃ (k : Nat) (A : Option Addr) (cA : Nat) (B : Option Addr) (cB : Nat), k ≤ N ∧ sk = .int .i64 k ∧ Hid (RBlk wx w.heap.size (.slice A k cA) (.slice B k cB)) ∧ Hid (RowOwn slotL wx (w.heap.size + 1) A k cA (List.replicate k (1, 0))) ∧ Hid (RowOwn slcL wx (w.heap.size + 1) B k cB (List.replicate k (none, 0, 0))) ∧ Hid (Below w.heap.size w wx)) (fun sk _ => N - (intOf sk).toNat)
  case atStart => exact ⟨0, none, 0, none, 0, by omega, rfl, heap_alloc_new w _, RowOwn.nil _ _, RowOwn.nil _ _, (Below.refl w.heap.size w).alloc (Nat.le_refl _) _⟩
  case round =>
    obtain ⟨k, A, cA, B, cB, hk, rfl, hb, ha, hbb, hbel⟩ := hrel
    rename World => wx
    by_cases hlt : k < N
    · have hd : decide ((k : Int) < N) = true := by simp; exact hlt
      have hsz : w.heap.size + 1 ≤ wx.heap.size := by have := hb.out.lt; omega
      have c0 := hb.out.c0
      have HO2 := Lib.hid (ha.out.bel ((Below.refl _ _).alloc (Nat.le_refl _) (slO (1, 0))))
      have HC2 := Lib.hid (hbb.out.bel ((Below.refl _ _).alloc (Nat.le_refl _) (slO (1, 0))))
      have HR2 := Lib.hid (hb.out.bel ((Below.refl _ _).alloc (Nat.le_refl _) (slO (1, 0))) hb.out.lt)
      have HB2 := Lib.hid (hbel.out.alloc hbel.out.size (slO (1, 0)))
      have hsz2 : Hid (w.heap.size + 1 ≤ (wx.alloc (slO (1, 0))).heap.size) := by show _ ≤ _; simp; omega
      have R2 := Lib.hid (one_rec slotL wx (1, 0))
      have HS := Lib.hid (show List.replicate k ((1, 0) : Slt) ++ [(1, 0)] = List.replicate (k + 1) (1, 0) from by rw [← List.replicate_succ'])
      have HS' := Lib.hid (show List.replicate k ((none, 0, 0) : Option Addr × Nat × Nat) ++ [(none, 0, 0)] = List.replicate (k + 1) (none, 0, 0) from by rw [← List.replicate_succ'])
      clear ha hbb hb hbel
      go_wp2_with (at_builtin; first
        | (refine wpList_append_keep (L := slotL) (N := k + 1) rfl (.tmp 18) (.tmp 20) rfl Try.underlying49 HI.out.1 HI.out.2.1 HI.out.2.2.1 HI.out.2.2.2 rfl (List.replicate (k + 1) (1, 0)) rfl HS.out rfl rfl HO2.out R2.out hsz2.out (by unfold maxLen; omega) (by omega) ?_
           intro A1 e1 w1 ho1 hb1 hk1
           have HR3 := Lib.hid (HR2.out.bel hb1 (by omega))
           have HC3 := Lib.hid (HC2.out.kept hk1 (by decide))
           have HB3 := Lib.hid (HB2.out.trans (hb1.mono (by omega)))
           have hsz3 : Hid (w.heap.size + 1 ≤ w1.heap.size) := Nat.le_trans hsz2.out hb1.size
           have HO4 := Lib.hid (ho1.setOff (b := w.heap.size) (i := 0) (by omega) (.slice A1 (k + 1) e1))
           have HC4 := Lib.hid (HC3.out.setOff (b := w.heap.size) (i := 0) (by omega) (.slice A1 (k + 1) e1))
           have HB4 := Lib.hid (HB3.out.setCell (p := ⟨w.heap.size, 0, none⟩) (Nat.le_refl _) (.slice A1 (k + 1) e1))
           have HR4 := Lib.hid (HR3.out.set0 (.slice A1 (k + 1) e1))
           clear hb1 hk1 ho1 HR2 HC2 HB2 HO2 R2 hsz2 c0 HC3 HB3
           have c0 := HR3.out.c0
           have c1 := HR3.out.c1
           have fz := HR3.out.frozen 0)
        | (have hz : (w1.setCell ⟨w.heap.size, 0, none⟩ (.slice A1 (k + 1) e1)).heap.size = w1.heap.size := by simp
           generalize w1.setCell ⟨w.heap.size, 0, none⟩ (.slice A1 (k + 1) e1) = w4 at *
           have HO5 := Lib.hid (HO4.out.bel ((Below.refl _ _).alloc (Nat.le_refl _) (.cells #[.slice none 0 0] 36 (0, 0))))
           have HC5 := Lib.hid (HC4.out.bel ((Below.refl _ _).alloc (Nat.le_refl _) (.cells #[.slice none 0 0] 36 (0, 0))))
           have HR5 := Lib.hid (HR4.out.bel ((Below.refl _ _).alloc (Nat.le_refl _) (.cells #[.slice none 0 0] 36 (0, 0))) HR4.out.lt)
           have HB5 := Lib.hid (HB4.out.alloc HB4.out.size (.cells #[.slice none 0 0] 36 (0, 0)))
           have R5 := Lib.hid (one_rec slcL w4 (none, 0, 0))
           rw [hz] at R5
           have hsz5 : Hid (w.heap.size + 1 ≤ (w4.alloc (.cells #[.slice none 0 0] 36 (0, 0))).heap.size) := Nat.le_trans (hz ▸ hsz3.out) ((Below.refl w4.heap.size w4).alloc (Nat.le_refl _) _).size
           refine wpList_append_keep (L := slcL) (N := k + 1) rfl (.tmp 28) (.tmp 29) rfl Try.underlying51 HJ.out.1 HJ.out.2.1 HJ.out.2.2.1 HJ.out.2.2.2 rfl (List.replicate (k + 1) (none, 0, 0)) rfl HS'.out rfl rfl HC5.out R5.out hsz5.out (by unfold maxLen; omega) (by omega) ?_
           intro B1 e2 w2 ho2 hb2 hk2
           have HR6 := Lib.hid (HR5.out.bel hb2 (by omega))
           have HO6 := Lib.hid (HO5.out.kept hk2 (by decide))
           have HB6 := Lib.hid (HB5.out.trans (hb2.mono (by omega)))
           have HO7 := Lib.hid (HO6.out.setOff (b := w.heap.size) (i := 1) (by omega) (.slice B1 (k + 1) e2))
           have HC7 := Lib.hid (ho2.setOff (b := w.heap.size) (i := 1) (by omega) (.slice B1 (k + 1) e2))
           have HB7 := Lib.hid (HB6.out.setCell (p := ⟨w.heap.size, 1, none⟩) (Nat.le_refl _) (.slice B1 (k + 1) e2))
           have HR7 := Lib.hid (HR6.out.set1 (.slice B1 (k + 1) e2))
           clear hb2 hk2 ho2 HO4 HC4 HR4 HB4 HO5 HC5 HR5 HB5 R5 hsz5 c0 c1 fz
           have c1 := HR6.out.c1
           have fz := HR6.out.frozen 1))
      go_roundw
      case rel => exact ⟨k + 1, A1, e1, B1, e2, by omega, by go_num, HR7, HO7, HC7, HB7⟩
      case measure => simp [intOf]; omega
    · obtain rfl : k = N := by omega
      have F := Lib.hid (fin.out _ wx A cA B cB hb.out ha.out hbb.out (Nat.le_refl _) hbel.out)
      have hd : decide ((k : Int) < k) = false := by simp
      clear ha hbb hb hbel fin
      go_wp2
      go_ret
      exact F.out
end Go.Proofs.Ytdnnfoacpjgloaa.Arn

namespace Go.Proofs.Ytdnnfoacpjgloaa.Arn
open Go.RowKit
set_option linter.unusedVariables false

set_option maxHeartbeats 4000000 in
theorem rlive_any (w : World) (b g c : Nat) (y : Value) (L : List Slt) (s gn : Int) (hA : St w b g c y L) (hL : L.length ≤ 1024) :
    Calls Try.prog 35 #[.pointer (some ⟨b, 0, none⟩), hnV s gn] w fun e w' => e = .returned (.bool (liveB L s gn)) ∧ Below w.heap.size w w' := by
  have hB := (Below.refl w.heap.size w).alloc (Nat.le_refl _) (hnO s gn)
  have hn := HBlk.new w s gn
  have hA1 := hA.bel hB
  generalize hw1 : w.alloc (hnO s gn) = w1 at hB hn hA1
  have f0 : ∀ W, Below w1.heap.size w1 W → W.cell? ⟨w.heap.size, 0, none⟩ = some (.int .i64 s) := fun W hW => (hn.bel hW hn.lt).c0
  have f1 : ∀ W, Below w1.heap.size w1 W → W.cell? ⟨w.heap.size, 1, none⟩ = some (.int .u32 gn) := fun W hW => (hn.bel hW hn.lt).c1
  have fa : ∀ W, Below w1.heap.size w1 W → W.cell? ⟨b, 0, none⟩ = some (.slice (some ⟨g, 0, none⟩) L.length c) := fun W hW => (hA1.bel hW).blk.c0
  have hS : Below w1.heap.size w1 w1.drew := (Below.refl _ _).drew
  have HB := Lib.hid hB
  have HA := Lib.hid hA1
  clear hB hA hA1 hn
  obtain ⟨A, hQ⟩ : ∃ A, liveB L s gn = A := ⟨_, rfl⟩
  rw [hQ]
  have HQ := Lib.hid hQ
  clear hQ
  rcases hnd_cases L s with h0 | ⟨h1, h0⟩ | ⟨k, x, rfl, hk, hx⟩
  · obtain rfl : false = A := by rw [← HQ.out, liveB_neg h0]
    have h0' : decide (0 ≤ s) = false := by simp; omega
    go_enter Try.func35, Try.ntmps35
    go_wp2_with fail
    refine region_seq (Below w1.heap.size w1) [(0, false), (1, false), (2, false), (3, false), (4, false), (5, false), (6, false), (7, false), (8, false), (9, false), (10, false), (11, false), (12, false), (13, false), (14, false), (15, false), (16, false), (17, false), (18, false), (19, false), (20, false), (21, false), (22, false), (23, false), (24, false), (25, false), (26, false), (27, false), (28, false), (29, false), (30, false), (31, false), (32, false), (33, false), (34, false), (35, false), (36, false), (37, false), (38, false), (39, false)] (by kernel_rfl) (by kernel_rfl) rfl (by kernel_rfl) ?_
    iterate 4 (refine seq_read (v := _) rfl (fun _ _ _ h => h) hS (Or.inl ⟨by rfl, fun W hW => by go_simp <;> with_reducible rfl⟩) ?_; simp only [Act.put, List.setIfInBounds_toArray, List.set_cons_zero, List.set_cons_succ])
    iterate 8 (refine seq_read (v := undef) rfl (fun _ _ _ h => h) hS (Or.inr ⟨by rfl, rfl⟩) ?_; simp only [Act.put, List.setIfInBounds_toArray, List.set_cons_zero, List.set_cons_succ])
    iterate 2 (refine seq_read (v := _) rfl (fun _ _ _ h => h) hS (Or.inl ⟨by rfl, fun W hW => by go_simp <;> with_reducible rfl⟩) ?_; simp only [Act.put, List.setIfInBounds_toArray, List.set_cons_zero, List.set_cons_succ])
    iterate 10 (refine seq_read (v := undef) rfl (fun _ _ _ h => h) hS (Or.inr ⟨by rfl, rfl⟩) ?_; simp only [Act.put, List.setIfInBounds_toArray, List.set_cons_zero, List.set_cons_succ])
    iterate 2 (refine seq_read (v := _) rfl (fun _ _ _ h => h) hS (Or.inl ⟨by rfl, fun W hW => by go_simp <;> with_reducible rfl⟩) ?_; simp only [Act.put, List.setIfInBounds_toArray, List.set_cons_zero, List.set_cons_succ])
    iterate 12 (refine seq_read (v := undef) rfl (fun _ _ _ h => h) hS (Or.inr ⟨by rfl, rfl⟩) ?_; simp only [Act.put, List.setIfInBounds_toArray, List.set_cons_zero, List.set_cons_succ])
    iterate 2 (refine seq_read (v := _) rfl (fun _ _ _ h => h) hS (Or.inl ⟨by rfl, fun W hW => by go_simp <;> with_reducible rfl⟩) ?_; simp only [Act.put, List.setIfInBounds_toArray, List.set_cons_zero, List.set_cons_succ])
    refine seq_end ?_
    go_wp2_with fail
    go_ret
    exact ⟨rfl, HB.out.drew⟩
  · obtain rfl : false = A := by rw [← HQ.out, liveB_far h1]
    have h0' : decide (0 ≤ s) = true := by simp; omega
    have h1' : decide (s < (L.length : Int)) = false := by simp; omega
    go_enter Try.func35, Try.ntmps35
    go_wp2_with fail
    refine region_seq (Below w1.heap.size w1) [(0, false), (1, false), (2, false), (3, false), (4, false), (5, false), (6, false), (7, false), (8, false), (9, false), (10, false), (11, false), (12, false), (13, false), (14, false), (15, false), (16, false), (17, false), (18, false), (19, false), (20, false), (21, false), (22, false), (23, false), (24, false), (25, false), (26, false), (27, false), (28, false), (29, false), (30, false), (31, false), (32, false), (33, false), (34, false), (35, false), (36, false), (37, false), (38, false), (39, false)] (by kernel_rfl) (by kernel_rfl) rfl (by kernel_rfl) ?_
    iterate 14 (refine seq_read (v := _) rfl (fun _ _ _ h => h) hS (Or.inl ⟨by rfl, fun W hW => by go_simp <;> with_reducible rfl⟩) ?_; simp only [Act.put, List.setIfInBounds_toArray, List.set_cons_zero, List.set_cons_succ])
    iterate 10 (refine seq_read (v := undef) rfl (fun _ _ _ h => h) hS (Or.inr ⟨by rfl, rfl⟩) ?_; simp only [Act.put, List.setIfInBounds_toArray, List.set_cons_zero, List.set_cons_succ])
    iterate 2 (refine seq_read (v := _) rfl (fun _ _ _ h => h) hS (Or.inl ⟨by rfl, fun W hW => by go_simp <;> with_reducible rfl⟩) ?_; simp only [Act.put, List.setIfInBounds_toArray, List.set_cons_zero, List.set_cons_succ])
    iterate 12 (refine seq_read (v := undef) rfl (fun _ _ _ h => h) hS (Or.inr ⟨by rfl, rfl⟩) ?_; simp only [Act.put, List.setIfInBounds_toArray, List.set_cons_zero, List.set_cons_succ])
    iterate 2 (refine seq_read (v := _) rfl (fun _ _ _ h => h) hS (Or.inl ⟨by rfl, fun W hW => by go_simp <;> with_reducible rfl⟩) ?_; simp only [Act.put, List.setIfInBounds_toArray, List.set_cons_zero, List.set_cons_succ])
    refine seq_end ?_
    go_wp2_with fail
    go_ret
    exact ⟨rfl, HB.out.drew⟩
  · rw [liveB_at gn hx] at HQ
    have h0' : decide (0 ≤ (k : Int)) = true := by simp
    have h1' : decide (k < L.length) = true := by simp; omega
    have fg : ∀ W, Below w1.heap.size w1 W → W.cell? ⟨g, k * 2, none⟩ = some (.int .u32 x.1) := fun W hW => (HA.out.bel hW).row.gen hx
    have fr : ∀ W, Below w1.heap.size w1 W → W.cell? ⟨g, k * 2 + 1, none⟩ = some (.int .i64 x.2) := fun W hW => (HA.out.bel hW).row.refs hx
    by_cases h2 : 0 < x.2
    · have h2' : decide (0 < x.2) = true := by simp; exact h2
      rw [h2'] at HQ
      clear h2
      have h3 : (x.1 == gn) = A := by rw [← HQ.out, Bool.true_and, Bool.eq_iff_iff]; simp
      go_enter Try.func35, Try.ntmps35
      go_wp2_with fail
      refine region_seq (Below w1.heap.size w1) [(0, false), (1, false), (2, false), (3, false), (4, false), (5, false), (6, false), (7, false), (8, false), (9, false), (10, false), (11, false), (12, false), (13, false), (14, false), (15, false), (16, false), (17, false), (18, false), (19, false), (20, false), (21, false), (22, false), (23, false), (24, false), (25, false), (26, false), (27, false), (28, false), (29, false), (30, false), (31, false), (32, false), (33, false), (34, false), (35, false), (36, false), (37, false), (38, false), (39, false)] (by kernel_rfl) (by kernel_rfl) rfl (by kernel_rfl) ?_
      iterate 40 (refine seq_read (v := _) rfl (fun _ _ _ h => h) hS (Or.inl ⟨by rfl, fun W hW => by go_simp <;> with_reducible rfl⟩) ?_; simp only [Act.put, List.setIfInBounds_toArray, List.set_cons_zero, List.set_cons_succ])
      refine seq_end ?_
      go_wp2_with fail
      go_ret
      exact ⟨rfl, HB.out.drew⟩
    · have h2' : decide (0 < x.2) = false := by simp; omega
      obtain rfl : false = A := by rw [← HQ.out, h2', Bool.false_and]
      clear h2
      go_enter Try.func35, Try.ntmps35
      go_wp2_with fail
      refine region_seq (Below w1.heap.size w1) [(0, false), (1, false), (2, false), (3, false), (4, false), (5, false), (6, false), (7, false), (8, false), (9, false), (10, false), (11, false), (12, false), (13, false), (14, false), (15, false), (16, false), (17, false), (18, false), (19, false), (20, false), (21, false), (22, false), (23, false), (24, false), (25, false), (26, false), (27, false), (28, false), (29, false), (30, false), (31, false), (32, false), (33, false), (34, false), (35, false), (36, false), (37, false), (38, false), (39, false)] (by kernel_rfl) (by kernel_rfl) rfl (by kernel_rfl) ?_
      iterate 26 (refine seq_read (v := _) rfl (fun _ _ _ h => h) hS (Or.inl ⟨by rfl, fun W hW => by go_simp <;> with_reducible rfl⟩) ?_; simp only [Act.put, List.setIfInBounds_toArray, List.set_cons_zero, List.set_cons_succ])
      iterate 12 (refine seq_read (v := undef) rfl (fun _ _ _ h => h) hS (Or.inr ⟨by rfl, rfl⟩) ?_; simp only [Act.put, List.setIfInBounds_toArray, List.set_cons_zero, List.set_cons_succ])
      iterate 2 (refine seq_read (v := _) rfl (fun _ _ _ h => h) hS (Or.inl ⟨by rfl, fun W hW => by go_simp <;> with_reducible rfl⟩) ?_; simp only [Act.put, List.setIfInBounds_toArray, List.set_cons_zero, List.set_cons_succ])
      refine seq_end ?_
      go_wp2_with fail
      go_ret
      exact ⟨rfl, HB.out.drew⟩

set_option maxHeartbeats 4000000 in
theorem rkeep_any (w : World) (b g c : Nat) (y : Value) (L : List Slt) (s gn M : Int) (hA : St w b g c y L) (hL : L.length ≤ 1024) (hO : OkS M L) (hM : M ≤ 4611686018427387904) :
    Calls Try.prog 14 #[.pointer (some ⟨b, 0, none⟩), hnV s gn] w fun e w' => e = .returned (.int .i64 (callE L s gn)) ∧ St w' b g c y (keepL L s gn) ∧ Upd (· = g) w w' := by
  have CL : Hid (∀ W, Below w.heap.size w W → Calls Try.prog 35 #[.pointer (some ⟨b, 0, none⟩), hnV s gn] W fun e w' => e = .returned (.bool (liveB L s gn)) ∧ Below W.heap.size W w') :=
    fun W hW => rlive_any W b g c y L s gn (hA.bel hW) hL
  have hB := Lib.hid ((Below.refl w.heap.size w).alloc (Nat.le_refl _) (hnO s gn))
  have D := Lib.hid (HBlk.new w s gn)
  have c0 := D.out.c0
  have c1 := D.out.c1
  have HA := Lib.hid hA
  clear hA
  rcases live_cases L s gn with hl | ⟨k, x, rfl, hx, hp, rfl, hl⟩
  · rw [hl] at CL
    rw [callE_no hl, keepL_no hl]
    clear hl
    go_enter Try.func14, Try.ntmps14
    go_wp2_with fail
    refine (CL.out _ hB.out).mono ?_
    rintro e w2 ⟨rfl, hb2⟩
    have H2 := Lib.hid (hB.out.trans (hb2.mono hB.out.size))
    clear hb2 hB c0 c1
    go_wp2_with fail
    go_ret
    exact ⟨rfl, HA.out.bel H2.out, .of H2.out⟩
  · rw [hl] at CL
    rw [callE_yes hl, keepL_at hx hl]
    clear hl
    have hxx := hO.at_ hx
    have hk : k < L.length := (List.getElem?_eq_some_iff.1 hx).1
    have q1 : IntKind.i64.wrap (x.2 + 1) = x.2 + 1 := IntWalk.i64_in _ (by omega)
    go_enter Try.func14, Try.ntmps14
    go_wp2_with fail
    refine (CL.out _ hB.out).mono ?_
    rintro e w2 ⟨rfl, hb2⟩
    have H2 := Lib.hid (hB.out.trans (hb2.mono hB.out.size))
    have D2 := D.out.bel hb2 D.out.lt
    have A2 := HA.out.bel H2.out
    have f0 : ∀ W, Below w2.heap.size w2 W → W.cell? ⟨w.heap.size, 0, none⟩ = some (.int .i64 (k : Int)) := fun W hW => (D2.bel hW D2.lt).c0
    have fa : ∀ W, Below w2.heap.size w2 W → W.cell? ⟨b, 0, none⟩ = some (.slice (some ⟨g, 0, none⟩) L.length c) := fun W hW => (A2.bel hW).blk.c0
    have fr : ∀ W, Below w2.heap.size w2 W → W.cell? ⟨g, k * 2 + 1, none⟩ = some (.int .i64 x.2) := fun W hW => (A2.bel hW).row.refs hx
    have HA2 := Lib.hid A2
    have HD2 := Lib.hid D2
    clear hb2 hB c0 c1 A2 D2
    go_wp2_with fail
    have hS : Below w2.heap.size w2 w2.drew := (Below.refl _ _).drew
    refine region_seqX (Below w2.heap.size w2) 12 [(0, false), (1, false), (2, false), (3, false), (4, false), (5, false), (6, false), (7, false), (8, false), (9, false), (10, false), (11, false), (12, true)] (by kernel_rfl) (by kernel_rfl) rfl (by kernel_rfl) ?_
    obtain ⟨w3, hw3⟩ : ∃ w3, w2.drew = w3 := ⟨_, rfl⟩
    rw [hw3] at hS ⊢
    iterate 12 (refine seqX_read (v := _) rfl (fun _ _ _ h => h) hS (Or.inl ⟨by rfl, fun W hW => by go_simp <;> with_reducible rfl⟩) ?_; simp only [Act.put, List.setIfInBounds_toArray, List.set_cons_zero, List.set_cons_succ])
    have A3 := HA2.out.bel hS
    have HU := Lib.hid ((Upd.of (S := (· = g)) (H2.out.trans (hS.mono H2.out.size))).setCell (b := g) (i := k * 2 + 1) (.inl rfl) (.int .i64 (x.2 + 1)))
    have HR := Lib.hid (A3.row.setRefs hx (x.2 + 1))
    have HK := Lib.hid (A3.blk.upd ((Upd.refl (· = g) w3).setCell (b := g) (i := k * 2 + 1) (.inl rfl) (.int .i64 (x.2 + 1))) A3.ne)
    have HC := Lib.hid A3.cap
    have cr := A3.row.refs hx
    have fz := A3.row.frozen (k * 2 + 1)
    clear f0 fa fr A3 hS
    refine seqX_last rfl (fun K hK => ?_)
    go_simp
    refine hK.out _ _ ?_
    clear hK K
    go_wp2_with fail
    go_ret
    exact ⟨rfl, ⟨by rw [List.length_set]; exact HK.out, HR.out, by rw [List.length_set]; exact HC.out⟩, HU.out⟩

set_option maxHeartbeats 4000000 in
theorem rrefs_any (w : World) (b g c : Nat) (y : Value) (L : List Slt) (s gn M : Int) (hA : St w b g c y L) (hL : L.length ≤ 1024) (hO : OkS M L) (hM : M ≤ 4611686018427387904) :
    Calls Try.prog 22 #[.pointer (some ⟨b, 0, none⟩), hnV s gn] w fun e w' => e = .returned (.int .i64 (refsV L s gn)) ∧ Below w.heap.size w w' := by
  have CL : Hid (∀ W, Below w.heap.size w W → Calls Try.prog 35 #[.pointer (some ⟨b, 0, none⟩), hnV s gn] W fun e w' => e = .returned (.bool (liveB L s gn)) ∧ Below W.heap.size W w') :=
    fun W hW => rlive_any W b g c y L s gn (hA.bel hW) hL
  have hB := Lib.hid ((Below.refl w.heap.size w).alloc (Nat.le_refl _) (hnO s gn))
  have D := Lib.hid (HBlk.new w s gn)
  have c0 := D.out.c0
  have c1 := D.out.c1
  have HA := Lib.hid hA
  clear hA
  rcases live_cases L s gn with hl | ⟨k, x, rfl, hx, hp, rfl, hl⟩
  · rw [hl] at CL
    rw [refsV_no hl]
    clear hl
    go_enter Try.func22, Try.ntmps22
    go_wp2_with fail
    refine (CL.out _ hB.out).mono ?_
    rintro e w2 ⟨rfl, hb2⟩
    have H2 := Lib.hid (hB.out.trans (hb2.mono hB.out.size))
    clear hb2 hB c0 c1
    go_wp2_with fail
    go_ret
    exact ⟨rfl, H2.out⟩
  · rw [hl] at CL
    rw [refsV_at hx hl]
    clear hl
    have hxx := hO.at_ hx
    have hk : k < L.length := (List.getElem?_eq_some_iff.1 hx).1
    go_enter Try.func22, Try.ntmps22
    go_wp2_with fail
    refine (CL.out _ hB.out).mono ?_
    rintro e w2 ⟨rfl, hb2⟩
    have H2 := Lib.hid (hB.out.trans (hb2.mono hB.out.size))
    have D2 := D.out.bel hb2 D.out.lt
    have A2 := HA.out.bel H2.out
    have f0 : ∀ W, Below w2.heap.size w2 W → W.cell? ⟨w.heap.size, 0, none⟩ = some (.int .i64 (k : Int)) := fun W hW => (D2.bel hW D2.lt).c0
    have fa : ∀ W, Below w2.heap.size w2 W → W.cell? ⟨b, 0, none⟩ = some (.slice (some ⟨g, 0, none⟩) L.length c) := fun W hW => (A2.bel hW).blk.c0
    have fr : ∀ W, Below w2.heap.size w2 W → W.cell? ⟨g, k * 2 + 1, none⟩ = some (.int .i64 x.2) := fun W hW => (A2.bel hW).row.refs hx
    have HA2 := Lib.hid A2
    have HD2 := Lib.hid D2
    clear hb2 hB c0 c1 A2 D2
    go_wp2_with fail
    have hS : Below w2.heap.size w2 w2.drew := (Below.refl _ _).drew
    refine region_seq (Below w2.heap.size w2) [(0, false), (1, false), (2, false), (3, false), (4, false), (5, false), (6, false), (7, false), (8, false), (9, false)] (by kernel_rfl) (by kernel_rfl) rfl (by kernel_rfl) ?_
    iterate 10 (refine seq_read (v := _) rfl (fun _ _ _ h => h) hS (Or.inl ⟨by rfl, fun W hW => by go_simp <;> with_reducible rfl⟩) ?_; simp only [Act.put, List.setIfInBounds_toArray, List.set_cons_zero, List.set_cons_succ])
    refine seq_end ?_
    go_wp2_with fail
    go_ret
    exact ⟨rfl, H2.out.drew⟩

set_option maxHeartbeats 4000000 in
theorem rdrop_any (w : World) (b g c : Nat) (y : Value) (L : List Slt) (s gn M : Int) (hA : St w b g c y L) (hL : L.length ≤ 1024) (hO : OkS M L) (hM : M ≤ 4611686018427387904) :
    Calls Try.prog 16 #[.pointer (some ⟨b, 0, none⟩), hnV s gn] w fun e w' => e = .returned (.int .i64 (callE L s gn)) ∧ St w' b g c y (dropL L s gn) ∧ Upd (· = g) w w' := by
  have CL : Hid (∀ W, Below w.heap.size w W → Calls Try.prog 35 #[.pointer (some ⟨b, 0, none⟩), hnV s gn] W fun e w' => e = .returned (.bool (liveB L s gn)) ∧ Below W.heap.size W w') :=
    fun W hW => rlive_any W b g c y L s gn (hA.bel hW) hL
  have hB := Lib.hid ((Below.refl w.heap.size w).alloc (Nat.le_refl _) (hnO s gn))
  have D := Lib.hid (HBlk.new w s gn)
  have c0 := D.out.c0
  have c1 := D.out.c1
  have HA := Lib.hid hA
  clear hA
  rcases live_cases L s gn with hl | ⟨k, x, rfl, hx, hp, rfl, hl⟩
  · rw [hl] at CL
    rw [callE_no hl, dropL_no hl]
    clear hl
    go_enter Try.func16, Try.ntmps16
    go_wp2_with fail
    refine (CL.out _ hB.out).mono ?_
    rintro e w2 ⟨rfl, hb2⟩
    have H2 := Lib.hid (hB.out.trans (hb2.mono hB.out.size))
    clear hb2 hB c0 c1
    go_wp2_with fail
    go_ret
    exact ⟨rfl, HA.out.bel H2.out, .of H2.out⟩
  · rw [hl] at CL
    rw [callE_yes hl, dropL_at hx hl]
    obtain ⟨Z, hZ⟩ : ∃ Z, L.set k (dropped x) = Z := ⟨_, rfl⟩
    rw [hZ]
    have HZ := Lib.hid hZ
    clear hZ
    clear hl
    have hxx := hO.at_ hx
    have hk : k < L.length := (List.getElem?_eq_some_iff.1 hx).1
    have q1 : IntKind.i64.wrap (x.2 - 1) = x.2 - 1 := IntWalk.i64_in _ (by omega)
    go_enter Try.func16, Try.ntmps16
    go_wp2_with fail
    refine (CL.out _ hB.out).mono ?_
    rintro e w2 ⟨rfl, hb2⟩
    have H2 := Lib.hid (hB.out.trans (hb2.mono hB.out.size))
    have D2 := D.out.bel hb2 D.out.lt
    have A2 := HA.out.bel H2.out
    have f0 : ∀ W, Below w2.heap.size w2 W → W.cell? ⟨w.heap.size, 0, none⟩ = some (.int .i64 (k : Int)) := fun W hW => (D2.bel hW D2.lt).c0
    have fa : ∀ W, Below w2.heap.size w2 W → W.cell? ⟨b, 0, none⟩ = some (.slice (some ⟨g, 0, none⟩) L.length c) := fun W hW => (A2.bel hW).blk.c0
    have fr : ∀ W, Below w2.heap.size w2 W → W.cell? ⟨g, k * 2 + 1, none⟩ = some (.int .i64 x.2) := fun W hW => (A2.bel hW).row.refs hx
    have HA2 := Lib.hid A2
    have HD2 := Lib.hid D2
    clear hb2 hB c0 c1 A2 D2
    go_wp2_with fail
    have hS : Below w2.heap.size w2 w2.drew := (Below.refl _ _).drew
    refine region_seqX (Below w2.heap.size w2) 12 [(0, false), (1, false), (2, false), (3, false), (4, false), (5, false), (6, false), (7, false), (8, false), (9, false), (10, false), (11, false), (12, true)] (by kernel_rfl) (by kernel_rfl) rfl (by kernel_rfl) ?_
    obtain ⟨w3, hw3⟩ : ∃ w3, w2.drew = w3 := ⟨_, rfl⟩
    rw [hw3] at hS ⊢
    iterate 12 (refine seqX_read (v := _) rfl (fun _ _ _ h => h) hS (Or.inl ⟨by rfl, fun W hW => by go_simp <;> with_reducible rfl⟩) ?_; simp only [Act.put, List.setIfInBounds_toArray, List.set_cons_zero, List.set_cons_succ])
    have A3 := HA2.out.bel hS
    have D3 := HD2.out.bel hS HD2.out.lt
    have cr := A3.row.refs hx
    have fz := A3.row.frozen (k * 2 + 1)
    have hx3 : (L.set k (x.1, x.2 - 1))[k]? = some (x.1, x.2 - 1) := by rw [List.getElem?_set, if_pos rfl, if_pos hk]
    obtain ⟨w4, hw4⟩ : ∃ w4, w3.setCell ⟨g, k * 2 + 1, none⟩ (.int .i64 (x.2 - 1)) = w4 := ⟨_, rfl⟩
    have hu : Upd (· = g) w3 w4 := hw4 ▸ (Upd.refl (· = g) w3).setCell (b := g) (i := k * 2 + 1) (.inl rfl) (.int .i64 (x.2 - 1))
    have HU := Lib.hid ((Upd.of (S := (· = g)) (H2.out.trans (hS.mono H2.out.size))).trans hu)
    have A4 : St w4 b g c y (L.set k (x.1, x.2 - 1)) := ⟨by rw [List.length_set]; exact A3.blk.upd hu A3.ne, hw4 ▸ A3.row.setRefs hx (x.2 - 1), by rw [List.length_set]; exact A3.cap⟩
    have D4 := D3.upd hu (by show w.heap.size ≠ g; have := HA.out.lt.2; omega)
    have HA4 := Lib.hid A4
    have HD4 := Lib.hid D4
    clear f0 fa fr A3 hS hu A4 D3 D4
    refine seqX_last rfl (fun K hK => ?_)
    go_simp
    refine hK.out _ _ ?_
    clear hK K cr fz hw4
    have f0 : ∀ W, Below w4.heap.size w4 W → W.cell? ⟨w.heap.size, 0, none⟩ = some (.int .i64 (k : Int)) := fun W hW => (HD4.out.bel hW HD4.out.lt).c0
    have fa : ∀ W, Below w4.heap.size w4 W → W.cell? ⟨b, 0, none⟩ = some (.slice (some ⟨g, 0, none⟩) L.length c) := fun W hW => by have := (HA4.out.bel hW).blk.c0; rwa [List.length_set] at this
    have fr : ∀ W, Below w4.heap.size w4 W → W.cell? ⟨g, k * 2 + 1, none⟩ = some (.int .i64 (x.2 - 1)) := fun W hW => (HA4.out.bel hW).row.refs hx3
    have fg : ∀ W, Below w4.heap.size w4 W → W.cell? ⟨g, k * 2, none⟩ = some (.int .u32 x.1) := fun W hW => (HA4.out.bel hW).row.gen (x := (x.1, x.2 - 1)) hx3
    go_wp2_with fail
    have hS : Below w4.heap.size w4 w4.drew := (Below.refl _ _).drew
    refine region_seq (Below w4.heap.size w4) [(0, false), (1, false), (2, false), (3, false), (4, false), (5, false), (6, false), (7, false), (8, false), (9, false)] (by kernel_rfl) (by kernel_rfl) rfl (by kernel_rfl) ?_
    by_cases h1 : x.2 = 1
    · have q : (x.2 - 1 == 0) = true := by simp; omega
      have HD : Hid (Z = (L.set k (x.1, x.2 - 1)).set k ((x.1 + 1) % 4294967296, x.2 - 1)) := by show _ = _; rw [List.set_set, ← HZ.out]; unfold dropped; rw [if_pos h1, h1]; rfl
      have q2 : IntKind.u32.wrap (x.1 + 1) = (x.1 + 1) % 4294967296 := by simp [IntKind.wrap, IntKind.bits, IntKind.signed]
      clear h1
      generalize (x.1 + 1) % 4294967296 = z at *
      iterate 10 (refine seq_read (v := _) rfl (fun _ _ _ h => h) hS (Or.inl ⟨by rfl, fun W hW => by go_simp <;> with_reducible rfl⟩) ?_; simp only [Act.put, List.setIfInBounds_toArray, List.set_cons_zero, List.set_cons_succ])
      refine seq_end ?_
      go_wp2_with fail
      have hS := hS.drew
      refine region_seqX (Below w4.heap.size w4) 12 [(0, false), (1, false), (2, false), (3, false), (4, false), (5, false), (6, false), (7, false), (8, false), (9, false), (10, false), (11, false), (12, true)] (by kernel_rfl) (by kernel_rfl) rfl (by kernel_rfl) ?_
      obtain ⟨w5, hw5⟩ : ∃ w5, w4.drew.drew = w5 := ⟨_, rfl⟩
      rw [hw5] at hS ⊢
      iterate 12 (refine seqX_read (v := _) rfl (fun _ _ _ h => h) hS (Or.inl ⟨by rfl, fun W hW => by go_simp <;> with_reducible rfl⟩) ?_; simp only [Act.put, List.setIfInBounds_toArray, List.set_cons_zero, List.set_cons_succ])
      have A5 := HA4.out.bel hS
      have HU5 := Lib.hid ((HU.out.trans (.of hS)).setCell (b := g) (i := k * 2) (.inl rfl) (.int .u32 z))
      have HR := Lib.hid (A5.row.setGen hx3 z)
      have HK := Lib.hid (A5.blk.upd ((Upd.refl (· = g) w5).setCell (b := g) (i := k * 2) (.inl rfl) (.int .u32 z)) A5.ne)
      have HC := Lib.hid A5.cap
      have cr := A5.row.gen hx3
      have fz := A5.row.frozen (k * 2)
      clear f0 fa fr fg A5 hS
      refine seqX_last rfl (fun K hK => ?_)
      go_simp
      refine hK.out _ _ ?_
      clear hK K
      go_wp2_with fail
      go_ret
      exact ⟨rfl, by rw [HD.out]; exact ⟨by rw [List.length_set]; exact HK.out, HR.out, by rw [List.length_set]; exact HC.out⟩, HU5.out⟩
    · have q : (x.2 - 1 == 0) = false := by simp; omega
      have HD : Hid (Z = L.set k (x.1, x.2 - 1)) := by show _ = _; rw [← HZ.out]; unfold dropped; rw [if_neg h1]
      clear h1
      iterate 10 (refine seq_read (v := _) rfl (fun _ _ _ h => h) hS (Or.inl ⟨by rfl, fun W hW => by go_simp <;> with_reducible rfl⟩) ?_; simp only [Act.put, List.setIfInBounds_toArray, List.set_cons_zero, List.set_cons_succ])
      refine seq_end ?_
      go_wp2_with fail
      go_ret
      exact ⟨rfl, by rw [HD.out]; exact HA4.out.bel hS, HU.out.trans (.of hS)⟩
end Go.Proofs.Ytdnnfoacpjgloaa.Arn

namespace Go.Proofs.Ytdnnfoacpjgloaa.Arn
open Go.RowKit
set_option linter.unusedVariables false

set_option maxHeartbeats 4000000 in
theorem rtake_any (w : World) (b g c : Nat) (y : Value) (L : List Slt) (hA : St w b g c y L) (hL : L.length ≤ 1024) :
    Calls Try.prog 33 #[.pointer (some ⟨b, 0, none⟩)] w fun e w' => e = .returned (.tuple #[hnV (takeH L).1 (takeH L).2, .int .i64 (takeE L)]) ∧ St w' b g c y (takeL L) ∧ Upd (· = g) w w' := by
  have hB := (Below.refl w.heap.size w).alloc (Nat.le_refl _) (hnO 0 0)
  have hD := HBlk.new w 0 0
  have hA1 := hA.bel hB
  have HL := Lib.hid hA.lt
  obtain ⟨w1, hw1⟩ : ∃ w1, w.alloc (hnO 0 0) = w1 := ⟨_, rfl⟩
  rw [hw1] at hB hD hA1
  have HB := Lib.hid hB
  have HD := Lib.hid hD
  have HA := Lib.hid hA1
  have c0 := hA1.blk.c0
  obtain ⟨n, hn⟩ : ∃ n, L.length = n := ⟨_, rfl⟩
  rw [hn] at hL c0
  have HN := Lib.hid hn
  clear hB hD hA1 hA hn
  go_enter Try.func33, Try.ntmps33
  go_wp2
  go_loopw [10] (fun si wx => ∃ k : Nat, k ≤ n ∧ si = .int .i64 k ∧ Hid (leastF (L.take k) = none) ∧ wx = w1) (fun si _ => n - (intOf si).toNat)
  case atStart => exact ⟨0, by omega, rfl, rfl, rfl⟩
  case round =>
    obtain ⟨k, hk, rfl, hF, rfl⟩ := hrel
    rename World => wx
    by_cases hlt : k < n
    · have hd : decide (k < n) = true := by simp; exact hlt
      obtain ⟨x, hx⟩ : ∃ x, L[k]? = some x := ⟨_, List.getElem?_eq_getElem (by rw [HN.out]; exact hlt)⟩
      have cr := HA.out.row.refs hx
      by_cases h0 : x.2 = 0
      · have q : (x.2 == 0) = true := by simp [h0]
        obtain ⟨x0, x1⟩ := x
        simp only at h0 q cr
        subst h0
        have HE : Hid (takeH L = ((k : Int), x0) ∧ takeE L = 0 ∧ takeL L = L.set k (x0, 1)) := by
          have hl := leastF_here hF.out hx rfl
          rcases take_cases L with ⟨e, -⟩ | ⟨k', g', e, hk', e1, e2, e3, -⟩
          · rw [hl] at e; cases e
          · rw [hl] at e
            cases e
            rw [hx] at hk'
            cases hk'
            exact ⟨e1, e2, e3⟩
        have fz := HA.out.row.frozen (k * 2 + 1)
        obtain ⟨w2, hw2⟩ : ∃ w2, wx.setCell ⟨g, k * 2 + 1, none⟩ (.int .i64 1) = w2 := ⟨_, rfl⟩
        have hu : Upd (· = g) wx w2 := hw2 ▸ (Upd.refl (· = g) wx).setCell (b := g) (i := k * 2 + 1) (.inl rfl) (.int .i64 1)
        have hR : SHead w2 g (L.set k (x0, 1)) := hw2 ▸ HA.out.row.setRefs hx 1
        have A2 : St w2 b g c y (L.set k (x0, 1)) := ⟨by rw [List.length_set]; exact HA.out.blk.upd hu HA.out.ne, hR, by rw [List.length_set]; exact HA.out.cap⟩
        have hk2 : (L.set k (x0, 1))[k]? = some (x0, 1) := by rw [List.getElem?_set, if_pos rfl, if_pos (by rw [HN.out]; exact hlt)]
        have D2 : HBlk w2 w.heap.size 0 0 := HD.out.upd hu (by show _ ≠ _; have := HL.out.2; omega)
        have a0 := A2.blk.c0
        rw [List.length_set, HN.out] at a0
        have a1 := A2.row.gen hk2
        have g0 := D2.frozen 0
        have g1 := D2.frozen 1
        have d0 := D2.c0
        have d1 := D2.c1
        have HU2 := Lib.hid ((Upd.of (S := (· = g)) HB.out).trans hu)
        have HA2 := Lib.hid A2
        have HD2 := Lib.hid D2
        clear A2 D2 hu hR hw1
        go_wp2_with fail
        have D3 := HD2.out.store (k : Int) x0
        have HU3 := Lib.hid ((HU2.out.setCell (b := w.heap.size) (i := 0) (.inr (Nat.le_refl _)) (.int .i64 (k : Int))).setCell (b := w.heap.size) (i := 1) (.inr (Nat.le_refl _)) (.int .u32 x0))
        have A3 : St ((w2.setCell ⟨w.heap.size, 0, none⟩ (.int .i64 (k : Int))).setCell ⟨w.heap.size, 1, none⟩ (.int .u32 x0)) b g c y (L.set k (x0, 1)) :=
          HA2.out.upd (((Upd.refl (· = w.heap.size) w2).setCell (b := w.heap.size) (i := 0) (.inl rfl) (.int .i64 (k : Int))).setCell (b := w.heap.size) (i := 1) (.inl rfl) (.int .u32 x0)) (by show b ≠ w.heap.size; have := HL.out.1; omega) (by show g ≠ w.heap.size; have := HL.out.2; omega)
        generalize (w2.setCell ⟨w.heap.size, 0, none⟩ (.int .i64 (k : Int))).setCell ⟨w.heap.size, 1, none⟩ (.int .u32 x0) = w3 at *
        exact retT_at Try.results33 D3 ⟨by rw [HE.out.1, HE.out.2.1], by rw [HE.out.2.2]; exact A3, HU3.out⟩
      · have q : (x.2 == 0) = false := by simp [h0]
        have HF : Hid (leastF (L.take (k + 1)) = none) := by rw [take_snoc hx]; exact leastF_snoc hF.out h0
        clear h0 hF hx
        go_wp2
        go_roundw
        case rel => exact ⟨k + 1, by omega, by go_num, HF, trivial⟩
        case measure => simp [intOf]; omega
    · obtain rfl : n = k := by omega
      have hd : decide (n < n) = false := by simp
      have HE : Hid (takeH L = (0, 0) ∧ takeE L = 6 ∧ takeL L = L) := by
        have hl := hF.out
        rw [List.take_of_length_le (by rw [HN.out]; exact Nat.le_refl _)] at hl
        rcases take_cases L with ⟨-, e1, e2, e3, -⟩ | ⟨k', g', e, -⟩
        · exact ⟨e1, e2, e3⟩
        · rw [hl] at e; cases e
      have f0 := HD.out.frozen 0
      have f1 := HD.out.frozen 1
      have d0 := HD.out.c0
      have d1 := HD.out.c1
      clear hw1 hF
      go_wp2_with fail
      have HU := Lib.hid (((Upd.of (S := (· = g)) HB.out).setCell (b := w.heap.size) (i := 0) (.inr (Nat.le_refl _)) (.int .i64 0)).setCell (b := w.heap.size) (i := 1) (.inr (Nat.le_refl _)) (.int .u32 0))
      have D2 := HD.out.store 0 0
      have A3 := HA.out.upd (((Upd.refl (· = w.heap.size) wx).setCell (b := w.heap.size) (i := 0) (.inl rfl) (.int .i64 0)).setCell (b := w.heap.size) (i := 1) (.inl rfl) (.int .u32 0)) (by show b ≠ w.heap.size; have := HL.out.1; omega) (by show g ≠ w.heap.size; have := HL.out.2; omega)
      generalize (wx.setCell ⟨w.heap.size, 0, none⟩ (.int .i64 0)).setCell ⟨w.heap.size, 1, none⟩ (.int .u32 0) = w2 at *
      exact retT_at Try.results33 D2 ⟨by rw [HE.out.1, HE.out.2.1], by rw [HE.out.2.2]; exact A3, HU.out⟩

set_option maxHeartbeats 4000000 in
theorem rfree_any (w : World) (b g c : Nat) (y : Value) (L : List Slt) (hA : St w b g c y L) (hL : L.length ≤ 1024) :
    Calls Try.prog 24 #[.pointer (some ⟨b, 0, none⟩)] w fun e w' => e = .returned (.int .i64 (freeN L)) ∧ Below w.heap.size w w' := by
  have HA := Lib.hid hA
  have cc := hA.blk.c0
  obtain ⟨n, hn⟩ : ∃ n, L.length = n := ⟨_, rfl⟩
  rw [hn] at cc hL
  have HN := Lib.hid hn
  clear hA hn
  go_enter Try.func24, Try.ntmps24
  go_wp2
  go_loopw [3, 11] (fun sf si wx => ∃ k : Nat, k ≤ n ∧ si = .int .i64 k ∧ sf = .int .i64 (freeN (L.take k)) ∧ Hid (Below w.heap.size w wx)) (fun _ si _ => n - (intOf si).toNat)
  case atStart => exact ⟨0, by omega, rfl, rfl, Below.refl _ _⟩
  case round =>
    obtain ⟨k, hk, rfl, rfl, hb⟩ := hrel
    rename World => wx
    have hf : freeN (L.take k) ≤ 1024 := by have h1 := freeN_le (L.take k); have h2 := List.length_take_le k L; omega
    by_cases hlt : k < n
    · have A1 := HA.out.bel hb.out
      obtain ⟨x, hx⟩ : ∃ x, L[k]? = some x := ⟨_, List.getElem?_eq_getElem (by rw [HN.out]; exact hlt)⟩
      have c0 := A1.row.gen hx
      have c1 := A1.row.refs hx
      have hB1 := Lib.hid (hb.out.alloc hb.out.size (slO x))
      have d1 : (wx.alloc (slO x)).cell? ⟨wx.heap.size, 1, none⟩ = some (.int .i64 x.2) := cell_of_row _ _ 1 _ _ _ (heap_alloc_new wx _)
      have HF := Lib.hid (show freeN (L.take (k + 1)) = freeN (L.take k) + (if x.2 = 0 then 1 else 0) from by rw [take_snoc hx, freeN_append, freeN, freeN]; omega)
      generalize freeN (L.take k) = f at *
      clear A1 hb hx
      by_cases h0 : x.2 = 0
      · have q : (x.2 == 0) = true := by simp [h0]
        rw [if_pos h0] at HF
        clear h0
        go_wp2
        go_roundw
        case rel => exact ⟨k + 1, by omega, by go_num, by rw [HF.out]; go_num, hB1⟩
        case measure => simp [intOf]; omega
      · have q : (x.2 == 0) = false := by simp [h0]
        rw [if_neg h0] at HF
        clear h0
        go_wp2
        go_roundw
        case rel => exact ⟨k + 1, by omega, by go_num, by rw [HF.out]; rfl, hB1⟩
        case measure => simp [intOf]; omega
    · obtain rfl : n = k := by omega
      have HF := Lib.hid (show freeN (L.take n) = freeN L from by rw [List.take_of_length_le (by rw [HN.out]; exact Nat.le_refl _)])
      go_wp2
      go_ret
      exact ⟨by rw [← HF.out]; rfl, hb.out⟩
theorem eq_slt (x y : Slt) (W : World) : (binOp .neq 67 (slV x) (slV y)).run Try.prog W = .ok (.bool (!(x.1 == y.1 && x.2 == y.2))) W := by
  obtain ⟨s, g⟩ := x
  obtain ⟨s', g'⟩ := y
  by_cases h : s = s'
  · subst h
    by_cases h2 : g = g'
    · subst h2; simp [go_sem]
    · simp [go_sem, h2]
  · simp [go_sem, h]
set_option maxHeartbeats 4000000 in
/-- Two rows of slots that read alike. -/
theorem same_any (w : World) (a a' : Option Addr) (n c c' B B' : Nat) (L : List Slt) (hr : RowRd slotL w B a n L) (hr' : RowRd slotL w B' a' n L) (hn : n ≤ 1024) :
    Calls Try.prog 25 #[.slice a n c, .slice a' n c'] w fun e w' => e = .returned (.bool true) ∧ Below w.heap.size w w' := by
  have HR := Lib.hid hr
  have HR' := Lib.hid hr'
  clear hr hr'
  go_enter Try.func25, Try.ntmps25
  go_wp2
  go_loopw [13] (fun si wx => ∃ k : Nat, k ≤ n ∧ si = .int .i64 k ∧ Hid (Upd (fun _ => False) w wx) ∧ Hid (∀ p, wx.cell? p = w.cell? p) ∧ Hid (Below w.heap.size w wx)) (fun si _ => n - (intOf si).toNat)
  case atStart => exact ⟨0, by omega, rfl, Upd.refl _ _, fun p => rfl, Below.refl _ _⟩
  case round =>
    obtain ⟨k, hk, rfl, hu, hc, hb⟩ := hrel
    rename World => wx
    by_cases hlt : k < n
    · have hd : decide (k < n) = true := by simp; exact hlt
      obtain ⟨b, off, x, rfl, _, hx, c0, c1⟩ := slot_at HR.out hlt
      obtain ⟨b', off', x', rfl, _, hx', e0, e1⟩ := slot_at HR'.out hlt
      rw [hx] at hx'
      obtain rfl := Option.some.inj hx'
      have hS : ∀ p, wx.drew.cell? p = w.cell? p := fun p => hc.out p
      have qn := eq_slt x x
      have qb : (!(x.1 == x.1 && x.2 == x.2)) = false := by simp
      have f0 : ∀ W : World, (∀ p, W.cell? p = w.cell? p) → W.cell? ⟨b, off + k * 2, none⟩ = some (.int .u32 x.1) := fun W h => (h _).trans c0
      have f1 : ∀ W : World, (∀ p, W.cell? p = w.cell? p) → W.cell? ⟨b, off + k * 2 + 1, none⟩ = some (.int .i64 x.2) := fun W h => (h _).trans c1
      have g0 : ∀ W : World, (∀ p, W.cell? p = w.cell? p) → W.cell? ⟨b', off' + k * 2, none⟩ = some (.int .u32 x.1) := fun W h => (h _).trans e0
      have g1 : ∀ W : World, (∀ p, W.cell? p = w.cell? p) → W.cell? ⟨b', off' + k * 2 + 1, none⟩ = some (.int .i64 x.2) := fun W h => (h _).trans e1
      clear c0 c1 e0 e1
      go_wp2_with fail
      refine region_seq (fun W => ∀ p, W.cell? p = w.cell? p) [(0, false), (1, false), (2, false), (3, false), (4, false), (5, false), (6, false), (7, false), (8, false)] (by kernel_rfl) (by kernel_rfl) rfl (by kernel_rfl) ?_
      iterate 9 (refine seq_read (v := _) rfl (fun _ _ _ h => h) hS (Or.inl ⟨by rfl, fun W hW => by go_simp <;> with_reducible rfl⟩) ?_; simp only [Act.put, List.setIfInBounds_toArray, List.set_cons_zero, List.set_cons_succ])
      refine seq_end ?_
      go_wp2_with fail
      go_roundw
      case rel => exact ⟨k + 1, by omega, by go_num, hu.out.drew, hS, hb.out.drew⟩
      case measure => simp [intOf]; omega
    · obtain rfl : n = k := by omega
      have hd : decide (n < n) = false := by simp
      go_wp2
      go_ret
      exact ⟨rfl, hb.out⟩
end Go.Proofs.Ytdnnfoacpjgloaa.Arn
