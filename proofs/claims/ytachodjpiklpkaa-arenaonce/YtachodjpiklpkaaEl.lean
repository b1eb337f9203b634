/- The reference's Store: two rows in a struct at a block; the contract of its New. -/
import Derived.Test.YtachodjpiklpkaaEi
import Derived.Test.YtachodjpiklpkaaXu
set_option maxRecDepth 100000
namespace Go.Proofs.Ytachodjpiklpkaa.Arn
open Go.RowKit
set_option linter.unusedVariables false

/-- A row of slices, one cell each. -/
def slcL : Lay (Option Addr × Nat × Nat) := ⟨84, 1, fun x => [.slice x.1 x.2.1 x.2.2], fun _ => rfl, fun x v hv => by
  simp only [List.mem_cons, List.not_mem_nil, or_false] at hv
  subst hv; rfl, by decide⟩
theorem info_slc : (Try.prog.info? 84).map (fun i => (i.zero, i.size, i.bytes)) = some (some (.slice none 0 0), 1, 24) := by kernel_rfl
theorem _root_.Go.Proofs.Ytachodjpiklpkaa.RowOwn.kept {α : Type} {L : Lay α} {w w' : World} {base n c : Nat} {A : Option Addr} {xs : List α} {t : TypeId} (h : RowOwn L w base A n c xs) (hk : Kept t w w') (ht : L.e ≠ t) : RowOwn L w' base A n c xs := by
  obtain ⟨h1, h2, h3, h4⟩ := h
  refine ⟨h1, h2, h3, ?_⟩
  rcases h4 with h | ⟨g, T, rfl, hbg, hg, hl⟩
  · exact .inl h
  · exact .inr ⟨g, T, rfl, hbg, hk.2 g _ _ _ ht hg, hl⟩
theorem one_rec {α : Type} (L : Lay α) (w : World) (x : α) : RowRd L (w.alloc (.cells (L.cel x).toArray L.e (0, 0))) (w.heap.size + 1) (some ⟨w.heap.size, 0, none⟩) 1 [x] := by
  have := rowRd_blk (L := L) (w := w.alloc (.cells (L.cel x).toArray L.e (0, 0))) (g := w.heap.size) (xs := [x]) (n := 1) (by rw [show flat L [x] = L.cel x from by simp [flat]]; exact heap_alloc_new w _) rfl
  simpa using this
/-- The struct of two slices. -/
def RBlk (w : World) (b : Nat) (x y : Value) : Prop := w.heap[b]? = some (.cells #[x, y] 46 (0, 0))
section
variable {w w' : World} {b : Nat} {x y : Value}
theorem RBlk.c0 (h : RBlk w b x y) : w.cell? ⟨b, 0, none⟩ = some x := by rw [cell_of_row w b 0 _ _ _ h]; rfl
theorem RBlk.c1 (h : RBlk w b x y) : w.cell? ⟨b, 1, none⟩ = some y := by rw [cell_of_row w b 1 _ _ _ h]; rfl
theorem RBlk.frozen (h : RBlk w b x y) (i : Nat) : w.frozen? ⟨b, i, none⟩ = false := frozen_of_row w b i _ _ h
theorem RBlk.lt (h : RBlk w b x y) : b < w.heap.size := lt_of_some h
theorem RBlk.bel {B : Nat} (h : RBlk w b x y) (hb : Below B w w') (hB : b < B) : RBlk w' b x y := (hb.block b hB).trans h
theorem RBlk.upd {S : Nat → Prop} (h : RBlk w b x y) (hu : Upd S w w') (hS : ¬ S b) : RBlk w' b x y := hu.keep h hS
theorem RBlk.set0 (h : RBlk w b x y) (u : Value) : RBlk (w.setCell ⟨b, 0, none⟩ u) b u y := heap_setCell_same w b 0 _ _ u h
theorem RBlk.set1 (h : RBlk w b x y) (u : Value) : RBlk (w.setCell ⟨b, 1, none⟩ u) b x u := heap_setCell_same w b 1 _ _ u h
end
/-- Slots that lie at the head of block g, whatever lies behind them. -/
def SHead (w : World) (g : Nat) (L : List Slt) : Prop := ∃ T, w.heap[g]? = some (.cells (flat slotL L ++ T).toArray 53 (0, 0))
section
variable {w w' : World} {b g k : Nat} {L : List Slt} {x : Slt}
theorem SHead.cell (h : SHead w g L) (hk : L[k]? = some x) (j : Nat) (v : Value) (hv : (slotL.cel x)[j]? = some v) : w.cell? ⟨g, k * 2 + j, none⟩ = some v := by
  obtain ⟨T, h⟩ := h
  have hf : (flat slotL L)[k * 2 + j]? = some v := flat_get slotL L k j x v hk hv
  rw [cell_of_row w g _ _ 53 (0, 0) h, List.getElem?_toArray, List.getElem?_append_left (List.getElem?_eq_some_iff.1 hf).1]
  exact hf
theorem SHead.gen (h : SHead w g L) (hk : L[k]? = some x) : w.cell? ⟨g, k * 2, none⟩ = some (.int .u32 x.1) := h.cell hk 0 _ rfl
theorem SHead.refs (h : SHead w g L) (hk : L[k]? = some x) : w.cell? ⟨g, k * 2 + 1, none⟩ = some (.int .i64 x.2) := h.cell hk 1 _ rfl
theorem SHead.frozen (h : SHead w g L) (i : Nat) : w.frozen? ⟨g, i, none⟩ = false := by obtain ⟨T, h⟩ := h; exact frozen_of_row w g i _ _ h
theorem SHead.lt (h : SHead w g L) : g < w.heap.size := by obtain ⟨T, h⟩ := h; exact lt_of_some h
theorem SHead.upd {S : Nat → Prop} (h : SHead w g L) (hu : Upd S w w') (hS : ¬ S g) : SHead w' g L := by obtain ⟨T, h⟩ := h; exact ⟨T, hu.keep h hS⟩
theorem SHead.bel {B : Nat} (h : SHead w g L) (hb : Below B w w') (hB : g < B) : SHead w' g L := by obtain ⟨T, h⟩ := h; exact ⟨T, (hb.block g hB).trans h⟩
theorem SHead.rd (h : SHead w g L) : RowRd slotL w w.heap.size (some ⟨g, 0, none⟩) L.length L := by
  refine ⟨rfl, fun _ => ⟨g, 0, rfl, h.lt, fun i x hi j v hv => ?_⟩⟩
  rw [Nat.zero_add]
  exact h.cell hi j v hv
theorem SHead.setGen (h : SHead w g L) (hk : L[k]? = some x) (n : Int) : SHead (w.setCell ⟨g, k * 2, none⟩ (.int .u32 n)) g (L.set k (n, x.2)) := by
  obtain ⟨T, h⟩ := h
  have := heap_setCell_same w g (k * 2) _ _ (.int .u32 n) h
  have hf := flat_set slotL T L k 0 x (n, x.2) (.int .u32 n) hk (by decide) rfl
  exact ⟨T, by rw [this, List.setIfInBounds_toArray, ← hf]; rfl⟩
theorem SHead.setRefs (h : SHead w g L) (hk : L[k]? = some x) (n : Int) : SHead (w.setCell ⟨g, k * 2 + 1, none⟩ (.int .i64 n)) g (L.set k (x.1, n)) := by
  obtain ⟨T, h⟩ := h
  have := heap_setCell_same w g (k * 2 + 1) _ _ (.int .i64 n) h
  have hf := flat_set slotL T L k 1 x (x.1, n) (.int .i64 n) hk (by decide) rfl
  exact ⟨T, by rw [this, List.setIfInBounds_toArray, ← hf]; rfl⟩
end
/-- The reference's store at block b: its slots at the head of block g, its other slice is y. -/
structure St (w : World) (b g c : Nat) (y : Value) (L : List Slt) : Prop where
  blk : RBlk w b (.slice (some ⟨g, 0, none⟩) L.length c) y
  row : SHead w g L
  cap : L.length ≤ c
section
variable {w w' : World} {b g c k : Nat} {y : Value} {L : List Slt} {S : Nat → Prop}
theorem St.ne (h : St w b g c y L) : b ≠ g := by
  rintro rfl
  obtain ⟨T, hr⟩ := h.row
  have := Eq.trans (Eq.symm h.blk) hr
  simp at this
theorem St.bel (h : St w b g c y L) (hb : Below w.heap.size w w') : St w' b g c y L := ⟨h.blk.bel hb h.blk.lt, h.row.bel hb h.row.lt, h.cap⟩
theorem St.upd (h : St w b g c y L) (hu : Upd S w w') (hb : ¬ S b) (hg : ¬ S g) : St w' b g c y L := ⟨h.blk.upd hu hb, h.row.upd hu hg, h.cap⟩
theorem St.lt (h : St w b g c y L) : b < w.heap.size ∧ g < w.heap.size := ⟨h.blk.lt, h.row.lt⟩
end
/-- A new store of the reference's, with a row of as many nil slices. -/
def RetSt (w : World) (n : Int) (e : Ending) (w' : World) : Prop := ∃ b g c B cB, e = .returned (.pointer (some ⟨b, 0, none⟩)) ∧ St w' b g c (.slice B (newL n).length cB) (newL n) ∧ RowOwn slcL w' (b + 1) B (newL n).length cB (List.replicate (newL n).length (none, 0, 0)) ∧ w.heap.size ≤ b ∧ b < g ∧ Below w.heap.size w w'
set_option maxHeartbeats 4000000 in
theorem rnew_any (w : World) (n : Int) (hw1 : -9223372036854775808 ≤ n) (hw2 : n ≤ 9223372036854775807) : Calls Try.prog 9 #[.int .i64 n] w (RetSt w n) := by
  obtain ⟨N, hN⟩ : ∃ N, (min (max n 1) 1024).toNat = N := ⟨_, rfl⟩
  have hN1 : 1 ≤ N := by omega
  have hN2 : N ≤ 1024 := by omega
  have hL : newL n = List.replicate N (1, 0) := by unfold newL; rw [hN]
  obtain ⟨m, hm⟩ : ∃ m, (if n < 1 then 1 else n) = m := ⟨_, rfl⟩
  have hmN : (if 1024 < m then 1024 else m) = (N : Int) := by omega
  have fin : Hid (∀ b w1 A cA B cB, RBlk w1 b (.slice A N cA) (.slice B N cB) → RowOwn slotL w1 (b + 1) A N cA (List.replicate N (1, 0)) → RowOwn slcL w1 (b + 1) B N cB (List.replicate N (none, 0, 0)) → w.heap.size ≤ b → Below w.heap.size w w1 → RetSt w n (.returned (.pointer (some ⟨b, 0, none⟩))) w1) := by
    intro b w1 A cA B cB h1 h2 h3 h4 h5
    rcases h2.2.2.2 with ⟨-, h0, -⟩ | ⟨g, T, rfl, hg, hk, hl⟩
    · omega
    · refine ⟨b, g, cA, B, cB, rfl, ⟨?_, ⟨T, ?_⟩, ?_⟩, ?_, h4, by omega, h5⟩
      · rw [hL, List.length_replicate]; exact h1
      · rw [hL]; exact hk
      · rw [hL, List.length_replicate]; exact h2.2.1
      · rw [hL, List.length_replicate]; exact h3
  obtain ⟨i0, hi0, hz0, hz1, hz2⟩ := info_parts info_slot
  have HI := Lib.hid (And.intro hi0 (And.intro hz0 (And.intro hz1 hz2)))
  obtain ⟨i1, hj0, hy0, hy1, hy2⟩ := info_parts info_slc
  have HJ := Lib.hid (And.intro hj0 (And.intro hy0 (And.intro hy1 hy2)))
  clear hL hi0 hz0 hz1 hz2 hj0 hy0 hy1 hy2 hN
  go_enter Try.func9, Try.ntmps9
  go_wp2
  go_loopw [4] (fun sk wx => ∃ (k : Nat) (A : Option Addr) (cA : Nat) (B : Option Addr) (cB : Nat), k ≤ N ∧ sk = .int .i64 k ∧ Hid (RBlk wx w.heap.size (.slice A k cA) (.slice B k cB)) ∧ Hid (RowOwn slotL wx (w.heap.size + 1) A k cA (List.replicate k (1, 0))) ∧ Hid (RowOwn slcL wx (w.heap.size + 1) B k cB (List.replicate k (none, 0, 0))) ∧ Hid (Below w.heap.size w wx)) (fun sk _ => N - (intOf sk).toNat)
  case atStart => exact ⟨0, none, 0, none, 0, by omega, rfl, heap_alloc_new w _, RowOwn.nil _ _, RowOwn.nil _ _, (Below.refl w.heap.size w).alloc (Nat.le_refl _) _⟩
  case round =>
    obtain ⟨k, A, cA, B, cB, hk, rfl, hb, ha, hbb, hbel⟩ := hrel
    rename World => wx
    by_cases hlt : k < N
    · have hd : decide ((k : Int) < N) = true := by simp; exact hlt
      have hsz : w.heap.size + 1 ≤ wx.heap.size := by have := hb.out.lt; omega
      have c0 := hb.out.c0
      have HO2 := Lib.hid (ha.out.bel ((Below.refl _ _).alloc (Nat.le_refl _) (slO (1, 0))))
      have HC2 := Lib.hid (hbb.out.bel ((Below.refl _ _).alloc (Nat.le_refl _) (slO (1, 0))))
      have HR2 := Lib.hid (hb.out.bel ((Below.refl _ _).alloc (Nat.le_refl _) (slO (1, 0))) hb.out.lt)
      have HB2 := Lib.hid (hbel.out.alloc hbel.out.size (slO (1, 0)))
      have hsz2 : Hid (w.heap.size + 1 ≤ (wx.alloc (slO (1, 0))).heap.size) := by show _ ≤ _; simp; omega
      have R2 := Lib.hid (one_rec slotL wx (1, 0))
      have HS := Lib.hid (show List.replicate k ((1, 0) : Slt) ++ [(1, 0)] = List.replicate (k + 1) (1, 0) from by rw [← List.replicate_succ'])
      have HS' := Lib.hid (show List.replicate k ((none, 0, 0) : Option Addr × Nat × Nat) ++ [(none, 0, 0)] = List.replicate (k + 1) (none, 0, 0) from by rw [← List.replicate_succ'])
      clear ha hbb hb hbel
      go_wp2_with (at_builtin; first
        | (refine wpList_append_keep (L := slotL) (N := k + 1) rfl (.tmp 18) (.tmp 20) rfl Try.underlying42 HI.out.1 HI.out.2.1 HI.out.2.2.1 HI.out.2.2.2 rfl (List.replicate (k + 1) (1, 0)) rfl HS.out rfl rfl HO2.out R2.out hsz2.out (by unfold maxLen; omega) (by omega) ?_
           intro A1 e1 w1 ho1 hb1 hk1
           have HR3 := Lib.hid (HR2.out.bel hb1 (by omega))
           have HC3 := Lib.hid (HC2.out.kept hk1 (by decide))
           have HB3 := Lib.hid (HB2.out.trans (hb1.mono (by omega)))
           have hsz3 : Hid (w.heap.size + 1 ≤ w1.heap.size) := Nat.le_trans hsz2.out hb1.size
           have HO4 := Lib.hid (ho1.setOff (b := w.heap.size) (i := 0) (by omega) (.slice A1 (k + 1) e1))
           have HC4 := Lib.hid (HC3.out.setOff (b := w.heap.size) (i := 0) (by omega) (.slice A1 (k + 1) e1))
           have HB4 := Lib.hid (HB3.out.setCell (p := ⟨w.heap.size, 0, none⟩) (Nat.le_refl _) (.slice A1 (k + 1) e1))
           have HR4 := Lib.hid (HR3.out.set0 (.slice A1 (k + 1) e1))
           clear hb1 hk1 ho1 HR2 HC2 HB2 HO2 R2 hsz2 c0 HC3 HB3
           have c0 := HR3.out.c0
           have c1 := HR3.out.c1
           have fz := HR3.out.frozen 0)
        | (have hz : (w1.setCell ⟨w.heap.size, 0, none⟩ (.slice A1 (k + 1) e1)).heap.size = w1.heap.size := by simp
           generalize w1.setCell ⟨w.heap.size, 0, none⟩ (.slice A1 (k + 1) e1) = w4 at *
           have HO5 := Lib.hid (HO4.out.bel ((Below.refl _ _).alloc (Nat.le_refl _) (.cells #[.slice none 0 0] 84 (0, 0))))
           have HC5 := Lib.hid (HC4.out.bel ((Below.refl _ _).alloc (Nat.le_refl _) (.cells #[.slice none 0 0] 84 (0, 0))))
           have HR5 := Lib.hid (HR4.out.bel ((Below.refl _ _).alloc (Nat.le_refl _) (.cells #[.slice none 0 0] 84 (0, 0))) HR4.out.lt)
           have HB5 := Lib.hid (HB4.out.alloc HB4.out.size (.cells #[.slice none 0 0] 84 (0, 0)))
           have R5 := Lib.hid (one_rec slcL w4 (none, 0, 0))
           rw [hz] at R5
           have hsz5 : Hid (w.heap.size + 1 ≤ (w4.alloc (.cells #[.slice none 0 0] 84 (0, 0))).heap.size) := Nat.le_trans (hz ▸ hsz3.out) ((Below.refl w4.heap.size w4).alloc (Nat.le_refl _) _).size
           refine wpList_append_keep (L := slcL) (N := k + 1) rfl (.tmp 28) (.tmp 29) rfl Try.underlying44 HJ.out.1 HJ.out.2.1 HJ.out.2.2.1 HJ.out.2.2.2 rfl (List.replicate (k + 1) (none, 0, 0)) rfl HS'.out rfl rfl HC5.out R5.out hsz5.out (by unfold maxLen; omega) (by omega) ?_
           intro B1 e2 w2 ho2 hb2 hk2
           have HR6 := Lib.hid (HR5.out.bel hb2 (by omega))
           have HO6 := Lib.hid (HO5.out.kept hk2 (by decide))
           have HB6 := Lib.hid (HB5.out.trans (hb2.mono (by omega)))
           have HO7 := Lib.hid (HO6.out.setOff (b := w.heap.size) (i := 1) (by omega) (.slice B1 (k + 1) e2))
           have HC7 := Lib.hid (ho2.setOff (b := w.heap.size) (i := 1) (by omega) (.slice B1 (k + 1) e2))
           have HB7 := Lib.hid (HB6.out.setCell (p := ⟨w.heap.size, 1, none⟩) (Nat.le_refl _) (.slice B1 (k + 1) e2))
           have HR7 := Lib.hid (HR6.out.set1 (.slice B1 (k + 1) e2))
           clear hb2 hk2 ho2 HO4 HC4 HR4 HB4 HO5 HC5 HR5 HB5 R5 hsz5 c0 c1 fz
           have c1 := HR6.out.c1
           have fz := HR6.out.frozen 1))
      go_roundw
      case rel => exact ⟨k + 1, A1, e1, B1, e2, by omega, by go_num, HR7, HO7, HC7, HB7⟩
      case measure => simp [intOf]; omega
    · obtain rfl : k = N := by omega
      have F := Lib.hid (fin.out _ wx A cA B cB hb.out ha.out hbb.out (Nat.le_refl _) hbel.out)
      have hd : decide ((k : Int) < k) = false := by simp
      clear ha hbb hb hbel fin
      go_wp2
      go_ret
      exact F.out
end Go.Proofs.Ytachodjpiklpkaa.Arn
