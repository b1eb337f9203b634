/- Slots and handles as records; worlds that part in some blocks alone; the arena at its block; the contracts of arena.isFree and live. -/
import Derived.Test.YtachodjpiklpkaaEa
import Derived.Test.YtachodjpiklpkaaEc
import Derived.Test.YtachodjpiklpkaaSeq
import Derived.Handy
set_option maxRecDepth 100000
namespace Go.Proofs.Ytachodjpiklpkaa.Arn
open Go.RowKit
set_option linter.unusedVariables false

/-- Worlds that are alike but in the blocks S, and in new ones. -/
def Upd (S : Nat → Prop) (w w' : World) : Prop := Below 0 w w' ∧ ∀ k, k < w.heap.size → ¬ S k → w'.heap[k]? = w.heap[k]?
section
variable {S T : Nat → Prop} {w w1 w2 : World} {B : Nat}
theorem Upd.refl (S : Nat → Prop) (w : World) : Upd S w w := ⟨Below.refl _ _, fun _ _ _ => rfl⟩
theorem Upd.size (h : Upd S w w1) : w.heap.size ≤ w1.heap.size := h.1.size
theorem Upd.trans (h : Upd S w w1) (k : Upd S w1 w2) : Upd S w w2 := ⟨h.1.trans k.1, fun i hi hS => (k.2 i (Nat.lt_of_lt_of_le hi h.size) hS).trans (h.2 i hi hS)⟩
theorem Upd.mono (h : Upd S w w1) (hS : ∀ k, S k → T k) : Upd T w w1 := ⟨h.1, fun i hi hT => h.2 i hi fun hs => hT (hS i hs)⟩
theorem Upd.of (h : Below w.heap.size w w1) : Upd S w w1 := ⟨h.mono (Nat.zero_le _), fun i hi _ => h.block i hi⟩
theorem Upd.of_le (h : Below B w w1) (hB : w.heap.size ≤ B) : Upd S w w1 := Upd.of (h.mono hB)
theorem Upd.below (h : Upd S w w1) (hB : B ≤ w.heap.size) (hS : ∀ k, S k → B ≤ k) : Below B w w1 := ⟨h.1.os, h.1.tape, h.1.output, h.1.size, fun i hi => h.2 i (Nat.lt_of_lt_of_le hi hB) fun hs => Nat.not_lt.2 (hS i hs) hi⟩
theorem Upd.drew (h : Upd S w w1) : Upd S w w1.drew := ⟨h.1.drew, h.2⟩
theorem Upd.alloc (h : Upd S w w1) (o : Obj) : Upd S w (w1.alloc o) := h.trans (.of ((Below.refl _ _).alloc (Nat.le_refl _) o))
theorem Upd.setCell (h : Upd S w w1) {b i : Nat} (hb : S b ∨ w.heap.size ≤ b) (u : Value) : Upd S w (w1.setCell ⟨b, i, none⟩ u) :=
  ⟨h.1.setCell (p := ⟨b, i, none⟩) (Nat.zero_le _) u, fun k hk hS => (Below.heap_setCell w1 ⟨b, i, none⟩ u k (by
    rintro rfl
    rcases hb with hb | hb
    · exact hS hb
    · exact absurd hk (Nat.not_lt.2 hb))).trans (h.2 k hk hS)⟩
theorem Upd.keep (h : Upd S w w1) {k : Nat} {o : Obj} (ho : w.heap[k]? = some o) (hS : ¬ S k) : w1.heap[k]? = some o := (h.2 k (lt_of_some ho) hS).trans ho
end

def slotL : Lay Slt := ⟨53, 2, fun x => [.int .u32 x.1, .int .i64 x.2], fun _ => rfl, fun x v hv => by
  simp only [List.mem_cons, List.not_mem_nil, or_false] at hv
  rcases hv with rfl | rfl <;> rfl, by decide⟩
def hndL : Lay (Int × Int) := ⟨31, 2, fun x => [.int .i64 x.1, .int .u32 x.2], fun _ => rfl, fun x v hv => by
  simp only [List.mem_cons, List.not_mem_nil, or_false] at hv
  rcases hv with rfl | rfl <;> rfl, by decide⟩
theorem info_slot : (Try.prog.info? 53).map (fun i => (i.zero, i.size, i.bytes)) = some (some (.agg #[.int .u32 0, .int .i64 0]), 2, 16) := by kernel_rfl
theorem info_hnd : (Try.prog.info? 31).map (fun i => (i.zero, i.size, i.bytes)) = some (some (.agg #[.int .i64 0, .int .u32 0]), 2, 16) := by kernel_rfl

abbrev hnV (s g : Int) : Value := .agg #[.int .i64 s, .int .u32 g]
abbrev slV (x : Slt) : Value := .agg #[.int .u32 x.1, .int .i64 x.2]
abbrev hnO (s g : Int) : Obj := .cells #[.int .i64 s, .int .u32 g] 31 (0, 0)
abbrev slO (x : Slt) : Obj := .cells #[.int .u32 x.1, .int .i64 x.2] 53 (0, 0)
def rowO (L : List Slt) : Obj := .cells (flat slotL L).toArray 53 (0, 0)
/-- Each slot may be: its numbers fit, there are so many references at most. -/
def OkS (M : Int) (L : List Slt) : Prop := ∀ x ∈ L, (0 ≤ x.1 ∧ x.1 < 4294967296) ∧ 0 ≤ x.2 ∧ x.2 ≤ M
theorem OkS.at_ {M : Int} {L : List Slt} {k : Nat} {x : Slt} (h : OkS M L) (hk : L[k]? = some x) : (0 ≤ x.1 ∧ x.1 < 4294967296) ∧ 0 ≤ x.2 ∧ x.2 ≤ M := h x (List.mem_of_getElem? hk)
/-- A row of slots that lies whole at block g. -/
def SRow (w : World) (g : Nat) (L : List Slt) : Prop := w.heap[g]? = some (rowO L)
section
variable {w w' : World} {b g k : Nat} {L : List Slt} {x : Slt}
theorem SRow.gen (h : SRow w g L) (hk : L[k]? = some x) : w.cell? ⟨g, k * 2, none⟩ = some (.int .u32 x.1) := by
  rw [cell_of_row w g _ _ 53 (0, 0) h, List.getElem?_toArray]
  exact flat_get slotL L k 0 x _ hk rfl
theorem SRow.refs (h : SRow w g L) (hk : L[k]? = some x) : w.cell? ⟨g, k * 2 + 1, none⟩ = some (.int .i64 x.2) := by
  rw [cell_of_row w g _ _ 53 (0, 0) h, List.getElem?_toArray]
  exact flat_get slotL L k 1 x _ hk rfl
theorem SRow.frozen (h : SRow w g L) (i : Nat) : w.frozen? ⟨g, i, none⟩ = false := frozen_of_row w g i _ _ h
theorem SRow.rd (h : SRow w g L) : RowRd slotL w w.heap.size (some ⟨g, 0, none⟩) L.length L := rowRd_blk h rfl
theorem SRow.setGen (h : SRow w g L) (hk : L[k]? = some x) (n : Int) : SRow (w.setCell ⟨g, k * 2, none⟩ (.int .u32 n)) g (L.set k (n, x.2)) := by
  have := heap_setCell_same w g (k * 2) _ _ (.int .u32 n) h
  unfold SRow rowO
  rw [this, List.setIfInBounds_toArray]
  have hf := flat_set slotL [] L k 0 x (n, x.2) (.int .u32 n) hk (by decide) rfl
  simp only [List.append_nil] at hf
  rw [← hf]; rfl
theorem SRow.setRefs (h : SRow w g L) (hk : L[k]? = some x) (n : Int) : SRow (w.setCell ⟨g, k * 2 + 1, none⟩ (.int .i64 n)) g (L.set k (x.1, n)) := by
  have := heap_setCell_same w g (k * 2 + 1) _ _ (.int .i64 n) h
  unfold SRow rowO
  rw [this, List.setIfInBounds_toArray]
  have hf := flat_set slotL [] L k 1 x (x.1, n) (.int .i64 n) hk (by decide) rfl
  simp only [List.append_nil] at hf
  rw [← hf]; rfl
end
/-- The arena at block b, its slots at block g. -/
structure Ar (w : World) (b g : Nat) (L : List Slt) : Prop where
  blk : w.heap[b]? = some (.cells #[.slice (some ⟨g, 0, none⟩) L.length L.length] 57 (0, 0))
  row : SRow w g L
section
variable {w w' : World} {b g k : Nat} {L : List Slt} {S : Nat → Prop}
theorem Ar.c0 (h : Ar w b g L) : w.cell? ⟨b, 0, none⟩ = some (.slice (some ⟨g, 0, none⟩) L.length L.length) := by
  rw [cell_of_row w b 0 _ _ _ h.blk]; rfl
theorem Ar.ne (h : Ar w b g L) : b ≠ g := by
  rintro rfl
  have := h.blk.symm.trans h.row
  simp [rowO] at this
theorem Ar.bel (h : Ar w b g L) (hb : Below w.heap.size w w') : Ar w' b g L := ⟨(hb.block b (lt_of_some h.blk)).trans h.blk, (hb.block g (lt_of_some h.row)).trans h.row⟩
theorem Ar.upd (h : Ar w b g L) (hu : Upd S w w') (hb : ¬ S b) (hg : ¬ S g) : Ar w' b g L := ⟨hu.keep h.blk hb, hu.keep h.row hg⟩
theorem Ar.drew (h : Ar w b g L) : Ar w.drew b g L := ⟨h.blk, h.row⟩
theorem Ar.lt (h : Ar w b g L) : b < w.heap.size ∧ g < w.heap.size := ⟨lt_of_some h.blk, lt_of_some h.row⟩
end

theorem isFree_any (x : Slt) (w : World) : Calls Try.prog 25 #[slV x] w fun e w' => e = .returned (.bool (decide (x.2 = 0))) ∧ Below w.heap.size w w' := by
  obtain ⟨x0, x1⟩ := x
  have hA := (Below.refl w.heap.size w).alloc (Nat.le_refl _) (slO (x0, x1))
  have h1 : (w.alloc (slO (x0, x1))).cell? ⟨w.heap.size, 1, none⟩ = some (.int .i64 x1) := cell_of_row _ _ 1 _ _ _ (heap_alloc_new w _)
  go_enter Try.func25, Try.ntmps25
  go_wp2
  go_ret
  exact ⟨rfl, hA⟩
end Go.Proofs.Ytachodjpiklpkaa.Arn
