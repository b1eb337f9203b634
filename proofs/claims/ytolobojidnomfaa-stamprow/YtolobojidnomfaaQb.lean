/- A feedback item as a value and in memory: its cells, its lists. No function of the program. -/
import Derived.Test.YtolobojidnomfaaQa
import Derived.Test.YtolobojidnomfaaXq
import Derived.Test.YtolobojidnomfaaXw
import Derived.Test.YtolobojidnomfaaSqx
import Derived.IntWalk
set_option maxRecDepth 100000
namespace Go.Proofs.Ytolobojidnomfaa.Fbk
open Go.RowKit
set_option linter.unusedVariables false

def bloC (x : Blo) : List Value := [.int .u32 x.ssrc, .int .u8 x.lost, .int .u32 x.total, .int .u32 x.high, .int .u32 x.jit, .int .u32 x.last, .int .u32 x.delay]
abbrev bloV (x : Blo) : Value := .agg #[.int .u32 x.ssrc, .int .u8 x.lost, .int .u32 x.total, .int .u32 x.high, .int .u32 x.jit, .int .u32 x.last, .int .u32 x.delay]
abbrev bloO (x : Blo) : Obj := .cells #[.int .u32 x.ssrc, .int .u8 x.lost, .int .u32 x.total, .int .u32 x.high, .int .u32 x.jit, .int .u32 x.last, .int .u32 x.delay] 97 (0, 0)
def bloL : Lay Blo := ⟨97, 7, bloC, fun _ => rfl, fun x v hv => by
  simp only [bloC, List.mem_cons, List.not_mem_nil, or_false] at hv
  rcases hv with rfl | rfl | rfl | rfl | rfl | rfl | rfl <;> rfl, by decide⟩

/-- An item's cells: numbers, and slices by where they lie, how long they are, how long they might be. -/
structure IV where
  kind : Int
  ssrc : Int
  ntp : Int
  time : Int
  pks : Int
  ocs : Int
  ba : Option Addr
  bn : Nat
  bc : Nat
  ga : Option Addr
  gn : Nat
  gc : Nat
  media : Int
  pa : Option Addr
  pn : Nat
  pc : Nat
abbrev itm (v : IV) : Value :=
  .agg #[.int .i64 v.kind, .int .u32 v.ssrc, .int .u64 v.ntp, .int .u32 v.time, .int .u32 v.pks, .int .u32 v.ocs, .slice v.ba v.bn v.bc, .slice v.ga v.gn v.gc, .int .u32 v.media, .slice v.pa v.pn v.pc]
abbrev iobj (v : IV) : Obj :=
  .cells #[.int .i64 v.kind, .int .u32 v.ssrc, .int .u64 v.ntp, .int .u32 v.time, .int .u32 v.pks, .int .u32 v.ocs, .slice v.ba v.bn v.bc, .slice v.ga v.gn v.gc, .int .u32 v.media, .slice v.pa v.pn v.pc] 48 (0, 0)
abbrev ziv : IV := ⟨0, 0, 0, 0, 0, 0, none, 0, 0, none, 0, 0, 0, none, 0, 0⟩
/-- An item that lies at block b. -/
def IBlk (w : World) (b : Nat) (v : IV) : Prop := w.heap[b]? = some (iobj v)
section
variable {w w' : World} {b B : Nat} {v : IV}
theorem IBlk.new (w : World) (v : IV) : IBlk (w.alloc (iobj v)) w.heap.size v := heap_alloc_new w _
theorem IBlk.below (h : IBlk w b v) (hb : Below B w w') (hg : b < B) : IBlk w' b v := (hb.block b hg).trans h
theorem IBlk.lt (h : IBlk w b v) : b < w.heap.size := lt_of_some h
theorem IBlk.bel (h : IBlk w b v) (hb : Below w.heap.size w w') : IBlk w' b v := h.below hb h.lt
theorem IBlk.c0 (h : IBlk w b v) : w.cell? ⟨b, 0, none⟩ = some (.int .i64 v.kind) := cell_of_row w b 0 _ 48 (0, 0) h
theorem IBlk.c1 (h : IBlk w b v) : w.cell? ⟨b, 1, none⟩ = some (.int .u32 v.ssrc) := cell_of_row w b 1 _ 48 (0, 0) h
theorem IBlk.c2 (h : IBlk w b v) : w.cell? ⟨b, 2, none⟩ = some (.int .u64 v.ntp) := cell_of_row w b 2 _ 48 (0, 0) h
theorem IBlk.c3 (h : IBlk w b v) : w.cell? ⟨b, 3, none⟩ = some (.int .u32 v.time) := cell_of_row w b 3 _ 48 (0, 0) h
theorem IBlk.c4 (h : IBlk w b v) : w.cell? ⟨b, 4, none⟩ = some (.int .u32 v.pks) := cell_of_row w b 4 _ 48 (0, 0) h
theorem IBlk.c5 (h : IBlk w b v) : w.cell? ⟨b, 5, none⟩ = some (.int .u32 v.ocs) := cell_of_row w b 5 _ 48 (0, 0) h
theorem IBlk.c6 (h : IBlk w b v) : w.cell? ⟨b, 6, none⟩ = some (.slice v.ba v.bn v.bc) := cell_of_row w b 6 _ 48 (0, 0) h
theorem IBlk.c7 (h : IBlk w b v) : w.cell? ⟨b, 7, none⟩ = some (.slice v.ga v.gn v.gc) := cell_of_row w b 7 _ 48 (0, 0) h
theorem IBlk.c8 (h : IBlk w b v) : w.cell? ⟨b, 8, none⟩ = some (.int .u32 v.media) := cell_of_row w b 8 _ 48 (0, 0) h
theorem IBlk.c9 (h : IBlk w b v) : w.cell? ⟨b, 9, none⟩ = some (.slice v.pa v.pn v.pc) := cell_of_row w b 9 _ 48 (0, 0) h
theorem IBlk.frozen (h : IBlk w b v) (i : Nat) : w.frozen? ⟨b, i, none⟩ = false := frozen_of_row w b i _ 48 h
theorem IBlk.cells (h : IBlk w b v) : w.cell? ⟨b, 0, none⟩ = some (.int .i64 v.kind) ∧ w.cell? ⟨b, 1, none⟩ = some (.int .u32 v.ssrc) ∧ w.cell? ⟨b, 2, none⟩ = some (.int .u64 v.ntp) ∧ w.cell? ⟨b, 3, none⟩ = some (.int .u32 v.time) ∧ w.cell? ⟨b, 4, none⟩ = some (.int .u32 v.pks) ∧ w.cell? ⟨b, 5, none⟩ = some (.int .u32 v.ocs) ∧ w.cell? ⟨b, 6, none⟩ = some (.slice v.ba v.bn v.bc) ∧ w.cell? ⟨b, 7, none⟩ = some (.slice v.ga v.gn v.gc) ∧ w.cell? ⟨b, 8, none⟩ = some (.int .u32 v.media) ∧ w.cell? ⟨b, 9, none⟩ = some (.slice v.pa v.pn v.pc) := ⟨h.c0, h.c1, h.c2, h.c3, h.c4, h.c5, h.c6, h.c7, h.c8, h.c9⟩
theorem IBlk.cf (h : IBlk w b v) : w.cell? ⟨b, 0, none⟩ = some (.int .i64 v.kind) ∧ w.frozen? ⟨b, 0, none⟩ = false ∧ w.cell? ⟨b, 1, none⟩ = some (.int .u32 v.ssrc) ∧ w.frozen? ⟨b, 1, none⟩ = false ∧ w.cell? ⟨b, 2, none⟩ = some (.int .u64 v.ntp) ∧ w.frozen? ⟨b, 2, none⟩ = false ∧ w.cell? ⟨b, 3, none⟩ = some (.int .u32 v.time) ∧ w.frozen? ⟨b, 3, none⟩ = false ∧ w.cell? ⟨b, 4, none⟩ = some (.int .u32 v.pks) ∧ w.frozen? ⟨b, 4, none⟩ = false ∧ w.cell? ⟨b, 5, none⟩ = some (.int .u32 v.ocs) ∧ w.frozen? ⟨b, 5, none⟩ = false ∧ w.cell? ⟨b, 6, none⟩ = some (.slice v.ba v.bn v.bc) ∧ w.frozen? ⟨b, 6, none⟩ = false ∧ w.cell? ⟨b, 7, none⟩ = some (.slice v.ga v.gn v.gc) ∧ w.frozen? ⟨b, 7, none⟩ = false ∧ w.cell? ⟨b, 8, none⟩ = some (.int .u32 v.media) ∧ w.frozen? ⟨b, 8, none⟩ = false ∧ w.cell? ⟨b, 9, none⟩ = some (.slice v.pa v.pn v.pc) ∧ w.frozen? ⟨b, 9, none⟩ = false := ⟨h.c0, h.frozen 0, h.c1, h.frozen 1, h.c2, h.frozen 2, h.c3, h.frozen 3, h.c4, h.frozen 4, h.c5, h.frozen 5, h.c6, h.frozen 6, h.c7, h.frozen 7, h.c8, h.frozen 8, h.c9, h.frozen 9⟩
theorem IBlk.off (h : IBlk w b v) {p : Addr} (hp : p.block ≠ b) (u : Value) : IBlk (w.setCell p u) b v := (Below.heap_setCell w p u b (fun e => hp e.symm)).trans h
theorem IBlk.set0 (h : IBlk w b v) (y : Int) : IBlk (w.setCell ⟨b, 0, none⟩ (.int .i64 y)) b { v with kind := y } := heap_setCell_same w b 0 _ 48 (.int .i64 y) h
theorem IBlk.set1 (h : IBlk w b v) (y : Int) : IBlk (w.setCell ⟨b, 1, none⟩ (.int .u32 y)) b { v with ssrc := y } := heap_setCell_same w b 1 _ 48 (.int .u32 y) h
theorem IBlk.set2 (h : IBlk w b v) (y : Int) : IBlk (w.setCell ⟨b, 2, none⟩ (.int .u64 y)) b { v with ntp := y } := heap_setCell_same w b 2 _ 48 (.int .u64 y) h
theorem IBlk.set3 (h : IBlk w b v) (y : Int) : IBlk (w.setCell ⟨b, 3, none⟩ (.int .u32 y)) b { v with time := y } := heap_setCell_same w b 3 _ 48 (.int .u32 y) h
theorem IBlk.set4 (h : IBlk w b v) (y : Int) : IBlk (w.setCell ⟨b, 4, none⟩ (.int .u32 y)) b { v with pks := y } := heap_setCell_same w b 4 _ 48 (.int .u32 y) h
theorem IBlk.set5 (h : IBlk w b v) (y : Int) : IBlk (w.setCell ⟨b, 5, none⟩ (.int .u32 y)) b { v with ocs := y } := heap_setCell_same w b 5 _ 48 (.int .u32 y) h
theorem IBlk.set6 (h : IBlk w b v) (a : Option Addr) (n c : Nat) : IBlk (w.setCell ⟨b, 6, none⟩ (.slice a n c)) b { v with ba := a, bn := n, bc := c } := heap_setCell_same w b 6 _ 48 (.slice a n c) h
theorem IBlk.set7 (h : IBlk w b v) (a : Option Addr) (n c : Nat) : IBlk (w.setCell ⟨b, 7, none⟩ (.slice a n c)) b { v with ga := a, gn := n, gc := c } := heap_setCell_same w b 7 _ 48 (.slice a n c) h
theorem IBlk.set8 (h : IBlk w b v) (y : Int) : IBlk (w.setCell ⟨b, 8, none⟩ (.int .u32 y)) b { v with media := y } := heap_setCell_same w b 8 _ 48 (.int .u32 y) h
theorem IBlk.set9 (h : IBlk w b v) (a : Option Addr) (n c : Nat) : IBlk (w.setCell ⟨b, 9, none⟩ (.slice a n c)) b { v with pa := a, pn := n, pc := c } := heap_setCell_same w b 9 _ 48 (.slice a n c) h
theorem IBlk.store (h : IBlk w b v) (u : IV) :
    IBlk ((((((((((w.setCell ⟨b, 0, none⟩ (.int .i64 u.kind)).setCell ⟨b, 1, none⟩ (.int .u32 u.ssrc)).setCell ⟨b, 2, none⟩ (.int .u64 u.ntp)).setCell ⟨b, 3, none⟩ (.int .u32 u.time)).setCell ⟨b, 4, none⟩ (.int .u32 u.pks)).setCell ⟨b, 5, none⟩ (.int .u32 u.ocs)).setCell ⟨b, 6, none⟩ (.slice u.ba u.bn u.bc)).setCell ⟨b, 7, none⟩ (.slice u.ga u.gn u.gc)).setCell ⟨b, 8, none⟩ (.int .u32 u.media)).setCell ⟨b, 9, none⟩ (.slice u.pa u.pn u.pc)) b u :=
  (((((((((h.set0 u.kind).set1 u.ssrc).set2 u.ntp).set3 u.time).set4 u.pks).set5 u.ocs).set6 u.ba u.bn u.bc).set7 u.ga u.gn u.gc).set8 u.media).set9 u.pa u.pn u.pc
end
theorem below_istore {w w' : World} {B b : Nat} (hb : Below B w w') (hB : B ≤ b) (u0 u1 u2 u3 u4 u5 u6 u7 u8 u9 : Value) :
    Below B w ((((((((((w'.setCell ⟨b, 0, none⟩ u0).setCell ⟨b, 1, none⟩ u1).setCell ⟨b, 2, none⟩ u2).setCell ⟨b, 3, none⟩ u3).setCell ⟨b, 4, none⟩ u4).setCell ⟨b, 5, none⟩ u5).setCell ⟨b, 6, none⟩ u6).setCell ⟨b, 7, none⟩ u7).setCell ⟨b, 8, none⟩ u8).setCell ⟨b, 9, none⟩ u9) :=
  (((((((((hb.setCell (p := ⟨b, 0, none⟩) hB u0).setCell (p := ⟨b, 1, none⟩) hB u1).setCell (p := ⟨b, 2, none⟩) hB u2).setCell (p := ⟨b, 3, none⟩) hB u3).setCell (p := ⟨b, 4, none⟩) hB u4).setCell (p := ⟨b, 5, none⟩) hB u5).setCell (p := ⟨b, 6, none⟩) hB u6).setCell (p := ⟨b, 7, none⟩) hB u7).setCell (p := ⟨b, 8, none⟩) hB u8).setCell (p := ⟨b, 9, none⟩) hB u9

/-- A report block that lies at block b. -/
def KBlk (w : World) (b : Nat) (x : Blo) : Prop := w.heap[b]? = some (bloO x)
abbrev zblo : Blo := ⟨0, 0, 0, 0, 0, 0, 0⟩
section
variable {w w' : World} {b B : Nat} {x : Blo}
theorem KBlk.new (w : World) (x : Blo) : KBlk (w.alloc (bloO x)) w.heap.size x := heap_alloc_new w _
theorem KBlk.below (h : KBlk w b x) (hb : Below B w w') (hg : b < B) : KBlk w' b x := (hb.block b hg).trans h
theorem KBlk.lt (h : KBlk w b x) : b < w.heap.size := lt_of_some h
theorem KBlk.bel (h : KBlk w b x) (hb : Below w.heap.size w w') : KBlk w' b x := h.below hb h.lt
theorem KBlk.c0 (h : KBlk w b x) : w.cell? ⟨b, 0, none⟩ = some (.int .u32 x.ssrc) := cell_of_row w b 0 _ 97 (0, 0) h
theorem KBlk.c1 (h : KBlk w b x) : w.cell? ⟨b, 1, none⟩ = some (.int .u8 x.lost) := cell_of_row w b 1 _ 97 (0, 0) h
theorem KBlk.c2 (h : KBlk w b x) : w.cell? ⟨b, 2, none⟩ = some (.int .u32 x.total) := cell_of_row w b 2 _ 97 (0, 0) h
theorem KBlk.c3 (h : KBlk w b x) : w.cell? ⟨b, 3, none⟩ = some (.int .u32 x.high) := cell_of_row w b 3 _ 97 (0, 0) h
theorem KBlk.c4 (h : KBlk w b x) : w.cell? ⟨b, 4, none⟩ = some (.int .u32 x.jit) := cell_of_row w b 4 _ 97 (0, 0) h
theorem KBlk.c5 (h : KBlk w b x) : w.cell? ⟨b, 5, none⟩ = some (.int .u32 x.last) := cell_of_row w b 5 _ 97 (0, 0) h
theorem KBlk.c6 (h : KBlk w b x) : w.cell? ⟨b, 6, none⟩ = some (.int .u32 x.delay) := cell_of_row w b 6 _ 97 (0, 0) h
theorem KBlk.frozen (h : KBlk w b x) (i : Nat) : w.frozen? ⟨b, i, none⟩ = false := frozen_of_row w b i _ 97 h
theorem KBlk.cells (h : KBlk w b x) : w.cell? ⟨b, 0, none⟩ = some (.int .u32 x.ssrc) ∧ w.cell? ⟨b, 1, none⟩ = some (.int .u8 x.lost) ∧ w.cell? ⟨b, 2, none⟩ = some (.int .u32 x.total) ∧ w.cell? ⟨b, 3, none⟩ = some (.int .u32 x.high) ∧ w.cell? ⟨b, 4, none⟩ = some (.int .u32 x.jit) ∧ w.cell? ⟨b, 5, none⟩ = some (.int .u32 x.last) ∧ w.cell? ⟨b, 6, none⟩ = some (.int .u32 x.delay) := ⟨h.c0, h.c1, h.c2, h.c3, h.c4, h.c5, h.c6⟩
theorem KBlk.off (h : KBlk w b x) {p : Addr} (hp : p.block ≠ b) (u : Value) : KBlk (w.setCell p u) b x := (Below.heap_setCell w p u b (fun e => hp e.symm)).trans h
theorem KBlk.set0 (h : KBlk w b x) (y : Int) : KBlk (w.setCell ⟨b, 0, none⟩ (.int .u32 y)) b { x with ssrc := y } := heap_setCell_same w b 0 _ 97 (.int .u32 y) h
theorem KBlk.set1 (h : KBlk w b x) (y : Int) : KBlk (w.setCell ⟨b, 1, none⟩ (.int .u8 y)) b { x with lost := y } := heap_setCell_same w b 1 _ 97 (.int .u8 y) h
theorem KBlk.set2 (h : KBlk w b x) (y : Int) : KBlk (w.setCell ⟨b, 2, none⟩ (.int .u32 y)) b { x with total := y } := heap_setCell_same w b 2 _ 97 (.int .u32 y) h
theorem KBlk.set3 (h : KBlk w b x) (y : Int) : KBlk (w.setCell ⟨b, 3, none⟩ (.int .u32 y)) b { x with high := y } := heap_setCell_same w b 3 _ 97 (.int .u32 y) h
theorem KBlk.set4 (h : KBlk w b x) (y : Int) : KBlk (w.setCell ⟨b, 4, none⟩ (.int .u32 y)) b { x with jit := y } := heap_setCell_same w b 4 _ 97 (.int .u32 y) h
theorem KBlk.set5 (h : KBlk w b x) (y : Int) : KBlk (w.setCell ⟨b, 5, none⟩ (.int .u32 y)) b { x with last := y } := heap_setCell_same w b 5 _ 97 (.int .u32 y) h
theorem KBlk.set6 (h : KBlk w b x) (y : Int) : KBlk (w.setCell ⟨b, 6, none⟩ (.int .u32 y)) b { x with delay := y } := heap_setCell_same w b 6 _ 97 (.int .u32 y) h
end

/-- Where an item's lists lie, and how long they might be. -/
structure ILoc where
  ba : Option Addr
  bc : Nat
  ga : Option Addr
  gc : Nat
  pa : Option Addr
  pc : Nat
def ivOf (i : Itm) (l : ILoc) : IV := ⟨i.kind, i.ssrc, i.ntp, i.time, i.pks, i.ocs, l.ba, i.blocks.length, l.bc, l.ga, i.gone.length, l.gc, i.media, l.pa, i.pairs.length, l.pc⟩
/-- An item's lists lie below block B, and read as they should. -/
structure IRd (w : World) (B : Nat) (i : Itm) (l : ILoc) : Prop where
  blocks : RowRd bloL w B l.ba i.blocks.length i.blocks
  gone : Wd w B l.ga i.gone.length i.gone
  pairs : RowRd pairL w B l.pa i.pairs.length i.pairs
  bn : i.blocks.length ≤ 140737488351232
  gn : i.gone.length ≤ 140737488351232
  pn : i.pairs.length ≤ 140737488351232
  bc : i.blocks.length ≤ l.bc
  gc : i.gone.length ≤ l.gc
  pc : i.pairs.length ≤ l.pc
theorem IRd.below {w w' : World} {B : Nat} {i : Itm} {l : ILoc} (h : IRd w B i l) (hb : Below B w w') : IRd w' B i l := ⟨h.blocks.below hb, h.gone.below hb, h.pairs.below hb, h.bn, h.gn, h.pn, h.bc, h.gc, h.pc⟩
theorem IRd.more {w : World} {B B' : Nat} {i : Itm} {l : ILoc} (h : IRd w B i l) (hb : B ≤ B') : IRd w B' i l := ⟨h.blocks.more hb, h.gone.more hb, h.pairs.more hb, h.bn, h.gn, h.pn, h.bc, h.gc, h.pc⟩
theorem IRd.zero (w : World) (B : Nat) : IRd w B zeroItm ⟨none, 0, none, 0, none, 0⟩ :=
  ⟨RowRd.none_ _ rfl, Wd.none_ _ rfl, RowRd.none_ _ rfl, Nat.zero_le _, Nat.zero_le _, Nat.zero_le _, Nat.le_refl _, Nat.le_refl _, Nat.le_refl _⟩
def RetB (w : World) (x : Bool) (e : Ending) (w' : World) : Prop := e = .returned (.bool x) ∧ Below w.heap.size w w'
def RetI (w : World) (x : Int) (e : Ending) (w' : World) : Prop := e = .returned (.int .i64 x) ∧ Below w.heap.size w w'
/-- Bytes, and an error. -/
def RetR (w : World) (ys : List Int) (n : Int) (e : Ending) (w' : World) : Prop :=
  ∃ A c, e = .returned (.tuple #[.slice A ys.length c, .int .i64 n]) ∧ Own w' w.heap.size A ys.length c ys ∧ Below w.heap.size w w'
/-- An item, how many bytes, an error. -/
def IRet (w : World) (i : Itm) (m n : Int) (e : Ending) (w' : World) : Prop :=
  ∃ l, e = .returned (.tuple #[itm (ivOf i l), .int .i64 m, .int .i64 n]) ∧ IRd w' w'.heap.size i l ∧ Below w.heap.size w w'
theorem ret_int {k : IntKind} {a b : Int} (h : a = b) : Ending.returned (.int k a) = .returned (.int k b) := by rw [h]
theorem wrap_u32 (x : Int) (h : U32 x) : IntKind.u32.wrap x = x := by have := h.1; have := h.2; simp [IntKind.wrap, IntKind.bits, IntKind.signed]; omega
theorem wrap_u8 (x : Int) (h : 0 ≤ x ∧ x ≤ 255) : IntKind.u8.wrap x = x := by have := h.1; have := h.2; simp [IntKind.wrap, IntKind.bits, IntKind.signed]; omega
theorem wrap_u64 (x : Int) (h : 0 ≤ x ∧ x ≤ 18446744073709551615) : IntKind.u64.wrap x = x := by have := h.1; have := h.2; simp [IntKind.wrap, IntKind.bits, IntKind.signed]; omega
end Go.Proofs.Ytolobojidnomfaa.Fbk
