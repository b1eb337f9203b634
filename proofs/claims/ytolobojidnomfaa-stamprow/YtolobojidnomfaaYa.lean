/- A subscription's track, a patch, a descriptor as values and in memory; the five blocks that stamp's functions work on. -/
import Derived.Test.YtolobojidnomfaaJn
import Derived.Test.YtolobojidnomfaaJa
import Derived.Test.YtolobojidnomfaaJg
import Derived.Test.YtolobojidnomfaaXm
set_option maxRecDepth 100000
namespace Go.Proofs.Ytolobojidnomfaa.Stp
open Go.RowKit Go.Proofs.Ytolobojidnomfaa.Gat Go.Proofs.Ytolobojidnomfaa.Crs Go.Proofs.Ytolobojidnomfaa.Clk Go.Proofs.Ytolobojidnomfaa.Rtp
set_option linter.unusedVariables false

/-- A track: gate, course, clock, the source that goes out, the frame, packets, bytes. -/
structure TV where
  g : Gt
  c : Co
  k : Ck
  out : Int
  fr : Int
  sn : Int
  oc : Int
/-- A patch: number, time, source, frame. -/
abbrev Pc := Int × Int × Int × Int
/-- A descriptor: layer, key? start? frame. -/
abbrev Ds := Int × Bool × Bool × Int
abbrev tv0 : TV := ⟨gt0, co0, ck0, 0, 0, 0, 0⟩
abbrev pc0 : Pc := (0, 0, 0, 0)
abbrev trkV (t : TV) : Value := .agg #[.int .i64 t.g.1, .int .i64 t.g.2.1, .bool t.g.2.2.1, .bool t.g.2.2.2, .bool t.c.1, .int .u16 t.c.2.1, .int .u16 t.c.2.2.1, .int .u16 t.c.2.2.2, .bool t.k.1, .int .u32 t.k.2.1, .int .u32 t.k.2.2, .int .u32 t.out, .int .u16 t.fr, .int .u32 t.sn, .int .u32 t.oc]
abbrev trkO (t : TV) : Obj := .cells #[.int .i64 t.g.1, .int .i64 t.g.2.1, .bool t.g.2.2.1, .bool t.g.2.2.2, .bool t.c.1, .int .u16 t.c.2.1, .int .u16 t.c.2.2.1, .int .u16 t.c.2.2.2, .bool t.k.1, .int .u32 t.k.2.1, .int .u32 t.k.2.2, .int .u32 t.out, .int .u16 t.fr, .int .u32 t.sn, .int .u32 t.oc] 31 (0, 0)
abbrev pcV (p : Pc) : Value := .agg #[.int .u16 p.1, .int .u32 p.2.1, .int .u32 p.2.2.1, .int .u16 p.2.2.2]
abbrev pcO (p : Pc) : Obj := .cells #[.int .u16 p.1, .int .u32 p.2.1, .int .u32 p.2.2.1, .int .u16 p.2.2.2] 40 (0, 0)
abbrev dsV (d : Ds) : Value := .agg #[.int .i64 d.1, .bool d.2.1, .bool d.2.2.1, .int .u16 d.2.2.2]
abbrev dsO (d : Ds) : Obj := .cells #[.int .i64 d.1, .bool d.2.1, .bool d.2.2.1, .int .u16 d.2.2.2] 37 (0, 0)
def TBlk (w : World) (b : Nat) (t : TV) : Prop := w.heap[b]? = some (trkO t)
section
variable {w w' : World} {b : Nat} {t : TV}
theorem TBlk.c0 (h : TBlk w b t) : w.cell? ⟨b, 0, none⟩ = some (.int .i64 t.g.1) := by rw [cell_of_row w b 0 _ _ _ h]; rfl
theorem TBlk.c1 (h : TBlk w b t) : w.cell? ⟨b, 1, none⟩ = some (.int .i64 t.g.2.1) := by rw [cell_of_row w b 1 _ _ _ h]; rfl
theorem TBlk.c2 (h : TBlk w b t) : w.cell? ⟨b, 2, none⟩ = some (.bool t.g.2.2.1) := by rw [cell_of_row w b 2 _ _ _ h]; rfl
theorem TBlk.c3 (h : TBlk w b t) : w.cell? ⟨b, 3, none⟩ = some (.bool t.g.2.2.2) := by rw [cell_of_row w b 3 _ _ _ h]; rfl
theorem TBlk.c4 (h : TBlk w b t) : w.cell? ⟨b, 4, none⟩ = some (.bool t.c.1) := by rw [cell_of_row w b 4 _ _ _ h]; rfl
theorem TBlk.c5 (h : TBlk w b t) : w.cell? ⟨b, 5, none⟩ = some (.int .u16 t.c.2.1) := by rw [cell_of_row w b 5 _ _ _ h]; rfl
theorem TBlk.c6 (h : TBlk w b t) : w.cell? ⟨b, 6, none⟩ = some (.int .u16 t.c.2.2.1) := by rw [cell_of_row w b 6 _ _ _ h]; rfl
theorem TBlk.c7 (h : TBlk w b t) : w.cell? ⟨b, 7, none⟩ = some (.int .u16 t.c.2.2.2) := by rw [cell_of_row w b 7 _ _ _ h]; rfl
theorem TBlk.c8 (h : TBlk w b t) : w.cell? ⟨b, 8, none⟩ = some (.bool t.k.1) := by rw [cell_of_row w b 8 _ _ _ h]; rfl
theorem TBlk.c9 (h : TBlk w b t) : w.cell? ⟨b, 9, none⟩ = some (.int .u32 t.k.2.1) := by rw [cell_of_row w b 9 _ _ _ h]; rfl
theorem TBlk.c10 (h : TBlk w b t) : w.cell? ⟨b, 10, none⟩ = some (.int .u32 t.k.2.2) := by rw [cell_of_row w b 10 _ _ _ h]; rfl
theorem TBlk.c11 (h : TBlk w b t) : w.cell? ⟨b, 11, none⟩ = some (.int .u32 t.out) := by rw [cell_of_row w b 11 _ _ _ h]; rfl
theorem TBlk.c12 (h : TBlk w b t) : w.cell? ⟨b, 12, none⟩ = some (.int .u16 t.fr) := by rw [cell_of_row w b 12 _ _ _ h]; rfl
theorem TBlk.c13 (h : TBlk w b t) : w.cell? ⟨b, 13, none⟩ = some (.int .u32 t.sn) := by rw [cell_of_row w b 13 _ _ _ h]; rfl
theorem TBlk.c14 (h : TBlk w b t) : w.cell? ⟨b, 14, none⟩ = some (.int .u32 t.oc) := by rw [cell_of_row w b 14 _ _ _ h]; rfl
theorem TBlk.frozen (h : TBlk w b t) (i : Nat) : w.frozen? ⟨b, i, none⟩ = false := frozen_of_row w b i _ _ h
theorem TBlk.lt (h : TBlk w b t) : b < w.heap.size := lt_of_some h
theorem TBlk.new (w : World) (t : TV) : TBlk (w.alloc (trkO t)) w.heap.size t := heap_alloc_new w _
theorem TBlk.bel {B : Nat} (h : TBlk w b t) (hb : Below B w w') (hB : b < B) : TBlk w' b t := (hb.block b hB).trans h
theorem TBlk.otherC {c i : Nat} (h : TBlk w b t) (hc : b ≠ c) (v : Value) : TBlk (w.setCell ⟨c, i, none⟩ v) b t := by
  unfold TBlk at *
  rw [Below.heap_setCell _ _ _ _ hc]
  exact h
end
def QBlk (w : World) (b : Nat) (p : Pc) : Prop := w.heap[b]? = some (pcO p)
section
variable {w w' : World} {b : Nat} {p : Pc}
theorem QBlk.c0 (h : QBlk w b p) : w.cell? ⟨b, 0, none⟩ = some (.int .u16 p.1) := by rw [cell_of_row w b 0 _ _ _ h]; rfl
theorem QBlk.c1 (h : QBlk w b p) : w.cell? ⟨b, 1, none⟩ = some (.int .u32 p.2.1) := by rw [cell_of_row w b 1 _ _ _ h]; rfl
theorem QBlk.c2 (h : QBlk w b p) : w.cell? ⟨b, 2, none⟩ = some (.int .u32 p.2.2.1) := by rw [cell_of_row w b 2 _ _ _ h]; rfl
theorem QBlk.c3 (h : QBlk w b p) : w.cell? ⟨b, 3, none⟩ = some (.int .u16 p.2.2.2) := by rw [cell_of_row w b 3 _ _ _ h]; rfl
theorem QBlk.frozen (h : QBlk w b p) (i : Nat) : w.frozen? ⟨b, i, none⟩ = false := frozen_of_row w b i _ _ h
theorem QBlk.lt (h : QBlk w b p) : b < w.heap.size := lt_of_some h
theorem QBlk.new (w : World) (p : Pc) : QBlk (w.alloc (pcO p)) w.heap.size p := heap_alloc_new w _
theorem QBlk.bel {B : Nat} (h : QBlk w b p) (hb : Below B w w') (hB : b < B) : QBlk w' b p := (hb.block b hB).trans h
theorem QBlk.otherC {c i : Nat} (h : QBlk w b p) (hc : b ≠ c) (v : Value) : QBlk (w.setCell ⟨c, i, none⟩ v) b p := by
  unfold QBlk at *
  rw [Below.heap_setCell _ _ _ _ hc]
  exact h
end
def SBlk (w : World) (b : Nat) (d : Ds) : Prop := w.heap[b]? = some (dsO d)
section
variable {w w' : World} {b : Nat} {d : Ds}
theorem SBlk.c0 (h : SBlk w b d) : w.cell? ⟨b, 0, none⟩ = some (.int .i64 d.1) := by rw [cell_of_row w b 0 _ _ _ h]; rfl
theorem SBlk.c1 (h : SBlk w b d) : w.cell? ⟨b, 1, none⟩ = some (.bool d.2.1) := by rw [cell_of_row w b 1 _ _ _ h]; rfl
theorem SBlk.c2 (h : SBlk w b d) : w.cell? ⟨b, 2, none⟩ = some (.bool d.2.2.1) := by rw [cell_of_row w b 2 _ _ _ h]; rfl
theorem SBlk.c3 (h : SBlk w b d) : w.cell? ⟨b, 3, none⟩ = some (.int .u16 d.2.2.2) := by rw [cell_of_row w b 3 _ _ _ h]; rfl
theorem SBlk.frozen (h : SBlk w b d) (i : Nat) : w.frozen? ⟨b, i, none⟩ = false := frozen_of_row w b i _ _ h
theorem SBlk.lt (h : SBlk w b d) : b < w.heap.size := lt_of_some h
theorem SBlk.new (w : World) (d : Ds) : SBlk (w.alloc (dsO d)) w.heap.size d := heap_alloc_new w _
theorem SBlk.bel {B : Nat} (h : SBlk w b d) (hb : Below B w w') (hB : b < B) : SBlk w' b d := (hb.block b hB).trans h
theorem SBlk.otherC {c i : Nat} (h : SBlk w b d) (hc : b ≠ c) (v : Value) : SBlk (w.setCell ⟨c, i, none⟩ v) b d := by
  unfold SBlk at *
  rw [Below.heap_setCell _ _ _ _ hc]
  exact h
end
/-- Whole stores; stores of a part. -/
abbrev putT (w : World) (b : Nat) (y : TV) : World := ((((((((((((((w.setCell ⟨b, 0, none⟩ (.int .i64 y.g.1)).setCell ⟨b, 1, none⟩ (.int .i64 y.g.2.1)).setCell ⟨b, 2, none⟩ (.bool y.g.2.2.1)).setCell ⟨b, 3, none⟩ (.bool y.g.2.2.2)).setCell ⟨b, 4, none⟩ (.bool y.c.1)).setCell ⟨b, 5, none⟩ (.int .u16 y.c.2.1)).setCell ⟨b, 6, none⟩ (.int .u16 y.c.2.2.1)).setCell ⟨b, 7, none⟩ (.int .u16 y.c.2.2.2)).setCell ⟨b, 8, none⟩ (.bool y.k.1)).setCell ⟨b, 9, none⟩ (.int .u32 y.k.2.1)).setCell ⟨b, 10, none⟩ (.int .u32 y.k.2.2)).setCell ⟨b, 11, none⟩ (.int .u32 y.out)).setCell ⟨b, 12, none⟩ (.int .u16 y.fr)).setCell ⟨b, 13, none⟩ (.int .u32 y.sn)).setCell ⟨b, 14, none⟩ (.int .u32 y.oc)
abbrev putP (w : World) (b : Nat) (y : Pc) : World := (((w.setCell ⟨b, 0, none⟩ (.int .u16 y.1)).setCell ⟨b, 1, none⟩ (.int .u32 y.2.1)).setCell ⟨b, 2, none⟩ (.int .u32 y.2.2.1)).setCell ⟨b, 3, none⟩ (.int .u16 y.2.2.2)
abbrev putG (w : World) (b : Nat) (y : Gt) : World := (((w.setCell ⟨b, 0, none⟩ (.int .i64 y.1)).setCell ⟨b, 1, none⟩ (.int .i64 y.2.1)).setCell ⟨b, 2, none⟩ (.bool y.2.2.1)).setCell ⟨b, 3, none⟩ (.bool y.2.2.2)
abbrev putC (w : World) (b : Nat) (y : Co) : World := (((w.setCell ⟨b, 4, none⟩ (.bool y.1)).setCell ⟨b, 5, none⟩ (.int .u16 y.2.1)).setCell ⟨b, 6, none⟩ (.int .u16 y.2.2.1)).setCell ⟨b, 7, none⟩ (.int .u16 y.2.2.2)
abbrev putK (w : World) (b : Nat) (y : Ck) : World := ((w.setCell ⟨b, 8, none⟩ (.bool y.1)).setCell ⟨b, 9, none⟩ (.int .u32 y.2.1)).setCell ⟨b, 10, none⟩ (.int .u32 y.2.2)
section
variable {w : World} {b c : Nat} {t : TV} {p : Pc} {d : Ds}
theorem TBlk.store (h : TBlk w b t) (y : TV) : TBlk (putT w b y) b y := by
  unfold TBlk trkO at h ⊢
  have h1 := heap_setCell_same w b 0 _ _ (.int .i64 y.g.1) h
  simp only [List.setIfInBounds_toArray, List.set_cons_zero] at h1
  have h2 := heap_setCell_same _ b 1 _ _ (.int .i64 y.g.2.1) h1
  simp only [List.setIfInBounds_toArray, List.set_cons_zero, List.set_cons_succ] at h2
  have h3 := heap_setCell_same _ b 2 _ _ (.bool y.g.2.2.1) h2
  simp only [List.setIfInBounds_toArray, List.set_cons_zero, List.set_cons_succ] at h3
  have h4 := heap_setCell_same _ b 3 _ _ (.bool y.g.2.2.2) h3
  simp only [List.setIfInBounds_toArray, List.set_cons_zero, List.set_cons_succ] at h4
  have h5 := heap_setCell_same _ b 4 _ _ (.bool y.c.1) h4
  simp only [List.setIfInBounds_toArray, List.set_cons_zero, List.set_cons_succ] at h5
  have h6 := heap_setCell_same _ b 5 _ _ (.int .u16 y.c.2.1) h5
  simp only [List.setIfInBounds_toArray, List.set_cons_zero, List.set_cons_succ] at h6
  have h7 := heap_setCell_same _ b 6 _ _ (.int .u16 y.c.2.2.1) h6
  simp only [List.setIfInBounds_toArray, List.set_cons_zero, List.set_cons_succ] at h7
  have h8 := heap_setCell_same _ b 7 _ _ (.int .u16 y.c.2.2.2) h7
  simp only [List.setIfInBounds_toArray, List.set_cons_zero, List.set_cons_succ] at h8
  have h9 := heap_setCell_same _ b 8 _ _ (.bool y.k.1) h8
  simp only [List.setIfInBounds_toArray, List.set_cons_zero, List.set_cons_succ] at h9
  have h10 := heap_setCell_same _ b 9 _ _ (.int .u32 y.k.2.1) h9
  simp only [List.setIfInBounds_toArray, List.set_cons_zero, List.set_cons_succ] at h10
  have h11 := heap_setCell_same _ b 10 _ _ (.int .u32 y.k.2.2) h10
  simp only [List.setIfInBounds_toArray, List.set_cons_zero, List.set_cons_succ] at h11
  have h12 := heap_setCell_same _ b 11 _ _ (.int .u32 y.out) h11
  simp only [List.setIfInBounds_toArray, List.set_cons_zero, List.set_cons_succ] at h12
  have h13 := heap_setCell_same _ b 12 _ _ (.int .u16 y.fr) h12
  simp only [List.setIfInBounds_toArray, List.set_cons_zero, List.set_cons_succ] at h13
  have h14 := heap_setCell_same _ b 13 _ _ (.int .u32 y.sn) h13
  simp only [List.setIfInBounds_toArray, List.set_cons_zero, List.set_cons_succ] at h14
  have h15 := heap_setCell_same _ b 14 _ _ (.int .u32 y.oc) h14
  simp only [List.setIfInBounds_toArray, List.set_cons_zero, List.set_cons_succ] at h15
  exact h15
theorem QBlk.store (h : QBlk w b p) (y : Pc) : QBlk (putP w b y) b y := by
  have h1 := heap_setCell_same w b 0 _ _ (.int .u16 y.1) h
  have h2 := heap_setCell_same _ b 1 _ _ (.int .u32 y.2.1) h1
  have h3 := heap_setCell_same _ b 2 _ _ (.int .u32 y.2.2.1) h2
  have h4 := heap_setCell_same _ b 3 _ _ (.int .u16 y.2.2.2) h3
  exact h4
theorem TBlk.setG (h : TBlk w b t) (y : Gt) : TBlk (putG w b y) b ⟨y, t.c, t.k, t.out, t.fr, t.sn, t.oc⟩ := by
  have h1 := heap_setCell_same w b 0 _ _ (.int .i64 y.1) h
  have h2 := heap_setCell_same _ b 1 _ _ (.int .i64 y.2.1) h1
  have h3 := heap_setCell_same _ b 2 _ _ (.bool y.2.2.1) h2
  have h4 := heap_setCell_same _ b 3 _ _ (.bool y.2.2.2) h3
  exact h4
theorem TBlk.setC (h : TBlk w b t) (y : Co) : TBlk (putC w b y) b ⟨t.g, y, t.k, t.out, t.fr, t.sn, t.oc⟩ := by
  have h1 := heap_setCell_same w b 4 _ _ (.bool y.1) h
  have h2 := heap_setCell_same _ b 5 _ _ (.int .u16 y.2.1) h1
  have h3 := heap_setCell_same _ b 6 _ _ (.int .u16 y.2.2.1) h2
  have h4 := heap_setCell_same _ b 7 _ _ (.int .u16 y.2.2.2) h3
  exact h4
theorem TBlk.setK (h : TBlk w b t) (y : Ck) : TBlk (putK w b y) b ⟨t.g, t.c, y, t.out, t.fr, t.sn, t.oc⟩ := by
  have h1 := heap_setCell_same w b 8 _ _ (.bool y.1) h
  have h2 := heap_setCell_same _ b 9 _ _ (.int .u32 y.2.1) h1
  have h3 := heap_setCell_same _ b 10 _ _ (.int .u32 y.2.2) h2
  exact h3
theorem TBlk.setF (h : TBlk w b t) (y : Int) : TBlk (w.setCell ⟨b, 12, none⟩ (.int .u16 y)) b ⟨t.g, t.c, t.k, t.out, y, t.sn, t.oc⟩ := heap_setCell_same w b 12 _ _ (.int .u16 y) h
theorem TBlk.setS (h : TBlk w b t) (y : Int) : TBlk (w.setCell ⟨b, 13, none⟩ (.int .u32 y)) b ⟨t.g, t.c, t.k, t.out, t.fr, y, t.oc⟩ := heap_setCell_same w b 13 _ _ (.int .u32 y) h
theorem TBlk.setO (h : TBlk w b t) (y : Int) : TBlk (w.setCell ⟨b, 14, none⟩ (.int .u32 y)) b ⟨t.g, t.c, t.k, t.out, t.fr, t.sn, y⟩ := heap_setCell_same w b 14 _ _ (.int .u32 y) h
end
theorem bel_putT {B : Nat} {w w1 : World} (h : Below B w w1) {b : Nat} (hb : B ≤ b) (y : TV) : Below B w (putT w1 b y) := (((((((((((((((h.setCell (p := ⟨b, 0, none⟩) hb _).setCell (p := ⟨b, 1, none⟩) hb _).setCell (p := ⟨b, 2, none⟩) hb _).setCell (p := ⟨b, 3, none⟩) hb _).setCell (p := ⟨b, 4, none⟩) hb _).setCell (p := ⟨b, 5, none⟩) hb _).setCell (p := ⟨b, 6, none⟩) hb _).setCell (p := ⟨b, 7, none⟩) hb _).setCell (p := ⟨b, 8, none⟩) hb _).setCell (p := ⟨b, 9, none⟩) hb _).setCell (p := ⟨b, 10, none⟩) hb _).setCell (p := ⟨b, 11, none⟩) hb _).setCell (p := ⟨b, 12, none⟩) hb _).setCell (p := ⟨b, 13, none⟩) hb _).setCell (p := ⟨b, 14, none⟩) hb _)
theorem bel_putP {B : Nat} {w w1 : World} (h : Below B w w1) {b : Nat} (hb : B ≤ b) (y : Pc) : Below B w (putP w1 b y) := ((((h.setCell (p := ⟨b, 0, none⟩) hb _).setCell (p := ⟨b, 1, none⟩) hb _).setCell (p := ⟨b, 2, none⟩) hb _).setCell (p := ⟨b, 3, none⟩) hb _)
theorem bel_putG {B : Nat} {w w1 : World} (h : Below B w w1) {b : Nat} (hb : B ≤ b) (y : Gt) : Below B w (putG w1 b y) := ((((h.setCell (p := ⟨b, 0, none⟩) hb _).setCell (p := ⟨b, 1, none⟩) hb _).setCell (p := ⟨b, 2, none⟩) hb _).setCell (p := ⟨b, 3, none⟩) hb _)
theorem bel_putC {B : Nat} {w w1 : World} (h : Below B w w1) {b : Nat} (hb : B ≤ b) (y : Co) : Below B w (putC w1 b y) := ((((h.setCell (p := ⟨b, 4, none⟩) hb _).setCell (p := ⟨b, 5, none⟩) hb _).setCell (p := ⟨b, 6, none⟩) hb _).setCell (p := ⟨b, 7, none⟩) hb _)
theorem bel_putK {B : Nat} {w w1 : World} (h : Below B w w1) {b : Nat} (hb : B ≤ b) (y : Ck) : Below B w (putK w1 b y) := (((h.setCell (p := ⟨b, 8, none⟩) hb _).setCell (p := ⟨b, 9, none⟩) hb _).setCell (p := ⟨b, 10, none⟩) hb _)
/-- Two worlds that part in block c alone. -/
def Beside (c : Nat) (w w' : World) : Prop := (∀ i, i ≠ c → w'.heap[i]? = w.heap[i]?) ∧ w'.heap.size = w.heap.size
theorem Beside.refl (c : Nat) (w : World) : Beside c w w := ⟨fun _ _ => rfl, rfl⟩
theorem Beside.set {c k : Nat} {w w' : World} (h : Beside c w w') (u : Value) : Beside c w (w'.setCell ⟨c, k, none⟩ u) := ⟨fun i hi => (Below.heap_setCell w' ⟨c, k, none⟩ u i hi).trans (h.1 i hi), by simpa using h.2⟩
theorem beside_putT (w : World) (c : Nat) (y : TV) : Beside c w (putT w c y) := (((((((((((((((Beside.refl c w).set _).set _).set _).set _).set _).set _).set _).set _).set _).set _).set _).set _).set _).set _).set _
theorem beside_putP (w : World) (c : Nat) (y : Pc) : Beside c w (putP w c y) := ((((Beside.refl c w).set _).set _).set _).set _
theorem beside_putG (w : World) (c : Nat) (y : Gt) : Beside c w (putG w c y) := ((((Beside.refl c w).set _).set _).set _).set _
theorem beside_putC (w : World) (c : Nat) (y : Co) : Beside c w (putC w c y) := ((((Beside.refl c w).set _).set _).set _).set _
theorem beside_putK (w : World) (c : Nat) (y : Ck) : Beside c w (putK w c y) := (((Beside.refl c w).set _).set _).set _
section
variable {w w' : World} {b c : Nat} {t : TV} {p : Pc} {d : Ds} {q : PV}
theorem TBlk.beside (h : TBlk w b t) (hb : b ≠ c) (hw : Beside c w w') : TBlk w' b t := (hw.1 b hb).trans h
theorem QBlk.beside (h : QBlk w b p) (hb : b ≠ c) (hw : Beside c w w') : QBlk w' b p := (hw.1 b hb).trans h
theorem SBlk.beside (h : SBlk w b d) (hb : b ≠ c) (hw : Beside c w w') : SBlk w' b d := (hw.1 b hb).trans h
theorem PBlk_beside (h : PBlk w b q) (hb : b ≠ c) (hw : Beside c w w') : PBlk w' b q := (hw.1 b hb).trans h
theorem Co_beside {x : Co} (h : Crs.CBlk w b x) (hb : b ≠ c) (hw : Beside c w w') : Crs.CBlk w' b x := (hw.1 b hb).trans h
theorem Ck_beside {x : Ck} (h : Clk.CBlk w b x) (hb : b ≠ c) (hw : Beside c w w') : Clk.CBlk w' b x := (hw.1 b hb).trans h
theorem Gt_beside {x : Gt} (h : Gat.CBlk w b x) (hb : b ≠ c) (hw : Beside c w w') : Gat.CBlk w' b x := (hw.1 b hb).trans h
theorem PBlk_c2 (h : PBlk w b q) : w.cell? ⟨b, 2, none⟩ = some (.int .u16 q.seq) := h.c2
end
/-- The blocks of a call of stamp's: the track, the packet, the descriptor, the track and the patch that are told. -/
structure Five (w0 w : World) (t : TV) (q : PV) (d : Ds) (u : TV) (p : Pc) : Prop where
  t : TBlk w w0.heap.size t
  q : PBlk w (w0.heap.size + 1) q
  d : SBlk w (w0.heap.size + 1 + 1) d
  u : TBlk w (w0.heap.size + 1 + 1 + 1) u
  p : QBlk w (w0.heap.size + 1 + 1 + 1 + 1) p
  bel : Below w0.heap.size w0 w
section
variable {w0 w w' : World} {t u y : TV} {q : PV} {d : Ds} {p : Pc}
theorem Five.more (h : Five w0 w t q d u p) (hb : Below w.heap.size w w') : Five w0 w' t q d u p :=
  ⟨h.t.bel hb h.t.lt, h.q.below hb h.q.lt, h.d.bel hb h.d.lt, h.u.bel hb h.u.lt, h.p.bel hb h.p.lt, h.bel.trans (hb.mono h.bel.size)⟩
theorem Five.lay (w0 : World) (t : TV) (q : PV) (d : Ds) : Five w0 (((((w0.alloc (trkO t)).alloc (pobj q)).alloc (dsO d)).alloc (trkO tv0)).alloc (pcO pc0)) t q d tv0 pc0 := by
  have s1 : (w0.alloc (trkO t)).heap.size = w0.heap.size + 1 := by simp
  have s2 : ((w0.alloc (trkO t)).alloc (pobj q)).heap.size = w0.heap.size + 1 + 1 := by simp
  have s3 : (((w0.alloc (trkO t)).alloc (pobj q)).alloc (dsO d)).heap.size = w0.heap.size + 1 + 1 + 1 := by simp
  have s4 : ((((w0.alloc (trkO t)).alloc (pobj q)).alloc (dsO d)).alloc (trkO tv0)).heap.size = w0.heap.size + 1 + 1 + 1 + 1 := by simp
  have h1 := TBlk.new w0 t
  have h2 := PBlk.new (w0.alloc (trkO t)) q
  have h3 := SBlk.new ((w0.alloc (trkO t)).alloc (pobj q)) d
  have h4 := TBlk.new (((w0.alloc (trkO t)).alloc (pobj q)).alloc (dsO d)) tv0
  have h5 := QBlk.new ((((w0.alloc (trkO t)).alloc (pobj q)).alloc (dsO d)).alloc (trkO tv0)) pc0
  have b2 : Below (w0.heap.size + 1) (w0.alloc (trkO t)) ((w0.alloc (trkO t)).alloc (pobj q)) := (Below.refl _ _).alloc (by omega) _
  have b3 : Below (w0.heap.size + 1 + 1) ((w0.alloc (trkO t)).alloc (pobj q)) (((w0.alloc (trkO t)).alloc (pobj q)).alloc (dsO d)) := (Below.refl _ _).alloc (by omega) _
  have b4 : Below (w0.heap.size + 1 + 1 + 1) (((w0.alloc (trkO t)).alloc (pobj q)).alloc (dsO d)) ((((w0.alloc (trkO t)).alloc (pobj q)).alloc (dsO d)).alloc (trkO tv0)) := (Below.refl _ _).alloc (by omega) _
  have b5 : Below (w0.heap.size + 1 + 1 + 1 + 1) ((((w0.alloc (trkO t)).alloc (pobj q)).alloc (dsO d)).alloc (trkO tv0)) (((((w0.alloc (trkO t)).alloc (pobj q)).alloc (dsO d)).alloc (trkO tv0)).alloc (pcO pc0)) := (Below.refl _ _).alloc (by omega) _
  rw [s1] at h2
  rw [s2] at h3
  rw [s3] at h4
  rw [s4] at h5
  have k1 := ((((Below.refl w0.heap.size w0).alloc (Nat.le_refl _) (trkO t)).alloc (by omega) (pobj q)).alloc (by omega) (dsO d)).alloc (by omega) (trkO tv0)
  refine ⟨(((h1.bel b2 (by omega)).bel b3 (by omega)).bel b4 (by omega)).bel b5 (by omega), ((h2.below b3 (by omega)).below b4 (by omega)).below b5 (by omega), (h3.bel b4 (by omega)).bel b5 (by omega), h4.bel b5 (by omega), h5, k1.alloc (by omega) _⟩
/-- Stores: into the track; of the two that are told. -/
theorem Five.onT (h : Five w0 w t q d u p) (hw : Beside w0.heap.size w w') (hb : Below w0.heap.size w0 w') (hy : TBlk w' w0.heap.size y) : Five w0 w' y q d u p :=
  ⟨hy, PBlk_beside h.q (by omega) hw, h.d.beside (by omega) hw, h.u.beside (by omega) hw, h.p.beside (by omega) hw, hb⟩
theorem Five.setC (h : Five w0 w t q d u p) (x : Co) : Five w0 (putC w w0.heap.size x) ⟨t.g, x, t.k, t.out, t.fr, t.sn, t.oc⟩ q d u p := h.onT (beside_putC w _ x) (bel_putC h.bel (Nat.le_refl _) x) (h.t.setC x)
theorem Five.setK (h : Five w0 w t q d u p) (x : Ck) : Five w0 (putK w w0.heap.size x) ⟨t.g, t.c, x, t.out, t.fr, t.sn, t.oc⟩ q d u p := h.onT (beside_putK w _ x) (bel_putK h.bel (Nat.le_refl _) x) (h.t.setK x)
theorem Five.setF (h : Five w0 w t q d u p) (x : Int) : Five w0 (w.setCell ⟨w0.heap.size, 12, none⟩ (.int .u16 x)) ⟨t.g, t.c, t.k, t.out, x, t.sn, t.oc⟩ q d u p := h.onT ((Beside.refl _ w).set _) (h.bel.setCell (p := ⟨w0.heap.size, 12, none⟩) (Nat.le_refl _) _) (h.t.setF x)
theorem Five.setS (h : Five w0 w t q d u p) (x : Int) : Five w0 (w.setCell ⟨w0.heap.size, 13, none⟩ (.int .u32 x)) ⟨t.g, t.c, t.k, t.out, t.fr, x, t.oc⟩ q d u p := h.onT ((Beside.refl _ w).set _) (h.bel.setCell (p := ⟨w0.heap.size, 13, none⟩) (Nat.le_refl _) _) (h.t.setS x)
theorem Five.setO (h : Five w0 w t q d u p) (x : Int) : Five w0 (w.setCell ⟨w0.heap.size, 14, none⟩ (.int .u32 x)) ⟨t.g, t.c, t.k, t.out, t.fr, t.sn, x⟩ q d u p := h.onT ((Beside.refl _ w).set _) (h.bel.setCell (p := ⟨w0.heap.size, 14, none⟩) (Nat.le_refl _) _) (h.t.setO x)
theorem Five.putU (h : Five w0 w t q d u p) (x : TV) : Five w0 (putT w (w0.heap.size + 1 + 1 + 1) x) t q d x p := by
  have hw := beside_putT w (w0.heap.size + 1 + 1 + 1) x
  exact ⟨h.t.beside (by omega) hw, PBlk_beside h.q (by omega) hw, h.d.beside (by omega) hw, h.u.store x, h.p.beside (by omega) hw, bel_putT h.bel (by omega) x⟩
theorem Five.putQ (h : Five w0 w t q d u p) (x : Pc) : Five w0 (putP w (w0.heap.size + 1 + 1 + 1 + 1) x) t q d u x := by
  have hw := beside_putP w (w0.heap.size + 1 + 1 + 1 + 1) x
  exact ⟨h.t.beside (by omega) hw, PBlk_beside h.q (by omega) hw, h.d.beside (by omega) hw, h.u.beside (by omega) hw, h.p.store x, bel_putP h.bel (by omega) x⟩
end
theorem ret3_at {f : Func} {R : Ending → World → Prop} {W : World} {b c s1 s2 s3 : Nat} {x : TV} {p : Pc} {n : Int} {tmps : Array Value} (hf : f.results = #[.cell s1 31, .cell s2 40, .tmp s3]) (D : TBlk W b x) (Q : QBlk W c p) (hR : R (.returned (.tuple #[trkV x, pcV p, .int .i64 n])) W)
    (h1 : tmps[s1]?.getD undef = .pointer (some ⟨b, 0, none⟩) := by rfl) (h2 : tmps[s2]?.getD undef = .pointer (some ⟨c, 0, none⟩) := by rfl) (h3 : tmps[s3]?.getD undef = .int .i64 n := by rfl) : bodyPost Try.prog f R .ret ⟨tmps, []⟩ W := by
  have c0 := D.c0
  have c1 := D.c1
  have c2 := D.c2
  have c3 := D.c3
  have c4 := D.c4
  have c5 := D.c5
  have c6 := D.c6
  have c7 := D.c7
  have c8 := D.c8
  have c9 := D.c9
  have c10 := D.c10
  have c11 := D.c11
  have c12 := D.c12
  have c13 := D.c13
  have c14 := D.c14
  have d0 := Q.c0
  have d1 := Q.c1
  have d2 := Q.c2
  have d3 := Q.c3
  exact bodyPost_ret (v := .tuple #[trkV x, pcV p, .int .i64 n]) (by simp [results, hf, go_sem, h1, h2, h3, c0, c1, c2, c3, c4, c5, c6, c7, c8, c9, c10, c11, c12, c13, c14, d0, d1, d2, d3]) rfl hR
theorem retT_at {f : Func} {R : Ending → World → Prop} {W : World} {b s : Nat} {x : TV} {tmps : Array Value} (hf : f.results = #[.cell s 31]) (D : TBlk W b x) (hR : R (.returned (trkV x)) W)
    (h1 : tmps[s]?.getD undef = .pointer (some ⟨b, 0, none⟩) := by rfl) : bodyPost Try.prog f R .ret ⟨tmps, []⟩ W := by
  have c0 := D.c0
  have c1 := D.c1
  have c2 := D.c2
  have c3 := D.c3
  have c4 := D.c4
  have c5 := D.c5
  have c6 := D.c6
  have c7 := D.c7
  have c8 := D.c8
  have c9 := D.c9
  have c10 := D.c10
  have c11 := D.c11
  have c12 := D.c12
  have c13 := D.c13
  have c14 := D.c14
  exact bodyPost_ret (v := trkV x) (by simp [results, hf, go_sem, h1, c0, c1, c2, c3, c4, c5, c6, c7, c8, c9, c10, c11, c12, c13, c14]) rfl hR
theorem teq_same (x : TV) (W : World) : (binOp .eql 31 (trkV x) (trkV x)).run Try.prog W = .ok (.bool true) W := by
  obtain ⟨⟨a, b, c, d⟩, ⟨e, f, g, h⟩, ⟨i, j, k⟩, l, m, n, o⟩ := x
  simp [go_sem]
theorem tne_same (x : TV) (W : World) : (binOp .neq 31 (trkV x) (trkV x)).run Try.prog W = .ok (.bool false) W := by
  obtain ⟨⟨a, b, c, d⟩, ⟨e, f, g, h⟩, ⟨i, j, k⟩, l, m, n, o⟩ := x
  simp [go_sem]
theorem peq_same (x : Pc) (W : World) : (binOp .eql 40 (pcV x) (pcV x)).run Try.prog W = .ok (.bool true) W := by
  obtain ⟨a, b, c, d⟩ := x
  simp [go_sem]
theorem pne_same (x : Pc) (W : World) : (binOp .neq 40 (pcV x) (pcV x)).run Try.prog W = .ok (.bool false) W := by
  obtain ⟨a, b, c, d⟩ := x
  simp [go_sem]
end Go.Proofs.Ytolobojidnomfaa.Stp
