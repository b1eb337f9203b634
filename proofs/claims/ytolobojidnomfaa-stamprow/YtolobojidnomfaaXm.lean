/- A media packet as a value and in memory. No function of the program. -/
import Derived.Test.YtolobojidnomfaaRows
import Derived.Test.YtolobojidnomfaaXs
import Derived.IntWalk
set_option maxRecDepth 100000
namespace Go.Proofs.Ytolobojidnomfaa.Rtp
open Go.RowKit
set_option linter.unusedVariables false

/-- A media packet's cells: numbers, and slices by where they lie, how long they are, how long they might be. -/
structure PV where
  mrk : Bool
  ty : Int
  seq : Int
  time : Int
  ssrc : Int
  ca : Option Addr
  cn : Nat
  cc : Nat
  he : Bool
  prof : Int
  ea : Option Addr
  en : Nat
  ec : Nat
  pa : Option Addr
  pn : Nat
  pc : Nat
  pad : Int
abbrev pkt (v : PV) : Value :=
  .agg #[.bool v.mrk, .int .i64 v.ty, .int .u16 v.seq, .int .u32 v.time, .int .u32 v.ssrc, .slice v.ca v.cn v.cc, .bool v.he, .int .u16 v.prof, .slice v.ea v.en v.ec, .slice v.pa v.pn v.pc, .int .i64 v.pad]
abbrev pobj (v : PV) : Obj :=
  .cells #[.bool v.mrk, .int .i64 v.ty, .int .u16 v.seq, .int .u32 v.time, .int .u32 v.ssrc, .slice v.ca v.cn v.cc, .bool v.he, .int .u16 v.prof, .slice v.ea v.en v.ec, .slice v.pa v.pn v.pc, .int .i64 v.pad] 35 (0, 0)
/-- A packet that lies at block b. -/
def PBlk (w : World) (b : Nat) (v : PV) : Prop := w.heap[b]? = some (pobj v)
section
variable {w w' : World} {b B : Nat} {v : PV}
theorem PBlk.new (w : World) (v : PV) : PBlk (w.alloc (pobj v)) w.heap.size v := heap_alloc_new w _
theorem PBlk.below (h : PBlk w b v) (hb : Below B w w') (hg : b < B) : PBlk w' b v := (hb.block b hg).trans h
theorem PBlk.lt (h : PBlk w b v) : b < w.heap.size := by
  rcases Nat.lt_or_ge b w.heap.size with hlt | hge
  · exact hlt
  · unfold PBlk at h; rw [Array.getElem?_eq_none hge] at h; cases h
theorem PBlk.c0 (h : PBlk w b v) : w.cell? ⟨b, 0, none⟩ = some (.bool v.mrk) := cell_of_row w b 0 _ 35 (0, 0) h
theorem PBlk.c1 (h : PBlk w b v) : w.cell? ⟨b, 1, none⟩ = some (.int .i64 v.ty) := cell_of_row w b 1 _ 35 (0, 0) h
theorem PBlk.c2 (h : PBlk w b v) : w.cell? ⟨b, 2, none⟩ = some (.int .u16 v.seq) := cell_of_row w b 2 _ 35 (0, 0) h
theorem PBlk.c3 (h : PBlk w b v) : w.cell? ⟨b, 3, none⟩ = some (.int .u32 v.time) := cell_of_row w b 3 _ 35 (0, 0) h
theorem PBlk.c4 (h : PBlk w b v) : w.cell? ⟨b, 4, none⟩ = some (.int .u32 v.ssrc) := cell_of_row w b 4 _ 35 (0, 0) h
theorem PBlk.c5 (h : PBlk w b v) : w.cell? ⟨b, 5, none⟩ = some (.slice v.ca v.cn v.cc) := cell_of_row w b 5 _ 35 (0, 0) h
theorem PBlk.c6 (h : PBlk w b v) : w.cell? ⟨b, 6, none⟩ = some (.bool v.he) := cell_of_row w b 6 _ 35 (0, 0) h
theorem PBlk.c7 (h : PBlk w b v) : w.cell? ⟨b, 7, none⟩ = some (.int .u16 v.prof) := cell_of_row w b 7 _ 35 (0, 0) h
theorem PBlk.c8 (h : PBlk w b v) : w.cell? ⟨b, 8, none⟩ = some (.slice v.ea v.en v.ec) := cell_of_row w b 8 _ 35 (0, 0) h
theorem PBlk.c9 (h : PBlk w b v) : w.cell? ⟨b, 9, none⟩ = some (.slice v.pa v.pn v.pc) := cell_of_row w b 9 _ 35 (0, 0) h
theorem PBlk.c10 (h : PBlk w b v) : w.cell? ⟨b, 10, none⟩ = some (.int .i64 v.pad) := cell_of_row w b 10 _ 35 (0, 0) h
theorem PBlk.frozen (h : PBlk w b v) (i : Nat) : w.frozen? ⟨b, i, none⟩ = false := frozen_of_row w b i _ 35 h
theorem PBlk.cells (h : PBlk w b v) : w.cell? ⟨b, 0, none⟩ = some (.bool v.mrk) ∧ w.cell? ⟨b, 1, none⟩ = some (.int .i64 v.ty) ∧ w.cell? ⟨b, 2, none⟩ = some (.int .u16 v.seq) ∧ w.cell? ⟨b, 3, none⟩ = some (.int .u32 v.time) ∧ w.cell? ⟨b, 4, none⟩ = some (.int .u32 v.ssrc) ∧ w.cell? ⟨b, 5, none⟩ = some (.slice v.ca v.cn v.cc) ∧ w.cell? ⟨b, 6, none⟩ = some (.bool v.he) ∧ w.cell? ⟨b, 7, none⟩ = some (.int .u16 v.prof) ∧ w.cell? ⟨b, 8, none⟩ = some (.slice v.ea v.en v.ec) ∧ w.cell? ⟨b, 9, none⟩ = some (.slice v.pa v.pn v.pc) ∧ w.cell? ⟨b, 10, none⟩ = some (.int .i64 v.pad) := ⟨h.c0, h.c1, h.c2, h.c3, h.c4, h.c5, h.c6, h.c7, h.c8, h.c9, h.c10⟩
theorem PBlk.cf (h : PBlk w b v) : w.cell? ⟨b, 0, none⟩ = some (.bool v.mrk) ∧ w.cell? ⟨b, 1, none⟩ = some (.int .i64 v.ty) ∧ w.cell? ⟨b, 2, none⟩ = some (.int .u16 v.seq) ∧ w.cell? ⟨b, 3, none⟩ = some (.int .u32 v.time) ∧ w.cell? ⟨b, 4, none⟩ = some (.int .u32 v.ssrc) ∧ w.cell? ⟨b, 5, none⟩ = some (.slice v.ca v.cn v.cc) ∧ w.cell? ⟨b, 6, none⟩ = some (.bool v.he) ∧ w.cell? ⟨b, 7, none⟩ = some (.int .u16 v.prof) ∧ w.cell? ⟨b, 8, none⟩ = some (.slice v.ea v.en v.ec) ∧ w.cell? ⟨b, 9, none⟩ = some (.slice v.pa v.pn v.pc) ∧ w.cell? ⟨b, 10, none⟩ = some (.int .i64 v.pad) ∧ w.frozen? ⟨b, 0, none⟩ = false ∧ w.frozen? ⟨b, 1, none⟩ = false ∧ w.frozen? ⟨b, 2, none⟩ = false ∧ w.frozen? ⟨b, 3, none⟩ = false ∧ w.frozen? ⟨b, 4, none⟩ = false ∧ w.frozen? ⟨b, 5, none⟩ = false ∧ w.frozen? ⟨b, 6, none⟩ = false ∧ w.frozen? ⟨b, 7, none⟩ = false ∧ w.frozen? ⟨b, 8, none⟩ = false ∧ w.frozen? ⟨b, 9, none⟩ = false ∧ w.frozen? ⟨b, 10, none⟩ = false := ⟨h.c0, h.c1, h.c2, h.c3, h.c4, h.c5, h.c6, h.c7, h.c8, h.c9, h.c10, h.frozen 0, h.frozen 1, h.frozen 2, h.frozen 3, h.frozen 4, h.frozen 5, h.frozen 6, h.frozen 7, h.frozen 8, h.frozen 9, h.frozen 10⟩
end
end Go.Proofs.Ytolobojidnomfaa.Rtp
