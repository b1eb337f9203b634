/- A clock as a record; the contracts of package clock. -/
import Derived.Test.YtolobojidnomfaaRows
import Derived.Test.YtolobojidnomfaaXs
import Derived.Test.YtolobojidnomfaaSeq
import Derived.WalkKit
import Derived.WalkSpells
import Derived.WalkLawsBesides
import Derived.Lib.Hide
import Derived.Handy
set_option maxRecDepth 100000
namespace Go.Proofs.Ytolobojidnomfaa.Clk
open Go.RowKit
set_option linter.unusedVariables false

/-- A clock: did anything go out? the offset, the time that went out last. -/
abbrev Ck := Bool × Int × Int
abbrev ckV (x : Ck) : Value := .agg #[.bool x.1, .int .u32 x.2.1, .int .u32 x.2.2]
abbrev ckO (x : Ck) : Obj := .cells #[.bool x.1, .int .u32 x.2.1, .int .u32 x.2.2] 29 (0, 0)
abbrev ck0 : Ck := (false, 0, 0)
/-- The numbers of a clock are of 32 bits. -/
def CkOk (x : Ck) : Prop := (0 ≤ x.2.1 ∧ x.2.1 ≤ 4294967295) ∧ (0 ≤ x.2.2 ∧ x.2.2 ≤ 4294967295)
def CBlk (w : World) (b : Nat) (x : Ck) : Prop := w.heap[b]? = some (ckO x)
section
variable {w w' : World} {b : Nat} {x : Ck}
theorem CBlk.c0 (h : CBlk w b x) : w.cell? ⟨b, 0, none⟩ = some (.bool x.1) := by rw [cell_of_row w b 0 _ _ _ h]; rfl
theorem CBlk.c1 (h : CBlk w b x) : w.cell? ⟨b, 1, none⟩ = some (.int .u32 x.2.1) := by rw [cell_of_row w b 1 _ _ _ h]; rfl
theorem CBlk.c2 (h : CBlk w b x) : w.cell? ⟨b, 2, none⟩ = some (.int .u32 x.2.2) := by rw [cell_of_row w b 2 _ _ _ h]; rfl
theorem CBlk.frozen (h : CBlk w b x) (i : Nat) : w.frozen? ⟨b, i, none⟩ = false := frozen_of_row w b i _ _ h
theorem CBlk.lt (h : CBlk w b x) : b < w.heap.size := lt_of_some h
theorem CBlk.new (w : World) (x : Ck) : CBlk (w.alloc (ckO x)) w.heap.size x := heap_alloc_new w _
theorem CBlk.bel {B : Nat} (h : CBlk w b x) (hb : Below B w w') (hB : b < B) : CBlk w' b x := (hb.block b hB).trans h
/-- A whole store of a clock. -/
abbrev put3 (w : World) (b : Nat) (y : Ck) : World := ((w.setCell ⟨b, 0, none⟩ (.bool y.1)).setCell ⟨b, 1, none⟩ (.int .u32 y.2.1)).setCell ⟨b, 2, none⟩ (.int .u32 y.2.2)
theorem CBlk.store (h : CBlk w b x) (y : Ck) : CBlk (put3 w b y) b y := by
  have h1 := heap_setCell_same w b 0 _ _ (.bool y.1) h
  have h2 := heap_setCell_same _ b 1 _ _ (.int .u32 y.2.1) h1
  have h3 := heap_setCell_same _ b 2 _ _ (.int .u32 y.2.2) h2
  exact h3
theorem bel_put3 {B : Nat} {w w1 : World} (h : Below B w w1) {b : Nat} (hb : B ≤ b) (y : Ck) : Below B w (put3 w1 b y) := ((h.setCell (p := ⟨b, 0, none⟩) hb _).setCell (p := ⟨b, 1, none⟩) hb _).setCell (p := ⟨b, 2, none⟩) hb _
/-- A store beside a clock leaves it. -/
theorem CBlk.other {c : Nat} (h : CBlk w b x) (hc : b ≠ c) (y : Ck) : CBlk (put3 w c y) b x := by
  unfold CBlk at *
  rw [Below.heap_setCell _ _ _ _ hc, Below.heap_setCell _ _ _ _ hc, Below.heap_setCell _ _ _ _ hc]
  exact h
end
/-- The clock at block q, carried through a walk that began at w0. -/
structure Cur (w0 w : World) (q : Nat) (c : Ck) : Prop where
  blk : CBlk w q c
  bel : Below w0.heap.size w0 w
  lo : w0.heap.size ≤ q
section
variable {w0 w w' : World} {q : Nat} {c : Ck}
theorem Cur.more (h : Cur w0 w q c) (hb : Below w.heap.size w w') : Cur w0 w' q c := ⟨h.blk.bel hb h.blk.lt, h.bel.trans (hb.mono h.bel.size), h.lo⟩
theorem Cur.drew (h : Cur w0 w q c) : Cur w0 w.drew q c := h.more (Below.refl _ _).drew
theorem Cur.new (h : Cur w0 w q c) (x : Ck) : Cur w0 (w.alloc (ckO x)) q c := h.more ((Below.refl _ _).alloc (Nat.le_refl _) _)
theorem Cur.put (h : Cur w0 w q c) (y : Ck) : Cur w0 (put3 w q y) q y := ⟨h.blk.store y, bel_put3 h.bel h.lo y, h.lo⟩
theorem Cur.other {b : Nat} (h : Cur w0 w q c) (hq : q ≠ b) (hb : w0.heap.size ≤ b) (y : Ck) : Cur w0 (put3 w b y) q c := ⟨h.blk.other hq y, bel_put3 h.bel hb y, h.lo⟩
end
theorem ret2_at {f : Func} {R : Ending → World → Prop} {W : World} {b : Nat} {x : Ck} {n : Int} {tmps : Array Value} (hf : f.results = #[.cell 4 29, .tmp 5]) (D : CBlk W b x) (hR : R (.returned (.tuple #[ckV x, .int .u32 n])) W)
    (h2 : tmps[4]?.getD undef = .pointer (some ⟨b, 0, none⟩) := by rfl) (h3 : tmps[5]?.getD undef = .int .u32 n := by rfl) : bodyPost Try.prog f R .ret ⟨tmps, []⟩ W := by
  have c0 := D.c0
  have c1 := D.c1
  have c2 := D.c2
  exact bodyPost_ret (v := .tuple #[ckV x, .int .u32 n]) (by simp [results, hf, go_sem, h2, h3, c0, c1, c2]) rfl hR
theorem ret1_at {f : Func} {R : Ending → World → Prop} {W : World} {b : Nat} {x : Ck} {tmps : Array Value} (hf : f.results = #[.cell 4 29]) (D : CBlk W b x) (hR : R (.returned (ckV x)) W)
    (h2 : tmps[4]?.getD undef = .pointer (some ⟨b, 0, none⟩) := by rfl) : bodyPost Try.prog f R .ret ⟨tmps, []⟩ W := by
  have c0 := D.c0
  have c1 := D.c1
  have c2 := D.c2
  exact bodyPost_ret (v := ckV x) (by simp [results, hf, go_sem, h2, c0, c1, c2]) rfl hR

/-- The time that one is sent as; a step; the first time behind a start; a start. -/
def tim (c : Ck) (i : Int) : Int := (i + c.2.1) % 4294967296
def stk (c : Ck) (i : Int) : Ck := (true, c.2.1, tim c i)
def fst0 (c : Ck) : Int := if c.1 then (c.2.2 + 3000) % 4294967296 else 0
def strt (c : Ck) (i : Int) : Ck := (c.1, (fst0 c - i) % 4294967296, c.2.2)
abbrev stV (r : Ck × Int) : Value := .tuple #[ckV r.1, .int .u32 r.2]

/-- Two clocks that were laid one behind the other. -/
theorem new2 (w : World) (c r : Ck) : CBlk ((w.alloc (ckO c)).alloc (ckO r)) (w.heap.size + 1) r ∧ Below w.heap.size w ((w.alloc (ckO c)).alloc (ckO r)) := by
  have := CBlk.new (w.alloc (ckO c)) r
  rw [show (w.alloc (ckO c)).heap.size = w.heap.size + 1 from by simp] at this
  exact ⟨this, ((Below.refl w.heap.size w).alloc (Nat.le_refl _) (ckO c)).alloc (by simp) (ckO r)⟩
set_option maxHeartbeats 4000000 in
theorem out_any (w : World) (c : Ck) (i : Int) : Calls Try.prog 34 #[ckV c, .int .u32 i] w fun e w' => e = .returned (.int .u32 (tim c i)) ∧ Below w.heap.size w w' := by
  have HB := Lib.hid ((Below.refl w.heap.size w).alloc (Nat.le_refl _) (ckO c))
  go_enter Try.func34, Try.ntmps34
  go_wp2
  go_ret
  exact ⟨rfl, HB.out⟩
/-- The cells of a step: the clock that came in, the one that is told, laid as zeros. -/
theorem lay2 (w : World) (c r : Ck) {w' : World} (h : Below ((w.alloc (ckO c)).alloc (ckO ck0)).heap.size ((w.alloc (ckO c)).alloc (ckO ck0)) w') :
    CBlk w' w.heap.size c ∧ CBlk w' (w.heap.size + 1) ck0 ∧ Below w.heap.size w w' ∧ CBlk (put3 w' (w.heap.size + 1) r) (w.heap.size + 1) r ∧ Below w.heap.size w (put3 w' (w.heap.size + 1) r) := by
  obtain ⟨h1, h2⟩ := new2 w c ck0
  have h3 : CBlk ((w.alloc (ckO c)).alloc (ckO ck0)) w.heap.size c := (CBlk.new w c).bel ((Below.refl _ _).alloc (Nat.le_refl _) _) (CBlk.new w c).lt
  have h4 : Below w.heap.size w w' := h2.trans (h.mono h2.size)
  have h5 := h1.bel h h1.lt
  exact ⟨h3.bel h h3.lt, h5, h4, h5.store r, bel_put3 h4 (by omega) r⟩
set_option maxHeartbeats 4000000 in
theorem step_any (w : World) (c : Ck) (i : Int) : Calls Try.prog 43 #[ckV c, .int .u32 i] w fun e w' => e = .returned (stV (stk c i, tim c i)) ∧ Below w.heap.size w w' := by
  have C1 := Lib.hid (fun W => out_any W c i)
  have HL := Lib.hid (fun W => lay2 (w' := W) w c (stk c i))
  unfold stk at *
  obtain ⟨q, hq⟩ : ∃ q, tim c i = q := ⟨_, rfl⟩
  rw [hq] at C1 ⊢
  rw [hq] at HL
  clear hq
  go_enter Try.func43, Try.ntmps43
  go_wp2_with fail
  refine (C1.out _).mono ?_
  rintro e w1 ⟨rfl, hb⟩
  obtain ⟨h0, h1, hb1, h2, hb2⟩ := HL.out w1 hb
  have c0 := h0.c0
  have c1 := h0.c1
  have c2 := h0.c2
  have d0 := h1.c0
  have d1 := h1.c1
  have d2 := h1.c2
  have e0 := h1.frozen 0
  have e1 := h1.frozen 1
  have e2 := h1.frozen 2
  have HD := Lib.hid (And.intro h2 hb2)
  clear hb h0 h1 hb1 h2 hb2 C1 HL
  go_wp2
  exact ret2_at Try.results43 HD.out.1 ⟨rfl, HD.out.2⟩
set_option maxHeartbeats 4000000 in
theorem strt_any (w : World) (c : Ck) (i : Int) : Calls Try.prog 27 #[ckV c, .int .u32 i] w fun e w' => e = .returned (ckV (strt c i)) ∧ Below w.heap.size w w' := by
  obtain ⟨a, o, l⟩ := c
  cases a with
  | true =>
    obtain ⟨f, hf⟩ : ∃ f, (l + 3000) % 4294967296 = f := ⟨_, rfl⟩
    obtain ⟨g, hg⟩ : ∃ g, (f - i) % 4294967296 = g := ⟨_, rfl⟩
    rw [show strt (true, o, l) i = (true, g, l) from by rw [← hg, ← hf]; rfl]
    have HD := Lib.hid (new2 w (true, g, l) (true, g, l))
    go_enter Try.func27, Try.ntmps27
    go_wp2
    exact ret1_at Try.results27 HD.out.1 ⟨rfl, HD.out.2⟩
  | false =>
    obtain ⟨g, hg⟩ : ∃ g, -i % 4294967296 = g := ⟨_, rfl⟩
    rw [show strt (false, o, l) i = (false, g, l) from by rw [← hg]; unfold strt fst0; simp]
    have HD := Lib.hid (new2 w (false, g, l) (false, g, l))
    go_enter Try.func27, Try.ntmps27
    go_wp2
    exact ret1_at Try.results27 HD.out.1 ⟨rfl, HD.out.2⟩
theorem eq_same (x : Ck) (W : World) : (binOp .eql 29 (ckV x) (ckV x)).run Try.prog W = .ok (.bool true) W := by
  obtain ⟨a, b, c⟩ := x
  simp [go_sem]
theorem fld0 (x : Ck) (W : World) : (Instr.field 29 (ckV x) 0).run Try.prog W = .ok (.bool x.1) W := by
  simp [Instr.field, asAgg, go_sem]
end Go.Proofs.Ytolobojidnomfaa.Clk
