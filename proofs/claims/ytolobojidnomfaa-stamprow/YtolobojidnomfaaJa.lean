/- A course as a record; the contracts of package course. -/
import Derived.Test.YtolobojidnomfaaSa
import Derived.Test.YtolobojidnomfaaXt
import Derived.Test.YtolobojidnomfaaSeq
import Derived.Handy
set_option maxRecDepth 100000
namespace Go.Proofs.Ytolobojidnomfaa.Crs
open Go.RowKit
set_option linter.unusedVariables false

/-- A course: is it live? the number that came last, the offset, what comes next. -/
abbrev Co := Bool × Int × Int × Int
abbrev coV (x : Co) : Value := .agg #[.bool x.1, .int .u16 x.2.1, .int .u16 x.2.2.1, .int .u16 x.2.2.2]
abbrev coO (x : Co) : Obj := .cells #[.bool x.1, .int .u16 x.2.1, .int .u16 x.2.2.1, .int .u16 x.2.2.2] 26 (0, 0)
abbrev co0 : Co := (false, 0, 0, 0)
/-- The numbers of a course are of 16 bits. -/
def CoOk (x : Co) : Prop := (0 ≤ x.2.1 ∧ x.2.1 ≤ 65535) ∧ (0 ≤ x.2.2.1 ∧ x.2.2.1 ≤ 65535) ∧ (0 ≤ x.2.2.2 ∧ x.2.2.2 ≤ 65535)
def CBlk (w : World) (b : Nat) (x : Co) : Prop := w.heap[b]? = some (coO x)
section
variable {w w' : World} {b : Nat} {x : Co}
theorem CBlk.c0 (h : CBlk w b x) : w.cell? ⟨b, 0, none⟩ = some (.bool x.1) := by rw [cell_of_row w b 0 _ _ _ h]; rfl
theorem CBlk.c1 (h : CBlk w b x) : w.cell? ⟨b, 1, none⟩ = some (.int .u16 x.2.1) := by rw [cell_of_row w b 1 _ _ _ h]; rfl
theorem CBlk.c2 (h : CBlk w b x) : w.cell? ⟨b, 2, none⟩ = some (.int .u16 x.2.2.1) := by rw [cell_of_row w b 2 _ _ _ h]; rfl
theorem CBlk.c3 (h : CBlk w b x) : w.cell? ⟨b, 3, none⟩ = some (.int .u16 x.2.2.2) := by rw [cell_of_row w b 3 _ _ _ h]; rfl
theorem CBlk.frozen (h : CBlk w b x) (i : Nat) : w.frozen? ⟨b, i, none⟩ = false := frozen_of_row w b i _ _ h
theorem CBlk.lt (h : CBlk w b x) : b < w.heap.size := lt_of_some h
theorem CBlk.new (w : World) (x : Co) : CBlk (w.alloc (coO x)) w.heap.size x := heap_alloc_new w _
theorem CBlk.bel {B : Nat} (h : CBlk w b x) (hb : Below B w w') (hB : b < B) : CBlk w' b x := (hb.block b hB).trans h
/-- A whole store of a course. -/
abbrev put4 (w : World) (b : Nat) (y : Co) : World := (((w.setCell ⟨b, 0, none⟩ (.bool y.1)).setCell ⟨b, 1, none⟩ (.int .u16 y.2.1)).setCell ⟨b, 2, none⟩ (.int .u16 y.2.2.1)).setCell ⟨b, 3, none⟩ (.int .u16 y.2.2.2)
theorem CBlk.store (h : CBlk w b x) (y : Co) : CBlk (put4 w b y) b y := by
  have h1 := heap_setCell_same w b 0 _ _ (.bool y.1) h
  have h2 := heap_setCell_same _ b 1 _ _ (.int .u16 y.2.1) h1
  have h3 := heap_setCell_same _ b 2 _ _ (.int .u16 y.2.2.1) h2
  have h4 := heap_setCell_same _ b 3 _ _ (.int .u16 y.2.2.2) h3
  exact h4
theorem bel_put4 {B : Nat} {w w1 : World} (h : Below B w w1) {b : Nat} (hb : B ≤ b) (y : Co) : Below B w (put4 w1 b y) := (((h.setCell (p := ⟨b, 0, none⟩) hb _).setCell (p := ⟨b, 1, none⟩) hb _).setCell (p := ⟨b, 2, none⟩) hb _).setCell (p := ⟨b, 3, none⟩) hb _
/-- A store beside a course leaves it. -/
theorem CBlk.other {c : Nat} (h : CBlk w b x) (hc : b ≠ c) (y : Co) : CBlk (put4 w c y) b x := by
  unfold CBlk at *
  rw [Below.heap_setCell _ _ _ _ hc, Below.heap_setCell _ _ _ _ hc, Below.heap_setCell _ _ _ _ hc, Below.heap_setCell _ _ _ _ hc]
  exact h
end
/-- The course at block q, carried through a walk that began at w0. -/
structure Cur (w0 w : World) (q : Nat) (c : Co) : Prop where
  blk : CBlk w q c
  bel : Below w0.heap.size w0 w
  lo : w0.heap.size ≤ q
section
variable {w0 w w' : World} {q : Nat} {c : Co}
theorem Cur.more (h : Cur w0 w q c) (hb : Below w.heap.size w w') : Cur w0 w' q c := ⟨h.blk.bel hb h.blk.lt, h.bel.trans (hb.mono h.bel.size), h.lo⟩
theorem Cur.drew (h : Cur w0 w q c) : Cur w0 w.drew q c := h.more (Below.refl _ _).drew
theorem Cur.new (h : Cur w0 w q c) (x : Co) : Cur w0 (w.alloc (coO x)) q c := h.more ((Below.refl _ _).alloc (Nat.le_refl _) _)
theorem Cur.put (h : Cur w0 w q c) (y : Co) : Cur w0 (put4 w q y) q y := ⟨h.blk.store y, bel_put4 h.bel h.lo y, h.lo⟩
theorem Cur.other {b : Nat} (h : Cur w0 w q c) (hq : q ≠ b) (hb : w0.heap.size ≤ b) (y : Co) : Cur w0 (put4 w b y) q c := ⟨h.blk.other hq y, bel_put4 h.bel hb y, h.lo⟩
end
theorem retS_at {f : Func} {R : Ending → World → Prop} {W : World} {b : Nat} {x : Co} {n : Int} {v : Bool} {tmps : Array Value} (hf : f.results = #[.cell 4 26, .tmp 5, .tmp 6]) (D : CBlk W b x) (hR : R (.returned (.tuple #[coV x, .int .u16 n, .bool v])) W)
    (h2 : tmps[4]?.getD undef = .pointer (some ⟨b, 0, none⟩) := by rfl) (h3 : tmps[5]?.getD undef = .int .u16 n := by rfl) (h4 : tmps[6]?.getD undef = .bool v := by rfl) : bodyPost Try.prog f R .ret ⟨tmps, []⟩ W := by
  have c0 := D.c0
  have c1 := D.c1
  have c2 := D.c2
  have c3 := D.c3
  exact bodyPost_ret (v := .tuple #[coV x, .int .u16 n, .bool v]) (by simp [results, hf, go_sem, h2, h3, h4, c0, c1, c2, c3]) rfl hR
theorem ret1_at {f : Func} {R : Ending → World → Prop} {W : World} {b : Nat} {x : Co} {tmps : Array Value} (hf : f.results = #[.cell 2 26]) (D : CBlk W b x) (hR : R (.returned (coV x)) W)
    (h2 : tmps[2]?.getD undef = .pointer (some ⟨b, 0, none⟩) := by rfl) : bodyPost Try.prog f R .ret ⟨tmps, []⟩ W := by
  have c0 := D.c0
  have c1 := D.c1
  have c2 := D.c2
  have c3 := D.c3
  exact bodyPost_ret (v := coV x) (by simp [results, hf, go_sem, h2, c0, c1, c2, c3]) rfl hR

/-- A step: the course behind it, the number that it tells, whether it was taken. -/
def refd (c : Co) (i : Int) : Bool := c.1 && !ah16 i c.2.1
def stp (c : Co) (i : Int) : Co × Int × Bool := if refd c i then (c, 0, false) else ((true, i, (c.2.2.2 - i) % 65536, (c.2.2.2 + 1) % 65536), c.2.2.2, true)
theorem stp_no {c : Co} {i : Int} (h : refd c i = true) : stp c i = (c, 0, false) := by unfold stp; rw [if_pos h]
theorem stp_yes {c : Co} {i : Int} (h : refd c i = false) : stp c i = ((true, i, (c.2.2.2 - i) % 65536, (c.2.2.2 + 1) % 65536), c.2.2.2, true) := by unfold stp; rw [if_neg (by rw [h]; decide)]
abbrev stV (r : Co × Int × Bool) : Value := .tuple #[coV r.1, .int .u16 r.2.1, .bool r.2.2]
def brk (c : Co) : Co := (false, c.2)
def outN (c : Co) (i : Int) : Int := (i + c.2.2.1) % 65536

/-- Two courses that were laid one behind the other. -/
theorem new2 (w : World) (c r : Co) : CBlk ((w.alloc (coO c)).alloc (coO r)) (w.heap.size + 1) r ∧ Below w.heap.size w ((w.alloc (coO c)).alloc (coO r)) := by
  have := CBlk.new (w.alloc (coO c)) r
  rw [show (w.alloc (coO c)).heap.size = w.heap.size + 1 from by simp] at this
  exact ⟨this, ((Below.refl w.heap.size w).alloc (Nat.le_refl _) (coO c)).alloc (by simp) (coO r)⟩
set_option maxHeartbeats 4000000 in
theorem step_any (w : World) (c : Co) (i : Int) : Calls Try.prog 42 #[coV c, .int .u16 i] w fun e w' => e = .returned (stV (stp c i)) ∧ Below w.heap.size w w' := by
  obtain ⟨l, a, o, n⟩ := c
  have q1 := u16_wrap (n - i)
  have q2 := u16_wrap (n + 1)
  cases l with
  | true =>
    cases hh : ah16 i a with
    | true =>
      rw [stp_yes (by simp [refd, hh])]
      have HD := Lib.hid (new2 w (true, a, o, n) (true, i, (n - i) % 65536, (n + 1) % 65536))
      go_enter Try.func42, Try.ntmps42
      go_wp2_with (go_at_call 22; refine (ahead16_any _ _ _).mono ?_; rintro e w' ⟨rfl, rfl⟩)
      exact retS_at Try.results42 HD.out.1 ⟨rfl, HD.out.2⟩
    | false =>
      rw [stp_no (by simp [refd, hh])]
      have HD := Lib.hid (new2 w (true, a, o, n) (true, a, o, n))
      go_enter Try.func42, Try.ntmps42
      go_wp2_with (go_at_call 22; refine (ahead16_any _ _ _).mono ?_; rintro e w' ⟨rfl, rfl⟩)
      exact retS_at Try.results42 HD.out.1 ⟨rfl, HD.out.2⟩
  | false =>
    rw [stp_yes (by simp [refd])]
    have HD := Lib.hid (new2 w (false, a, o, n) (true, i, (n - i) % 65536, (n + 1) % 65536))
    go_enter Try.func42, Try.ntmps42
    go_wp2_with (go_at_call 22; refine (ahead16_any _ _ _).mono ?_; rintro e w' ⟨rfl, rfl⟩)
    exact retS_at Try.results42 HD.out.1 ⟨rfl, HD.out.2⟩
set_option maxHeartbeats 4000000 in
theorem brk_any (w : World) (c : Co) : Calls Try.prog 26 #[coV c] w fun e w' => e = .returned (coV (brk c)) ∧ Below w.heap.size w w' := by
  have HD := Lib.hid (new2 w (brk c) (brk c))
  have HB := Lib.hid (new2 w c (brk c))
  go_enter Try.func26, Try.ntmps26
  go_wp2
  exact ret1_at Try.results26 HD.out.1 ⟨rfl, HD.out.2⟩
theorem eq_same (x : Co) (W : World) : (binOp .eql 26 (coV x) (coV x)).run Try.prog W = .ok (.bool true) W := by
  obtain ⟨a, b, c, d⟩ := x
  simp [go_sem]
theorem neq_same (x : Co) (W : World) : (binOp .neq 26 (coV x) (coV x)).run Try.prog W = .ok (.bool false) W := by
  obtain ⟨a, b, c, d⟩ := x
  simp [go_sem]
theorem fld0 (x : Co) (W : World) : (Instr.field 26 (coV x) 0).run Try.prog W = .ok (.bool x.1) W := by
  simp [Instr.field, asAgg, go_sem]
theorem fld3 (x : Co) (W : World) : (Instr.field 26 (coV x) 3).run Try.prog W = .ok (.int .u16 x.2.2.2) W := by
  simp [Instr.field, asAgg, go_sem]
end Go.Proofs.Ytolobojidnomfaa.Crs
