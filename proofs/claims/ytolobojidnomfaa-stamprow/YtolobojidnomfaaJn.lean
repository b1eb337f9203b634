/- A gate as a record; the contracts of package gate. -/
import Derived.Test.YtolobojidnomfaaRows
import Derived.Test.YtolobojidnomfaaXs
import Derived.Test.YtolobojidnomfaaSeq
import Derived.WalkKit
import Derived.WalkSpells
import Derived.WalkLawsBesides
import Derived.Lib.Hide
import Derived.Handy
set_option maxRecDepth 100000
namespace Go.Proofs.Ytolobojidnomfaa.Gat
open Go.RowKit
set_option linter.unusedVariables false

/-- A gate: the layer that is wanted, the one that goes on; is it paused? muted? -/
abbrev Gt := Int × Int × Bool × Bool
abbrev gtV (x : Gt) : Value := .agg #[.int .i64 x.1, .int .i64 x.2.1, .bool x.2.2.1, .bool x.2.2.2]
abbrev gtO (x : Gt) : Obj := .cells #[.int .i64 x.1, .int .i64 x.2.1, .bool x.2.2.1, .bool x.2.2.2] 23 (0, 0)
abbrev gt0 : Gt := (0, 0, false, false)
def CBlk (w : World) (b : Nat) (x : Gt) : Prop := w.heap[b]? = some (gtO x)
section
variable {w w' : World} {b : Nat} {x : Gt}
theorem CBlk.c0 (h : CBlk w b x) : w.cell? ⟨b, 0, none⟩ = some (.int .i64 x.1) := by rw [cell_of_row w b 0 _ _ _ h]; rfl
theorem CBlk.c1 (h : CBlk w b x) : w.cell? ⟨b, 1, none⟩ = some (.int .i64 x.2.1) := by rw [cell_of_row w b 1 _ _ _ h]; rfl
theorem CBlk.c2 (h : CBlk w b x) : w.cell? ⟨b, 2, none⟩ = some (.bool x.2.2.1) := by rw [cell_of_row w b 2 _ _ _ h]; rfl
theorem CBlk.c3 (h : CBlk w b x) : w.cell? ⟨b, 3, none⟩ = some (.bool x.2.2.2) := by rw [cell_of_row w b 3 _ _ _ h]; rfl
theorem CBlk.frozen (h : CBlk w b x) (i : Nat) : w.frozen? ⟨b, i, none⟩ = false := frozen_of_row w b i _ _ h
theorem CBlk.lt (h : CBlk w b x) : b < w.heap.size := lt_of_some h
theorem CBlk.new (w : World) (x : Gt) : CBlk (w.alloc (gtO x)) w.heap.size x := heap_alloc_new w _
theorem CBlk.bel {B : Nat} (h : CBlk w b x) (hb : Below B w w') (hB : b < B) : CBlk w' b x := (hb.block b hB).trans h
/-- A whole store of a gate. -/
abbrev put4 (w : World) (b : Nat) (y : Gt) : World := (((w.setCell ⟨b, 0, none⟩ (.int .i64 y.1)).setCell ⟨b, 1, none⟩ (.int .i64 y.2.1)).setCell ⟨b, 2, none⟩ (.bool y.2.2.1)).setCell ⟨b, 3, none⟩ (.bool y.2.2.2)
theorem CBlk.store (h : CBlk w b x) (y : Gt) : CBlk (put4 w b y) b y := by
  have h1 := heap_setCell_same w b 0 _ _ (.int .i64 y.1) h
  have h2 := heap_setCell_same _ b 1 _ _ (.int .i64 y.2.1) h1
  have h3 := heap_setCell_same _ b 2 _ _ (.bool y.2.2.1) h2
  have h4 := heap_setCell_same _ b 3 _ _ (.bool y.2.2.2) h3
  exact h4
theorem bel_put4 {B : Nat} {w w1 : World} (h : Below B w w1) {b : Nat} (hb : B ≤ b) (y : Gt) : Below B w (put4 w1 b y) := (((h.setCell (p := ⟨b, 0, none⟩) hb _).setCell (p := ⟨b, 1, none⟩) hb _).setCell (p := ⟨b, 2, none⟩) hb _).setCell (p := ⟨b, 3, none⟩) hb _
/-- A store beside a gate leaves it. -/
theorem CBlk.other {c : Nat} (h : CBlk w b x) (hc : b ≠ c) (y : Gt) : CBlk (put4 w c y) b x := by
  unfold CBlk at *
  rw [Below.heap_setCell _ _ _ _ hc, Below.heap_setCell _ _ _ _ hc, Below.heap_setCell _ _ _ _ hc, Below.heap_setCell _ _ _ _ hc]
  exact h
/-- A store of one field. -/
theorem CBlk.set0 (h : CBlk w b x) (v : Int) : CBlk (w.setCell ⟨b, 0, none⟩ (.int .i64 v)) b (v, x.2) := heap_setCell_same w b 0 _ _ (.int .i64 v) h
theorem CBlk.set1 (h : CBlk w b x) (v : Int) : CBlk (w.setCell ⟨b, 1, none⟩ (.int .i64 v)) b (x.1, v, x.2.2) := heap_setCell_same w b 1 _ _ (.int .i64 v) h
theorem CBlk.set2 (h : CBlk w b x) (v : Bool) : CBlk (w.setCell ⟨b, 2, none⟩ (.bool v)) b (x.1, x.2.1, v, x.2.2.2) := heap_setCell_same w b 2 _ _ (.bool v) h
theorem CBlk.set3 (h : CBlk w b x) (v : Bool) : CBlk (w.setCell ⟨b, 3, none⟩ (.bool v)) b (x.1, x.2.1, x.2.2.1, v) := heap_setCell_same w b 3 _ _ (.bool v) h
theorem CBlk.otherC {c i : Nat} (h : CBlk w b x) (hc : b ≠ c) (v : Value) : CBlk (w.setCell ⟨c, i, none⟩ v) b x := by
  unfold CBlk at *
  rw [Below.heap_setCell _ _ _ _ hc]
  exact h
end
/-- The gate at block q, carried through a walk that began at w0. -/
structure Cur (w0 w : World) (q : Nat) (c : Gt) : Prop where
  blk : CBlk w q c
  bel : Below w0.heap.size w0 w
  lo : w0.heap.size ≤ q
section
variable {w0 w w' : World} {q : Nat} {c : Gt}
theorem Cur.more (h : Cur w0 w q c) (hb : Below w.heap.size w w') : Cur w0 w' q c := ⟨h.blk.bel hb h.blk.lt, h.bel.trans (hb.mono h.bel.size), h.lo⟩
theorem Cur.drew (h : Cur w0 w q c) : Cur w0 w.drew q c := h.more (Below.refl _ _).drew
theorem Cur.new (h : Cur w0 w q c) (x : Gt) : Cur w0 (w.alloc (gtO x)) q c := h.more ((Below.refl _ _).alloc (Nat.le_refl _) _)
theorem Cur.put (h : Cur w0 w q c) (y : Gt) : Cur w0 (put4 w q y) q y := ⟨h.blk.store y, bel_put4 h.bel h.lo y, h.lo⟩
theorem Cur.other {b : Nat} (h : Cur w0 w q c) (hq : q ≠ b) (hb : w0.heap.size ≤ b) (y : Gt) : Cur w0 (put4 w b y) q c := ⟨h.blk.other hq y, bel_put4 h.bel hb y, h.lo⟩
end
theorem ret2_at {f : Func} {R : Ending → World → Prop} {W : World} {b : Nat} {x : Gt} {n : Int} {tmps : Array Value} (hf : f.results = #[.cell 6 23, .tmp 7]) (D : CBlk W b x) (hR : R (.returned (.tuple #[gtV x, .int .i64 n])) W)
    (h2 : tmps[6]?.getD undef = .pointer (some ⟨b, 0, none⟩) := by rfl) (h3 : tmps[7]?.getD undef = .int .i64 n := by rfl) : bodyPost Try.prog f R .ret ⟨tmps, []⟩ W := by
  have c0 := D.c0
  have c1 := D.c1
  have c2 := D.c2
  have c3 := D.c3
  exact bodyPost_ret (v := .tuple #[gtV x, .int .i64 n]) (by simp [results, hf, go_sem, h2, h3, c0, c1, c2, c3]) rfl hR
theorem ret1_at {f : Func} {R : Ending → World → Prop} {W : World} {b s : Nat} {x : Gt} {tmps : Array Value} (hf : f.results = #[.cell s 23]) (D : CBlk W b x) (hR : R (.returned (gtV x)) W)
    (h2 : tmps[s]?.getD undef = .pointer (some ⟨b, 0, none⟩) := by rfl) : bodyPost Try.prog f R .ret ⟨tmps, []⟩ W := by
  have c0 := D.c0
  have c1 := D.c1
  have c2 := D.c2
  have c3 := D.c3
  exact bodyPost_ret (v := gtV x) (by simp [results, hf, go_sem, h2, c0, c1, c2, c3]) rfl hR

/-- Nothing goes on; a layer as it is held; what each call leaves. -/
def qui (x : Gt) : Bool := x.2.2.1 || x.2.2.2
def hld (n : Int) : Int := if 2 < (if n < 0 then 0 else n) then 2 else (if n < 0 then 0 else n)
def wnt (x : Gt) (n : Int) : Gt := (hld n, x.2)
def nw (n : Int) : Gt := (hld n, -1, false, false)
def ct (x : Gt) (on : Bool) : Gt := (x.1, (if on then -1 else x.2.1), x.2.2)
def pse (x : Gt) (on : Bool) : Gt := (x.1, (if on then -1 else x.2.1), on, x.2.2.2)
def mte (x : Gt) (on : Bool) : Gt := (x.1, (if on then -1 else x.2.1), x.2.2.1, on)
def ask (x : Gt) : Bool := !qui x && (x.2.1 != x.1)
def tke (x : Gt) (l : Int) (k : Bool) : Gt × Int :=
  if qui x then (x, 4) else if k = true ∧ l = x.1 ∧ x.2.1 ≠ x.1 then ((x.1, x.1, x.2.2), 2) else if l = x.2.1 then (x, 1) else (x, 3)
abbrev tkV (r : Gt × Int) : Value := .tuple #[gtV r.1, .int .i64 r.2]

/-- Two gates that were laid one behind the other. -/
theorem new2 (w : World) (c r : Gt) : CBlk ((w.alloc (gtO c)).alloc (gtO r)) (w.heap.size + 1) r ∧ Below w.heap.size w ((w.alloc (gtO c)).alloc (gtO r)) := by
  have := CBlk.new (w.alloc (gtO c)) r
  rw [show (w.alloc (gtO c)).heap.size = w.heap.size + 1 from by simp] at this
  exact ⟨this, ((Below.refl w.heap.size w).alloc (Nat.le_refl _) (gtO c)).alloc (by simp) (gtO r)⟩
/-- The same, and behind them a call. -/
theorem lay2 (w : World) (c r : Gt) {w' : World} (h : Below ((w.alloc (gtO c)).alloc (gtO gt0)).heap.size ((w.alloc (gtO c)).alloc (gtO gt0)) w') :
    CBlk w' w.heap.size c ∧ CBlk w' (w.heap.size + 1) gt0 ∧ Below w.heap.size w w' ∧ CBlk (put4 w' (w.heap.size + 1) r) (w.heap.size + 1) r ∧ Below w.heap.size w (put4 w' (w.heap.size + 1) r) := by
  obtain ⟨h1, h2⟩ := new2 w c gt0
  have h3 : CBlk ((w.alloc (gtO c)).alloc (gtO gt0)) w.heap.size c := (CBlk.new w c).bel ((Below.refl _ _).alloc (Nat.le_refl _) _) (CBlk.new w c).lt
  have h4 : Below w.heap.size w w' := h2.trans (h.mono h2.size)
  have h5 := h1.bel h h1.lt
  exact ⟨h3.bel h h3.lt, h5, h4, h5.store r, bel_put4 h4 (by omega) r⟩
/-- The same, and behind it a store of the layer that goes on. -/
theorem lay3 (w : World) (c r : Gt) (v : Value) {w' : World} (h : Below ((w.alloc (gtO c)).alloc (gtO gt0)).heap.size ((w.alloc (gtO c)).alloc (gtO gt0)) w') :
    CBlk (put4 (w'.setCell ⟨w.heap.size, 1, none⟩ v) (w.heap.size + 1) r) (w.heap.size + 1) r ∧ Below w.heap.size w (put4 (w'.setCell ⟨w.heap.size, 1, none⟩ v) (w.heap.size + 1) r) := by
  obtain ⟨h1, h2, h3, _⟩ := lay2 w c r h
  have h4 : CBlk (w'.setCell ⟨w.heap.size, 1, none⟩ v) (w.heap.size + 1) gt0 := by
    unfold CBlk at *
    rw [Below.heap_setCell _ _ _ _ (show w.heap.size + 1 ≠ w.heap.size from by omega)]
    exact h2
  exact ⟨h4.store r, bel_put4 (h3.setCell (p := ⟨w.heap.size, 1, none⟩) (Nat.le_refl _) _) (by omega) r⟩
set_option maxHeartbeats 4000000 in
theorem quiet_any (w : World) (x : Gt) : Calls Try.prog 23 #[gtV x] w fun e w' => e = .returned (.bool (qui x)) ∧ Below w.heap.size w w' := by
  have HB := Lib.hid ((Below.refl w.heap.size w).alloc (Nat.le_refl _) (gtO x))
  obtain ⟨n, c, p, m⟩ := x
  cases p with
  | true =>
    go_enter Try.func23, Try.ntmps23
    go_wp2
    go_ret
    exact ⟨rfl, HB.out⟩
  | false =>
    go_enter Try.func23, Try.ntmps23
    go_wp2
    go_ret
    exact ⟨rfl, HB.out⟩
set_option maxHeartbeats 4000000 in
theorem cut_any (w : World) (x : Gt) (on : Bool) : Calls Try.prog 40 #[gtV x, .bool on] w fun e w' => e = .returned (gtV (ct x on)) ∧ Below w.heap.size w w' := by
  have HD := Lib.hid (new2 w (ct x on) (ct x on))
  obtain ⟨n, c, p, m⟩ := x
  cases on with
  | true =>
    go_enter Try.func40, Try.ntmps40
    go_wp2
    exact ret1_at Try.results40 HD.out.1 ⟨rfl, HD.out.2⟩
  | false =>
    go_enter Try.func40, Try.ntmps40
    go_wp2
    exact ret1_at Try.results40 HD.out.1 ⟨rfl, HD.out.2⟩
set_option maxHeartbeats 4000000 in
theorem want_any (w : World) (x : Gt) (n : Int) : Calls Try.prog 21 #[gtV x, .int .i64 n] w fun e w' => e = .returned (gtV (wnt x n)) ∧ Below w.heap.size w w' := by
  have HD := Lib.hid (new2 w (wnt x n) (wnt x n))
  unfold wnt hld at *
  obtain ⟨m, hm⟩ : ∃ m, (if n < 0 then 0 else n) = m := ⟨_, rfl⟩
  rw [hm] at HD ⊢
  obtain ⟨k, hk⟩ : ∃ k, (if 2 < m then 2 else m) = k := ⟨_, rfl⟩
  rw [hk] at HD ⊢
  go_enter Try.func21, Try.ntmps21
  go_wp2
  exact ret1_at Try.results21 HD.out.1 ⟨rfl, HD.out.2⟩
set_option maxHeartbeats 4000000 in
theorem pause_any (w : World) (x : Gt) (on : Bool) : Calls Try.prog 19 #[gtV x, .bool on] w fun e w' => e = .returned (gtV (pse x on)) ∧ Below w.heap.size w w' := by
  obtain ⟨n, c, p, m⟩ := x
  have C1 := Lib.hid (fun W => cut_any W (n, c, on, m) on)
  have HL := Lib.hid (fun W => lay2 (w' := W) w (n, c, on, m) (pse (n, c, p, m) on))
  rw [show ct (n, c, on, m) on = pse (n, c, p, m) on from rfl] at C1
  obtain ⟨r, hr⟩ : ∃ r, pse (n, c, p, m) on = r := ⟨_, rfl⟩
  rw [hr] at C1 HL ⊢
  clear hr
  go_enter Try.func19, Try.ntmps19
  go_wp2_with fail
  refine (C1.out _).mono ?_
  rintro e w1 ⟨rfl, hb⟩
  obtain ⟨h0, h1, hb1, h2, hb2⟩ := HL.out w1 hb
  have d0 := h1.c0
  have d1 := h1.c1
  have d2 := h1.c2
  have d3 := h1.c3
  have e0 := h1.frozen 0
  have e1 := h1.frozen 1
  have e2 := h1.frozen 2
  have e3 := h1.frozen 3
  have HD := Lib.hid (And.intro h2 hb2)
  clear hb h0 h1 hb1 h2 hb2 C1 HL
  go_wp2
  exact ret1_at Try.results19 HD.out.1 ⟨rfl, HD.out.2⟩
set_option maxHeartbeats 4000000 in
theorem mute_any (w : World) (x : Gt) (on : Bool) : Calls Try.prog 20 #[gtV x, .bool on] w fun e w' => e = .returned (gtV (mte x on)) ∧ Below w.heap.size w w' := by
  obtain ⟨n, c, p, m⟩ := x
  have C1 := Lib.hid (fun W => cut_any W (n, c, p, on) on)
  have HL := Lib.hid (fun W => lay2 (w' := W) w (n, c, p, on) (mte (n, c, p, m) on))
  rw [show ct (n, c, p, on) on = mte (n, c, p, m) on from rfl] at C1
  obtain ⟨r, hr⟩ : ∃ r, mte (n, c, p, m) on = r := ⟨_, rfl⟩
  rw [hr] at C1 HL ⊢
  clear hr
  go_enter Try.func20, Try.ntmps20
  go_wp2_with fail
  refine (C1.out _).mono ?_
  rintro e w1 ⟨rfl, hb⟩
  obtain ⟨h0, h1, hb1, h2, hb2⟩ := HL.out w1 hb
  have d0 := h1.c0
  have d1 := h1.c1
  have d2 := h1.c2
  have d3 := h1.c3
  have e0 := h1.frozen 0
  have e1 := h1.frozen 1
  have e2 := h1.frozen 2
  have e3 := h1.frozen 3
  have HD := Lib.hid (And.intro h2 hb2)
  clear hb h0 h1 hb1 h2 hb2 C1 HL
  go_wp2
  exact ret1_at Try.results20 HD.out.1 ⟨rfl, HD.out.2⟩
set_option maxHeartbeats 4000000 in
theorem new_any (w : World) (n : Int) : Calls Try.prog 37 #[.int .i64 n] w fun e w' => e = .returned (gtV (nw n)) ∧ Below w.heap.size w w' := by
  have C1 := Lib.hid (fun W => want_any W (0, -1, false, false) n)
  rw [show wnt (0, -1, false, false) n = nw n from rfl] at C1
  obtain ⟨r, hr⟩ : ∃ r, nw n = r := ⟨_, rfl⟩
  rw [hr] at C1 ⊢
  clear hr
  have H0 : Hid (Cur w (w.alloc (gtO gt0)) w.heap.size gt0) := Lib.hid ⟨CBlk.new w _, (Below.refl _ _).alloc (Nat.le_refl _) _, Nat.le_refl _⟩
  go_enter Try.func37, Try.ntmps37
  go_wp2_with fail
  refine (C1.out _).mono ?_
  rintro e w1 ⟨rfl, hb⟩
  have h := H0.out.more hb
  have d0 := h.blk.c0
  have d1 := h.blk.c1
  have d2 := h.blk.c2
  have d3 := h.blk.c3
  have e0 := h.blk.frozen 0
  have e1 := h.blk.frozen 1
  have e2 := h.blk.frozen 2
  have e3 := h.blk.frozen 3
  have HD := Lib.hid (h.put r)
  clear hb h C1 H0
  go_wp2
  exact ret1_at Try.results37 HD.out.blk ⟨rfl, HD.out.bel⟩
set_option maxHeartbeats 4000000 in
theorem take_any (w : World) (x : Gt) (l : Int) (k : Bool) : Calls Try.prog 24 #[gtV x, .int .i64 l, .bool k] w fun e w' => e = .returned (tkV (tke x l k)) ∧ Below w.heap.size w w' := by
  have C1 := Lib.hid (fun W => quiet_any W x)
  obtain ⟨n, c, p, m⟩ := x
  by_cases hq : qui (n, c, p, m) = true
  · rw [show tke (n, c, p, m) l k = ((n, c, p, m), 4) from by unfold tke; rw [if_pos hq]]
    rw [hq] at C1
    have HL := Lib.hid (fun W => lay2 (w' := W) w (n, c, p, m) (n, c, p, m))
    clear hq
    go_enter Try.func24, Try.ntmps24
    go_wp2_with fail
    refine (C1.out _).mono ?_
    rintro e w1 ⟨rfl, hb⟩
    obtain ⟨h0, h1, hb1, h2, hb2⟩ := HL.out w1 hb
    have c0 := h0.c0
    have c1 := h0.c1
    have c2 := h0.c2
    have c3 := h0.c3
    have d0 := h1.c0
    have d1 := h1.c1
    have d2 := h1.c2
    have d3 := h1.c3
    have e0 := h1.frozen 0
    have e1 := h1.frozen 1
    have e2 := h1.frozen 2
    have e3 := h1.frozen 3
    have HD := Lib.hid (And.intro h2 hb2)
    clear hb h0 h1 hb1 h2 hb2 C1 HL
    go_wp2
    exact ret2_at Try.results24 HD.out.1 ⟨rfl, HD.out.2⟩
  have hq : qui (n, c, p, m) = false := by simpa using hq
  have ht : tke (n, c, p, m) l k = (if k = true ∧ l = n ∧ c ≠ n then ((n, n, p, m), 2) else if l = c then ((n, c, p, m), 1) else ((n, c, p, m), 3)) := by unfold tke; rw [if_neg (by rw [hq]; decide)]
  rw [hq] at C1
  by_cases h1 : k = true ∧ l = n ∧ c ≠ n
  · obtain ⟨rfl, rfl, hc⟩ := h1
    have q1 : (l == l) = true := by simp
    have q2 : (c != l) = true := by simpa using hc
    have q3 : (l != c) = true := by simpa using fun h => hc h.symm
    rw [ht, if_pos ⟨rfl, rfl, hc⟩]
    have HL := Lib.hid (fun W => lay2 (w' := W) w (l, c, p, m) (l, l, p, m))
    have HM := Lib.hid (fun W => lay3 (w' := W) w (l, c, p, m) (l, l, p, m) (.int .i64 l))
    clear ht hq
    go_enter Try.func24, Try.ntmps24
    go_wp2_with fail
    refine (C1.out _).mono ?_
    rintro e w1 ⟨rfl, hb⟩
    obtain ⟨h0, h1, hb1, h2, hb2⟩ := HL.out w1 hb
    have c0 := h0.c0
    have c1 := h0.c1
    have c2 := h0.c2
    have c3 := h0.c3
    have d0 := h1.c0
    have d1 := h1.c1
    have d2 := h1.c2
    have d3 := h1.c3
    have e0 := h1.frozen 0
    have e1 := h1.frozen 1
    have e2 := h1.frozen 2
    have e3 := h1.frozen 3
    have f1 := h0.frozen 1
    have HD := Lib.hid (HM.out w1 hb)
    clear hb h0 h1 hb1 h2 hb2 C1 HL HM
    go_wp2
    exact ret2_at Try.results24 HD.out.1 ⟨rfl, HD.out.2⟩
  rw [if_neg h1] at ht
  by_cases h2 : l = c
  · subst h2
    rw [if_pos rfl] at ht
    rw [ht]
    have HL := Lib.hid (fun W => lay2 (w' := W) w (n, l, p, m) (n, l, p, m))
    clear ht hq
    cases k with
    | false =>
      go_enter Try.func24, Try.ntmps24
      go_wp2_with fail
      refine (C1.out _).mono ?_
      rintro e w1 ⟨rfl, hb⟩
      obtain ⟨h0, h1, hb1, h2, hb2⟩ := HL.out w1 hb
      have c0 := h0.c0
      have c1 := h0.c1
      have c2 := h0.c2
      have c3 := h0.c3
      have d0 := h1.c0
      have d1 := h1.c1
      have d2 := h1.c2
      have d3 := h1.c3
      have e0 := h1.frozen 0
      have e1 := h1.frozen 1
      have e2 := h1.frozen 2
      have e3 := h1.frozen 3
      have HD := Lib.hid (And.intro h2 hb2)
      clear hb h0 h1 hb1 h2 hb2 C1 HL
      go_wp2
      exact ret2_at Try.results24 HD.out.1 ⟨rfl, HD.out.2⟩
    | true =>
      by_cases h3 : l = n
      · subst h3
        clear h1
        go_enter Try.func24, Try.ntmps24
        go_wp2_with fail
        refine (C1.out _).mono ?_
        rintro e w1 ⟨rfl, hb⟩
        obtain ⟨h0, h1, hb1, h2, hb2⟩ := HL.out w1 hb
        have c0 := h0.c0
        have c1 := h0.c1
        have c2 := h0.c2
        have c3 := h0.c3
        have d0 := h1.c0
        have d1 := h1.c1
        have d2 := h1.c2
        have d3 := h1.c3
        have e0 := h1.frozen 0
        have e1 := h1.frozen 1
        have e2 := h1.frozen 2
        have e3 := h1.frozen 3
        have HD := Lib.hid (And.intro h2 hb2)
        clear hb h0 h1 hb1 h2 hb2 C1 HL
        go_wp2
        exact ret2_at Try.results24 HD.out.1 ⟨rfl, HD.out.2⟩
      · have q1 : (l == n) = false := by simpa using h3
        have q2 : (l != n) = true := by simpa using h3
        clear h1 h3
        go_enter Try.func24, Try.ntmps24
        go_wp2_with fail
        refine (C1.out _).mono ?_
        rintro e w1 ⟨rfl, hb⟩
        obtain ⟨h0, h1, hb1, h2, hb2⟩ := HL.out w1 hb
        have c0 := h0.c0
        have c1 := h0.c1
        have c2 := h0.c2
        have c3 := h0.c3
        have d0 := h1.c0
        have d1 := h1.c1
        have d2 := h1.c2
        have d3 := h1.c3
        have e0 := h1.frozen 0
        have e1 := h1.frozen 1
        have e2 := h1.frozen 2
        have e3 := h1.frozen 3
        have HD := Lib.hid (And.intro h2 hb2)
        clear hb h0 h1 hb1 h2 hb2 C1 HL
        go_wp2
        exact ret2_at Try.results24 HD.out.1 ⟨rfl, HD.out.2⟩
  · rw [if_neg h2] at ht
    rw [ht]
    have p1 : (l == c) = false := by simpa using h2
    have HL := Lib.hid (fun W => lay2 (w' := W) w (n, c, p, m) (n, c, p, m))
    clear ht hq
    cases k with
    | false =>
      go_enter Try.func24, Try.ntmps24
      go_wp2_with fail
      refine (C1.out _).mono ?_
      rintro e w1 ⟨rfl, hb⟩
      obtain ⟨h0, h1, hb1, h2, hb2⟩ := HL.out w1 hb
      have c0 := h0.c0
      have c1 := h0.c1
      have c2 := h0.c2
      have c3 := h0.c3
      have d0 := h1.c0
      have d1 := h1.c1
      have d2 := h1.c2
      have d3 := h1.c3
      have e0 := h1.frozen 0
      have e1 := h1.frozen 1
      have e2 := h1.frozen 2
      have e3 := h1.frozen 3
      have HD := Lib.hid (And.intro h2 hb2)
      clear hb h0 h1 hb1 h2 hb2 C1 HL
      go_wp2
      exact ret2_at Try.results24 HD.out.1 ⟨rfl, HD.out.2⟩
    | true =>
      by_cases h3 : l = n
      · subst h3
        obtain rfl : c = l := by
          apply Decidable.byContradiction
          intro h
          exact h1 ⟨rfl, rfl, h⟩
        exact absurd rfl h2
      · have q1 : (l == n) = false := by simpa using h3
        clear h1 h3 h2
        go_enter Try.func24, Try.ntmps24
        go_wp2_with fail
        refine (C1.out _).mono ?_
        rintro e w1 ⟨rfl, hb⟩
        obtain ⟨h0, h1, hb1, h2, hb2⟩ := HL.out w1 hb
        have c0 := h0.c0
        have c1 := h0.c1
        have c2 := h0.c2
        have c3 := h0.c3
        have d0 := h1.c0
        have d1 := h1.c1
        have d2 := h1.c2
        have d3 := h1.c3
        have e0 := h1.frozen 0
        have e1 := h1.frozen 1
        have e2 := h1.frozen 2
        have e3 := h1.frozen 3
        have HD := Lib.hid (And.intro h2 hb2)
        clear hb h0 h1 hb1 h2 hb2 C1 HL
        go_wp2
        exact ret2_at Try.results24 HD.out.1 ⟨rfl, HD.out.2⟩
theorem eq_same (x : Gt) (W : World) : (binOp .eql 23 (gtV x) (gtV x)).run Try.prog W = .ok (.bool true) W := by
  obtain ⟨a, b, c, d⟩ := x
  simp [go_sem]
theorem neq_same (x : Gt) (W : World) : (binOp .neq 23 (gtV x) (gtV x)).run Try.prog W = .ok (.bool false) W := by
  obtain ⟨a, b, c, d⟩ := x
  simp [go_sem]
theorem fld0 (x : Gt) (W : World) : (Instr.field 23 (gtV x) 0).run Try.prog W = .ok (.int .i64 x.1) W := by
  simp [Instr.field, asAgg, go_sem]
theorem fld3 (x : Gt) (W : World) : (Instr.field 23 (gtV x) 3).run Try.prog W = .ok (.bool x.2.2.2) W := by
  simp [Instr.field, asAgg, go_sem]
end Go.Proofs.Ytolobojidnomfaa.Gat
