/- A media packet as a value and in memory; the contracts of rtp.typeMay, extMay, May, Size. · The contracts of rtp.number, words, copied, headErr, padding. -/
import Derived.Test.YtdnnfoacpjgloaaXr
import Derived.Test.YtdnnfoacpjgloaaSeq
import Derived.Test.YtdnnfoacpjgloaaPure
import Derived.IntWalk
import Derived.Test.YtdnnfoacpjgloaaXg
import Derived.Test.YtdnnfoacpjgloaaXw
set_option maxRecDepth 100000
namespace Go.Proofs.Ytdnnfoacpjgloaa.Rtp
open Go.RowKit
set_option linter.unusedVariables false

/-- A media packet's cells: numbers, and slices by where they lie, how long they are, how long they might be. -/
structure PV where
  mrk : Bool
  ty : Int
  seq : Int
  time : Int
  ssrc : Int
  ca : Option Addr
  cn : Nat
  cc : Nat
  he : Bool
  prof : Int
  ea : Option Addr
  en : Nat
  ec : Nat
  pa : Option Addr
  pn : Nat
  pc : Nat
  pad : Int
abbrev pkt (v : PV) : Value :=
  .agg #[.bool v.mrk, .int .i64 v.ty, .int .u16 v.seq, .int .u32 v.time, .int .u32 v.ssrc, .slice v.ca v.cn v.cc, .bool v.he, .int .u16 v.prof, .slice v.ea v.en v.ec, .slice v.pa v.pn v.pc, .int .i64 v.pad]
abbrev pobj (v : PV) : Obj :=
  .cells #[.bool v.mrk, .int .i64 v.ty, .int .u16 v.seq, .int .u32 v.time, .int .u32 v.ssrc, .slice v.ca v.cn v.cc, .bool v.he, .int .u16 v.prof, .slice v.ea v.en v.ec, .slice v.pa v.pn v.pc, .int .i64 v.pad] 80 (0, 0)
/-- A packet that lies at block b. -/
def PBlk (w : World) (b : Nat) (v : PV) : Prop := w.heap[b]? = some (pobj v)
section
variable {w w' : World} {b B : Nat} {v : PV}
theorem PBlk.new (w : World) (v : PV) : PBlk (w.alloc (pobj v)) w.heap.size v := heap_alloc_new w _
theorem PBlk.below (h : PBlk w b v) (hb : Below B w w') (hg : b < B) : PBlk w' b v := (hb.block b hg).trans h
theorem PBlk.lt (h : PBlk w b v) : b < w.heap.size := by
  rcases Nat.lt_or_ge b w.heap.size with hlt | hge
  · exact hlt
  · unfold PBlk at h; rw [Array.getElem?_eq_none hge] at h; cases h
theorem PBlk.c0 (h : PBlk w b v) : w.cell? ⟨b, 0, none⟩ = some (.bool v.mrk) := cell_of_row w b 0 _ 80 (0, 0) h
theorem PBlk.c1 (h : PBlk w b v) : w.cell? ⟨b, 1, none⟩ = some (.int .i64 v.ty) := cell_of_row w b 1 _ 80 (0, 0) h
theorem PBlk.c2 (h : PBlk w b v) : w.cell? ⟨b, 2, none⟩ = some (.int .u16 v.seq) := cell_of_row w b 2 _ 80 (0, 0) h
theorem PBlk.c3 (h : PBlk w b v) : w.cell? ⟨b, 3, none⟩ = some (.int .u32 v.time) := cell_of_row w b 3 _ 80 (0, 0) h
theorem PBlk.c4 (h : PBlk w b v) : w.cell? ⟨b, 4, none⟩ = some (.int .u32 v.ssrc) := cell_of_row w b 4 _ 80 (0, 0) h
theorem PBlk.c5 (h : PBlk w b v) : w.cell? ⟨b, 5, none⟩ = some (.slice v.ca v.cn v.cc) := cell_of_row w b 5 _ 80 (0, 0) h
theorem PBlk.c6 (h : PBlk w b v) : w.cell? ⟨b, 6, none⟩ = some (.bool v.he) := cell_of_row w b 6 _ 80 (0, 0) h
theorem PBlk.c7 (h : PBlk w b v) : w.cell? ⟨b, 7, none⟩ = some (.int .u16 v.prof) := cell_of_row w b 7 _ 80 (0, 0) h
theorem PBlk.c8 (h : PBlk w b v) : w.cell? ⟨b, 8, none⟩ = some (.slice v.ea v.en v.ec) := cell_of_row w b 8 _ 80 (0, 0) h
theorem PBlk.c9 (h : PBlk w b v) : w.cell? ⟨b, 9, none⟩ = some (.slice v.pa v.pn v.pc) := cell_of_row w b 9 _ 80 (0, 0) h
theorem PBlk.c10 (h : PBlk w b v) : w.cell? ⟨b, 10, none⟩ = some (.int .i64 v.pad) := cell_of_row w b 10 _ 80 (0, 0) h
theorem PBlk.frozen (h : PBlk w b v) (i : Nat) : w.frozen? ⟨b, i, none⟩ = false := frozen_of_row w b i _ 80 h
theorem PBlk.cells (h : PBlk w b v) : w.cell? ⟨b, 0, none⟩ = some (.bool v.mrk) ∧ w.cell? ⟨b, 1, none⟩ = some (.int .i64 v.ty) ∧ w.cell? ⟨b, 2, none⟩ = some (.int .u16 v.seq) ∧ w.cell? ⟨b, 3, none⟩ = some (.int .u32 v.time) ∧ w.cell? ⟨b, 4, none⟩ = some (.int .u32 v.ssrc) ∧ w.cell? ⟨b, 5, none⟩ = some (.slice v.ca v.cn v.cc) ∧ w.cell? ⟨b, 6, none⟩ = some (.bool v.he) ∧ w.cell? ⟨b, 7, none⟩ = some (.int .u16 v.prof) ∧ w.cell? ⟨b, 8, none⟩ = some (.slice v.ea v.en v.ec) ∧ w.cell? ⟨b, 9, none⟩ = some (.slice v.pa v.pn v.pc) ∧ w.cell? ⟨b, 10, none⟩ = some (.int .i64 v.pad) := ⟨h.c0, h.c1, h.c2, h.c3, h.c4, h.c5, h.c6, h.c7, h.c8, h.c9, h.c10⟩
theorem PBlk.cf (h : PBlk w b v) : w.cell? ⟨b, 0, none⟩ = some (.bool v.mrk) ∧ w.cell? ⟨b, 1, none⟩ = some (.int .i64 v.ty) ∧ w.cell? ⟨b, 2, none⟩ = some (.int .u16 v.seq) ∧ w.cell? ⟨b, 3, none⟩ = some (.int .u32 v.time) ∧ w.cell? ⟨b, 4, none⟩ = some (.int .u32 v.ssrc) ∧ w.cell? ⟨b, 5, none⟩ = some (.slice v.ca v.cn v.cc) ∧ w.cell? ⟨b, 6, none⟩ = some (.bool v.he) ∧ w.cell? ⟨b, 7, none⟩ = some (.int .u16 v.prof) ∧ w.cell? ⟨b, 8, none⟩ = some (.slice v.ea v.en v.ec) ∧ w.cell? ⟨b, 9, none⟩ = some (.slice v.pa v.pn v.pc) ∧ w.cell? ⟨b, 10, none⟩ = some (.int .i64 v.pad) ∧ w.frozen? ⟨b, 0, none⟩ = false ∧ w.frozen? ⟨b, 1, none⟩ = false ∧ w.frozen? ⟨b, 2, none⟩ = false ∧ w.frozen? ⟨b, 3, none⟩ = false ∧ w.frozen? ⟨b, 4, none⟩ = false ∧ w.frozen? ⟨b, 5, none⟩ = false ∧ w.frozen? ⟨b, 6, none⟩ = false ∧ w.frozen? ⟨b, 7, none⟩ = false ∧ w.frozen? ⟨b, 8, none⟩ = false ∧ w.frozen? ⟨b, 9, none⟩ = false ∧ w.frozen? ⟨b, 10, none⟩ = false := ⟨h.c0, h.c1, h.c2, h.c3, h.c4, h.c5, h.c6, h.c7, h.c8, h.c9, h.c10, h.frozen 0, h.frozen 1, h.frozen 2, h.frozen 3, h.frozen 4, h.frozen 5, h.frozen 6, h.frozen 7, h.frozen 8, h.frozen 9, h.frozen 10⟩
end

def tyB (k : Int) (m : Bool) : Bool := !(m && decide (64 ≤ k) && decide (k ≤ 95)) && decide (0 ≤ k) && decide (k ≤ 127)
def extV (v : PV) : Bool := if v.he then decide (v.en % 4 = 0) else decide (v.en = 0) && decide (v.prof = 0)
def mayV (v : PV) : Bool := tyB v.ty v.mrk && extV v && decide (v.cn ≤ 15) && decide (0 ≤ v.pad) && decide (v.pad ≤ 255)
def lenV (v : PV) : Int := 12 + 4 * v.cn + v.pn + v.pad + (if v.he then 4 + v.en else 0)
def sizeV (v : PV) : Int := if mayV v then lenV v else 0
def RetB (w : World) (x : Bool) (e : Ending) (w' : World) : Prop := e = .returned (.bool x) ∧ Below w.heap.size w w'
def RetI (w : World) (x : Int) (e : Ending) (w' : World) : Prop := e = .returned (.int .i64 x) ∧ Below w.heap.size w w'
theorem ret_int {k : IntKind} {a b : Int} (h : a = b) : Ending.returned (.int k a) = .returned (.int k b) := by rw [h]

set_option maxHeartbeats 400000 in
theorem typeMay_any (k : Int) (m : Bool) (w : World) :
    Calls Try.prog 84 #[.int .i64 k, .bool m] w fun e w' => e = .returned (.bool (tyB k m)) ∧ w = w' := by
  rcases m with _ | _
  · by_cases h0 : 0 ≤ k
    all_goals
      go_enter Try.func84, Try.ntmps84
      go_wp2
      go_ret
      exact ⟨ret_bool (by simp [tyB]; try omega), rfl⟩
  · by_cases h1 : 64 ≤ k
    · by_cases h2 : k ≤ 95
      · go_enter Try.func84, Try.ntmps84
        go_wp2
        go_ret
        exact ⟨ret_bool (by simp [tyB, h1, h2]), rfl⟩
      · have h0 : 0 ≤ k := by omega
        go_enter Try.func84, Try.ntmps84
        go_wp2
        go_ret
        exact ⟨ret_bool (by simp [tyB, h1, h2, h0]), rfl⟩
    · by_cases h0 : 0 ≤ k
      all_goals
        go_enter Try.func84, Try.ntmps84
        go_wp2
        go_ret
        exact ⟨ret_bool (by simp [tyB, h1]; try omega), rfl⟩

set_option maxHeartbeats 400000 in
theorem extMay_any (v : PV) (w : World) (hl : v.en ≤ 140737488351232) : Calls Try.prog 85 #[pkt v] w (RetB w (extV v)) := by
  rcases hh : v.he with _ | _
  · by_cases h0 : v.en = 0
    · have h0' : (v.en : Int) = 0 := by omega
      have HX := Lib.hid (show extV v = (v.prof == 0) from by simp [extV, hh, h0]; rfl)
      go_enter Try.func85, Try.ntmps85
      go_wp2
      go_ret
      exact ⟨ret_bool (by rw [HX.out]), (Below.refl _ _).alloc (Nat.le_refl _) _⟩
    · have h0' : ¬ (v.en : Int) = 0 := by omega
      have HX := Lib.hid (show extV v = false from by simp [extV, hh, h0])
      go_enter Try.func85, Try.ntmps85
      go_wp2
      go_ret
      exact ⟨ret_bool (by rw [HX.out]), (Below.refl _ _).alloc (Nat.le_refl _) _⟩
  · have q : (v.en : Int).tmod 4 = v.en % 4 := Int.tmod_eq_emod_of_nonneg (by omega)
    have HX := Lib.hid (show extV v = ((v.en : Int) % 4 == 0) from by
      rw [Bool.eq_iff_iff]; simp [extV, hh]; omega)
    go_enter Try.func85, Try.ntmps85
    go_wp2
    go_ret
    exact ⟨ret_bool (by rw [HX.out]), (Below.refl _ _).alloc (Nat.le_refl _) _⟩

set_option maxHeartbeats 1000000 in
theorem may_any (v : PV) (w : World) (hl : v.en ≤ 140737488351232) : Calls Try.prog 75 #[pkt v] w (RetB w (mayV v)) := by
  have CX : ∀ W, Calls Try.prog 85 #[pkt v] W (RetB W (extV v)) := fun W => extMay_any v W hl
  have CT : ∀ W, Calls Try.prog 84 #[.int .i64 v.ty, .bool v.mrk] W fun e w' => e = .returned (.bool (tyB v.ty v.mrk)) ∧ W = w' := fun W => typeMay_any v.ty v.mrk W
  have hb : Below w.heap.size w (w.alloc (pobj v)) := (Below.refl _ _).alloc (Nat.le_refl _) _
  unfold mayV
  generalize tyB v.ty v.mrk = t at CT ⊢
  generalize extV v = x at CX ⊢
  rcases t with _ | _
  · have HT := Lib.hid CT
    clear CX CT
    go_enter Try.func75, Try.ntmps75
    go_wp2_with fail
    refine (HT.out _).mono ?_
    rintro e w' ⟨rfl, rfl⟩
    go_wp2
    go_ret
    exact ⟨rfl, hb⟩
  · rcases x with _ | _
    · have HT := Lib.hid CT
      have HX := Lib.hid CX
      clear CX CT
      go_enter Try.func75, Try.ntmps75
      go_wp2_with fail
      refine (HT.out _).mono ?_
      rintro e w' ⟨rfl, rfl⟩
      go_wp2_with fail
      refine (HX.out _).mono ?_
      rintro e w1 ⟨rfl, hb1⟩
      go_wp2
      go_ret
      exact ⟨rfl, hb.trans (hb1.mono hb.size)⟩
    · by_cases h1 : (v.cn : Int) ≤ 15
      case' neg =>
        have hv : (true && true && decide (v.cn ≤ 15) && decide (0 ≤ v.pad) && decide (v.pad ≤ 255)) = false := by simp; omega
      case' pos =>
        by_cases h2 : 0 ≤ v.pad
        case' neg => have hv : (true && true && decide (v.cn ≤ 15) && decide (0 ≤ v.pad) && decide (v.pad ≤ 255)) = false := by simp; omega
        case' pos =>
          have hv : (true && true && decide (v.cn ≤ 15) && decide (0 ≤ v.pad) && decide (v.pad ≤ 255)) = decide (v.pad ≤ 255) := by rw [decide_eq_true (show v.cn ≤ 15 by omega), decide_eq_true h2]; rfl
      all_goals
        rw [hv]
        clear hv
        have HT := Lib.hid CT
        have HX := Lib.hid CX
        clear CX CT
        go_enter Try.func75, Try.ntmps75
        go_wp2_with fail
        refine (HT.out _).mono ?_
        rintro e w' ⟨rfl, rfl⟩
        go_wp2_with fail
        refine (HX.out _).mono ?_
        rintro e w1 ⟨rfl, hb1⟩
        have D1 : PBlk w1 w.heap.size v := (PBlk.new w v).below hb1 (by simp)
        have c5 := D1.c5
        have c10 := D1.c10
        go_wp2
        go_ret
        exact ⟨rfl, hb.trans (hb1.mono hb.size)⟩

set_option maxHeartbeats 1000000 in
theorem size_any (v : PV) (w : World) (hl : v.en ≤ 140737488351232) (hp : v.pn ≤ 140737488351232) : Calls Try.prog 63 #[pkt v] w (RetI w (sizeV v)) := by
  have CM : ∀ W, Calls Try.prog 75 #[pkt v] W (RetB W (mayV v)) := fun W => may_any v W hl
  have hb : Below w.heap.size w (w.alloc (pobj v)) := (Below.refl _ _).alloc (Nat.le_refl _) _
  have hmb : mayV v = true → v.cn ≤ 15 ∧ 0 ≤ v.pad ∧ v.pad ≤ 255 := by intro h; simp only [mayV, Bool.and_eq_true, decide_eq_true_eq] at h; exact ⟨h.1.1.2, h.1.2, h.2⟩
  unfold sizeV
  generalize mayV v = m at CM hmb ⊢
  rcases m with _ | _
  · have HM := Lib.hid CM
    clear CM hmb
    go_enter Try.func63, Try.ntmps63
    go_wp2_with fail
    refine (HM.out _).mono ?_
    rintro e w1 ⟨rfl, hb1⟩
    go_wp2
    go_ret
    exact ⟨rfl, hb.trans (hb1.mono hb.size)⟩
  · obtain ⟨h1, h2, h3⟩ := hmb rfl
    have HM := Lib.hid CM
    clear CM hmb
    rcases hh : v.he with _ | _
    case' false => have HL := Lib.hid (show lenV v = 12 + 4 * v.cn + v.pn + v.pad from by simp [lenV, hh])
    case' true => have HL := Lib.hid (show lenV v = 12 + 4 * v.cn + v.pn + v.pad + (4 + v.en) from by simp [lenV, hh])
    all_goals
      have HH := Lib.hid hh
      clear hh
      go_enter Try.func63, Try.ntmps63
      go_wp2_with fail
      refine (HM.out _).mono ?_
      rintro e w1 ⟨rfl, hb1⟩
      have D1 : PBlk w1 w.heap.size v := (PBlk.new w v).below hb1 (by simp)
      have c5 := D1.c5
      have c6 := D1.c6
      rw [HH.out] at c6
      have c8 := D1.c8
      have c9 := D1.c9
      have c10 := D1.c10
      clear D1
      go_wp2
      go_ret
      exact ⟨ret_int (by rw [HL.out]), hb.trans (hb1.mono hb.size)⟩
end Go.Proofs.Ytdnnfoacpjgloaa.Rtp

namespace Go.Proofs.Ytdnnfoacpjgloaa.Rtp
open Go.RowKit
set_option linter.unusedVariables false

/-- Of bytes that are all there. -/
theorem numGet_nb (xs : List Int) (i s : Nat) (h1 : 1 ≤ s) (h2 : s ≤ 8) (h3 : i + s ≤ xs.length) : numGet xs i s = nb xs i s := by
  have hw : withinB xs.length i s = true := by simp [withinB]; omega
  rw [numGet, hw, if_pos rfl]; rfl
/-- A new row of 32-bit numbers. -/
def NewW (w : World) (ys : List Int) (e : Ending) (w' : World) : Prop := ∃ A c, e = .returned (.slice A ys.length c) ∧ OwnW w' w.heap.size A ys.length c ys ∧ Below w.heap.size w w'

end Go.Proofs.Ytdnnfoacpjgloaa.Rtp
