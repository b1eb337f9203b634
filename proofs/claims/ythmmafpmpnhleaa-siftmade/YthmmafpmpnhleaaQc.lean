/- The contracts of report.kindMay, sizeOf, othersMay, blocksMay, May. -/
import Derived.Test.YthmmafpmpnhleaaQb
set_option maxRecDepth 100000
namespace Go.Proofs.Ythmmafpmpnhleaa.Fbk
open Go.RowKit
set_option linter.unusedVariables false

def isRep (k : Int) : Bool := decide (k = 200) || decide (k = 201)
set_option maxHeartbeats 400000 in
theorem kindMay_any (k : Int) (w : World) : Calls Try.prog 99 #[.int .i64 k] w fun e w' => e = .returned (.bool (isRep k)) ∧ w = w' := by
  by_cases h : k = 200
  · subst h
    go_enter Try.func99, Try.ntmps99
    go_wp2
    go_ret
    exact ⟨ret_bool (by simp [isRep]), rfl⟩
  · go_enter Try.func99, Try.ntmps99
    go_wp2
    go_ret
    exact ⟨ret_bool (by rw [Bool.eq_iff_iff]; simp [isRep, h]), rfl⟩
set_option maxHeartbeats 400000 in
theorem sizeOf_any (k n : Int) (w : World) (h0 : 0 ≤ n) (h1 : n ≤ 140737488351232) : Calls Try.prog 100 #[.int .i64 k, .int .i64 n] w fun e w' => e = .returned (.int .i64 (8 + 24 * n + (if k = 200 then 20 else 0))) ∧ w = w' := by
  by_cases h : k = 200
  · subst h
    go_enter Try.func100, Try.ntmps100
    go_wp2
    go_ret
    exact ⟨ret_int (by simp), rfl⟩
  · go_enter Try.func100, Try.ntmps100
    go_wp2
    go_ret
    exact ⟨ret_int rfl, rfl⟩
def otherV (v : IV) : Bool := decide (v.gn = 0) && decide (v.media = 0) && decide (v.pn = 0) && (decide (v.kind = 200) || (decide (v.ntp = 0) && decide (v.time = 0) && decide (v.pks = 0) && decide (v.ocs = 0)))
set_option maxHeartbeats 1000000 in
theorem othersMay_any (v : IV) (w : World) : Calls Try.prog 107 #[itm v] w (RetB w (otherV v)) := by
  have D := IBlk.new w v
  have c0 := D.c0
  have c2 := D.c2
  have c3 := D.c3
  have c4 := D.c4
  have c5 := D.c5
  have c7 := D.c7
  have c8 := D.c8
  have c9 := D.c9
  clear D
  unfold otherV
  obtain ⟨kind, ssrc, ntp, time, pks, ocs, ba, bn, bc, ga, gn, gc, media, pa, pn, pc⟩ := v
  simp only at *
  by_cases h7 : gn = 0
  case' neg => have h7' : (0 : Int) < gn := by omega
  case' pos =>
    subst h7
    by_cases h8 : media = 0
    case' pos =>
      subst h8
      by_cases h9 : pn = 0
      case' neg => have h9' : (0 : Int) < pn := by omega
      case' pos =>
        subst h9
        by_cases h0 : kind = 200
        case' neg =>
          by_cases h2 : ntp = 0
          case' pos =>
            by_cases h3 : time = 0
            case' pos => by_cases h4 : pks = 0
  all_goals
    go_enter Try.func107, Try.ntmps107
    go_wp2
    go_ret
    exact ⟨ret_bool (by rw [Bool.eq_iff_iff]; simp [*]), (Below.refl _ _).alloc (Nat.le_refl _) _⟩
def totB (x : Blo) : Bool := decide (x.total < 16777216)
def blosOkB (xs : List Blo) : Bool := decide (xs.length ≤ 15) && xs.all totB
/-- The cells of a row's k-th record. -/
theorem blo_at {w : World} {B n k : Nat} {a : Option Addr} {xs : List Blo} (h : RowRd bloL w B a n xs) (hk : k < n) : ∃ b off x, a = some ⟨b, off, none⟩ ∧ b < B ∧ xs[k]? = some x ∧
    w.cell? ⟨b, off + k * 7, none⟩ = some (.int .u32 x.ssrc) ∧ w.cell? ⟨b, off + k * 7 + 1, none⟩ = some (.int .u8 x.lost) ∧ w.cell? ⟨b, off + k * 7 + 2, none⟩ = some (.int .u32 x.total) ∧ w.cell? ⟨b, off + k * 7 + 3, none⟩ = some (.int .u32 x.high) ∧
    w.cell? ⟨b, off + k * 7 + 4, none⟩ = some (.int .u32 x.jit) ∧ w.cell? ⟨b, off + k * 7 + 5, none⟩ = some (.int .u32 x.last) ∧ w.cell? ⟨b, off + k * 7 + 6, none⟩ = some (.int .u32 x.delay) := by
  obtain ⟨b, off, e, hlt, hc⟩ := h.2 (by omega)
  have hx := List.getElem?_eq_getElem (show k < xs.length from by rw [h.1]; exact hk)
  exact ⟨b, off, _, e, hlt, hx, hc k _ hx 0 _ rfl, hc k _ hx 1 _ rfl, hc k _ hx 2 _ rfl, hc k _ hx 3 _ rfl, hc k _ hx 4 _ rfl, hc k _ hx 5 _ rfl, hc k _ hx 6 _ rfl⟩
set_option maxHeartbeats 1000000 in
theorem blocksMay_any (a : Option Addr) (n c B : Nat) (xs : List Blo) (w : World) (h : RowRd bloL w B a n xs) (hB : B ≤ w.heap.size) (hn : n ≤ 140737488351232) : Calls Try.prog 106 #[.slice a n c] w (RetB w (blosOkB xs)) := by
  have hl := h.1
  by_cases h15 : n ≤ 15
  · have h15' : ¬ (15 : Int) < n := by omega
    have HR := Lib.hid h
    have HV : Hid (blosOkB xs = xs.all totB) := by unfold blosOkB; rw [hl, decide_eq_true h15, Bool.true_and]; exact rfl
    clear h
    go_enter Try.func106, Try.ntmps106
    go_wp2
    go_loopw [10] (fun sk wx => ∃ k : Nat, k ≤ n ∧ sk = .int .i64 k ∧ Below w.heap.size w wx ∧ Hid ((xs.take k).all totB = true)) (fun sk _ => n - (intOf sk).toNat)
    case atStart => exact ⟨0, by omega, rfl, Below.refl _ _, (by simp : (xs.take 0).all totB = true)⟩
    case round =>
      obtain ⟨k, hk, rfl, hb, ha⟩ := hrel
      rename World => wx
      by_cases hlt : k < n
      · obtain ⟨b, off, x, rfl, hbB, hx, d0, d1, d2, d3, d4, d5, d6⟩ := blo_at (HR.out.below (hb.mono hB)) hlt
        by_cases ht : x.total < 16777216
        · have ht' : ¬ (16777215 : Int) < x.total := by omega
          have hb2 := hb.alloc hb.size (bloO x)
          have HX := Lib.hid hx
          clear hx
          go_wp2
          go_roundw
          case rel =>
            refine ⟨k + 1, by omega, by go_num, hb2, ?_⟩
            show (xs.take (k + 1)).all totB = true
            rw [List.take_add_one, HX.out, List.all_append, show (xs.take k).all totB = true from ha]
            simp [totB, ht]
          case measure => simp [intOf]; omega
        · have ht' : (16777215 : Int) < x.total := by omega
          have hb2 := hb.alloc hb.size (bloO x)
          have HX := Lib.hid hx
          clear hx
          go_wp2
          go_ret
          refine ⟨ret_bool ?_, hb2⟩
          rw [HV.out]
          symm
          rw [List.all_eq_false]
          exact ⟨x, List.mem_of_getElem? HX.out, by simp [totB, ht]⟩
      · obtain rfl : k = n := by omega
        go_wp2
        go_ret
        refine ⟨ret_bool ?_, hb⟩
        rw [HV.out, ← show (xs.take k).all totB = true from ha, List.take_of_length_le (by omega)]
  · have h15' : (15 : Int) < n := by omega
    have HV := Lib.hid (show blosOkB xs = false from by unfold blosOkB; rw [hl, decide_eq_false h15, Bool.false_and])
    go_enter Try.func106, Try.ntmps106
    go_wp2
    go_ret
    exact ⟨ret_bool HV.out.symm, Below.refl _ _⟩
def mayV (v : IV) (xs : List Blo) : Bool := isRep v.kind && blosOkB xs && otherV v
set_option maxHeartbeats 1000000 in
theorem may_any (v : IV) (B : Nat) (xs : List Blo) (w : World) (h : RowRd bloL w B v.ba v.bn xs) (hB : B ≤ w.heap.size) (hn : v.bn ≤ 140737488351232) : Calls Try.prog 96 #[itm v] w (RetB w (mayV v xs)) := by
  have CK : Hid (∀ W, Calls Try.prog 99 #[.int .i64 v.kind] W fun e w' => e = .returned (.bool (isRep v.kind)) ∧ W = w') := fun W => kindMay_any v.kind W
  have CB : Hid (∀ W, Below w.heap.size w W → Calls Try.prog 106 #[.slice v.ba v.bn v.bc] W (RetB W (blosOkB xs))) := fun W hW => blocksMay_any v.ba v.bn v.bc B xs W (h.below (hW.mono hB)) (Nat.le_trans hB hW.size) hn
  have CO : Hid (∀ W, Calls Try.prog 107 #[itm v] W (RetB W (otherV v))) := fun W => othersMay_any v W
  have D := IBlk.new w v
  have hb : Below w.heap.size w (w.alloc (iobj v)) := (Below.refl _ _).alloc (Nat.le_refl _) _
  have HD := Lib.hid D
  have HB := Lib.hid hb
  clear h D hb
  unfold mayV
  generalize isRep v.kind = x at CK ⊢
  generalize blosOkB xs = y at CB ⊢
  generalize otherV v = z at CO ⊢
  go_enter Try.func96, Try.ntmps96
  go_wp2_with fail
  refine (CK.out _).mono ?_
  rintro e w' ⟨rfl, rfl⟩
  rcases x with _ | _
  · go_wp2
    go_ret
    exact ⟨rfl, HB.out⟩
  · go_wp2_with fail
    refine (CB.out _ HB.out).mono ?_
    rintro e w1 ⟨rfl, hb1⟩
    have hbz : Below w.heap.size w w1 := HB.out.trans (hb1.mono HB.out.size)
    have D1 := HD.out.bel hb1
    rcases y with _ | _
    · clear D1
      go_wp2
      go_ret
      exact ⟨rfl, hbz⟩
    · have c0 := D1.c0
      have c1 := D1.c1
      have c2 := D1.c2
      have c3 := D1.c3
      have c4 := D1.c4
      have c5 := D1.c5
      have c6 := D1.c6
      have c7 := D1.c7
      have c8 := D1.c8
      have c9 := D1.c9
      clear D1
      go_wp2_with fail
      refine (CO.out _).mono ?_
      rintro e w2 ⟨rfl, hb2⟩
      go_wp2
      go_ret
      exact ⟨rfl, hbz.trans (hb2.mono hbz.size)⟩
/-- What may be, told of the item. -/
def mayRB (i : Itm) : Bool := isRep i.kind && mayI i
theorem mayV_rep (i : Itm) (l : ILoc) : mayV (ivOf i l) i.blocks = mayRB i := by
  unfold mayV mayRB isRep blosOkB otherV mayI sendZ repMay ivOf
  have e : i.blocks.all totB = i.blocks.all (fun x => decide (x.total < 16777216)) := rfl
  rw [e]
  generalize i.blocks.all (fun x => decide (x.total < 16777216)) = t
  generalize decide (i.blocks.length ≤ 15) = s
  simp only
  by_cases h0 : i.kind = 200
  · simp only [h0]
    rw [Bool.eq_iff_iff]; simp; constructor <;> (intro h; simp [h])
  · by_cases h1 : i.kind = 201
    · simp only [h1]
      rw [Bool.eq_iff_iff]; simp; constructor <;> (intro h; simp [h])
    · simp [h0, h1]
theorem may_itm (w : World) (i : Itm) (l : ILoc) (B : Nat) (h : IRd w B i l) (hB : B ≤ w.heap.size) : Calls Try.prog 96 #[itm (ivOf i l)] w (RetB w (mayRB i)) := by
  rw [← mayV_rep i l]
  exact may_any (ivOf i l) B i.blocks w h.blocks hB h.bn
end Go.Proofs.Ythmmafpmpnhleaa.Fbk
