/- The reference's read, Get: what its walk stands on; the errors of the head. · The reference's Get behind the head's questions. -/
import Derived.Test.YtdnnfoacpjgloaaKr
import Derived.Test.YtdnnfoacpjgloaaXh
import Derived.Test.YtdnnfoacpjgloaaSeq
set_option maxRecDepth 100000
namespace Go.Proofs.Ytdnnfoacpjgloaa.Rtp
open Go.RowKit
set_option linter.unusedVariables false

set_option maxHeartbeats 400000 in
theorem read_any (a : Option Addr) (len cap B : Nat) (i s : Int) (xs : List Int) (w : World) (hl : len ≤ maxLen) (hlc : len ≤ cap) (hr : Rd w B a len xs) :
    Calls Try.prog 73 #[.slice a len cap, .int .i64 i, .int .i64 s] w fun e w' => e = .returned (.int .u64 (numGet xs i s)) ∧ w = w' := by
  have C := R1.rget_any a len cap B i s xs w hl hlc hr
  generalize numGet xs i s = n at C ⊢
  generalize withinB len i s = k at C
  have HC := Lib.hid C
  clear C
  go_enter Try.func73, Try.ntmps73
  go_wp2_with fail
  refine HC.out.mono ?_
  rintro e w' ⟨rfl, rfl⟩
  go_wp2
  go_ret
  exact ⟨rfl, rfl⟩
theorem read_nb (a : Option Addr) (len cap B : Nat) (i s : Nat) (xs : List Int) (w : World) (hl : len ≤ maxLen) (hlc : len ≤ cap) (hr : Rd w B a len xs) (h1 : 1 ≤ s) (h2 : s ≤ 8) (h3 : i + s ≤ len) :
    Calls Try.prog 73 #[.slice a len cap, .int .i64 i, .int .i64 s] w fun e w' => e = .returned (.int .u64 (nb xs i s)) ∧ w = w' := by
  rw [← numGet_nb xs i s h1 h2 (by rw [hr.1]; exact h3)]
  exact read_any a len cap B i s xs w hl hlc hr

/-- The run of an append onto a row of 32-bit numbers, as an operation that comes up. -/
theorem oper_append_words {w : World} {o : Oper} {act : Act} {K : Act → World → Prop} {Q : Exit → Act → World → Prop} (s x : Operand)
    (hop : o.op = .call { callee := .builtin .append, args := #[s, x], argTypes := #[78, 78] }) (base B n c m k N : Nat) (A a : Option Addr) (xs ys zs : List Int) (hN : n + m = N) (hz : xs ++ ys = zs)
    (hs : act.eval s = .slice A n c) (hx : act.eval x = .slice a m k) (ho : OwnW w base A n c xs) (hr : Wd w B a m ys) (hb : base ≤ w.heap.size) (hsz : n + m ≤ 4096)
    (h : ∀ A' c' w', OwnW w' base A' N c' zs → Below base w w' → K (act.put o.dst (.slice A' N c')) w') : Oper.wp Try.prog o act w K Q := by
  subst hN
  subst hz
  obtain ⟨A', c', w', hrun, ho', hb'⟩ := append_runw (k := k) o.type ho hr hb hsz
  unfold Oper.wp execOp
  simp only [hop, resolve, invoke, builtin, Sem.run_bind, Sem.run_pure, Result.andThen_ok, List.map_toArray, List.map_cons, List.map_nil, hs, hx, hrun]
  exact h A' c' w' ho' hb'

theorem PBlk.set0 {w : World} {b : Nat} {v : PV} (h : PBlk w b v) (y : Bool) : PBlk (w.setCell ⟨b, 0, none⟩ (.bool y)) b { v with mrk := y } := heap_setCell_same w b 0 _ 80 (.bool y) h
theorem PBlk.set1 {w : World} {b : Nat} {v : PV} (h : PBlk w b v) (y : Int) : PBlk (w.setCell ⟨b, 1, none⟩ (.int .i64 y)) b { v with ty := y } := heap_setCell_same w b 1 _ 80 (.int .i64 y) h
theorem PBlk.set5 {w : World} {b : Nat} {v : PV} (h : PBlk w b v) (a : Option Addr) (n c : Nat) : PBlk (w.setCell ⟨b, 5, none⟩ (.slice a n c)) b { v with ca := a, cn := n, cc := c } := heap_setCell_same w b 5 _ 80 (.slice a n c) h
theorem PBlk.set6 {w : World} {b : Nat} {v : PV} (h : PBlk w b v) (y : Bool) : PBlk (w.setCell ⟨b, 6, none⟩ (.bool y)) b { v with he := y } := heap_setCell_same w b 6 _ 80 (.bool y) h
theorem PBlk.set8 {w : World} {b : Nat} {v : PV} (h : PBlk w b v) (a : Option Addr) (n c : Nat) : PBlk (w.setCell ⟨b, 8, none⟩ (.slice a n c)) b { v with ea := a, en := n, ec := c } := heap_setCell_same w b 8 _ 80 (.slice a n c) h
theorem PBlk.set9' {w : World} {b : Nat} {v : PV} (h : PBlk w b v) (a : Option Addr) (n c : Nat) : PBlk (w.setCell ⟨b, 9, none⟩ (.slice a n c)) b { v with pa := a, pn := n, pc := c } := heap_setCell_same w b 9 _ 80 (.slice a n c) h
theorem PBlk.set10' {w : World} {b : Nat} {v : PV} (h : PBlk w b v) (y : Int) : PBlk (w.setCell ⟨b, 10, none⟩ (.int .i64 y)) b { v with pad := y } := heap_setCell_same w b 10 _ 80 (.int .i64 y) h

/-- A packet, where its payload stands, what was wrong. -/
def RRet (w : World) (p : Pkt) (f t n : Int) (e : Ending) (w' : World) : Prop :=
  ∃ l, e = .returned (.tuple #[pkt (pvOf p l), .int .i64 f, .int .i64 t, .int .i64 n]) ∧ PRd w' w'.heap.size p l ∧ Below w.heap.size w w'
theorem RRet.none_ {w w' : World} {n : Int} (hb : Below w.heap.size w w') : RRet w zeroPkt 0 0 n (.returned (.tuple #[pkt zpv, .int .i64 0, .int .i64 0, .int .i64 n])) w' :=
  ⟨⟨none, 0, none, 0, none, 0⟩, rfl, ⟨Wd.none_ _ rfl, Rd.none_ _ rfl, Rd.none_ _ rfl, Nat.zero_le _, Nat.zero_le _, Nat.zero_le _, Nat.le_refl _, Nat.le_refl _, Nat.le_refl _⟩, hb⟩
set_option maxHeartbeats 1000000 in
theorem retR_at {W : World} {b : Nat} {v : PV} {f t n : Int} {tmps : Array Value} {R : Ending → World → Prop} (D : PBlk W b v) (hR : R (.returned (.tuple #[pkt v, .int .i64 f, .int .i64 t, .int .i64 n])) W)
    (h2 : tmps[2]?.getD undef = .pointer (some ⟨b, 0, none⟩) := by rfl) (h3 : tmps[3]?.getD undef = .int .i64 f := by rfl) (h4 : tmps[4]?.getD undef = .int .i64 t := by rfl) (h5 : tmps[5]?.getD undef = .int .i64 n := by rfl) :
    bodyPost Try.prog Try.f56 R .ret ⟨tmps, []⟩ W := by
  obtain ⟨c0, c1, c2, c3, c4, c5, c6, c7, c8, c9, c10⟩ := D.cells
  exact bodyPost_ret (v := .tuple #[pkt v, .int .i64 f, .int .i64 t, .int .i64 n]) (by simp [results, Try.results56, go_sem, h2, h3, h4, h5, c0, c1, c2, c3, c4, c5, c6, c7, c8, c9, c10]) rfl hR

abbrev Z0 : Obj := .cells #[.bool false, .int .i64 0, .int .u16 0, .int .u32 0, .int .u32 0, .slice none 0 0, .bool false, .int .u16 0, .slice none 0 0, .slice none 0 0, .int .i64 0] 80
set_option maxRecDepth 100000 in
set_option maxHeartbeats 4000000 in
theorem rget_long (a : Option Addr) (len cap : Nat) (w : World) (h : 512 < len) : Calls Try.prog 56 #[.slice a len cap] w (RRet w zeroPkt 0 0 5) := by
  have h' : (512 : Int) < len := by omega
  have B1 := (Below.refl w.heap.size w).alloc (Nat.le_refl _) Z0
  have B2 := B1.alloc B1.size Z0
  have D2 : PBlk ((w.alloc Z0).alloc Z0) w.heap.size zpv := (PBlk.new w zpv).below ((Below.refl _ _).alloc (Nat.le_refl _) Z0) (by simp)
  have HB := Lib.hid B2
  have HD := Lib.hid D2
  clear B1 B2 D2
  go_enter Try.func56, Try.ntmps56
  go_wp2
  exact retR_at HD.out (RRet.none_ HB.out)
set_option maxRecDepth 100000 in
set_option maxHeartbeats 4000000 in
theorem rget_few (a : Option Addr) (len cap : Nat) (w : World) (h : len < 12) : Calls Try.prog 56 #[.slice a len cap] w (RRet w zeroPkt 0 0 2) := by
  have h' : ¬ (512 : Int) < len := by omega
  have h2 : (len : Int) < 12 := by omega
  have B1 := (Below.refl w.heap.size w).alloc (Nat.le_refl _) Z0
  have B2 := B1.alloc B1.size Z0
  have D2 : PBlk ((w.alloc Z0).alloc Z0) w.heap.size zpv := (PBlk.new w zpv).below ((Below.refl _ _).alloc (Nat.le_refl _) Z0) (by simp)
  have HB := Lib.hid B2
  have HD := Lib.hid D2
  clear B1 B2 D2
  go_enter Try.func56, Try.ntmps56
  go_wp2
  exact retR_at HD.out (RRet.none_ HB.out)
set_option maxRecDepth 100000 in
set_option maxHeartbeats 4000000 in
theorem rget_form (b off len cap : Nat) (x0 : Int) (w : World) (h12 : 12 ≤ len) (h512 : len ≤ 512) (hb : b < w.heap.size) (c0 : w.cell? ⟨b, off, none⟩ = some (.int .u8 x0)) (h : x0 < 128 ∨ (¬ x0 < 128 ∧ 191 < x0)) :
    Calls Try.prog 56 #[.slice (some ⟨b, off, none⟩) len cap] w (RRet w zeroPkt 0 0 1) := by
  have h' : ¬ (512 : Int) < len := by omega
  have h2 : ¬ (len : Int) < 12 := by omega
  have hp0 : 0 < len := by omega
  have B1 := (Below.refl w.heap.size w).alloc (Nat.le_refl _) Z0
  have B2 := B1.alloc B1.size Z0
  have D2 : PBlk ((w.alloc Z0).alloc Z0) w.heap.size zpv := (PBlk.new w zpv).below ((Below.refl _ _).alloc (Nat.le_refl _) Z0) (by simp)
  have HB := Lib.hid B2
  have HD := Lib.hid D2
  clear B1 B2 D2
  have c0' : ((w.alloc Z0).alloc Z0).cell? ⟨b, off, none⟩ = some (.int .u8 x0) := (HB.out.cell (p := ⟨b, off, none⟩) hb).trans c0
  rcases h with h | ⟨h, h3⟩
  · go_enter Try.func56, Try.ntmps56
    go_wp2
    exact retR_at HD.out (RRet.none_ HB.out)
  · go_enter Try.func56, Try.ntmps56
    go_wp2
    exact retR_at HD.out (RRet.none_ HB.out)
set_option maxRecDepth 100000 in
set_option maxHeartbeats 4000000 in
theorem rget_kind (b off len cap : Nat) (x0 x1 : Int) (w : World) (h12 : 12 ≤ len) (h512 : len ≤ 512) (hb : b < w.heap.size) (c0 : w.cell? ⟨b, off, none⟩ = some (.int .u8 x0)) (c1 : w.cell? ⟨b, off + 1, none⟩ = some (.int .u8 x1)) (h : ¬ x0 < 128) (h3 : ¬ 191 < x0) (h4 : 192 ≤ x1) (h5 : x1 ≤ 223) :
    Calls Try.prog 56 #[.slice (some ⟨b, off, none⟩) len cap] w (RRet w zeroPkt 0 0 4) := by
  have h' : ¬ (512 : Int) < len := by omega
  have h2 : ¬ (len : Int) < 12 := by omega
  have hp0 : 0 < len := by omega
  have hp1 : 1 < len := by omega
  have hi1 : (1 : Int) < len := by omega
  have B1 := (Below.refl w.heap.size w).alloc (Nat.le_refl _) Z0
  have B2 := B1.alloc B1.size Z0
  have D2 : PBlk ((w.alloc Z0).alloc Z0) w.heap.size zpv := (PBlk.new w zpv).below ((Below.refl _ _).alloc (Nat.le_refl _) Z0) (by simp)
  have HB := Lib.hid B2
  have HD := Lib.hid D2
  clear B1 B2 D2
  have c0' : ((w.alloc Z0).alloc Z0).cell? ⟨b, off, none⟩ = some (.int .u8 x0) := (HB.out.cell (p := ⟨b, off, none⟩) hb).trans c0
  have c1' : ((w.alloc Z0).alloc Z0).cell? ⟨b, off + 1, none⟩ = some (.int .u8 x1) := (HB.out.cell (p := ⟨b, off + 1, none⟩) hb).trans c1
  go_enter Try.func56, Try.ntmps56
  go_wp2
  exact retR_at HD.out (RRet.none_ HB.out)
end Go.Proofs.Ytdnnfoacpjgloaa.Rtp

namespace Go.Proofs.Ytdnnfoacpjgloaa.Rtp
open Go.RowKit
set_option linter.unusedVariables false

/-- What stands while the reference reads: the result at its block, the empty packet at the next, the Csrc read so far. -/
structure Stg (w W : World) (v : PV) : Prop where
  below : Below w.heap.size w W
  res : PBlk W w.heap.size v
  zero : PBlk W (w.heap.size + 1) zpv
theorem Stg.lt {w W : World} {v : PV} (h : Stg w W v) : w.heap.size + 2 ≤ W.heap.size := h.zero.lt
theorem Stg.next {w W W' : World} {v : PV} (h : Stg w W v) (hb : Below (w.heap.size + 2) W W') : Stg w W' v := ⟨h.below.trans (hb.mono (by omega)), h.res.below hb (by omega), h.zero.below hb (by omega)⟩
theorem Stg.set {w W : World} {v u : PV} (h : Stg w W v) {k : Nat} {x : Value} (hu : PBlk (W.setCell ⟨w.heap.size, k, none⟩ x) w.heap.size u) : Stg w (W.setCell ⟨w.heap.size, k, none⟩ x) u :=
  ⟨h.below.setCell (p := ⟨w.heap.size, k, none⟩) (Nat.le_refl _) x, hu, h.zero.off (p := ⟨w.heap.size, k, none⟩) (by simp) x⟩
theorem _root_.Go.Proofs.Ytdnnfoacpjgloaa.OwnW.bel {W W' : World} {B A n c xs} (h : OwnW W B A n c xs) (hb : Below W.heap.size W W') : OwnW W' B A n c xs := h.below hb (Nat.le_refl _)
theorem _root_.Go.Proofs.Ytdnnfoacpjgloaa.Own.bel {W W' : World} {B A n c xs} (h : Own W B A n c xs) (hb : Below W.heap.size W W') : Own W' B A n c xs := h.below hb (Nat.le_refl _)
theorem padZ_drop (b : List Int) (i : Nat) (h : i < b.length) (hl : lastB b ≤ ((b.length - i : Nat) : Int)) : padZ (b.drop i) = padZ b := by
  unfold padZ
  rw [lastB_drop b i h, List.length_drop, List.drop_drop, show i + (b.length - i - (lastB b).toNat) = b.length - (lastB b).toNat from by omega]
def Sz (w W : World) : Prop := Below w.heap.size w W

end Go.Proofs.Ytdnnfoacpjgloaa.Rtp
