/- The contract of rtp.Get. -/
import Derived.Test.YtdnnfoacpjgloaaKa
import Derived.Test.YtdnnfoacpjgloaaKc
set_option maxRecDepth 100000
namespace Go.Proofs.Ytdnnfoacpjgloaa.Rtp
open Go.RowKit
set_option linter.unusedVariables false

/-- Where a packet's lists lie, and how long they might be. -/
structure Loc where
  ca : Option Addr
  cc : Nat
  ea : Option Addr
  ec : Nat
  pa : Option Addr
  pc : Nat
def pvOf (p : Pkt) (l : Loc) : PV := ⟨p.mrk, p.ty, p.seq, p.time, p.ssrc, l.ca, p.csrc.length, l.cc, p.he, p.prof, l.ea, p.ext.length, l.ec, l.pa, p.pay.length, l.pc, p.pad⟩
/-- A packet's lists lie below block B, and read as they should. -/
structure PRd (w : World) (B : Nat) (p : Pkt) (l : Loc) : Prop where
  csrc : Wd w B l.ca p.csrc.length p.csrc
  ext : Rd w B l.ea p.ext.length p.ext
  pay : Rd w B l.pa p.pay.length p.pay
  cn : p.csrc.length ≤ 140737488351232
  en : p.ext.length ≤ 140737488351232
  pn : p.pay.length ≤ 140737488351232
  cc : p.csrc.length ≤ l.cc
  ec : p.ext.length ≤ l.ec
  pc : p.pay.length ≤ l.pc
theorem PRd.below {w w' : World} {B : Nat} {p : Pkt} {l : Loc} (h : PRd w B p l) (hb : Below B w w') : PRd w' B p l := ⟨h.csrc.below hb, h.ext.below hb, h.pay.below hb, h.cn, h.en, h.pn, h.cc, h.ec, h.pc⟩
theorem PRd.more {w : World} {B B' : Nat} {p : Pkt} {l : Loc} (h : PRd w B p l) (hb : B ≤ B') : PRd w B' p l := ⟨h.csrc.more hb, h.ext.more hb, h.pay.more hb, h.cn, h.en, h.pn, h.cc, h.ec, h.pc⟩
def GRet (w : World) (p : Pkt) (n : Int) (e : Ending) (w' : World) : Prop :=
  ∃ l, e = .returned (.tuple #[pkt (pvOf p l), .int .i64 n]) ∧ PRd w' w'.heap.size p l ∧ Below w.heap.size w w'

/-- x[lo:hi] of bytes, without a way for each capacity. -/
theorem cut_run (b off len cap lo hi : Nat) (l h : Int) (hl : l = lo) (hh : h = hi) (h1 : lo ≤ hi) (h2 : hi ≤ cap) :
    ∃ X, (cap ≠ lo → X = some ⟨b, off + lo, none⟩) ∧ ∀ W, (Instr.slice 36 (.slice (some ⟨b, off, none⟩) len cap) (some (.int .i64 l)) (some (.int .i64 h)) none).run Try.prog W = .ok (.slice X (hi - lo) (cap - lo)) W := by
  subst hl; subst hh
  refine ⟨if cap = lo then some ⟨b, off, none⟩ else some ⟨b, off + lo, none⟩, fun hne => if_neg hne, fun W => ?_⟩
  obtain ⟨i0, hi0, hz0, hz1, hz2⟩ := info_parts info5
  have e := run_slice_lh (P := Try.prog) (w := W) (t := 36) (a := some ⟨b, off, none⟩) (len := len) (cap := cap) (ht := Try.underlying36) .i64 .i64 (lo : Int) (hi : Int) (by omega) (by omega) (by omega)
  rw [e, show Try.prog.elem 36 = 5 from rfl]
  by_cases hc : cap = lo
  · simp [sizeOf, typeInfo, hi0, sliced, hc]
  · simp [sizeOf, typeInfo, hi0, hz1, sliced, hc, plain_add]

abbrev zpv : PV := ⟨false, 0, 0, 0, 0, none, 0, 0, false, 0, none, 0, 0, none, 0, 0, 0⟩
theorem PBlk.store {w : World} {b : Nat} {v : PV} (h : PBlk w b v) (u : PV) :
    PBlk (((((((((((w.setCell ⟨b, 0, none⟩ (.bool u.mrk)).setCell ⟨b, 1, none⟩ (.int .i64 u.ty)).setCell ⟨b, 2, none⟩ (.int .u16 u.seq)).setCell ⟨b, 3, none⟩ (.int .u32 u.time)).setCell ⟨b, 4, none⟩ (.int .u32 u.ssrc)).setCell ⟨b, 5, none⟩ (.slice u.ca u.cn u.cc)).setCell ⟨b, 6, none⟩ (.bool u.he)).setCell ⟨b, 7, none⟩ (.int .u16 u.prof)).setCell ⟨b, 8, none⟩ (.slice u.ea u.en u.ec)).setCell ⟨b, 9, none⟩ (.slice u.pa u.pn u.pc)).setCell ⟨b, 10, none⟩ (.int .i64 u.pad)) b u := by
  unfold PBlk at h ⊢
  have h0 := heap_setCell_same w b 0 _ 80 (.bool u.mrk) h
  simp only [List.setIfInBounds_toArray, List.set_cons_zero] at h0
  have h1 := heap_setCell_same _ b 1 _ 80 (.int .i64 u.ty) h0
  simp only [List.setIfInBounds_toArray, List.set_cons_zero, List.set_cons_succ] at h1
  have h2 := heap_setCell_same _ b 2 _ 80 (.int .u16 u.seq) h1
  simp only [List.setIfInBounds_toArray, List.set_cons_zero, List.set_cons_succ] at h2
  have h3 := heap_setCell_same _ b 3 _ 80 (.int .u32 u.time) h2
  simp only [List.setIfInBounds_toArray, List.set_cons_zero, List.set_cons_succ] at h3
  have h4 := heap_setCell_same _ b 4 _ 80 (.int .u32 u.ssrc) h3
  simp only [List.setIfInBounds_toArray, List.set_cons_zero, List.set_cons_succ] at h4
  have h5 := heap_setCell_same _ b 5 _ 80 (.slice u.ca u.cn u.cc) h4
  simp only [List.setIfInBounds_toArray, List.set_cons_zero, List.set_cons_succ] at h5
  have h6 := heap_setCell_same _ b 6 _ 80 (.bool u.he) h5
  simp only [List.setIfInBounds_toArray, List.set_cons_zero, List.set_cons_succ] at h6
  have h7 := heap_setCell_same _ b 7 _ 80 (.int .u16 u.prof) h6
  simp only [List.setIfInBounds_toArray, List.set_cons_zero, List.set_cons_succ] at h7
  have h8 := heap_setCell_same _ b 8 _ 80 (.slice u.ea u.en u.ec) h7
  simp only [List.setIfInBounds_toArray, List.set_cons_zero, List.set_cons_succ] at h8
  have h9 := heap_setCell_same _ b 9 _ 80 (.slice u.pa u.pn u.pc) h8
  simp only [List.setIfInBounds_toArray, List.set_cons_zero, List.set_cons_succ] at h9
  have h10 := heap_setCell_same _ b 10 _ 80 (.int .i64 u.pad) h9
  simp only [List.setIfInBounds_toArray, List.set_cons_zero, List.set_cons_succ] at h10
  exact h10
theorem below_pstore {w w' : World} {B b : Nat} (hb : Below B w w') (hB : B ≤ b) (u0 u1 u2 u3 u4 u5 u6 u7 u8 u9 u10 : Value) :
    Below B w (((((((((((w'.setCell ⟨b, 0, none⟩ u0).setCell ⟨b, 1, none⟩ u1).setCell ⟨b, 2, none⟩ u2).setCell ⟨b, 3, none⟩ u3).setCell ⟨b, 4, none⟩ u4).setCell ⟨b, 5, none⟩ u5).setCell ⟨b, 6, none⟩ u6).setCell ⟨b, 7, none⟩ u7).setCell ⟨b, 8, none⟩ u8).setCell ⟨b, 9, none⟩ u9).setCell ⟨b, 10, none⟩ u10) :=
  ((((((((((hb.setCell (p := ⟨b, 0, none⟩) hB u0).setCell (p := ⟨b, 1, none⟩) hB u1).setCell (p := ⟨b, 2, none⟩) hB u2).setCell (p := ⟨b, 3, none⟩) hB u3).setCell (p := ⟨b, 4, none⟩) hB u4).setCell (p := ⟨b, 5, none⟩) hB u5).setCell (p := ⟨b, 6, none⟩) hB u6).setCell (p := ⟨b, 7, none⟩) hB u7).setCell (p := ⟨b, 8, none⟩) hB u8).setCell (p := ⟨b, 9, none⟩) hB u9).setCell (p := ⟨b, 10, none⟩) hB u10
def RetP (w : World) (v : PV) (n : Int) (e : Ending) (w' : World) : Prop := e = .returned (.tuple #[pkt v, .int .i64 n]) ∧ Below w.heap.size w w'
theorem PBlk.set7 {w : World} {b : Nat} {v : PV} (h : PBlk w b v) (y : Int) : PBlk (w.setCell ⟨b, 7, none⟩ (.int .u16 y)) b { v with prof := y } := heap_setCell_same w b 7 _ 80 (.int .u16 y) h
theorem PBlk.off {w : World} {b : Nat} {v : PV} (h : PBlk w b v) {p : Addr} (hp : p.block ≠ b) (u : Value) : PBlk (w.setCell p u) b v := (Below.heap_setCell w p u b (fun e => hp e.symm)).trans h

/-- Nothing but block b has changed. -/
def Off (b : Nat) (w w' : World) : Prop := ∀ i, i ≠ b → w'.heap[i]? = w.heap[i]?
theorem Off.refl (b : Nat) (w : World) : Off b w w := fun _ _ => rfl
theorem Off.set {b k : Nat} {w w' : World} (h : Off b w w') (u : Value) : Off b w (w'.setCell ⟨b, k, none⟩ u) := fun i hi => (Below.heap_setCell w' ⟨b, k, none⟩ u i hi).trans (h i hi)
theorem off_pstore (b : Nat) (w : World) (u0 u1 u2 u3 u4 u5 u6 u7 u8 u9 u10 : Value) :
    Off b w (((((((((((w.setCell ⟨b, 0, none⟩ u0).setCell ⟨b, 1, none⟩ u1).setCell ⟨b, 2, none⟩ u2).setCell ⟨b, 3, none⟩ u3).setCell ⟨b, 4, none⟩ u4).setCell ⟨b, 5, none⟩ u5).setCell ⟨b, 6, none⟩ u6).setCell ⟨b, 7, none⟩ u7).setCell ⟨b, 8, none⟩ u8).setCell ⟨b, 9, none⟩ u9).setCell ⟨b, 10, none⟩ u10) :=
  (((((((((((Off.refl b w).set u0).set u1).set u2).set u3).set u4).set u5).set u6).set u7).set u8).set u9).set u10
section
variable {w w' : World} {b g base n c : Nat} {v : PV} {A : Option Addr} {xs : List Int} {T : List Value}
theorem PBlk.ne_blk (h : PBlk w b v) (k : Blk w g xs T) : g ≠ b := by
  rintro rfl
  unfold PBlk at h
  unfold Blk at k
  rw [h] at k
  simp at k
theorem PBlk.ne_wblk (h : PBlk w b v) (k : WBlk w g xs T) : g ≠ b := by
  rintro rfl
  unfold PBlk at h
  unfold WBlk at k
  rw [h] at k
  simp at k
theorem _root_.Go.Proofs.Ytdnnfoacpjgloaa.Own.off (h : Own w base A n c xs) (hp : PBlk w b v) (ho : Off b w w') : Own w' base A n c xs := by
  obtain ⟨h1, h2, h3, h4, h5⟩ := h
  refine ⟨h1, h2, h3, h4, ?_⟩
  rcases h5 with h5 | ⟨g, T, rfl, hg, hk, hl⟩
  · exact .inl h5
  · exact .inr ⟨g, T, rfl, hg, (ho g (hp.ne_blk hk)).trans hk, hl⟩
theorem _root_.Go.Proofs.Ytdnnfoacpjgloaa.OwnW.off (h : OwnW w base A n c xs) (hp : PBlk w b v) (ho : Off b w w') : OwnW w' base A n c xs := by
  obtain ⟨h1, h2, h3, h4, h5⟩ := h
  refine ⟨h1, h2, h3, h4, ?_⟩
  rcases h5 with h5 | ⟨g, T, rfl, hg, hk, hl⟩
  · exact .inl h5
  · exact .inr ⟨g, T, rfl, hg, (ho g (hp.ne_wblk hk)).trans hk, hl⟩
theorem _root_.Go.Proofs.Ytdnnfoacpjgloaa.Own.lower {base' : Nat} (h : Own w base A n c xs) (hb : base' ≤ base) : Own w base' A n c xs := by
  obtain ⟨h1, h2, h3, h4, h5⟩ := h
  refine ⟨h1, h2, h3, h4, ?_⟩
  rcases h5 with h5 | ⟨g, T, rfl, hg, hk, hl⟩
  · exact .inl h5
  · exact .inr ⟨g, T, rfl, by omega, hk, hl⟩
theorem _root_.Go.Proofs.Ytdnnfoacpjgloaa.OwnW.lower {base' : Nat} (h : OwnW w base A n c xs) (hb : base' ≤ base) : OwnW w base' A n c xs := by
  obtain ⟨h1, h2, h3, h4, h5⟩ := h
  refine ⟨h1, h2, h3, h4, ?_⟩
  rcases h5 with h5 | ⟨g, T, rfl, hg, hk, hl⟩
  · exact .inl h5
  · exact .inr ⟨g, T, rfl, by omega, hk, hl⟩
theorem PBlk.offb {q : Nat} (h : PBlk w q v) (hq : q ≠ b) (ho : Off b w w') : PBlk w' q v := (ho q hq).trans h
theorem LBlk.offb {q : Nat} {c x f t : Int} (h : LBlk w q c x f t) (hq : q ≠ b) (ho : Off b w w') : LBlk w' q c x f t := (ho q hq).trans h
theorem PBlk.ne_lblk {q : Nat} {c x f t : Int} (h : PBlk w b v) (k : LBlk w q c x f t) : q ≠ b := by
  rintro rfl
  unfold PBlk at h
  unfold LBlk at k
  rw [h] at k
  simp at k
end
/-- What holds of every world while a packet is read: below stands what stood, and the parts lie at q. -/
def Sg (w : World) (q : Nat) (c x f t : Int) (W : World) : Prop := Below w.heap.size w W ∧ LBlk W q c x f t
theorem Sg.below {w u u' : World} {q : Nat} {c x f t : Int} (h : Sg w q c x f t u) (hb : Below u.heap.size u u') : Sg w q c x f t u' := ⟨h.1.trans (hb.mono h.1.size), h.2.below hb h.2.lt⟩
/-- What Get tells. -/
def gP (b : List Int) : Pkt := if pE b = 0 then pQ b else zeroPkt
theorem Rd.mid {w : World} {B b off n cap lo hi : Nat} {X : Option Addr} {xs : List Int} (h : Rd w B (some ⟨b, off, none⟩) n xs) (h1 : lo ≤ hi) (h2 : hi ≤ n) (h3 : n ≤ cap) (hX : cap ≠ lo → X = some ⟨b, off + lo, none⟩) :
    Rd w B X (hi - lo) ((xs.drop lo).take (hi - lo)) := by
  by_cases hc : cap = lo
  · obtain h0 : hi - lo = 0 := by omega
    rw [h0, List.take_zero]
    exact Rd.none_ X rfl
  · rw [hX hc]
    exact (h.drop (k := lo) (by omega)).take (by omega)
end Go.Proofs.Ytdnnfoacpjgloaa.Rtp
