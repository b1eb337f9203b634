/- The contracts of sift.described, Bytes. -/
import Derived.Test.YthmmafpmpnhleaaTa
import Derived.Test.YthmmafpmpnhleaaVi
set_option maxRecDepth 100000
namespace Go.Proofs.Ythmmafpmpnhleaa.Sft
open Go.RowKit
open Rtp (PV pkt pobj PBlk pvOf PRd zpv)
open Fbk (ILoc ItsRd ItsOwn its putLB putLE OkL)
set_option linter.unusedVariables false

-- What each assertion says of a value of each dynamic type.
theorem as_mm (v : Value) (w : World) : (Instr.typeAssert (.iface 50 v) 25 50 true).run Try.prog w = .ok (.tuple #[v, .bool true]) w := by kernel_rfl
theorem as_mf (v : Value) (w : World) : (Instr.typeAssert (.iface 52 v) 25 50 true).run Try.prog w = .ok (.tuple #[mval zpv 0 false false 0, .bool false]) w := by kernel_rfl
theorem as_mn (w : World) : (Instr.typeAssert .nilIface 25 50 true).run Try.prog w = .ok (.tuple #[mval zpv 0 false false 0, .bool false]) w := by kernel_rfl
theorem as_ff (v : Value) (w : World) : (Instr.typeAssert (.iface 52 v) 25 52 true).run Try.prog w = .ok (.tuple #[v, .bool true]) w := by kernel_rfl
theorem as_fm (v : Value) (w : World) : (Instr.typeAssert (.iface 50 v) 25 52 true).run Try.prog w = .ok (.tuple #[fval none 0 0, .bool false]) w := by kernel_rfl
theorem as_fn (w : World) : (Instr.typeAssert .nilIface 25 52 true).run Try.prog w = .ok (.tuple #[fval none 0 0, .bool false]) w := by kernel_rfl

abbrev mobj (v : PV) (l : Int) (k s : Bool) (f : Int) : Obj :=
  .cells #[.bool v.mrk, .int .i64 v.ty, .int .u16 v.seq, .int .u32 v.time, .int .u32 v.ssrc, .slice v.ca v.cn v.cc, .bool v.he, .int .u16 v.prof, .slice v.ea v.en v.ec, .slice v.pa v.pn v.pc, .int .i64 v.pad, .int .i64 l, .bool k, .bool s, .int .u16 f] 50 (0, 0)
abbrev fobj (A : Option Addr) (n c : Nat) : Obj := .cells #[.slice A n c] 52 (0, 0)
/-- A media that lies at block b. -/
def MBlk (w : World) (b : Nat) (v : PV) (l : Int) (k s : Bool) (f : Int) : Prop := w.heap[b]? = some (mobj v l k s f)
section
variable {w w' : World} {b B : Nat} {v : PV} {l f : Int} {k s : Bool}
theorem MBlk.new (w : World) (v : PV) (l : Int) (k s : Bool) (f : Int) : MBlk (w.alloc (mobj v l k s f)) w.heap.size v l k s f := heap_alloc_new w _
theorem MBlk.below (h : MBlk w b v l k s f) (hb : Below B w w') (hg : b < B) : MBlk w' b v l k s f := (hb.block b hg).trans h
theorem MBlk.lt (h : MBlk w b v l k s f) : b < w.heap.size := lt_of_some h
theorem MBlk.pc (h : MBlk w b v l k s f) : w.cell? ⟨b, 0, none⟩ = some (.bool v.mrk) ∧ w.cell? ⟨b, 1, none⟩ = some (.int .i64 v.ty) ∧ w.cell? ⟨b, 2, none⟩ = some (.int .u16 v.seq) ∧ w.cell? ⟨b, 3, none⟩ = some (.int .u32 v.time) ∧ w.cell? ⟨b, 4, none⟩ = some (.int .u32 v.ssrc) ∧
    w.cell? ⟨b, 5, none⟩ = some (.slice v.ca v.cn v.cc) ∧ w.cell? ⟨b, 6, none⟩ = some (.bool v.he) ∧ w.cell? ⟨b, 7, none⟩ = some (.int .u16 v.prof) ∧ w.cell? ⟨b, 8, none⟩ = some (.slice v.ea v.en v.ec) ∧ w.cell? ⟨b, 9, none⟩ = some (.slice v.pa v.pn v.pc) ∧ w.cell? ⟨b, 10, none⟩ = some (.int .i64 v.pad) :=
  ⟨cell_of_row w b 0 _ _ (0, 0) h, cell_of_row w b 1 _ _ (0, 0) h, cell_of_row w b 2 _ _ (0, 0) h, cell_of_row w b 3 _ _ (0, 0) h, cell_of_row w b 4 _ _ (0, 0) h, cell_of_row w b 5 _ _ (0, 0) h, cell_of_row w b 6 _ _ (0, 0) h, cell_of_row w b 7 _ _ (0, 0) h, cell_of_row w b 8 _ _ (0, 0) h, cell_of_row w b 9 _ _ (0, 0) h, cell_of_row w b 10 _ _ (0, 0) h⟩
theorem MBlk.dc (h : MBlk w b v l k s f) : w.cell? ⟨b, 11, none⟩ = some (.int .i64 l) ∧ w.cell? ⟨b, 12, none⟩ = some (.bool k) ∧ w.cell? ⟨b, 13, none⟩ = some (.bool s) ∧ w.cell? ⟨b, 14, none⟩ = some (.int .u16 f) :=
  ⟨cell_of_row w b 11 _ _ (0, 0) h, cell_of_row w b 12 _ _ (0, 0) h, cell_of_row w b 13 _ _ (0, 0) h, cell_of_row w b 14 _ _ (0, 0) h⟩
end

/-- Of two descriptors, whether they are alike. -/
def deq (l : Int) (k s : Bool) (f : Int) (l' : Int) (k' s' : Bool) (f' : Int) : Bool := l == l' && k == k' && s == s' && f == f'
def descB (ys : List Int) (l : Int) (k s : Bool) (f : Int) : Bool := gE ys == 0 && deq (gL ys) (gK ys) (gS ys) (gF ys) l k s f

set_option maxHeartbeats 2000000 in
theorem described_any (w : World) (B : Nat) (p : Pkt) (lc : Rtp.Loc) (l : Int) (k s : Bool) (f : Int) (h : PRd w B p lc) (hB : B ≤ w.heap.size) :
    Calls Try.prog 32 #[mval (pvOf p lc) l k s f] w (Rtp.RetB w (descB p.pay l k s f)) := by
  obtain ⟨v, hv⟩ : ∃ v, pvOf p lc = v := ⟨_, rfl⟩
  rw [hv]
  have CD : Hid (∀ W, Below w.heap.size w W → Calls Try.prog 22 #[.slice v.pa v.pn v.pc] W (RetG W (gL p.pay) (gK p.pay) (gS p.pay) (gF p.pay) (gE p.pay))) := fun W hW => by
    subst hv; exact get_any _ _ _ B _ W (Nat.le_trans h.pn (by decide)) (h.pay.below (hW.mono hB)) (Nat.le_trans hB hW.size)
  clear h hv
  unfold descB
  generalize gL p.pay = l0 at *
  generalize gK p.pay = k0 at *
  generalize gS p.pay = s0 at *
  generalize gF p.pay = f0 at *
  generalize gE p.pay = n at *
  obtain ⟨r, hr⟩ : ∃ r, (n == 0 && deq l0 k0 s0 f0 l k s f) = r := ⟨_, rfl⟩
  rw [hr]
  have HR := Lib.hid hr
  clear hr
  have hn : n = 0 ∨ (n == 0) = false := by by_cases h : n = 0 <;> simp [h]
  go_enter Try.func32, Try.ntmps32
  go_wp2_with fail
  have hb0 := (Below.refl w.heap.size w).alloc (Nat.le_refl _) (mobj v l k s f)
  have M0 := MBlk.new w v l k s f
  obtain ⟨-, -, -, -, -, -, -, -, -, d9, -⟩ := M0.pc
  generalize w.alloc (mobj v l k s f) = w0 at *
  refine (CD.out w0 hb0).mono ?_
  rintro e w1 ⟨rfl, hb1⟩
  have hb2 := (Below.refl w1.heap.size w1).alloc (Nat.le_refl _) (.cells #[.int .i64 l0, .bool k0, .bool s0, .int .u16 f0] 35)
  have hb12 := hb1.trans (hb2.mono hb1.size)
  have HB2 := Lib.hid (hb0.trans (hb12.mono hb0.size))
  obtain ⟨m1, m2, m3, m4⟩ := (M0.below hb12 M0.lt).dc
  have E2 := DBlk.new w1 l0 k0 s0 f0
  have e0 := E2.c0
  have e1 := E2.c1
  have e2 := E2.c2
  have e3 := E2.c3
  clear hb0 hb1 hb2 hb12 M0 d9 E2 CD
  rcases hn with rfl | hn
  · go_wp2
    all_goals (clear m1 m2 m3 m4 e0 e1 e2 e3; subst_vars; go_ret; exact ⟨ret_bool (by simp [deq, *]), HB2.out⟩)
  · go_wp2
    go_ret
    exact ⟨ret_bool (by rw [← HR.out, hn]; rfl), HB2.out⟩

def bytE : Ev → Int
  | .none => 4
  | .media p l k s f => if descB p.pay l k s f then putE p else 1
  | .feed is => putLE is
def bytB : Ev → List Int
  | .none => []
  | .media p l k s f => if descB p.pay l k s f then putB p else []
  | .feed is => putLB is
def EvOk : Ev → Prop
  | .none => True
  | .media p _ _ _ _ => p.Ok
  | .feed is => OkL is
/-- How long the lists may be. -/
def EvBd : Ev → Prop
  | .none => True
  | .media p _ _ _ _ => p.csrc.length * 4 ≤ 140737488355328
  | .feed is => is.length * 120 ≤ 140737488355328 ∧ ∀ i ∈ is, i.blocks.length * 28 ≤ 140737488355328 ∧ i.gone.length * 4 ≤ 140737488355328 ∧ i.pairs.length * 4 ≤ 140737488355328

set_option maxHeartbeats 4000000 in
theorem bytes_any (w : World) (ev : Ev) (V : Value) (h : EvRd w w.heap.size ev V) (ho : EvOk ev) (hd : EvBd ev) : Calls Try.prog 15 #[V] w (Fbk.RetR w (bytB ev) (bytE ev)) := by
  cases h with
  | none =>
    have h1 := as_mn
    have h2 := as_fn
    go_enter Try.func15, Try.ntmps15
    go_wp2
    exact ret_two Try.results15 ⟨none, 0, rfl, Own.nil _ _, ((Below.refl _ _).alloc (Nat.le_refl _) _).alloc (by simp) _⟩
  | media p lc l k s f hq =>
    have h1 := as_mm
    have CD : Hid (∀ W, Below w.heap.size w W → Calls Try.prog 32 #[mval (pvOf p lc) l k s f] W (Rtp.RetB W (descB p.pay l k s f))) := fun W hW => described_any W W.heap.size p lc l k s f ((hq.below hW).more hW.size) (Nat.le_refl _)
    have CP : Hid (∀ W, Below w.heap.size w W → Calls Try.prog 21 #[pkt (pvOf p lc)] W (Rtp.RetR W (putB p) (putE p))) := fun W hW => Rtp.put_pkt W p lc ho ((hq.below hW).more hW.size) (Nat.le_refl _)
    obtain ⟨v, hv⟩ : ∃ v, pvOf p lc = v := ⟨_, rfl⟩
    rw [hv] at CD CP ⊢
    show Calls _ _ _ _ (Fbk.RetR w (if descB p.pay l k s f then putB p else []) (if descB p.pay l k s f then putE p else 1))
    clear hq ho hd hv
    generalize putB p = ys at *
    generalize putE p = n at *
    rcases hdb : descB p.pay l k s f with _ | _
    · rw [hdb] at CD
      rw [if_neg (by decide), if_neg (by decide)]
      clear CP hdb
      go_enter Try.func15, Try.ntmps15
      go_wp2_with fail
      have hb0 := (Below.refl w.heap.size w).alloc (Nat.le_refl _) (mobj v l k s f)
      have M0 := MBlk.new w v l k s f
      obtain ⟨p0, p1, p2, p3, p4, p5, p6, p7, p8, p9, p10⟩ := M0.pc
      obtain ⟨p11, p12, p13, p14⟩ := M0.dc
      generalize w.alloc (mobj v l k s f) = w0 at *
      refine (CD.out w0 hb0).mono ?_
      rintro e w1 ⟨rfl, hb1⟩
      have HB1 := Lib.hid (hb0.trans (hb1.mono hb0.size))
      clear p0 p1 p2 p3 p4 p5 p6 p7 p8 p9 p10 p11 p12 p13 p14 hb0 hb1 M0 CD
      go_wp2
      exact ret_two Try.results15 ⟨none, 0, rfl, Own.nil _ _, HB1.out⟩
    · rw [hdb] at CD
      rw [if_pos rfl, if_pos rfl]
      clear hdb
      go_enter Try.func15, Try.ntmps15
      go_wp2_with fail
      have hb0 := (Below.refl w.heap.size w).alloc (Nat.le_refl _) (mobj v l k s f)
      have M0 := MBlk.new w v l k s f
      obtain ⟨p0, p1, p2, p3, p4, p5, p6, p7, p8, p9, p10⟩ := M0.pc
      obtain ⟨p11, p12, p13, p14⟩ := M0.dc
      generalize w.alloc (mobj v l k s f) = w0 at *
      refine (CD.out w0 hb0).mono ?_
      rintro e w1 ⟨rfl, hb1⟩
      have HB1 := Lib.hid (hb0.trans (hb1.mono hb0.size))
      have M1 := M0.below hb1 M0.lt
      clear p0 p1 p2 p3 p4 p5 p6 p7 p8 p9 p10 p11 p12 p13 p14 hb0 hb1 M0 CD
      obtain ⟨p0, p1, p2, p3, p4, p5, p6, p7, p8, p9, p10⟩ := M1.pc
      clear M1
      go_wp2_with fail
      refine (CP.out w1 HB1.out).mono ?_
      rintro e w2 ⟨A, c, rfl, ho2, hb2⟩
      have HO := Lib.hid ho2
      have HB2 := Lib.hid (HB1.out.trans (hb2.mono HB1.out.size))
      have hs := HB1.out.size
      have HO3 := Lib.hid (ho2.lower hs)
      clear p0 p1 p2 p3 p4 p5 p6 p7 p8 p9 p10 hb2 ho2 CP hs HO
      go_wp2
      exact ret_two Try.results15 ⟨A, c, rfl, HO3.out, HB2.out⟩
  | feed A n c ps hi hc =>
    have h1 := as_mf
    have h2 := as_ff
    have hln := hi.len
    have CP : Hid (∀ W, Below w.heap.size w W → Calls Try.prog 24 #[.slice A n c] W (Fbk.RetR W (putLB (its ps)) (putLE (its ps)))) := fun W hW => Fbk.rc_put A n c W.heap.size ps W (by have := hd.1; simp [its, hln] at this; omega) (hi.bel hW) (Nat.le_refl _) ho
    show Calls _ _ _ _ (Fbk.RetR w (putLB (its ps)) (putLE (its ps)))
    clear hi ho hd hc hln
    generalize putLB (its ps) = ys at *
    generalize putLE (its ps) = m at *
    go_enter Try.func15, Try.ntmps15
    go_wp2_with fail
    have hb0 := ((Below.refl w.heap.size w).alloc (Nat.le_refl _) (mobj zpv 0 false false 0)).alloc (by simp) (fobj A n c)
    generalize (w.alloc (mobj zpv 0 false false 0)).alloc (fobj A n c) = w0 at *
    refine (CP.out w0 hb0).mono ?_
    rintro e w2 ⟨A', c', rfl, ho2, hb2⟩
    have HB2 := Lib.hid (hb0.trans (hb2.mono hb0.size))
    have HO3 := Lib.hid (ho2.lower hb0.size)
    clear hb0 hb2 ho2 CP
    go_wp2
    exact ret_two Try.results15 ⟨A', c', rfl, HO3.out, HB2.out⟩
end Go.Proofs.Ythmmafpmpnhleaa.Sft
