/- Two results in cells, a packet and a descriptor: what stands behind their stores. No function of the program. · What a datagram is: an event as a value; the contracts of sift.feedback, media, Of, and of Kind. · The contracts of sift.described, Bytes. · The contract of sift.Flat. -/
import Derived.Test.YthmmafpmpnhleaaKg
import Derived.Test.YthmmafpmpnhleaaDd
import Derived.Test.YthmmafpmpnhleaaKr
import Derived.Test.YthmmafpmpnhleaaVo
import Derived.Stop.Asserts
import Derived.Test.YthmmafpmpnhleaaVi
import Derived.Test.YthmmafpmpnhleaaTb
import Derived.Deep.Cut
import Derived.Deep.DeepCutAuto
set_option maxRecDepth 100000
namespace Go.Proofs.Ythmmafpmpnhleaa.Sft
open Go.RowKit
open Rtp (PV pkt pobj PBlk pvOf PRd zpv Off)
set_option linter.unusedVariables false

abbrev D0 : Obj := .cells #[.int .i64 0, .bool false, .bool false, .int .u16 0] 35
theorem below_dstore {w w' : World} {B b : Nat} (hb : Below B w w') (hB : B ≤ b) (u0 u1 u2 u3 : Value) : Below B w ((((w'.setCell ⟨b, 0, none⟩ u0).setCell ⟨b, 1, none⟩ u1).setCell ⟨b, 2, none⟩ u2).setCell ⟨b, 3, none⟩ u3) :=
  (((hb.setCell (p := ⟨b, 0, none⟩) hB u0).setCell (p := ⟨b, 1, none⟩) hB u1).setCell (p := ⟨b, 2, none⟩) hB u2).setCell (p := ⟨b, 3, none⟩) hB u3
theorem ret_pd {F : Func} {W : World} {b d : Nat} {v : PV} {l f : Int} {k s : Bool} {n : Value} {tmps : Array Value} {R : Ending → World → Prop} (hf : F.results = #[.cell 2 33, .cell 3 35, .tmp 4]) (D : PBlk W b v) (E : DBlk W d l k s f) (hR : R (.returned (.tuple #[pkt v, dsc l k s f, n])) W)
    (h2 : tmps[2]?.getD undef = .pointer (some ⟨b, 0, none⟩) := by rfl) (h3 : tmps[3]?.getD undef = .pointer (some ⟨d, 0, none⟩) := by rfl) (h4 : tmps[4]?.getD undef = n := by rfl) :
    bodyPost Try.prog F R .ret ⟨tmps, []⟩ W := by
  obtain ⟨c0, c1, c2, c3, c4, c5, c6, c7, c8, c9, c10⟩ := D.cells
  have d0 := E.c0
  have d1 := E.c1
  have d2 := E.c2
  have d3 := E.c3
  exact bodyPost_ret (v := .tuple #[pkt v, dsc l k s f, n]) (by simp [results, hf, go_sem, h2, h3, h4, c0, c1, c2, c3, c4, c5, c6, c7, c8, c9, c10, d0, d1, d2, d3]) rfl hR
theorem DBlk.offb {w w' : World} {b q : Nat} {l f : Int} {k s : Bool} (h : DBlk w q l k s f) (hq : q ≠ b) (ho : Off b w w') : DBlk w' q l k s f := (ho q hq).trans h
theorem off_dstore (b : Nat) (w : World) (u0 u1 u2 u3 : Value) : Off b w ((((w.setCell ⟨b, 0, none⟩ u0).setCell ⟨b, 1, none⟩ u1).setCell ⟨b, 2, none⟩ u2).setCell ⟨b, 3, none⟩ u3) :=
  ((((Off.refl b w).set u0).set u1).set u2).set u3

theorem pdrew {w : World} {b : Nat} {v : PV} (h : PBlk w b v) : PBlk w.drew b v := h
theorem ddrew {w : World} {b : Nat} {l f : Int} {k s : Bool} (h : DBlk w b l k s f) : DBlk w.drew b l k s f := h
theorem prdrew {w : World} {p : Pkt} {lc : Rtp.Loc} (h : PRd w w.heap.size p lc) : PRd w.drew w.drew.heap.size p lc := ⟨h.csrc, h.ext, h.pay, h.cn, h.en, h.pn, h.cc, h.ec, h.pc⟩
theorem pundrew {w : World} {b : Nat} {v : PV} (h : PBlk w.drew b v) : PBlk w b v := h
theorem dundrew {w : World} {b : Nat} {l f : Int} {k s : Bool} (h : DBlk w.drew b l k s f) : DBlk w b l k s f := h
abbrev PW (w : World) (b : Nat) (v : PV) : World :=
  (((((((((((w.setCell ⟨b, 0, none⟩ (.bool v.mrk)).setCell ⟨b, 1, none⟩ (.int .i64 v.ty)).setCell ⟨b, 2, none⟩ (.int .u16 v.seq)).setCell ⟨b, 3, none⟩ (.int .u32 v.time)).setCell ⟨b, 4, none⟩ (.int .u32 v.ssrc)).setCell ⟨b, 5, none⟩ (.slice v.ca v.cn v.cc)).setCell ⟨b, 6, none⟩ (.bool v.he)).setCell ⟨b, 7, none⟩ (.int .u16 v.prof)).setCell ⟨b, 8, none⟩ (.slice v.ea v.en v.ec)).setCell ⟨b, 9, none⟩ (.slice v.pa v.pn v.pc)).setCell ⟨b, 10, none⟩ (.int .i64 v.pad))
abbrev DW (w : World) (b : Nat) (l : Int) (k s : Bool) (f : Int) : World := (((w.setCell ⟨b, 0, none⟩ (.int .i64 l)).setCell ⟨b, 1, none⟩ (.bool k)).setCell ⟨b, 2, none⟩ (.bool s)).setCell ⟨b, 3, none⟩ (.int .u16 f)
/-- The world in which the two results are written. -/
def MW (w : World) (b d : Nat) (v : PV) (l : Int) (k s : Bool) (f : Int) : World :=
  ((((((((((((((((w.setCell ⟨b, 0, none⟩ (.bool v.mrk)).setCell ⟨b, 1, none⟩ (.int .i64 v.ty)).setCell ⟨b, 2, none⟩ (.int .u16 v.seq)).setCell ⟨b, 3, none⟩ (.int .u32 v.time)).setCell ⟨b, 4, none⟩ (.int .u32 v.ssrc)).setCell ⟨b, 5, none⟩ (.slice v.ca v.cn v.cc)).setCell ⟨b, 6, none⟩ (.bool v.he)).setCell ⟨b, 7, none⟩ (.int .u16 v.prof)).setCell ⟨b, 8, none⟩ (.slice v.ea v.en v.ec)).setCell ⟨b, 9, none⟩ (.slice v.pa v.pn v.pc)).setCell ⟨b, 10, none⟩ (.int .i64 v.pad))).setCell ⟨d, 0, none⟩ (.int .i64 l)).setCell ⟨d, 1, none⟩ (.bool k)).setCell ⟨d, 2, none⟩ (.bool s)).setCell ⟨d, 3, none⟩ (.int .u16 f))
theorem MW_at {w w0 : World} {B b d : Nat} {v u : PV} {l l' f f' : Int} {k k' s s' : Bool} (D : PBlk w b v) (E : DBlk w d l k s f) (hbd : b ≠ d) (hb : Below B w0 w) (h1 : B ≤ b) (h2 : B ≤ d) :
    PBlk (MW w b d u l' k' s' f') b u ∧ DBlk (MW w b d u l' k' s' f') d l' k' s' f' ∧ Below B w0 (MW w b d u l' k' s' f') ∧ w.heap.size ≤ (MW w b d u l' k' s' f').heap.size ∧ ∀ i, i ≠ b → i ≠ d → (MW w b d u l' k' s' f').heap[i]? = w.heap[i]? :=
  ⟨Rtp.PBlk.offb (D.store u) hbd (off_dstore d _ _ _ _ _), (DBlk.offb E (Ne.symm hbd) (Rtp.off_pstore b w _ _ _ _ _ _ _ _ _ _ _)).store l' k' s' f', below_dstore (Rtp.below_pstore hb h1 _ _ _ _ _ _ _ _ _ _ _) h2 _ _ _ _,
    (below_dstore (Rtp.below_pstore (Below.refl 0 w) (Nat.zero_le _) _ _ _ _ _ _ _ _ _ _ _) (Nat.zero_le _) _ _ _ _).size, fun i h1 h2 => (off_dstore d _ _ _ _ _ i h2).trans (Rtp.off_pstore b w _ _ _ _ _ _ _ _ _ _ _ i h1)⟩

/-- Where nothing but zeros stands, zeros change nothing. -/
theorem MW_zero {w : World} {b d : Nat} (D : PBlk w b zpv) (E : DBlk w d 0 false false 0) (hbd : b ≠ d) (i : Nat) : (MW w b d zpv 0 false false 0).heap[i]? = w.heap[i]? := by
  obtain ⟨h1, h2, -, -, h5⟩ := MW_at (u := zpv) (l' := 0) (k' := false) (s' := false) (f' := 0) D E hbd (Below.refl 0 w) (Nat.zero_le _) (Nat.zero_le _)
  by_cases hb : i = b
  · subst hb; exact Eq.trans h1 (Eq.symm D)
  · by_cases hd : i = d
    · subst hd; exact Eq.trans h2 (Eq.symm E)
    · exact h5 i hb hd
end Go.Proofs.Ythmmafpmpnhleaa.Sft

namespace Go.Proofs.Ythmmafpmpnhleaa.Sft
open Go.RowKit
open Rtp (PV pkt pobj PBlk pvOf PRd GRet gP)
open Fbk (ILoc ItsRd ItsOwn its RetIts getLE getLV)
set_option linter.unusedVariables false

/-- What a datagram can be. -/
inductive Ev where
  | none
  | media (p : Pkt) (l : Int) (k s : Bool) (f : Int)
  | feed (is : List Itm)
abbrev mval (v : PV) (l : Int) (k s : Bool) (f : Int) : Value :=
  .agg #[.bool v.mrk, .int .i64 v.ty, .int .u16 v.seq, .int .u32 v.time, .int .u32 v.ssrc, .slice v.ca v.cn v.cc, .bool v.he, .int .u16 v.prof, .slice v.ea v.en v.ec, .slice v.pa v.pn v.pc, .int .i64 v.pad, .int .i64 l, .bool k, .bool s, .int .u16 f]
abbrev fval (A : Option Addr) (n c : Nat) : Value := .agg #[.slice A n c]
/-- An event, as a value; its lists lie below block B. -/
inductive EvRd (w : World) (B : Nat) : Ev → Value → Prop
  | none : EvRd w B .none .nilIface
  | media (p : Pkt) (lc : Rtp.Loc) (l : Int) (k s : Bool) (f : Int) : PRd w B p lc → EvRd w B (.media p l k s f) (.iface 50 (mval (pvOf p lc) l k s f))
  | feed (A : Option Addr) (n c : Nat) (ps : List (Itm × ILoc)) : ItsRd w B A n ps → n ≤ c → EvRd w B (.feed (its ps)) (.iface 52 (fval A n c))
theorem EvRd.bel {w w' : World} {ev : Ev} {V : Value} (h : EvRd w w.heap.size ev V) (hb : Below w.heap.size w w') : EvRd w' w'.heap.size ev V := by
  cases h with
  | none => exact .none
  | media p lc l k s f h => exact .media p lc l k s f ((h.below hb).more hb.size)
  | feed A n c ps h hc => exact .feed A n c ps (h.bel hb) hc
def RetE (w : World) (ev : Ev) (n : Int) (e : Ending) (w' : World) : Prop := ∃ V, e = .returned (.tuple #[V, .int .i64 n]) ∧ EvRd w' w'.heap.size ev V ∧ Below w.heap.size w w'

def sideB (xs : List Int) : Bool := decide (192 ≤ xs.getD 1 0) && decide (xs.getD 1 0 ≤ 223)
def medE (xs : List Int) : Int := if pE xs = 0 then gE (pQ xs).pay else pE xs
def medV (xs : List Int) : Ev := if medE xs = 0 then .media (pQ xs) (gL (pQ xs).pay) (gK (pQ xs).pay) (gS (pQ xs).pay) (gF (pQ xs).pay) else .none
def feeV (xs : List Int) : Ev := if getLE xs = 0 then .feed (getLV xs) else .none
def ofE (xs : List Int) : Int := if 512 < xs.length then 5 else if xs.length < 2 then 2 else if sideB xs then getLE xs else medE xs
def ofV (xs : List Int) : Ev := if 512 < xs.length then .none else if xs.length < 2 then .none else if sideB xs then feeV xs else medV xs

theorem ret_two {f : Func} {V U : Value} {R : Ending → World → Prop} {W : World} {tmps : Array Value} (hf : f.results = #[.tmp 2, .tmp 3]) (hR : R (.returned (.tuple #[V, U])) W) (h2 : tmps[2]?.getD undef = V := by rfl) (h3 : tmps[3]?.getD undef = U := by rfl) :
    bodyPost Try.prog f R .ret ⟨tmps, []⟩ W := bodyPost_ret (v := .tuple #[V, U]) (by simp [results, hf, go_sem, h2, h3]) rfl hR

-- Facts of this program's types.
theorem mk_media (x : Value) (w : World) : (Instr.makeInterface 50 x).run Try.prog w = .ok (.iface 50 x) w := run_makeInterface w 50 x (by kernel_rfl)
theorem mk_feed (x : Value) (w : World) : (Instr.makeInterface 52 x).run Try.prog w = .ok (.iface 52 x) w := run_makeInterface w 52 x (by kernel_rfl)

set_option maxHeartbeats 1000000 in
theorem kindM_any (v : PV) (l : Int) (k s : Bool) (f : Int) (w : World) : Calls Try.prog 126 #[mval v l k s f] w fun e w' => e = .returned (.int .i64 1) ∧ Below w.heap.size w w' := by
  go_enter Try.func126, Try.ntmps126
  go_wp2
  go_ret
  exact ⟨rfl, (Below.refl _ _).alloc (Nat.le_refl _) _⟩
set_option maxHeartbeats 1000000 in
theorem kindF_any (A : Option Addr) (n c : Nat) (w : World) : Calls Try.prog 127 #[fval A n c] w fun e w' => e = .returned (.int .i64 2) ∧ Below w.heap.size w w' := by
  go_enter Try.func127, Try.ntmps127
  go_wp2
  go_ret
  exact ⟨rfl, (Below.refl _ _).alloc (Nat.le_refl _) _⟩

set_option maxHeartbeats 2000000 in
theorem feedback_any (a : Option Addr) (n c B : Nat) (xs : List Int) (w : World) (hlc : n ≤ c) (hr : Rd w B a n xs) (hB : B ≤ w.heap.size) :
    Calls Try.prog 25 #[.slice a n c] w (RetE w (feeV xs) (getLE xs)) := by
  have CG := Fbk.rc_get a n c B xs w hlc hr hB
  have hmk := mk_feed
  unfold feeV
  by_cases h : getLE xs = 0
  · rw [if_pos h]
    rw [h] at CG ⊢
    generalize getLV xs = is at *
    have HC := Lib.hid CG
    clear CG hr h
    go_enter Try.func25, Try.ntmps25
    go_wp2_with fail
    refine HC.out.mono ?_
    rintro e w1 ⟨A, c1, ps, rfl, rfl, ho, hb1⟩
    obtain ⟨m, hm⟩ : ∃ m, (its ps).length = m := ⟨_, rfl⟩
    rw [hm] at ho ⊢
    have HO := Lib.hid ho
    clear ho HC
    go_wp2
    exact ret_two Try.results25 ⟨_, rfl, .feed A m c1 ps HO.out.rd HO.out.row.2.1, hb1⟩
  · rw [if_neg h]
    have hn : (getLE xs != 0) = true := by simpa using h
    generalize getLE xs = n1 at *
    have HC := Lib.hid CG
    clear CG hr h
    go_enter Try.func25, Try.ntmps25
    go_wp2_with fail
    refine HC.out.mono ?_
    rintro e w1 ⟨A, c1, ps, rfl, -, -, hb1⟩
    clear HC
    go_wp2
    exact ret_two Try.results25 ⟨_, rfl, .none, hb1⟩
set_option maxHeartbeats 4000000 in
theorem media_any (a : Option Addr) (n c B : Nat) (xs : List Int) (w : World) (hl : n ≤ maxLen) (hlc : n ≤ c) (hr : Rd w B a n xs) (hB : B ≤ w.heap.size) :
    Calls Try.prog 26 #[.slice a n c] w (RetE w (medV xs) (medE xs)) := by
  have CG := Rtp.get_any a n c B xs w hl hlc hr hB
  have hmk := mk_media
  unfold medV medE
  by_cases h : pE xs = 0
  · rw [if_pos h]
    rw [gP, if_pos h, h] at CG
    generalize pQ xs = p at *
    have CD : Hid (∀ W A n c, Rd W W.heap.size A n p.pay → n ≤ maxLen → Calls Try.prog 22 #[.slice A n c] W (RetG W (gL p.pay) (gK p.pay) (gS p.pay) (gF p.pay) (gE p.pay))) := fun W A n c h h2 => get_any A n c _ _ W h2 h (Nat.le_refl _)
    have HC := Lib.hid CG
    clear CG hr h
    generalize gL p.pay = l at *
    generalize gK p.pay = k at *
    generalize gS p.pay = s at *
    generalize gF p.pay = f at *
    generalize gE p.pay = m at *
    have hmm : m = 0 ∨ (m != 0) = true := by by_cases h : m = 0 <;> simp [h]
    obtain ⟨ev, hev⟩ : ∃ ev, (if m = 0 then Ev.media p l k s f else .none) = ev := ⟨_, rfl⟩
    rw [hev]
    have HE := Lib.hid hev
    clear hev
    go_enter Try.func26, Try.ntmps26
    go_wp2_with fail
    refine HC.out.mono ?_
    rintro e w1 ⟨lc, rfl, hq, hb1⟩
    obtain ⟨v, hv⟩ : ∃ v, pvOf p lc = v := ⟨_, rfl⟩
    rw [hv]
    have hb1' := (Below.refl w1.heap.size w1).alloc (Nat.le_refl _) (pobj v)
    have F2 := PBlk.new w1 v
    have HB2 := Lib.hid (hb1.alloc hb1.size (pobj v))
    have hq2 := (hq.below hb1').more hb1'.size
    have CD2 : Calls Try.prog 22 #[.slice v.pa v.pn v.pc] (w1.alloc (pobj v)) (RetG (w1.alloc (pobj v)) l k s f m) := by
      subst hv
      exact CD.out _ _ _ _ hq2.pay (Nat.le_trans hq2.pn (by decide))
    have HD := Lib.hid CD2
    have HQ2 := Lib.hid hq2
    have HV := Lib.hid hv
    have f9 := F2.c9
    clear CD CD2 hq2 hv hb1 hb1' hq HC
    go_wp2_with fail
    generalize w1.alloc (pobj v) = w2 at *
    generalize w1.heap.size = q at *
    refine HD.out.mono ?_
    rintro e w3 ⟨rfl, hb3⟩
    have hb3' := (Below.refl w3.heap.size w3).alloc (Nat.le_refl _) (.cells #[.int .i64 l, .bool k, .bool s, .int .u16 f] 35)
    have hb34 := hb3.trans (hb3'.mono hb3.size)
    have HB4 := Lib.hid (HB2.out.trans (hb34.mono HB2.out.size))
    have F4 := F2.below hb34 F2.lt
    have G4 := DBlk.new w3 l k s f
    have HQ4 := Lib.hid ((HQ2.out.below hb34).more hb34.size)
    clear HD HB2 hb3 hb3' hb34 F2 HQ2 f9
    rcases hmm with rfl | hm
    · have HE2 := Lib.hid (show ev = .media p l k s f from HE.out.symm)
      obtain ⟨f0, f1, f2, f3, f4, f5, f6, f7, f8, f9, f10⟩ := F4.cells
      have g0 := G4.c0
      have g1 := G4.c1
      have g2 := G4.c2
      have g3 := G4.c3
      clear F4 G4
      go_wp2
      refine ret_two (V := .iface 50 (mval v l k s f)) Try.results26 ⟨_, rfl, ?_, HB4.out⟩
      rw [HE2.out]
      have := EvRd.media p lc l k s f HQ4.out
      rw [HV.out] at this
      exact this
    · have HE2 := Lib.hid (show ev = .none by rw [← HE.out, if_neg (by simpa using hm)])
      clear F4 G4
      go_wp2
      exact ret_two Try.results26 ⟨_, rfl, (by rw [HE2.out]; exact .none), HB4.out⟩
  · rw [if_neg h]
    rw [if_neg h]
    have hn : (pE xs != 0) = true := by simpa using h
    generalize pE xs = n1 at *
    have HC := Lib.hid CG
    clear CG hr h
    go_enter Try.func26, Try.ntmps26
    go_wp2_with fail
    refine HC.out.mono ?_
    rintro e w1 ⟨lc, rfl, -, hb1⟩
    obtain ⟨v, hv⟩ : ∃ v, pvOf (gP xs) lc = v := ⟨_, rfl⟩
    rw [hv]
    have HB2 := Lib.hid (hb1.alloc hb1.size (pobj v))
    clear HC hb1 hv
    go_wp2
    exact ret_two Try.results26 ⟨_, rfl, .none, HB2.out⟩

set_option maxHeartbeats 2000000 in
theorem of_any (a : Option Addr) (n c B : Nat) (xs : List Int) (w : World) (hl : n ≤ maxLen) (hlc : n ≤ c) (hr : Rd w B a n xs) (hB : B ≤ w.heap.size) :
    Calls Try.prog 9 #[.slice a n c] w (RetE w (ofV xs) (ofE xs)) := by
  have hlen := hr.1
  unfold ofV ofE
  rw [hlen]
  by_cases h5 : 512 < n
  · rw [if_pos h5, if_pos h5]
    clear hr hlen
    go_enter Try.func9, Try.ntmps9
    go_wp2
    exact ret_two Try.results9 ⟨_, rfl, .none, Below.refl _ _⟩
  rw [if_neg h5, if_neg h5]
  by_cases h2 : n < 2
  · rw [if_pos h2, if_pos h2]
    clear hr hlen
    go_enter Try.func9, Try.ntmps9
    go_wp2
    exact ret_two Try.results9 ⟨_, rfl, .none, Below.refl _ _⟩
  rw [if_neg h2, if_neg h2]
  obtain ⟨b, off, rfl, hbB, hc⟩ := hr.2.2 (by omega)
  have c1 : w.cell? ⟨b, off + 1, none⟩ = some (.int .u8 (xs.getD 1 0)) := hc 1 (by omega)
  have CF := Lib.hid (feedback_any (some ⟨b, off, none⟩) n c B xs w hlc hr hB)
  have CM := Lib.hid (media_any (some ⟨b, off, none⟩) n c B xs w hl hlc hr hB)
  unfold sideB
  clear hr hc hlen
  generalize xs.getD 1 0 = x at *
  generalize feeV xs = v1 at *
  generalize getLE xs = n1 at *
  generalize medV xs = v2 at *
  generalize medE xs = n2 at *
  by_cases hx : 192 ≤ x
  · by_cases hy : x ≤ 223
    · rw [if_pos (by simp [hx, hy]), if_pos (by simp [hx, hy])]
      clear CM
      go_enter Try.func9, Try.ntmps9
      go_wp2_with fail
      refine CF.out.mono ?_
      rintro e w1 ⟨V, rfl, hv, hb⟩
      have HV := Lib.hid hv
      clear hv CF
      go_wp2
      exact ret_two Try.results9 ⟨_, rfl, HV.out, hb⟩
    · rw [if_neg (by simp [hy]), if_neg (by simp [hy])]
      clear CF
      go_enter Try.func9, Try.ntmps9
      go_wp2_with fail
      refine CM.out.mono ?_
      rintro e w1 ⟨V, rfl, hv, hb⟩
      have HV := Lib.hid hv
      clear hv CM
      go_wp2
      exact ret_two Try.results9 ⟨_, rfl, HV.out, hb⟩
  · rw [if_neg (by simp [hx]), if_neg (by simp [hx])]
    clear CF
    go_enter Try.func9, Try.ntmps9
    go_wp2_with fail
    refine CM.out.mono ?_
    rintro e w1 ⟨V, rfl, hv, hb⟩
    have HV := Lib.hid hv
    clear hv CM
    go_wp2
    exact ret_two Try.results9 ⟨_, rfl, HV.out, hb⟩
end Go.Proofs.Ythmmafpmpnhleaa.Sft

namespace Go.Proofs.Ythmmafpmpnhleaa.Sft
open Go.RowKit
open Rtp (PV pkt pobj PBlk pvOf PRd zpv)
open Fbk (ILoc ItsRd ItsOwn its putLB putLE OkL)
set_option linter.unusedVariables false

-- What each assertion says of a value of each dynamic type.
theorem as_mm (v : Value) (w : World) : (Instr.typeAssert (.iface 50 v) 25 50 true).run Try.prog w = .ok (.tuple #[v, .bool true]) w := by kernel_rfl
theorem as_mf (v : Value) (w : World) : (Instr.typeAssert (.iface 52 v) 25 50 true).run Try.prog w = .ok (.tuple #[mval zpv 0 false false 0, .bool false]) w := by kernel_rfl
theorem as_mn (w : World) : (Instr.typeAssert .nilIface 25 50 true).run Try.prog w = .ok (.tuple #[mval zpv 0 false false 0, .bool false]) w := by kernel_rfl
theorem as_ff (v : Value) (w : World) : (Instr.typeAssert (.iface 52 v) 25 52 true).run Try.prog w = .ok (.tuple #[v, .bool true]) w := by kernel_rfl
theorem as_fm (v : Value) (w : World) : (Instr.typeAssert (.iface 50 v) 25 52 true).run Try.prog w = .ok (.tuple #[fval none 0 0, .bool false]) w := by kernel_rfl
theorem as_fn (w : World) : (Instr.typeAssert .nilIface 25 52 true).run Try.prog w = .ok (.tuple #[fval none 0 0, .bool false]) w := by kernel_rfl

abbrev mobj (v : PV) (l : Int) (k s : Bool) (f : Int) : Obj :=
  .cells #[.bool v.mrk, .int .i64 v.ty, .int .u16 v.seq, .int .u32 v.time, .int .u32 v.ssrc, .slice v.ca v.cn v.cc, .bool v.he, .int .u16 v.prof, .slice v.ea v.en v.ec, .slice v.pa v.pn v.pc, .int .i64 v.pad, .int .i64 l, .bool k, .bool s, .int .u16 f] 50 (0, 0)
abbrev fobj (A : Option Addr) (n c : Nat) : Obj := .cells #[.slice A n c] 52 (0, 0)
/-- A media that lies at block b. -/
def MBlk (w : World) (b : Nat) (v : PV) (l : Int) (k s : Bool) (f : Int) : Prop := w.heap[b]? = some (mobj v l k s f)
section
variable {w w' : World} {b B : Nat} {v : PV} {l f : Int} {k s : Bool}
theorem MBlk.new (w : World) (v : PV) (l : Int) (k s : Bool) (f : Int) : MBlk (w.alloc (mobj v l k s f)) w.heap.size v l k s f := heap_alloc_new w _
theorem MBlk.below (h : MBlk w b v l k s f) (hb : Below B w w') (hg : b < B) : MBlk w' b v l k s f := (hb.block b hg).trans h
theorem MBlk.lt (h : MBlk w b v l k s f) : b < w.heap.size := lt_of_some h
theorem MBlk.pc (h : MBlk w b v l k s f) : w.cell? ⟨b, 0, none⟩ = some (.bool v.mrk) ∧ w.cell? ⟨b, 1, none⟩ = some (.int .i64 v.ty) ∧ w.cell? ⟨b, 2, none⟩ = some (.int .u16 v.seq) ∧ w.cell? ⟨b, 3, none⟩ = some (.int .u32 v.time) ∧ w.cell? ⟨b, 4, none⟩ = some (.int .u32 v.ssrc) ∧
    w.cell? ⟨b, 5, none⟩ = some (.slice v.ca v.cn v.cc) ∧ w.cell? ⟨b, 6, none⟩ = some (.bool v.he) ∧ w.cell? ⟨b, 7, none⟩ = some (.int .u16 v.prof) ∧ w.cell? ⟨b, 8, none⟩ = some (.slice v.ea v.en v.ec) ∧ w.cell? ⟨b, 9, none⟩ = some (.slice v.pa v.pn v.pc) ∧ w.cell? ⟨b, 10, none⟩ = some (.int .i64 v.pad) :=
  ⟨cell_of_row w b 0 _ _ (0, 0) h, cell_of_row w b 1 _ _ (0, 0) h, cell_of_row w b 2 _ _ (0, 0) h, cell_of_row w b 3 _ _ (0, 0) h, cell_of_row w b 4 _ _ (0, 0) h, cell_of_row w b 5 _ _ (0, 0) h, cell_of_row w b 6 _ _ (0, 0) h, cell_of_row w b 7 _ _ (0, 0) h, cell_of_row w b 8 _ _ (0, 0) h, cell_of_row w b 9 _ _ (0, 0) h, cell_of_row w b 10 _ _ (0, 0) h⟩
theorem MBlk.dc (h : MBlk w b v l k s f) : w.cell? ⟨b, 11, none⟩ = some (.int .i64 l) ∧ w.cell? ⟨b, 12, none⟩ = some (.bool k) ∧ w.cell? ⟨b, 13, none⟩ = some (.bool s) ∧ w.cell? ⟨b, 14, none⟩ = some (.int .u16 f) :=
  ⟨cell_of_row w b 11 _ _ (0, 0) h, cell_of_row w b 12 _ _ (0, 0) h, cell_of_row w b 13 _ _ (0, 0) h, cell_of_row w b 14 _ _ (0, 0) h⟩
end

/-- Of two descriptors, whether they are alike. -/
def deq (l : Int) (k s : Bool) (f : Int) (l' : Int) (k' s' : Bool) (f' : Int) : Bool := l == l' && k == k' && s == s' && f == f'
def descB (ys : List Int) (l : Int) (k s : Bool) (f : Int) : Bool := gE ys == 0 && deq (gL ys) (gK ys) (gS ys) (gF ys) l k s f

set_option maxHeartbeats 2000000 in
theorem described_any (w : World) (B : Nat) (p : Pkt) (lc : Rtp.Loc) (l : Int) (k s : Bool) (f : Int) (h : PRd w B p lc) (hB : B ≤ w.heap.size) :
    Calls Try.prog 32 #[mval (pvOf p lc) l k s f] w (Rtp.RetB w (descB p.pay l k s f)) := by
  obtain ⟨v, hv⟩ : ∃ v, pvOf p lc = v := ⟨_, rfl⟩
  rw [hv]
  have CD : Hid (∀ W, Below w.heap.size w W → Calls Try.prog 22 #[.slice v.pa v.pn v.pc] W (RetG W (gL p.pay) (gK p.pay) (gS p.pay) (gF p.pay) (gE p.pay))) := fun W hW => by
    subst hv; exact get_any _ _ _ B _ W (Nat.le_trans h.pn (by decide)) (h.pay.below (hW.mono hB)) (Nat.le_trans hB hW.size)
  clear h hv
  unfold descB
  generalize gL p.pay = l0 at *
  generalize gK p.pay = k0 at *
  generalize gS p.pay = s0 at *
  generalize gF p.pay = f0 at *
  generalize gE p.pay = n at *
  obtain ⟨r, hr⟩ : ∃ r, (n == 0 && deq l0 k0 s0 f0 l k s f) = r := ⟨_, rfl⟩
  rw [hr]
  have HR := Lib.hid hr
  clear hr
  have hn : n = 0 ∨ (n == 0) = false := by by_cases h : n = 0 <;> simp [h]
  go_enter Try.func32, Try.ntmps32
  go_wp2_with fail
  have hb0 := (Below.refl w.heap.size w).alloc (Nat.le_refl _) (mobj v l k s f)
  have M0 := MBlk.new w v l k s f
  obtain ⟨-, -, -, -, -, -, -, -, -, d9, -⟩ := M0.pc
  generalize w.alloc (mobj v l k s f) = w0 at *
  refine (CD.out w0 hb0).mono ?_
  rintro e w1 ⟨rfl, hb1⟩
  have hb2 := (Below.refl w1.heap.size w1).alloc (Nat.le_refl _) (.cells #[.int .i64 l0, .bool k0, .bool s0, .int .u16 f0] 35)
  have hb12 := hb1.trans (hb2.mono hb1.size)
  have HB2 := Lib.hid (hb0.trans (hb12.mono hb0.size))
  obtain ⟨m1, m2, m3, m4⟩ := (M0.below hb12 M0.lt).dc
  have E2 := DBlk.new w1 l0 k0 s0 f0
  have e0 := E2.c0
  have e1 := E2.c1
  have e2 := E2.c2
  have e3 := E2.c3
  clear hb0 hb1 hb2 hb12 M0 d9 E2 CD
  rcases hn with rfl | hn
  · go_wp2
    all_goals (clear m1 m2 m3 m4 e0 e1 e2 e3; subst_vars; go_ret; exact ⟨ret_bool (by simp [deq, *]), HB2.out⟩)
  · go_wp2
    go_ret
    exact ⟨ret_bool (by rw [← HR.out, hn]; rfl), HB2.out⟩

def bytE : Ev → Int
  | .none => 4
  | .media p l k s f => if descB p.pay l k s f then putE p else 1
  | .feed is => putLE is
def bytB : Ev → List Int
  | .none => []
  | .media p l k s f => if descB p.pay l k s f then putB p else []
  | .feed is => putLB is
def EvOk : Ev → Prop
  | .none => True
  | .media p _ _ _ _ => p.Ok
  | .feed is => OkL is
/-- How long the lists may be. -/
def EvBd : Ev → Prop
  | .none => True
  | .media p _ _ _ _ => p.csrc.length * 4 ≤ 140737488355328
  | .feed is => is.length * 120 ≤ 140737488355328 ∧ ∀ i ∈ is, i.blocks.length * 28 ≤ 140737488355328 ∧ i.gone.length * 4 ≤ 140737488355328 ∧ i.pairs.length * 4 ≤ 140737488355328

set_option maxHeartbeats 4000000 in
theorem bytes_any (w : World) (ev : Ev) (V : Value) (h : EvRd w w.heap.size ev V) (ho : EvOk ev) (hd : EvBd ev) : Calls Try.prog 15 #[V] w (Fbk.RetR w (bytB ev) (bytE ev)) := by
  cases h with
  | none =>
    have h1 := as_mn
    have h2 := as_fn
    go_enter Try.func15, Try.ntmps15
    go_wp2
    exact ret_two Try.results15 ⟨none, 0, rfl, Own.nil _ _, ((Below.refl _ _).alloc (Nat.le_refl _) _).alloc (by simp) _⟩
  | media p lc l k s f hq =>
    have h1 := as_mm
    have CD : Hid (∀ W, Below w.heap.size w W → Calls Try.prog 32 #[mval (pvOf p lc) l k s f] W (Rtp.RetB W (descB p.pay l k s f))) := fun W hW => described_any W W.heap.size p lc l k s f ((hq.below hW).more hW.size) (Nat.le_refl _)
    have CP : Hid (∀ W, Below w.heap.size w W → Calls Try.prog 21 #[pkt (pvOf p lc)] W (Rtp.RetR W (putB p) (putE p))) := fun W hW => Rtp.put_pkt W p lc ho ((hq.below hW).more hW.size) (Nat.le_refl _)
    obtain ⟨v, hv⟩ : ∃ v, pvOf p lc = v := ⟨_, rfl⟩
    rw [hv] at CD CP ⊢
    show Calls _ _ _ _ (Fbk.RetR w (if descB p.pay l k s f then putB p else []) (if descB p.pay l k s f then putE p else 1))
    clear hq ho hd hv
    generalize putB p = ys at *
    generalize putE p = n at *
    rcases hdb : descB p.pay l k s f with _ | _
    · rw [hdb] at CD
      rw [if_neg (by decide), if_neg (by decide)]
      clear CP hdb
      go_enter Try.func15, Try.ntmps15
      go_wp2_with fail
      have hb0 := (Below.refl w.heap.size w).alloc (Nat.le_refl _) (mobj v l k s f)
      have M0 := MBlk.new w v l k s f
      obtain ⟨p0, p1, p2, p3, p4, p5, p6, p7, p8, p9, p10⟩ := M0.pc
      obtain ⟨p11, p12, p13, p14⟩ := M0.dc
      generalize w.alloc (mobj v l k s f) = w0 at *
      refine (CD.out w0 hb0).mono ?_
      rintro e w1 ⟨rfl, hb1⟩
      have HB1 := Lib.hid (hb0.trans (hb1.mono hb0.size))
      clear p0 p1 p2 p3 p4 p5 p6 p7 p8 p9 p10 p11 p12 p13 p14 hb0 hb1 M0 CD
      go_wp2
      exact ret_two Try.results15 ⟨none, 0, rfl, Own.nil _ _, HB1.out⟩
    · rw [hdb] at CD
      rw [if_pos rfl, if_pos rfl]
      clear hdb
      go_enter Try.func15, Try.ntmps15
      go_wp2_with fail
      have hb0 := (Below.refl w.heap.size w).alloc (Nat.le_refl _) (mobj v l k s f)
      have M0 := MBlk.new w v l k s f
      obtain ⟨p0, p1, p2, p3, p4, p5, p6, p7, p8, p9, p10⟩ := M0.pc
      obtain ⟨p11, p12, p13, p14⟩ := M0.dc
      generalize w.alloc (mobj v l k s f) = w0 at *
      refine (CD.out w0 hb0).mono ?_
      rintro e w1 ⟨rfl, hb1⟩
      have HB1 := Lib.hid (hb0.trans (hb1.mono hb0.size))
      have M1 := M0.below hb1 M0.lt
      clear p0 p1 p2 p3 p4 p5 p6 p7 p8 p9 p10 p11 p12 p13 p14 hb0 hb1 M0 CD
      obtain ⟨p0, p1, p2, p3, p4, p5, p6, p7, p8, p9, p10⟩ := M1.pc
      clear M1
      go_wp2_with fail
      refine (CP.out w1 HB1.out).mono ?_
      rintro e w2 ⟨A, c, rfl, ho2, hb2⟩
      have HO := Lib.hid ho2
      have HB2 := Lib.hid (HB1.out.trans (hb2.mono HB1.out.size))
      have hs := HB1.out.size
      have HO3 := Lib.hid (ho2.lower hs)
      clear p0 p1 p2 p3 p4 p5 p6 p7 p8 p9 p10 hb2 ho2 CP hs HO
      go_wp2
      exact ret_two Try.results15 ⟨A, c, rfl, HO3.out, HB2.out⟩
  | feed A n c ps hi hc =>
    have h1 := as_mf
    have h2 := as_ff
    have hln := hi.len
    have CP : Hid (∀ W, Below w.heap.size w W → Calls Try.prog 24 #[.slice A n c] W (Fbk.RetR W (putLB (its ps)) (putLE (its ps)))) := fun W hW => Fbk.rc_put A n c W.heap.size ps W (by have := hd.1; simp [its, hln] at this; omega) (hi.bel hW) (Nat.le_refl _) ho
    show Calls _ _ _ _ (Fbk.RetR w (putLB (its ps)) (putLE (its ps)))
    clear hi ho hd hc hln
    generalize putLB (its ps) = ys at *
    generalize putLE (its ps) = m at *
    go_enter Try.func15, Try.ntmps15
    go_wp2_with fail
    have hb0 := ((Below.refl w.heap.size w).alloc (Nat.le_refl _) (mobj zpv 0 false false 0)).alloc (by simp) (fobj A n c)
    generalize (w.alloc (mobj zpv 0 false false 0)).alloc (fobj A n c) = w0 at *
    refine (CP.out w0 hb0).mono ?_
    rintro e w2 ⟨A', c', rfl, ho2, hb2⟩
    have HB2 := Lib.hid (hb0.trans (hb2.mono hb0.size))
    have HO3 := Lib.hid (ho2.lower hb0.size)
    clear hb0 hb2 ho2 CP
    go_wp2
    exact ret_two Try.results15 ⟨A', c', rfl, HO3.out, HB2.out⟩
end Go.Proofs.Ythmmafpmpnhleaa.Sft

namespace Go.Proofs.Ythmmafpmpnhleaa.Sft
open Go.RowKit
open Rtp (PV pkt pobj PBlk pvOf PRd zpv Off)
open Fbk (ILoc IRd ItsRd ItsOwn its OkL)
set_option linter.unusedVariables false

def flP : Ev → Pkt
  | .media p _ _ _ _ => p
  | _ => zeroPkt
def flL : Ev → Int
  | .media _ l _ _ _ => l
  | _ => 0
def flK : Ev → Bool
  | .media _ _ k _ _ => k
  | _ => false
def flS : Ev → Bool
  | .media _ _ _ s _ => s
  | _ => false
def flF : Ev → Int
  | .media _ _ _ _ f => f
  | _ => 0
def flI : Ev → List Itm
  | .feed is => is
  | _ => []
def RetF (w : World) (ev : Ev) (e : Ending) (w' : World) : Prop :=
  ∃ lc A c ps, e = .returned (.tuple #[pkt (pvOf (flP ev) lc), dsc (flL ev) (flK ev) (flS ev) (flF ev), .slice A (flI ev).length c]) ∧ PRd w' w'.heap.size (flP ev) lc ∧ ItsRd w' w'.heap.size A (flI ev).length ps ∧ its ps = flI ev ∧ Below w.heap.size w w'
theorem its_same {w w' : World} {B B' n : Nat} {a : Option Addr} {ps : List (Itm × ILoc)} (h : ItsRd w B a n ps) (hk : ∀ i : Nat, w'.heap[i]? = w.heap[i]?) (hB : B ≤ B') : ItsRd w' B' a n ps := by
  refine ItsRd.more (show ItsRd w' B a n ps from ⟨⟨h.row.1, fun hn => ?_⟩, fun p hp => (h.each p hp).keep fun k _ _ => hk k⟩) hB
  obtain ⟨b, off, e, hlt, hc⟩ := h.row.2 hn
  exact ⟨b, off, e, hlt, fun i x hx j v hv => (Fbk.cell_of_heap (hk b)).trans (hc i x hx j v hv)⟩
theorem prd_zero (w : World) (B : Nat) : PRd w B zeroPkt ⟨none, 0, none, 0, none, 0⟩ := ⟨Wd.none_ _ rfl, Rd.none_ _ rfl, Rd.none_ _ rfl, Nat.zero_le _, Nat.zero_le _, Nat.zero_le _, Nat.le_refl _, Nat.le_refl _, Nat.le_refl _⟩

set_option maxHeartbeats 4000000 in
theorem flat_none (w : World) : Calls Try.prog 12 #[.nilIface] w (RetF w .none) := by
  have h1 := as_mn
  have h2 := as_fn
  go_enter Try.func12, Try.ntmps12
  go_upto_region 7 with (fail)
  obtain ⟨w4, hw⟩ : ∃ w4, (((w.alloc (pobj zpv)).alloc D0).alloc (mobj zpv 0 false false 0)).alloc (fobj none 0 0) = w4 := ⟨_, rfl⟩
  have D : PBlk w4 w.heap.size zpv := by
    subst hw
    exact (((PBlk.new w zpv).below ((Below.refl (w.alloc (pobj zpv)).heap.size _).alloc (Nat.le_refl _) D0) (by simp)).below ((Below.refl ((w.alloc (pobj zpv)).alloc D0).heap.size _).alloc (Nat.le_refl _) (mobj zpv 0 false false 0)) (by simp <;> omega)).below ((Below.refl (((w.alloc (pobj zpv)).alloc D0).alloc (mobj zpv 0 false false 0)).heap.size _).alloc (Nat.le_refl _) (fobj none 0 0)) (by simp <;> omega)
  have E : DBlk w4 (w.heap.size + 1) 0 false false 0 := by
    subst hw
    have := DBlk.new (w.alloc (pobj zpv)) 0 false false 0
    rw [show (w.alloc (pobj zpv)).heap.size = w.heap.size + 1 from by simp] at this
    exact (this.below ((Below.refl ((w.alloc (pobj zpv)).alloc D0).heap.size _).alloc (Nat.le_refl _) (mobj zpv 0 false false 0)) (by simp)).below ((Below.refl (((w.alloc (pobj zpv)).alloc D0).alloc (mobj zpv 0 false false 0)).heap.size _).alloc (Nat.le_refl _) (fobj none 0 0)) (by simp <;> omega)
  have HB : Hid (Below w.heap.size w w4) := by
    subst hw
    exact ((((Below.refl w.heap.size w).alloc (Nat.le_refl _) (pobj zpv)).alloc (by simp) D0).alloc (by simp <;> omega) (mobj zpv 0 false false 0)).alloc (by simp <;> omega) (fobj none 0 0)
  rw [hw]
  clear hw
  have HM := Lib.hid (MW_at (u := zpv) (l' := 0) (k' := false) (s' := false) (f' := 0) D E (by omega) HB.out (Nat.le_refl _) (by omega))
  obtain ⟨f0, f1, f2, f3, f4, f5, f6, f7, f8, f9, f10, g0, g1, g2, g3, g4, g5, g6, g7, g8, g9, g10⟩ := D.cf
  have i0 := E.c0
  have i1 := E.c1
  have i2 := E.c2
  have i3 := E.c3
  have j0 := E.frozen 0
  have j1 := E.frozen 1
  have j2 := E.frozen 2
  have j3 := E.frozen 3
  clear D E
  go_wp2
  obtain ⟨m1, m2, m3, -, -⟩ := HM.out
  refine ret_pd (v := zpv) Try.results12 m1 m2 ⟨⟨none, 0, none, 0, none, 0⟩, none, 0, [], rfl, prd_zero _ _, ItsRd.nil _ _ _, rfl, m3⟩

set_option maxHeartbeats 4000000 in
theorem flat_feed (w : World) (A : Option Addr) (n c : Nat) (ps : List (Itm × ILoc)) (hi : ItsRd w w.heap.size A n ps) (hd : EvBd (.feed (its ps))) :
    Calls Try.prog 12 #[.iface 52 (fval A n c)] w (RetF w (.feed (its ps))) := by
  have h1 := as_mf
  have h2 := as_ff
  have hil : (its ps).length = n := by simp [its, hi.len]
  have CC : Hid (∀ W, Below w.heap.size w W → Calls Try.prog 30 #[.slice A n c] W (RetC W (its ps))) := fun W hW => copiedItems_any A n c W.heap.size ps W (hi.bel hW) (Nat.le_refl _) (hil ▸ hd.1) hd.2
  clear hi hd hil
  generalize its ps = is at *
  go_enter Try.func12, Try.ntmps12
  go_wp2_with fail
  obtain ⟨w4, hw⟩ : ∃ w4, (((w.alloc (pobj zpv)).alloc D0).alloc (mobj zpv 0 false false 0)).alloc (fobj A n c) = w4 := ⟨_, rfl⟩
  have D : PBlk w4 w.heap.size zpv := by
    subst hw
    exact (((PBlk.new w zpv).below ((Below.refl (w.alloc (pobj zpv)).heap.size _).alloc (Nat.le_refl _) D0) (by simp)).below ((Below.refl ((w.alloc (pobj zpv)).alloc D0).heap.size _).alloc (Nat.le_refl _) (mobj zpv 0 false false 0)) (by simp <;> omega)).below ((Below.refl (((w.alloc (pobj zpv)).alloc D0).alloc (mobj zpv 0 false false 0)).heap.size _).alloc (Nat.le_refl _) (fobj A n c)) (by simp <;> omega)
  have E : DBlk w4 (w.heap.size + 1) 0 false false 0 := by
    subst hw
    have := DBlk.new (w.alloc (pobj zpv)) 0 false false 0
    rw [show (w.alloc (pobj zpv)).heap.size = w.heap.size + 1 from by simp] at this
    exact (this.below ((Below.refl ((w.alloc (pobj zpv)).alloc D0).heap.size _).alloc (Nat.le_refl _) (mobj zpv 0 false false 0)) (by simp)).below ((Below.refl (((w.alloc (pobj zpv)).alloc D0).alloc (mobj zpv 0 false false 0)).heap.size _).alloc (Nat.le_refl _) (fobj A n c)) (by simp <;> omega)
  have hb4 : Below w.heap.size w w4 := by
    subst hw
    exact ((((Below.refl w.heap.size w).alloc (Nat.le_refl _) (pobj zpv)).alloc (by simp) D0).alloc (by simp <;> omega) (mobj zpv 0 false false 0)).alloc (by simp <;> omega) (fobj A n c)
  rw [hw]
  clear hw
  refine (CC.out w4 hb4).mono ?_
  rintro e w5 ⟨A', c', ps', rfl, he, ho, hb5⟩
  have HB := Lib.hid (hb4.trans (hb5.mono hb4.size))
  have D5 := D.below hb5 D.lt
  have E5 := E.below hb5 E.lt
  have HO := Lib.hid ho.rd
  have HE := Lib.hid he
  clear hb4 hb5 D E ho he CC
  have HM := Lib.hid (MW_at (u := zpv) (l' := 0) (k' := false) (s' := false) (f' := 0) D5 E5 (by omega) HB.out (Nat.le_refl _) (by omega))
  have HZ := Lib.hid (MW_zero D5 E5 (by omega))
  obtain ⟨f0, f1, f2, f3, f4, f5, f6, f7, f8, f9, f10, g0, g1, g2, g3, g4, g5, g6, g7, g8, g9, g10⟩ := D5.cf
  have i0 := E5.c0
  have i1 := E5.c1
  have i2 := E5.c2
  have i3 := E5.c3
  have j0 := E5.frozen 0
  have j1 := E5.frozen 1
  have j2 := E5.frozen 2
  have j3 := E5.frozen 3
  clear D5 E5
  go_wp2
  obtain ⟨m1, m2, m3, m4, -⟩ := HM.out
  refine ret_pd (v := zpv) Try.results12 m1 m2 ⟨⟨none, 0, none, 0, none, 0⟩, A', c', ps', rfl, prd_zero _ _, its_same HO.out HZ.out m4, HE.out, m3⟩

set_option maxHeartbeats 4000000 in
theorem flat_media (w : World) (p : Pkt) (lc : Rtp.Loc) (l : Int) (k s : Bool) (f : Int) (hq : PRd w w.heap.size p lc) (hd : EvBd (.media p l k s f)) :
    Calls Try.prog 12 #[.iface 50 (mval (pvOf p lc) l k s f)] w (RetF w (.media p l k s f)) := by
  have h1 := as_mm
  have CC : Hid (∀ W, Below w.heap.size w W → Calls Try.prog 29 #[pkt (pvOf p lc)] W (RetK W p)) := fun W hW => copiedPacket_any W W.heap.size p lc ((hq.below hW).more hW.size) (Nat.le_refl _) hd
  obtain ⟨v, hv⟩ : ∃ v, pvOf p lc = v := ⟨_, rfl⟩
  rw [hv] at CC ⊢
  clear hq hd hv
  go_enter Try.func12, Try.ntmps12
  go_wp2_with fail
  obtain ⟨w4, hw⟩ : ∃ w4, ((w.alloc (pobj zpv)).alloc D0).alloc (mobj v l k s f) = w4 := ⟨_, rfl⟩
  have D : PBlk w4 w.heap.size zpv := by
    subst hw
    exact ((PBlk.new w zpv).below ((Below.refl (w.alloc (pobj zpv)).heap.size _).alloc (Nat.le_refl _) D0) (by simp)).below ((Below.refl ((w.alloc (pobj zpv)).alloc D0).heap.size _).alloc (Nat.le_refl _) (mobj v l k s f)) (by simp <;> omega)
  have E : DBlk w4 (w.heap.size + 1) 0 false false 0 := by
    subst hw
    have := DBlk.new (w.alloc (pobj zpv)) 0 false false 0
    rw [show (w.alloc (pobj zpv)).heap.size = w.heap.size + 1 from by simp] at this
    exact this.below ((Below.refl ((w.alloc (pobj zpv)).alloc D0).heap.size _).alloc (Nat.le_refl _) (mobj v l k s f)) (by simp)
  have M : MBlk w4 (w.heap.size + 1 + 1) v l k s f := by
    subst hw
    have := MBlk.new ((w.alloc (pobj zpv)).alloc D0) v l k s f
    rw [show ((w.alloc (pobj zpv)).alloc D0).heap.size = w.heap.size + 1 + 1 from by simp] at this
    exact this
  have hb4 : Below w.heap.size w w4 := by
    subst hw
    exact (((Below.refl w.heap.size w).alloc (Nat.le_refl _) (pobj zpv)).alloc (by simp) D0).alloc (by simp <;> omega) (mobj v l k s f)
  rw [hw]
  clear hw
  have hs0 := M.lt
  have hS : MBlk w4.drew (w.heap.size + 1 + 1) v l k s f := M
  have HD := Lib.hid (show PBlk w4.drew w.heap.size zpv from D)
  have HE := Lib.hid (show DBlk w4.drew (w.heap.size + 1) 0 false false 0 from E)
  have HB4 : Hid (Below w.heap.size w w4.drew) := hb4.drew
  have HS4 : Hid (w.heap.size + 1 + 1 < w4.drew.heap.size) := hs0
  clear M D E hb4 hs0
  have q0 : ∀ W, MBlk W (w.heap.size + 1 + 1) v l k s f → W.cell? ⟨w.heap.size + 1 + 1, 0, none⟩ = some (.bool v.mrk) := fun W h => h.pc.1
  have q1 : ∀ W, MBlk W (w.heap.size + 1 + 1) v l k s f → W.cell? ⟨w.heap.size + 1 + 1, 1, none⟩ = some (.int .i64 v.ty) := fun W h => h.pc.2.1
  have q2 : ∀ W, MBlk W (w.heap.size + 1 + 1) v l k s f → W.cell? ⟨w.heap.size + 1 + 1, 2, none⟩ = some (.int .u16 v.seq) := fun W h => h.pc.2.2.1
  have q3 : ∀ W, MBlk W (w.heap.size + 1 + 1) v l k s f → W.cell? ⟨w.heap.size + 1 + 1, 3, none⟩ = some (.int .u32 v.time) := fun W h => h.pc.2.2.2.1
  have q4 : ∀ W, MBlk W (w.heap.size + 1 + 1) v l k s f → W.cell? ⟨w.heap.size + 1 + 1, 4, none⟩ = some (.int .u32 v.ssrc) := fun W h => h.pc.2.2.2.2.1
  have q5 : ∀ W, MBlk W (w.heap.size + 1 + 1) v l k s f → W.cell? ⟨w.heap.size + 1 + 1, 5, none⟩ = some (.slice v.ca v.cn v.cc) := fun W h => h.pc.2.2.2.2.2.1
  have q6 : ∀ W, MBlk W (w.heap.size + 1 + 1) v l k s f → W.cell? ⟨w.heap.size + 1 + 1, 6, none⟩ = some (.bool v.he) := fun W h => h.pc.2.2.2.2.2.2.1
  have q7 : ∀ W, MBlk W (w.heap.size + 1 + 1) v l k s f → W.cell? ⟨w.heap.size + 1 + 1, 7, none⟩ = some (.int .u16 v.prof) := fun W h => h.pc.2.2.2.2.2.2.2.1
  have q8 : ∀ W, MBlk W (w.heap.size + 1 + 1) v l k s f → W.cell? ⟨w.heap.size + 1 + 1, 8, none⟩ = some (.slice v.ea v.en v.ec) := fun W h => h.pc.2.2.2.2.2.2.2.2.1
  have q9 : ∀ W, MBlk W (w.heap.size + 1 + 1) v l k s f → W.cell? ⟨w.heap.size + 1 + 1, 9, none⟩ = some (.slice v.pa v.pn v.pc) := fun W h => h.pc.2.2.2.2.2.2.2.2.2.1
  have q10 : ∀ W, MBlk W (w.heap.size + 1 + 1) v l k s f → W.cell? ⟨w.heap.size + 1 + 1, 10, none⟩ = some (.int .i64 v.pad) := fun W h => h.pc.2.2.2.2.2.2.2.2.2.2
  have q11 : ∀ W, MBlk W (w.heap.size + 1 + 1) v l k s f → W.cell? ⟨w.heap.size + 1 + 1, 11, none⟩ = some (.int .i64 l) := fun W h => h.dc.1
  have q12 : ∀ W, MBlk W (w.heap.size + 1 + 1) v l k s f → W.cell? ⟨w.heap.size + 1 + 1, 12, none⟩ = some (.bool k) := fun W h => h.dc.2.1
  have q13 : ∀ W, MBlk W (w.heap.size + 1 + 1) v l k s f → W.cell? ⟨w.heap.size + 1 + 1, 13, none⟩ = some (.bool s) := fun W h => h.dc.2.2.1
  have q14 : ∀ W, MBlk W (w.heap.size + 1 + 1) v l k s f → W.cell? ⟨w.heap.size + 1 + 1, 14, none⟩ = some (.int .u16 f) := fun W h => h.dc.2.2.2
  generalize hg : w.heap.size + 1 + 1 = g at *
  refine region_seq (fun W => MBlk W g v l k s f) [(0, false), (1, false), (3, false), (4, false), (2, true), (5, true), (6, true), (7, false)] (by kernel_rfl) (by kernel_rfl) rfl (by kernel_rfl) ?_
  generalize w4.drew = u0 at *
  iterate 4 (refine seq_read (v := _) rfl (fun _ _ _ h => h) hS (Or.inl ⟨by rfl, fun W hW => by go_simp <;> with_reducible rfl⟩) ?_; simp only [Act.put, List.setIfInBounds_toArray, List.set_cons_zero, List.set_cons_succ])
  clear q0 q1 q2 q3 q4 q5 q6 q7 q8 q9 q10 q11 q12 q13 q14
  refine seq_do rfl (fun K hK => ?_)
  go_simp
  refine (CC.out _ HB4.out).mono ?_
  rintro e w5 ⟨lc', rfl, hq', hnw, hb5⟩
  obtain ⟨v', hv'⟩ : ∃ v', pvOf p lc' = v' := ⟨_, rfl⟩
  rw [hv']
  have HV := Lib.hid hv'
  have HB5 := Lib.hid (HB4.out.trans (hb5.mono HB4.out.size))
  have hS5 : MBlk w5 g v l k s f := hS.below hb5 hS.lt
  have D5 : PBlk w5 w.heap.size zpv := HD.out.below hb5 HD.out.lt
  have E5 : DBlk w5 (w.heap.size + 1) 0 false false 0 := HE.out.below hb5 HE.out.lt
  have HQ5 := Lib.hid hq'
  have HNW : Hid (Rtp.PNw (w.heap.size + 2) p lc') := by
    have := HS4.out
    exact ⟨fun h => (hnw.csrc h).imp fun a ha => ⟨ha.1, by have := ha.2; omega⟩, fun h => (hnw.ext h).imp fun a ha => ⟨ha.1, by have := ha.2; omega⟩, fun h => (hnw.pay h).imp fun a ha => ⟨ha.1, by have := ha.2; omega⟩⟩
  refine hK.out _ _ _ (fun W h => h) hS5 ?_
  clear hK K hb5 hq' hnw hv' CC hS HD HE HB4 HS4
  have HM := Lib.hid (MW_at (u := v') (l' := l) (k' := k) (s' := s) (f' := f) D5 E5 (by omega) HB5.out (Nat.le_refl _) (by omega))
  obtain ⟨f0, f1, f2, f3, f4, f5, f6, f7, f8, f9, f10, g0, g1, g2, g3, g4, g5, g6, g7, g8, g9, g10⟩ := D5.cf
  have i0 := E5.c0
  have i1 := E5.c1
  have i2 := E5.c2
  have i3 := E5.c3
  have j0 := E5.frozen 0
  have j1 := E5.frozen 1
  have j2 := E5.frozen 2
  have j3 := E5.frozen 3
  clear D5 E5
  have hs1 : g ≠ w.heap.size := by omega
  have hs2 : g ≠ w.heap.size + 1 := by omega
  generalize hr : w.heap.size + 1 = r at *
  refine seq_do rfl (fun K hK => ?_)
  go_simp
  have HO := Rtp.off_pstore w.heap.size w5 (.bool v'.mrk) (.int .i64 v'.ty) (.int .u16 v'.seq) (.int .u32 v'.time) (.int .u32 v'.ssrc) (.slice v'.ca v'.cn v'.cc) (.bool v'.he) (.int .u16 v'.prof) (.slice v'.ea v'.en v'.ec) (.slice v'.pa v'.pn v'.pc) (.int .i64 v'.pad)
  have hS6 : MBlk (PW w5 w.heap.size v') g v l k s f := (HO g hs1).trans hS5
  refine hK.out _ _ (fun W => MBlk W g v l k s f) (fun W h => h) hS6 ?_
  clear hK K
  refine seq_do rfl (fun K hK => ?_)
  go_simp
  have hS7 : MBlk (DW (PW w5 w.heap.size v') r l k s f) g v l k s f := (off_dstore r (PW w5 w.heap.size v') (.int .i64 l) (.bool k) (.bool s) (.int .u16 f) g hs2).trans hS6
  refine hK.out _ _ (fun W => MBlk W g v l k s f) (fun W h => h) hS7 ?_
  clear hK K HO
  iterate 1 (refine seq_read (v := _) rfl (fun _ _ _ h => h) hS7 (Or.inl ⟨by rfl, fun W hW => by go_simp <;> with_reducible rfl⟩) ?_; simp only [Act.put, List.setIfInBounds_toArray, List.set_cons_zero, List.set_cons_succ])
  refine seq_end ?_
  clear f0 f1 f2 f3 f4 f5 f6 f7 f8 f9 f10 g0 g1 g2 g3 g4 g5 g6 g7 g8 g9 g10 i0 i1 i2 i3 j0 j1 j2 j3
  go_wp2
  obtain ⟨m1, m2, m3, m4, m5⟩ := HM.out
  have m6 : PRd (MW w5 w.heap.size r v' l k s f) (MW w5 w.heap.size r v' l k s f).heap.size p lc' := (Rtp.PRd.far (b := w.heap.size + 2) HQ5.out HNW.out (fun i hi => m5 i (by omega) (by omega))).more m4
  refine ret_pd (W := MW w5 w.heap.size r v' l k s f) (v := v') Try.results12 m1 m2 ⟨lc', none, 0, [], by show _ = Ending.returned (.tuple #[pkt (pvOf p lc'), _, _]); rw [HV.out]; rfl, m6, ItsRd.nil _ _ _, rfl, m3⟩
theorem flat_any (w : World) (ev : Ev) (V : Value) (h : EvRd w w.heap.size ev V) (hd : EvBd ev) : Calls Try.prog 12 #[V] w (RetF w ev) := by
  cases h with
  | none => exact flat_none w
  | media p lc l k s f hq => exact flat_media w p lc l k s f hq hd
  | feed A n c ps hi hc => exact flat_feed w A n c ps hi hd
end Go.Proofs.Ythmmafpmpnhleaa.Sft
