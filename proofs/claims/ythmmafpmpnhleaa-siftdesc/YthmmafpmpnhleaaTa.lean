/- What a datagram is: an event as a value; the contracts of sift.feedback, media, Of, and of Kind. -/
import Derived.Test.YthmmafpmpnhleaaKr
import Derived.Test.YthmmafpmpnhleaaDd
import Derived.Test.YthmmafpmpnhleaaVo
import Derived.Stop.Asserts
set_option maxRecDepth 100000
namespace Go.Proofs.Ythmmafpmpnhleaa.Sft
open Go.RowKit
open Rtp (PV pkt pobj PBlk pvOf PRd GRet gP)
open Fbk (ILoc ItsRd ItsOwn its RetIts getLE getLV)
set_option linter.unusedVariables false

/-- What a datagram can be. -/
inductive Ev where
  | none
  | media (p : Pkt) (l : Int) (k s : Bool) (f : Int)
  | feed (is : List Itm)
abbrev mval (v : PV) (l : Int) (k s : Bool) (f : Int) : Value :=
  .agg #[.bool v.mrk, .int .i64 v.ty, .int .u16 v.seq, .int .u32 v.time, .int .u32 v.ssrc, .slice v.ca v.cn v.cc, .bool v.he, .int .u16 v.prof, .slice v.ea v.en v.ec, .slice v.pa v.pn v.pc, .int .i64 v.pad, .int .i64 l, .bool k, .bool s, .int .u16 f]
abbrev fval (A : Option Addr) (n c : Nat) : Value := .agg #[.slice A n c]
/-- An event, as a value; its lists lie below block B. -/
inductive EvRd (w : World) (B : Nat) : Ev → Value → Prop
  | none : EvRd w B .none .nilIface
  | media (p : Pkt) (lc : Rtp.Loc) (l : Int) (k s : Bool) (f : Int) : PRd w B p lc → EvRd w B (.media p l k s f) (.iface 50 (mval (pvOf p lc) l k s f))
  | feed (A : Option Addr) (n c : Nat) (ps : List (Itm × ILoc)) : ItsRd w B A n ps → n ≤ c → EvRd w B (.feed (its ps)) (.iface 52 (fval A n c))
theorem EvRd.bel {w w' : World} {ev : Ev} {V : Value} (h : EvRd w w.heap.size ev V) (hb : Below w.heap.size w w') : EvRd w' w'.heap.size ev V := by
  cases h with
  | none => exact .none
  | media p lc l k s f h => exact .media p lc l k s f ((h.below hb).more hb.size)
  | feed A n c ps h hc => exact .feed A n c ps (h.bel hb) hc
def RetE (w : World) (ev : Ev) (n : Int) (e : Ending) (w' : World) : Prop := ∃ V, e = .returned (.tuple #[V, .int .i64 n]) ∧ EvRd w' w'.heap.size ev V ∧ Below w.heap.size w w'

def sideB (xs : List Int) : Bool := decide (192 ≤ xs.getD 1 0) && decide (xs.getD 1 0 ≤ 223)
def medE (xs : List Int) : Int := if pE xs = 0 then gE (pQ xs).pay else pE xs
def medV (xs : List Int) : Ev := if medE xs = 0 then .media (pQ xs) (gL (pQ xs).pay) (gK (pQ xs).pay) (gS (pQ xs).pay) (gF (pQ xs).pay) else .none
def feeV (xs : List Int) : Ev := if getLE xs = 0 then .feed (getLV xs) else .none
def ofE (xs : List Int) : Int := if 512 < xs.length then 5 else if xs.length < 2 then 2 else if sideB xs then getLE xs else medE xs
def ofV (xs : List Int) : Ev := if 512 < xs.length then .none else if xs.length < 2 then .none else if sideB xs then feeV xs else medV xs

theorem ret_two {f : Func} {V U : Value} {R : Ending → World → Prop} {W : World} {tmps : Array Value} (hf : f.results = #[.tmp 2, .tmp 3]) (hR : R (.returned (.tuple #[V, U])) W) (h2 : tmps[2]?.getD undef = V := by rfl) (h3 : tmps[3]?.getD undef = U := by rfl) :
    bodyPost Try.prog f R .ret ⟨tmps, []⟩ W := bodyPost_ret (v := .tuple #[V, U]) (by simp [results, hf, go_sem, h2, h3]) rfl hR

-- Facts of this program's types.
theorem mk_media (x : Value) (w : World) : (Instr.makeInterface 50 x).run Try.prog w = .ok (.iface 50 x) w := run_makeInterface w 50 x (by kernel_rfl)
theorem mk_feed (x : Value) (w : World) : (Instr.makeInterface 52 x).run Try.prog w = .ok (.iface 52 x) w := run_makeInterface w 52 x (by kernel_rfl)

set_option maxHeartbeats 1000000 in
theorem kindM_any (v : PV) (l : Int) (k s : Bool) (f : Int) (w : World) : Calls Try.prog 126 #[mval v l k s f] w fun e w' => e = .returned (.int .i64 1) ∧ Below w.heap.size w w' := by
  go_enter Try.func126, Try.ntmps126
  go_wp2
  go_ret
  exact ⟨rfl, (Below.refl _ _).alloc (Nat.le_refl _) _⟩
set_option maxHeartbeats 1000000 in
theorem kindF_any (A : Option Addr) (n c : Nat) (w : World) : Calls Try.prog 127 #[fval A n c] w fun e w' => e = .returned (.int .i64 2) ∧ Below w.heap.size w w' := by
  go_enter Try.func127, Try.ntmps127
  go_wp2
  go_ret
  exact ⟨rfl, (Below.refl _ _).alloc (Nat.le_refl _) _⟩

set_option maxHeartbeats 2000000 in
theorem feedback_any (a : Option Addr) (n c B : Nat) (xs : List Int) (w : World) (hlc : n ≤ c) (hr : Rd w B a n xs) (hB : B ≤ w.heap.size) :
    Calls Try.prog 25 #[.slice a n c] w (RetE w (feeV xs) (getLE xs)) := by
  have CG := Fbk.rc_get a n c B xs w hlc hr hB
  have hmk := mk_feed
  unfold feeV
  by_cases h : getLE xs = 0
  · rw [if_pos h]
    rw [h] at CG ⊢
    generalize getLV xs = is at *
    have HC := Lib.hid CG
    clear CG hr h
    go_enter Try.func25, Try.ntmps25
    go_wp2_with fail
    refine HC.out.mono ?_
    rintro e w1 ⟨A, c1, ps, rfl, rfl, ho, hb1⟩
    obtain ⟨m, hm⟩ : ∃ m, (its ps).length = m := ⟨_, rfl⟩
    rw [hm] at ho ⊢
    have HO := Lib.hid ho
    clear ho HC
    go_wp2
    exact ret_two Try.results25 ⟨_, rfl, .feed A m c1 ps HO.out.rd HO.out.row.2.1, hb1⟩
  · rw [if_neg h]
    have hn : (getLE xs != 0) = true := by simpa using h
    generalize getLE xs = n1 at *
    have HC := Lib.hid CG
    clear CG hr h
    go_enter Try.func25, Try.ntmps25
    go_wp2_with fail
    refine HC.out.mono ?_
    rintro e w1 ⟨A, c1, ps, rfl, -, -, hb1⟩
    clear HC
    go_wp2
    exact ret_two Try.results25 ⟨_, rfl, .none, hb1⟩
set_option maxHeartbeats 4000000 in
theorem media_any (a : Option Addr) (n c B : Nat) (xs : List Int) (w : World) (hl : n ≤ maxLen) (hlc : n ≤ c) (hr : Rd w B a n xs) (hB : B ≤ w.heap.size) :
    Calls Try.prog 26 #[.slice a n c] w (RetE w (medV xs) (medE xs)) := by
  have CG := Rtp.get_any a n c B xs w hl hlc hr hB
  have hmk := mk_media
  unfold medV medE
  by_cases h : pE xs = 0
  · rw [if_pos h]
    rw [gP, if_pos h, h] at CG
    generalize pQ xs = p at *
    have CD : Hid (∀ W A n c, Rd W W.heap.size A n p.pay → n ≤ maxLen → Calls Try.prog 22 #[.slice A n c] W (RetG W (gL p.pay) (gK p.pay) (gS p.pay) (gF p.pay) (gE p.pay))) := fun W A n c h h2 => get_any A n c _ _ W h2 h (Nat.le_refl _)
    have HC := Lib.hid CG
    clear CG hr h
    generalize gL p.pay = l at *
    generalize gK p.pay = k at *
    generalize gS p.pay = s at *
    generalize gF p.pay = f at *
    generalize gE p.pay = m at *
    have hmm : m = 0 ∨ (m != 0) = true := by by_cases h : m = 0 <;> simp [h]
    obtain ⟨ev, hev⟩ : ∃ ev, (if m = 0 then Ev.media p l k s f else .none) = ev := ⟨_, rfl⟩
    rw [hev]
    have HE := Lib.hid hev
    clear hev
    go_enter Try.func26, Try.ntmps26
    go_wp2_with fail
    refine HC.out.mono ?_
    rintro e w1 ⟨lc, rfl, hq, hb1⟩
    obtain ⟨v, hv⟩ : ∃ v, pvOf p lc = v := ⟨_, rfl⟩
    rw [hv]
    have hb1' := (Below.refl w1.heap.size w1).alloc (Nat.le_refl _) (pobj v)
    have F2 := PBlk.new w1 v
    have HB2 := Lib.hid (hb1.alloc hb1.size (pobj v))
    have hq2 := (hq.below hb1').more hb1'.size
    have CD2 : Calls Try.prog 22 #[.slice v.pa v.pn v.pc] (w1.alloc (pobj v)) (RetG (w1.alloc (pobj v)) l k s f m) := by
      subst hv
      exact CD.out _ _ _ _ hq2.pay (Nat.le_trans hq2.pn (by decide))
    have HD := Lib.hid CD2
    have HQ2 := Lib.hid hq2
    have HV := Lib.hid hv
    have f9 := F2.c9
    clear CD CD2 hq2 hv hb1 hb1' hq HC
    go_wp2_with fail
    generalize w1.alloc (pobj v) = w2 at *
    generalize w1.heap.size = q at *
    refine HD.out.mono ?_
    rintro e w3 ⟨rfl, hb3⟩
    have hb3' := (Below.refl w3.heap.size w3).alloc (Nat.le_refl _) (.cells #[.int .i64 l, .bool k, .bool s, .int .u16 f] 35)
    have hb34 := hb3.trans (hb3'.mono hb3.size)
    have HB4 := Lib.hid (HB2.out.trans (hb34.mono HB2.out.size))
    have F4 := F2.below hb34 F2.lt
    have G4 := DBlk.new w3 l k s f
    have HQ4 := Lib.hid ((HQ2.out.below hb34).more hb34.size)
    clear HD HB2 hb3 hb3' hb34 F2 HQ2 f9
    rcases hmm with rfl | hm
    · have HE2 := Lib.hid (show ev = .media p l k s f from HE.out.symm)
      obtain ⟨f0, f1, f2, f3, f4, f5, f6, f7, f8, f9, f10⟩ := F4.cells
      have g0 := G4.c0
      have g1 := G4.c1
      have g2 := G4.c2
      have g3 := G4.c3
      clear F4 G4
      go_wp2
      refine ret_two (V := .iface 50 (mval v l k s f)) Try.results26 ⟨_, rfl, ?_, HB4.out⟩
      rw [HE2.out]
      have := EvRd.media p lc l k s f HQ4.out
      rw [HV.out] at this
      exact this
    · have HE2 := Lib.hid (show ev = .none by rw [← HE.out, if_neg (by simpa using hm)])
      clear F4 G4
      go_wp2
      exact ret_two Try.results26 ⟨_, rfl, (by rw [HE2.out]; exact .none), HB4.out⟩
  · rw [if_neg h]
    rw [if_neg h]
    have hn : (pE xs != 0) = true := by simpa using h
    generalize pE xs = n1 at *
    have HC := Lib.hid CG
    clear CG hr h
    go_enter Try.func26, Try.ntmps26
    go_wp2_with fail
    refine HC.out.mono ?_
    rintro e w1 ⟨lc, rfl, -, hb1⟩
    obtain ⟨v, hv⟩ : ∃ v, pvOf (gP xs) lc = v := ⟨_, rfl⟩
    rw [hv]
    have HB2 := Lib.hid (hb1.alloc hb1.size (pobj v))
    clear HC hb1 hv
    go_wp2
    exact ret_two Try.results26 ⟨_, rfl, .none, HB2.out⟩

set_option maxHeartbeats 2000000 in
theorem of_any (a : Option Addr) (n c B : Nat) (xs : List Int) (w : World) (hl : n ≤ maxLen) (hlc : n ≤ c) (hr : Rd w B a n xs) (hB : B ≤ w.heap.size) :
    Calls Try.prog 9 #[.slice a n c] w (RetE w (ofV xs) (ofE xs)) := by
  have hlen := hr.1
  unfold ofV ofE
  rw [hlen]
  by_cases h5 : 512 < n
  · rw [if_pos h5, if_pos h5]
    clear hr hlen
    go_enter Try.func9, Try.ntmps9
    go_wp2
    exact ret_two Try.results9 ⟨_, rfl, .none, Below.refl _ _⟩
  rw [if_neg h5, if_neg h5]
  by_cases h2 : n < 2
  · rw [if_pos h2, if_pos h2]
    clear hr hlen
    go_enter Try.func9, Try.ntmps9
    go_wp2
    exact ret_two Try.results9 ⟨_, rfl, .none, Below.refl _ _⟩
  rw [if_neg h2, if_neg h2]
  obtain ⟨b, off, rfl, hbB, hc⟩ := hr.2.2 (by omega)
  have c1 : w.cell? ⟨b, off + 1, none⟩ = some (.int .u8 (xs.getD 1 0)) := hc 1 (by omega)
  have CF := Lib.hid (feedback_any (some ⟨b, off, none⟩) n c B xs w hlc hr hB)
  have CM := Lib.hid (media_any (some ⟨b, off, none⟩) n c B xs w hl hlc hr hB)
  unfold sideB
  clear hr hc hlen
  generalize xs.getD 1 0 = x at *
  generalize feeV xs = v1 at *
  generalize getLE xs = n1 at *
  generalize medV xs = v2 at *
  generalize medE xs = n2 at *
  by_cases hx : 192 ≤ x
  · by_cases hy : x ≤ 223
    · rw [if_pos (by simp [hx, hy]), if_pos (by simp [hx, hy])]
      clear CM
      go_enter Try.func9, Try.ntmps9
      go_wp2_with fail
      refine CF.out.mono ?_
      rintro e w1 ⟨V, rfl, hv, hb⟩
      have HV := Lib.hid hv
      clear hv CF
      go_wp2
      exact ret_two Try.results9 ⟨_, rfl, HV.out, hb⟩
    · rw [if_neg (by simp [hy]), if_neg (by simp [hy])]
      clear CF
      go_enter Try.func9, Try.ntmps9
      go_wp2_with fail
      refine CM.out.mono ?_
      rintro e w1 ⟨V, rfl, hv, hb⟩
      have HV := Lib.hid hv
      clear hv CM
      go_wp2
      exact ret_two Try.results9 ⟨_, rfl, HV.out, hb⟩
  · rw [if_neg (by simp [hx]), if_neg (by simp [hx])]
    clear CF
    go_enter Try.func9, Try.ntmps9
    go_wp2_with fail
    refine CM.out.mono ?_
    rintro e w1 ⟨V, rfl, hv, hb⟩
    have HV := Lib.hid hv
    clear hv CM
    go_wp2
    exact ret_two Try.results9 ⟨_, rfl, HV.out, hb⟩
end Go.Proofs.Ythmmafpmpnhleaa.Sft
