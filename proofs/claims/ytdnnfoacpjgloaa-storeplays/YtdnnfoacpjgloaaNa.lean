/- The contracts of patch.isMedia, number, descriptor. · The contracts of patch.Seq, Time, Ssrc: written by wip/gen/nb.py. · The contract of patch.Frame. · The contracts of patch.Apply, Of. -/
import Derived.Test.YtdnnfoacpjgloaaPv
import Derived.Test.YtdnnfoacpjgloaaKg
import Derived.Test.YtdnnfoacpjgloaaXg
import Derived.Test.YtdnnfoacpjgloaaDd
set_option maxRecDepth 100000
namespace Go.Proofs.Ytdnnfoacpjgloaa.Pat
open Go.RowKit
set_option linter.unusedVariables false

def media (xs : List Int) : Bool := decide (pE xs = 0)
set_option maxHeartbeats 400000 in
theorem isMedia_any (a : Option Addr) (len cap B : Nat) (xs : List Int) (w : World) (hl : len ≤ maxLen) (hlc : len ≤ cap) (hr : Rd w B a len xs) (hB : B ≤ w.heap.size) :
    Calls Try.prog 72 #[.slice a len cap] w (Rtp.RetB w (media xs)) := by
  have C := Rtp.offset_any a len cap B xs w hl hlc hr hB
  have HE := Lib.hid (show media xs = (pE xs == 0) from rfl)
  generalize Rtp.gF xs = f at C
  generalize Rtp.gT xs = t at C
  generalize pE xs = n at C HE
  have HC := Lib.hid C
  clear C hr
  go_enter Try.func72, Try.ntmps72
  go_wp2_with fail
  refine HC.out.mono ?_
  rintro e w1 ⟨rfl, hb1⟩
  go_wp2
  go_ret
  exact ⟨ret_bool (by rw [HE.out]), hb1⟩


/-- What descriptor tells. -/
def RetT (w : World) (l : Int) (k s : Bool) (f at_ : Int) (ok : Bool) (e : Ending) (w' : World) : Prop := e = .returned (.tuple #[dsc l k s f, .int .i64 at_, .bool ok]) ∧ Below w.heap.size w w'
theorem retT_at {w W : World} {b : Nat} {l f n : Int} {k s ok : Bool} {tmps : Array Value} (D : DBlk W b l k s f) (hb : Below w.heap.size w W)
    (h2 : tmps[2]?.getD undef = .pointer (some ⟨b, 0, none⟩) := by rfl) (h3 : tmps[3]?.getD undef = .int .i64 n := by rfl) (h4 : tmps[4]?.getD undef = .bool ok := by rfl) :
    bodyPost Try.prog Try.f70 (RetT w l k s f n ok) .ret ⟨tmps, []⟩ W := by
  have c0 := D.c0
  have c1 := D.c1
  have c2 := D.c2
  have c3 := D.c3
  exact bodyPost_ret (v := .tuple #[dsc l k s f, .int .i64 n, .bool ok]) (by simp [results, Try.results70, go_sem, h2, h3, h4, c0, c1, c2, c3]) rfl ⟨rfl, hb⟩

abbrev D0 : Obj := .cells #[.int .i64 0, .bool false, .bool false, .int .u16 0] 82
theorem below_dstore {w w' : World} {B b : Nat} (hb : Below B w w') (hB : B ≤ b) (u0 u1 u2 u3 : Value) : Below B w ((((w'.setCell ⟨b, 0, none⟩ u0).setCell ⟨b, 1, none⟩ u1).setCell ⟨b, 2, none⟩ u2).setCell ⟨b, 3, none⟩ u3) :=
  (((hb.setCell (p := ⟨b, 0, none⟩) hB u0).setCell (p := ⟨b, 1, none⟩) hB u1).setCell (p := ⟨b, 2, none⟩) hB u2).setCell (p := ⟨b, 3, none⟩) hB u3

set_option maxHeartbeats 1000000 in
theorem descriptor_none (a : Option Addr) (len cap : Nat) (f t n : Int) (w : World) (hn : (n != 0) = true)
    (CO : Hid (∀ W, Below w.heap.size w W → Calls Try.prog 78 #[.slice a len cap] W (Rtp.RetO W f t n))) :
    Calls Try.prog 70 #[.slice a len cap] w (RetT w 0 false false 0 0 false) := by
  go_enter Try.func70, Try.ntmps70
  go_wp2_with fail
  have hb0 := (Below.refl w.heap.size w).alloc (Nat.le_refl _) D0
  refine (CO.out _ hb0).mono ?_
  rintro e w1 ⟨rfl, hb1⟩
  have D1 : DBlk w1 w.heap.size 0 false false 0 := (DBlk.new w 0 false false 0).below hb1 (by simp)
  have hb : Below w.heap.size w w1 := hb0.trans (hb1.mono (by simp))
  clear hb1 hb0 CO
  have f0 := D1.c0
  have f1 := D1.c1
  have f2 := D1.c2
  have f3 := D1.c3
  have g0 := D1.frozen 0
  have g1 := D1.frozen 1
  have g2 := D1.frozen 2
  have g3 := D1.frozen 3
  go_wp2
  exact retT_at (D1.store 0 false false 0) (below_dstore hb (Nat.le_refl _) _ _ _ _)

set_option maxHeartbeats 1000000 in
theorem descriptor_no (b off len cap lo hi : Nat) (l f n : Int) (k s : Bool) (w : World) (h1 : lo ≤ hi) (h2 : hi ≤ cap) (hn : (n != 0) = true)
    (CO : Hid (∀ W, Below w.heap.size w W → Calls Try.prog 78 #[.slice (some ⟨b, off, none⟩) len cap] W (Rtp.RetO W lo hi 0)))
    (CG : Hid (∀ W X, Below w.heap.size w W → (cap ≠ lo → X = some ⟨b, off + lo, none⟩) → Calls Try.prog 79 #[.slice X (hi - lo) (cap - lo)] W (RetG W l k s f n))) :
    Calls Try.prog 70 #[.slice (some ⟨b, off, none⟩) len cap] w (RetT w 0 false false 0 0 false) := by
  obtain ⟨X, HX, s1⟩ := Rtp.cut_run b off len cap lo hi (lo : Int) (hi : Int) rfl rfl h1 h2
  have HHX := Lib.hid HX
  clear HX
  go_enter Try.func70, Try.ntmps70
  go_wp2_with fail
  have hb0 := (Below.refl w.heap.size w).alloc (Nat.le_refl _) D0
  refine (CO.out _ hb0).mono ?_
  rintro e w1 ⟨rfl, hb1⟩
  have D1 : DBlk w1 w.heap.size 0 false false 0 := (DBlk.new w 0 false false 0).below hb1 (by simp)
  have hb : Below w.heap.size w w1 := hb0.trans (hb1.mono (by simp))
  clear hb1 hb0 CO
  go_wp2_with fail
  refine (CG.out _ X hb HHX.out).mono ?_
  rintro e w2 ⟨rfl, hb2⟩
  have D2 : DBlk w2 w.heap.size 0 false false 0 := D1.below hb2 D1.lt
  have hbb : Below w.heap.size w w2 := hb.trans (hb2.mono hb.size)
  clear hb hb2 D1 CG s1 HHX
  have hne : w2.heap.size ≠ w.heap.size := Nat.ne_of_gt D2.lt
  have D3 := D2.below ((Below.refl w2.heap.size w2).alloc (Nat.le_refl _) (.cells #[.int .i64 l, .bool k, .bool s, .int .u16 f] 82)) D2.lt
  have E3 := DBlk.new w2 l k s f
  have hb3 := hbb.alloc hbb.size (.cells #[.int .i64 l, .bool k, .bool s, .int .u16 f] 82)
  have k0 := E3.c0
  have k1 := E3.c1
  have k2 := E3.c2
  have k3 := E3.c3
  have f0 := D3.c0
  have f1 := D3.c1
  have f2 := D3.c2
  have f3 := D3.c3
  have g0 := D3.frozen 0
  have g1 := D3.frozen 1
  have g2 := D3.frozen 2
  have g3 := D3.frozen 3
  have HD3 := Lib.hid D3
  have HB3 := Lib.hid hb3
  clear D3 E3 hb3 D2 hbb
  go_wp2
  exact retT_at (HD3.out.store 0 false false 0) (below_dstore HB3.out (Nat.le_refl _) _ _ _ _)

set_option maxHeartbeats 1000000 in
theorem descriptor_yes (b off len cap lo hi : Nat) (l f : Int) (k s : Bool) (w : World) (h1 : lo ≤ hi) (h2 : hi ≤ cap) 
    (CO : Hid (∀ W, Below w.heap.size w W → Calls Try.prog 78 #[.slice (some ⟨b, off, none⟩) len cap] W (Rtp.RetO W lo hi 0)))
    (CG : Hid (∀ W X, Below w.heap.size w W → (cap ≠ lo → X = some ⟨b, off + lo, none⟩) → Calls Try.prog 79 #[.slice X (hi - lo) (cap - lo)] W (RetG W l k s f 0))) :
    Calls Try.prog 70 #[.slice (some ⟨b, off, none⟩) len cap] w (RetT w l k s f lo true) := by
  obtain ⟨X, HX, s1⟩ := Rtp.cut_run b off len cap lo hi (lo : Int) (hi : Int) rfl rfl h1 h2
  have HHX := Lib.hid HX
  clear HX
  go_enter Try.func70, Try.ntmps70
  go_wp2_with fail
  have hb0 := (Below.refl w.heap.size w).alloc (Nat.le_refl _) D0
  refine (CO.out _ hb0).mono ?_
  rintro e w1 ⟨rfl, hb1⟩
  have D1 : DBlk w1 w.heap.size 0 false false 0 := (DBlk.new w 0 false false 0).below hb1 (by simp)
  have hb : Below w.heap.size w w1 := hb0.trans (hb1.mono (by simp))
  clear hb1 hb0 CO
  go_wp2_with fail
  refine (CG.out _ X hb HHX.out).mono ?_
  rintro e w2 ⟨rfl, hb2⟩
  have D2 : DBlk w2 w.heap.size 0 false false 0 := D1.below hb2 D1.lt
  have hbb : Below w.heap.size w w2 := hb.trans (hb2.mono hb.size)
  clear hb hb2 D1 CG s1 HHX
  have hne : w2.heap.size ≠ w.heap.size := Nat.ne_of_gt D2.lt
  have D3 := D2.below ((Below.refl w2.heap.size w2).alloc (Nat.le_refl _) (.cells #[.int .i64 l, .bool k, .bool s, .int .u16 f] 82)) D2.lt
  have E3 := DBlk.new w2 l k s f
  have hb3 := hbb.alloc hbb.size (.cells #[.int .i64 l, .bool k, .bool s, .int .u16 f] 82)
  have k0 := E3.c0
  have k1 := E3.c1
  have k2 := E3.c2
  have k3 := E3.c3
  have f0 := D3.c0
  have f1 := D3.c1
  have f2 := D3.c2
  have f3 := D3.c3
  have g0 := D3.frozen 0
  have g1 := D3.frozen 1
  have g2 := D3.frozen 2
  have g3 := D3.frozen 3
  have HD3 := Lib.hid D3
  have HB3 := Lib.hid hb3
  clear D3 E3 hb3 D2 hbb
  go_wp2
  exact retT_at (HD3.out.store l k s f) (below_dstore HB3.out (Nat.le_refl _) _ _ _ _)

def dP (xs : List Int) : List Int := (Rtp.gP xs).pay
def dA (xs : List Int) : Int := if hasD xs then at2 xs else 0
theorem gE_iff (xs : List Int) : gE xs = 0 ↔ gOk xs = true := by
  unfold gE gOk
  by_cases h : xs.length < 4
  · rw [if_pos h, decide_eq_false (by omega)]; simp
  · rw [if_neg h, decide_eq_true (by omega), Bool.true_and]; split <;> simp_all
theorem descriptor_any (a : Option Addr) (len cap B : Nat) (xs : List Int) (w : World) (hl : len ≤ maxLen) (hlc : len ≤ cap) (hr : Rd w B a len xs) (hB : B ≤ w.heap.size) :
    Calls Try.prog 70 #[.slice a len cap] w (RetT w (gL (dP xs)) (gK (dP xs)) (gS (dP xs)) (gF (dP xs)) (dA xs) (hasD xs)) := by
  have CO := fun W (hW : Below w.heap.size w W) => Rtp.offset_any a len cap B xs W hl hlc (hr.below (hW.mono hB)) (Nat.le_trans hB hW.size)
  unfold dP dA Rtp.gP
  by_cases h : pE xs = 0
  · unfold Rtp.gF Rtp.gT at CO
    simp only [h, if_true] at CO ⊢
    obtain ⟨k1, k2, k3, k4⟩ := get_enc xs hr.2.1 h
    have hel := enc_length (pQ xs) k2
    have hx := hr.1
    rw [k3, k4, show (pQ xs).pad = (padN xs : Int) from rfl] at hel
    obtain ⟨g1, g2, g3, g4, g5, g6, g7, g8⟩ := pE_ok h
    obtain ⟨b, off, rfl, hlt, hcell⟩ := hr.2.2 (by omega)
    have hpy : (pQ xs).pay = (xs.drop (at2 xs)).take (len - padN xs - at2 xs) := by rw [← hx]; rfl
    rw [show (xs.length : Int) - padN xs = ((xs.length - padN xs : Nat) : Int) from by omega, hx] at CO
    have CG : Hid (∀ W X, Below w.heap.size w W → (cap ≠ at2 xs → X = some ⟨b, off + at2 xs, none⟩) → Calls Try.prog 79 #[.slice X (len - padN xs - at2 xs) (cap - at2 xs)] W (RetG W (gL (pQ xs).pay) (gK (pQ xs).pay) (gS (pQ xs).pay) (gF (pQ xs).pay) (gE (pQ xs).pay))) := fun W X hW hX => by
      have R := Rtp.Rd.mid (hi := len - padN xs) (hr.below (hW.mono hB)) (by omega) (by omega) hlc hX
      rw [← hpy] at R
      exact get_any X (len - padN xs - at2 xs) (cap - at2 xs) B _ W (by omega) R (Nat.le_trans hB hW.size)
    by_cases hg : gOk (pQ xs).pay = true
    · have hh : hasD xs = true := hasD_iff.2 ⟨h, hg⟩
      rw [(gE_iff _).2 hg] at CG
      rw [hh, if_pos rfl]
      exact descriptor_yes b off len cap (at2 xs) (len - padN xs) _ _ _ _ w (by omega) (by omega) CO CG
    · have hh : hasD xs = false := by rw [hasD, Bool.eq_false_iff.2 hg, Bool.and_false]
      have hn : (gE (pQ xs).pay != 0) = true := by simpa using fun q => hg ((gE_iff _).1 q)
      have D := descriptor_no b off len cap (at2 xs) (len - padN xs) _ _ _ _ _ w (by omega) (by omega) hn CO CG
      rw [gL, gK, gS, gF, Bool.eq_false_iff.2 hg, hh]
      exact D
  · have hh : hasD xs = false := by rw [hasD, decide_eq_false h, Bool.false_and]
    simp only [h, if_false, hh]
    exact descriptor_none a len cap _ _ (pE xs) w (by simpa using h) CO
end Go.Proofs.Ytdnnfoacpjgloaa.Pat

namespace Go.Proofs.Ytdnnfoacpjgloaa.Pat
open Go.RowKit
set_option linter.unusedVariables false

/-- Nothing but the block of A has changed. -/
def At (A : Option Addr) (w w' : World) : Prop := w.grownBy w' (A.map Addr.block)
section
variable {w w' w'' w0 : World} {A A' : Option Addr} {base base' n c n' c' : Nat} {xs ys : List Int}
theorem At.refl (A : Option Addr) (w : World) : At A w w := World.grownBy.refl w _
theorem At.trans (h : At A w w') (k : At A w' w'') : At A w w'' :=
  ⟨k.os.trans h.os, k.tape.trans h.tape, k.output.trans h.output, Nat.le_trans h.size k.size, fun i hi hn => (k.block i (Nat.lt_of_lt_of_le hi h.size) hn).trans (h.block i hi hn)⟩
theorem At.of_below (A : Option Addr) (h : Below w.heap.size w w') : At A w w' := ⟨h.os, h.tape, h.output, h.size, fun i hi _ => h.block i hi⟩
theorem At.below (h : At A w w') (ho : Own w0 base A n c xs) (hb : base ≤ w.heap.size) : Below base w w' :=
  (Below.refl _ _).grown h hb (by
    rintro k hk
    rcases ho.2.2.2.2 with ⟨rfl, -, -⟩ | ⟨g, T, rfl, hg, -, -⟩
    · cases hk
    · injection hk with hk
      have hk : g = k := hk
      omega)
theorem At.size (h : At A w w') : w.heap.size ≤ w'.heap.size := World.grownBy.size h
/-- A row that was made behind the one that is written into. -/
theorem At.keep (h : At A w w') (ho : Own w0 base A n c xs) (k : Own w base' A' n' c' ys) (hb : w0.heap.size ≤ base') : Own w' base' A' n' c' ys := by
  obtain ⟨h1, h2, h3, h4, h5⟩ := k
  refine ⟨h1, h2, h3, h4, ?_⟩
  rcases h5 with h5 | ⟨g, T, rfl, hg, hk, hl⟩
  · exact .inl h5
  · refine .inr ⟨g, T, rfl, hg, (World.grownBy.block h g hk.lt ?_).trans hk, hl⟩
    rcases ho.2.2.2.2 with ⟨rfl, -, -⟩ | ⟨g', T', rfl, hg', hk', -⟩
    · simp
    · have := hk'.lt
      simp; omega
/-- A row that was made ahead of the one that is written into. -/
theorem At.keep' (h : At A w w') (ho : Own w0 base A n c xs) (k : Own w base' A' n' c' ys) (hb : ∀ a, A' = some a → a.block < base) : Own w' base' A' n' c' ys := by
  obtain ⟨h1, h2, h3, h4, h5⟩ := k
  refine ⟨h1, h2, h3, h4, ?_⟩
  rcases h5 with h5 | ⟨g, T, rfl, hg, hk, hl⟩
  · exact .inl h5
  · have hb := hb _ rfl
    refine .inr ⟨g, T, rfl, hg, (World.grownBy.block h g hk.lt ?_).trans hk, hl⟩
    rcases ho.2.2.2.2 with ⟨rfl, -, -⟩ | ⟨g', T', rfl, hg', hk', -⟩
    · simp
    · simp at hb; simp; omega
theorem own_lt (h : Own w base A n c xs) : ∀ a, A = some a → a.block < w.heap.size := by
  rintro a rfl
  rcases h.2.2.2.2 with ⟨h, -, -⟩ | ⟨g, T, h, -, hk, -⟩
  · cases h
  · injection h with h
    subst h
    exact hk.lt
end

def Wrote (w : World) (base : Nat) (A : Option Addr) (n c : Nat) (xs : List Int) (ok : Bool) (e : Ending) (w' : World) : Prop := e = .returned (.bool ok) ∧ Own w' base A n c xs ∧ At A w w'

/-- field.Put that fits into a row of the call's own. -/
theorem put_at (A : Option Addr) (n c base i s : Nat) (y : Int) (xs : List Int) (w : World) (ho : Own w base A n c xs) (h1 : 1 ≤ s) (h2 : s ≤ 8) (h3 : i + s ≤ n) (hy : 0 ≤ y) (hf : y < 256 ^ s) :
    Calls Try.prog 71 #[.slice A n c, .int .i64 i, .int .i64 s, .int .u64 y] w (Wrote w base A n c (written xs i s 0 y) true) := by
  have hp := pow_le8 s h2
  obtain ⟨hx, hb, hnc, hcm, ho⟩ := ho
  rcases ho with ⟨rfl, rfl, rfl⟩ | ⟨g, T, rfl, hbg, hk, hlT⟩
  · omega
  · have := Fld.put_yes g 0 n c i s y xs T w (Nat.le_trans hnc hcm) hnc hy (by omega) (by omega) hk h1 h2 h3 (by simp [fitsB]; exact hf)
    rw [Nat.zero_add] at this
    refine this.mono ?_
    rintro e w' ⟨rfl, hk', hg⟩
    have hlen := written_length xs i s 0 y (by omega) (by omega)
    exact ⟨rfl, ⟨by omega, written_bytes hb _ _ _, hnc, hcm, .inr ⟨g, T, rfl, hbg, hk', by omega⟩⟩, hg⟩
theorem Own.le {w : World} {base n c : Nat} {A : Option Addr} {xs : List Int} (h : Own w base A n c xs) : n ≤ maxLen := Nat.le_trans h.2.2.1 h.2.2.2.1

set_option maxHeartbeats 400000 in
theorem seq_no (a : Option Addr) (len cap : Nat) (y : Int) (w : World) (CM : Hid (Calls Try.prog 72 #[.slice a len cap] w (Rtp.RetB w false))) :
    Calls Try.prog 52 #[.slice a len cap, .int .u16 y] w (Rtp.RetB w false) := by
  go_enter Try.func52, Try.ntmps52
  go_wp2_with fail
  refine CM.out.mono ?_
  rintro e w1 ⟨rfl, hb1⟩
  go_wp2
  go_ret
  exact ⟨rfl, hb1⟩
set_option maxHeartbeats 400000 in
theorem seq_yes (a : Option Addr) (len cap : Nat) (y : Int) (w : World) (Q : World → World → Prop) (h0 : 0 ≤ y) (h1 : y ≤ 65535) (CM : Hid (Calls Try.prog 72 #[.slice a len cap] w (Rtp.RetB w true)))
    (CP : Hid (∀ W, Below w.heap.size w W → Calls Try.prog 71 #[.slice a len cap, .int .i64 2, .int .i64 2, .int .u64 y] W fun e w' => e = .returned (.bool true) ∧ Q W w')) :
    Calls Try.prog 52 #[.slice a len cap, .int .u16 y] w fun e w' => e = .returned (.bool true) ∧ ∃ W, Below w.heap.size w W ∧ Q W w' := by
  go_enter Try.func52, Try.ntmps52
  go_wp2_with fail
  refine CM.out.mono ?_
  rintro e w1 ⟨rfl, hb1⟩
  go_wp2_with fail
  refine (CP.out w1 hb1).mono ?_
  rintro e w2 ⟨rfl, hq⟩
  go_wp2
  go_ret
  exact ⟨rfl, w1, hb1, hq⟩
theorem seq_own (A : Option Addr) (n c base : Nat) (y : Int) (xs : List Int) (w : World) (ho : Own w base A n c xs) (h0 : 0 ≤ y) (h1 : y ≤ 65535) :
    Calls Try.prog 52 #[.slice A n c, .int .u16 y] w (Wrote w base A n c (seqL xs y) (media xs)) := by
  have CM := isMedia_any A n c w.heap.size xs w (Own.le ho) ho.2.2.1 ho.rd (Nat.le_refl _)
  by_cases h : pE xs = 0
  · have hm : media xs = true := decide_eq_true h
    rw [hm] at CM ⊢
    have hl := (pE_ok h).2.1
    have hn := ho.1
    have e := seqL_written ho.2.1 h y
    refine (seq_yes A n c y w (fun W w' => Own w' base A n c (seqL xs y) ∧ At A W w') h0 h1 CM ?_).mono ?_
    · intro W hW
      have := put_at A n c base 2 2 y xs W (ho.below hW (Nat.le_refl _)) (by decide) (by decide) (by omega) h0 (by omega)
      rw [e] at this
      exact this
    · rintro e w' ⟨rfl, W, hW, h2, h3⟩
      exact ⟨rfl, h2, (At.of_below A hW).trans h3⟩
  · have hm : media xs = false := decide_eq_false h
    rw [hm] at CM ⊢
    refine (seq_no A n c y w CM).mono ?_
    rintro e w' ⟨rfl, hW⟩
    rw [seqL, if_neg h]
    exact ⟨rfl, ho.below hW (Nat.le_refl _), At.of_below A hW⟩

set_option maxHeartbeats 400000 in
theorem time_no (a : Option Addr) (len cap : Nat) (y : Int) (w : World) (CM : Hid (Calls Try.prog 72 #[.slice a len cap] w (Rtp.RetB w false))) :
    Calls Try.prog 53 #[.slice a len cap, .int .u32 y] w (Rtp.RetB w false) := by
  go_enter Try.func53, Try.ntmps53
  go_wp2_with fail
  refine CM.out.mono ?_
  rintro e w1 ⟨rfl, hb1⟩
  go_wp2
  go_ret
  exact ⟨rfl, hb1⟩
set_option maxHeartbeats 400000 in
theorem time_yes (a : Option Addr) (len cap : Nat) (y : Int) (w : World) (Q : World → World → Prop) (h0 : 0 ≤ y) (h1 : y ≤ 4294967295) (CM : Hid (Calls Try.prog 72 #[.slice a len cap] w (Rtp.RetB w true)))
    (CP : Hid (∀ W, Below w.heap.size w W → Calls Try.prog 71 #[.slice a len cap, .int .i64 4, .int .i64 4, .int .u64 y] W fun e w' => e = .returned (.bool true) ∧ Q W w')) :
    Calls Try.prog 53 #[.slice a len cap, .int .u32 y] w fun e w' => e = .returned (.bool true) ∧ ∃ W, Below w.heap.size w W ∧ Q W w' := by
  go_enter Try.func53, Try.ntmps53
  go_wp2_with fail
  refine CM.out.mono ?_
  rintro e w1 ⟨rfl, hb1⟩
  go_wp2_with fail
  refine (CP.out w1 hb1).mono ?_
  rintro e w2 ⟨rfl, hq⟩
  go_wp2
  go_ret
  exact ⟨rfl, w1, hb1, hq⟩
theorem time_own (A : Option Addr) (n c base : Nat) (y : Int) (xs : List Int) (w : World) (ho : Own w base A n c xs) (h0 : 0 ≤ y) (h1 : y ≤ 4294967295) :
    Calls Try.prog 53 #[.slice A n c, .int .u32 y] w (Wrote w base A n c (timeL xs y) (media xs)) := by
  have CM := isMedia_any A n c w.heap.size xs w (Own.le ho) ho.2.2.1 ho.rd (Nat.le_refl _)
  by_cases h : pE xs = 0
  · have hm : media xs = true := decide_eq_true h
    rw [hm] at CM ⊢
    have hl := (pE_ok h).2.1
    have hn := ho.1
    have e := timeL_written ho.2.1 h y
    refine (time_yes A n c y w (fun W w' => Own w' base A n c (timeL xs y) ∧ At A W w') h0 h1 CM ?_).mono ?_
    · intro W hW
      have := put_at A n c base 4 4 y xs W (ho.below hW (Nat.le_refl _)) (by decide) (by decide) (by omega) h0 (by omega)
      rw [e] at this
      exact this
    · rintro e w' ⟨rfl, W, hW, h2, h3⟩
      exact ⟨rfl, h2, (At.of_below A hW).trans h3⟩
  · have hm : media xs = false := decide_eq_false h
    rw [hm] at CM ⊢
    refine (time_no A n c y w CM).mono ?_
    rintro e w' ⟨rfl, hW⟩
    rw [timeL, if_neg h]
    exact ⟨rfl, ho.below hW (Nat.le_refl _), At.of_below A hW⟩

set_option maxHeartbeats 400000 in
theorem ssrc_no (a : Option Addr) (len cap : Nat) (y : Int) (w : World) (CM : Hid (Calls Try.prog 72 #[.slice a len cap] w (Rtp.RetB w false))) :
    Calls Try.prog 54 #[.slice a len cap, .int .u32 y] w (Rtp.RetB w false) := by
  go_enter Try.func54, Try.ntmps54
  go_wp2_with fail
  refine CM.out.mono ?_
  rintro e w1 ⟨rfl, hb1⟩
  go_wp2
  go_ret
  exact ⟨rfl, hb1⟩
set_option maxHeartbeats 400000 in
theorem ssrc_yes (a : Option Addr) (len cap : Nat) (y : Int) (w : World) (Q : World → World → Prop) (h0 : 0 ≤ y) (h1 : y ≤ 4294967295) (CM : Hid (Calls Try.prog 72 #[.slice a len cap] w (Rtp.RetB w true)))
    (CP : Hid (∀ W, Below w.heap.size w W → Calls Try.prog 71 #[.slice a len cap, .int .i64 8, .int .i64 4, .int .u64 y] W fun e w' => e = .returned (.bool true) ∧ Q W w')) :
    Calls Try.prog 54 #[.slice a len cap, .int .u32 y] w fun e w' => e = .returned (.bool true) ∧ ∃ W, Below w.heap.size w W ∧ Q W w' := by
  go_enter Try.func54, Try.ntmps54
  go_wp2_with fail
  refine CM.out.mono ?_
  rintro e w1 ⟨rfl, hb1⟩
  go_wp2_with fail
  refine (CP.out w1 hb1).mono ?_
  rintro e w2 ⟨rfl, hq⟩
  go_wp2
  go_ret
  exact ⟨rfl, w1, hb1, hq⟩
theorem ssrc_own (A : Option Addr) (n c base : Nat) (y : Int) (xs : List Int) (w : World) (ho : Own w base A n c xs) (h0 : 0 ≤ y) (h1 : y ≤ 4294967295) :
    Calls Try.prog 54 #[.slice A n c, .int .u32 y] w (Wrote w base A n c (ssrcL xs y) (media xs)) := by
  have CM := isMedia_any A n c w.heap.size xs w (Own.le ho) ho.2.2.1 ho.rd (Nat.le_refl _)
  by_cases h : pE xs = 0
  · have hm : media xs = true := decide_eq_true h
    rw [hm] at CM ⊢
    have hl := (pE_ok h).2.1
    have hn := ho.1
    have e := ssrcL_written ho.2.1 h y
    refine (ssrc_yes A n c y w (fun W w' => Own w' base A n c (ssrcL xs y) ∧ At A W w') h0 h1 CM ?_).mono ?_
    · intro W hW
      have := put_at A n c base 8 4 y xs W (ho.below hW (Nat.le_refl _)) (by decide) (by decide) (by omega) h0 (by omega)
      rw [e] at this
      exact this
    · rintro e w' ⟨rfl, W, hW, h2, h3⟩
      exact ⟨rfl, h2, (At.of_below A hW).trans h3⟩
  · have hm : media xs = false := decide_eq_false h
    rw [hm] at CM ⊢
    refine (ssrc_no A n c y w CM).mono ?_
    rintro e w' ⟨rfl, hW⟩
    rw [ssrcL, if_neg h]
    exact ⟨rfl, ho.below hW (Nat.le_refl _), At.of_below A hW⟩
end Go.Proofs.Ytdnnfoacpjgloaa.Pat

namespace Go.Proofs.Ytdnnfoacpjgloaa.Pat
open Go.RowKit
set_option linter.unusedVariables false

theorem DBlk.set0 {w : World} {b : Nat} {l f : Int} {k s : Bool} (h : DBlk w b l k s f) (y : Int) : DBlk (w.setCell ⟨b, 0, none⟩ (.int .i64 y)) b y k s f := heap_setCell_same w b 0 _ 82 (.int .i64 y) h
theorem DBlk.set3 {w : World} {b : Nat} {l f : Int} {k s : Bool} (h : DBlk w b l k s f) (y : Int) : DBlk (w.setCell ⟨b, 3, none⟩ (.int .u16 y)) b l k s y := heap_setCell_same w b 3 _ 82 (.int .u16 y) h

set_option maxHeartbeats 1000000 in
theorem frame_none (a : Option Addr) (len cap : Nat) (y fr l f at_ : Int) (k s : Bool) (w : World) (CD : Hid (Calls Try.prog 70 #[.slice a len cap] w (RetT w l k s f at_ false))) :
    Calls Try.prog 51 #[.slice a len cap, .int .i64 y, .int .u16 fr] w (Rtp.RetB w false) := by
  go_enter Try.func51, Try.ntmps51
  go_wp2_with fail
  refine CD.out.mono ?_
  rintro e w1 ⟨rfl, hb1⟩
  have hb2 := hb1.alloc hb1.size (.cells #[.int .i64 y, .bool k, .bool s, .int .u16 fr] 82)
  go_wp2
  go_ret
  exact ⟨rfl, hb2⟩

set_option maxHeartbeats 1000000 in
theorem frame_layer (a : Option Addr) (len cap : Nat) (y fr l f at_ : Int) (k s : Bool) (w : World) (CD : Hid (Calls Try.prog 70 #[.slice a len cap] w (RetT w l k s f at_ true)))
    (CM : Hid (∀ W, Calls Try.prog 67 #[dsc y k s fr] W fun e w' => e = .returned (.bool false) ∧ Below W.heap.size W w')) :
    Calls Try.prog 51 #[.slice a len cap, .int .i64 y, .int .u16 fr] w (Rtp.RetB w false) := by
  go_enter Try.func51, Try.ntmps51
  go_wp2_with fail
  refine CD.out.mono ?_
  rintro e w1 ⟨rfl, hb1⟩
  have hb2 := hb1.alloc hb1.size (.cells #[.int .i64 y, .bool k, .bool s, .int .u16 fr] 82)
  go_wp2_with fail
  refine (CM.out _).mono ?_
  rintro e w2 ⟨rfl, hb3⟩
  go_wp2
  go_ret
  exact ⟨rfl, hb2.trans (hb3.mono hb2.size)⟩

set_option maxHeartbeats 2000000 in
theorem frame_yes (g n c base at_ : Nat) (y fr l f x x1 x2 x3 : Int) (k s : Bool) (xs ys : List Int) (T : List Value) (w : World) (hf0 : 0 ≤ fr) (hf1 : fr ≤ 65535) (hat : at_ < n) (hn : n ≤ 512) (hx : xs.length = n) (hk : Blk w g xs T)
    (CD : Hid (Calls Try.prog 70 #[.slice (some ⟨g, 0, none⟩) n c] w (RetT w l k s f at_ true)))
    (CM : Hid (∀ W, Calls Try.prog 67 #[dsc y k s fr] W fun e w' => e = .returned (.bool true) ∧ Below W.heap.size W w'))
    (CP : Hid (∀ W, Calls Try.prog 46 #[dsc y k s fr] W (PutRow W [x, x1, x2, x3])))
    (CF : Hid (∀ W, Blk W g (xs.set at_ x) T → Calls Try.prog 71 #[.slice (some ⟨g, 0, none⟩) n c, .int .i64 ((at_ : Int) + 2), .int .i64 2, .int .u64 fr] W (Wrote W base (some ⟨g, 0, none⟩) n c ys true))) :
    Calls Try.prog 51 #[.slice (some ⟨g, 0, none⟩) n c, .int .i64 y, .int .u16 fr] w (Wrote w base (some ⟨g, 0, none⟩) n c ys true) := by
  have hgl := hk.lt
  have HK := Lib.hid hk
  clear hk
  go_enter Try.func51, Try.ntmps51
  go_wp2_with fail
  refine CD.out.mono ?_
  rintro e w1 ⟨rfl, hb1⟩
  have hb2 := hb1.alloc hb1.size (.cells #[.int .i64 y, .bool k, .bool s, .int .u16 fr] 82)
  have hz1 := hb1.size
  go_wp2_with fail
  refine (CM.out _).mono ?_
  rintro e w2 ⟨rfl, hb3⟩
  have D2 : DBlk w2 w1.heap.size y k s fr := (DBlk.new w1 y k s fr).below hb3 (by simp)
  have hb4 : Below w.heap.size w w2 := hb2.trans (hb3.mono hb2.size)
  clear hb1 hb2 hb3 CD CM
  have k0 := D2.c0
  have k1 := D2.c1
  have k2 := D2.c2
  have k3 := D2.c3
  clear D2
  go_wp2_with fail
  refine (CP.out _).mono ?_
  rintro e w3 ⟨q, rfl, hq, hk3, hb5⟩
  have hb6 : Below w.heap.size w w3 := hb4.trans (hb5.mono hb4.size)
  have hz2 := hb4.size
  have K := HK.out.below hb6 hgl
  have c0 : w3.cell? ⟨q, 0, none⟩ = some (.int .u8 x) := hk3.cell 0 (by simp)
  have cc := K.cell at_ (by omega)
  have hfz := K.frozen at_
  have K2 := K.set_ at_ (by omega) x
  have HK2 := Lib.hid K2
  have HB := Lib.hid hb6
  clear K K2 hk3 hb5 hb6 hb4 k0 k1 k2 k3 CP
  go_wp2_with fail
  refine (CF.out _ HK2.out).mono ?_
  rintro e w4 ⟨rfl, ho, ha⟩
  go_wp2
  go_ret
  have h1 : At (some ⟨g, 0, none⟩) w w3 := At.of_below _ HB.out
  have h2 : At (some ⟨g, 0, none⟩) w (w3.setCell ⟨g, at_, none⟩ (.int .u8 x)) := only_setCell (p := ⟨g, at_, none⟩) h1 rfl _
  exact ⟨rfl, ho, h2.trans ha⟩

theorem frame_own (A : Option Addr) (n c base : Nat) (y fr : Int) (xs : List Int) (w : World) (ho : Own w base A n c xs) (h0 : 0 ≤ fr) (h1 : fr ≤ 65535) :
    Calls Try.prog 51 #[.slice A n c, .int .i64 y, .int .u16 fr] w (Wrote w base A n c (frameL xs y fr) (hasD xs && mayB y)) := by
  have CD := descriptor_any A n c w.heap.size xs w (Own.le ho) ho.2.2.1 ho.rd (Nat.le_refl _)
  by_cases h : hasD xs = true
  · by_cases hm : mayB y = true
    · obtain ⟨hm0, hm2⟩ := mayB_t hm
      obtain ⟨p1, p2⟩ := hasD_iff.1 h
      have e := frameL_written ho.2.1 h hm h0 h1
      have hln := (frame_up ho.2.1 h hm h0 h1).2.2.2.1
      have hby := (frame_up ho.2.1 h hm h0 h1).2.2.1
      have hl := (pE_ok p1).1
      have h12 := (pE_ok p1).2.1
      have hn := ho.1
      have hlen : at2 xs + 4 ≤ xs.length := by
        have h4 := gOk_len p2
        obtain ⟨-, k2, k3, k4⟩ := get_enc xs ho.2.1 p1
        have q1 := enc_length (pQ xs) k2
        have q2 := k2.pad0
        rw [k3, k4] at q1
        omega
      rw [dP, dA, Rtp.gP, h, if_pos rfl, if_pos p1] at CD
      rw [h, hm]
      obtain ⟨-, hb, hnc, hcm, ho'⟩ := ho
      rcases ho' with ⟨rfl, rfl, rfl⟩ | ⟨g, T, rfl, hbg, hk, hlT⟩
      · omega
      · have hfb := firstV_bd hm0 (show y ≤ 3 by omega) (gK (pQ xs).pay) (gS (pQ xs).pay)
        refine frame_yes g n c base (at2 xs) y fr _ _ (firstV y (gK (pQ xs).pay) (gS (pQ xs).pay)) 90 (fr / 256) (fr % 256) _ _ xs _ T w h0 h1 (by omega) (by omega) hn hk CD (fun W => hm ▸ may_any y _ _ fr W) (fun W => put_yes y _ _ fr W hm0 hm2 h0 h1) ?_
        intro W hW
        have hbs : Bytes (xs.set (at2 xs) (firstV y (gK (pQ xs).pay) (gS (pQ xs).pay))) := by
          intro z hz
          rcases List.mem_or_eq_of_mem_set hz with hz | rfl
          · exact hb z hz
          · exact hfb
        have := put_at (some ⟨g, 0, none⟩) n c base (at2 xs + 2) 2 fr _ W ⟨by simpa using hn, hbs, hnc, hcm, .inr ⟨g, T, rfl, hbg, hW, by simpa using hlT⟩⟩ (by decide) (by decide) (by omega) h0 (by omega)
        rw [e] at this
        exact this
    · have hm' : mayB y = false := Bool.eq_false_iff.2 hm
      rw [h] at CD
      rw [frameL, hm', Bool.and_false, if_neg (by decide)]
      refine (frame_layer A n c y fr _ _ _ _ _ w CD (fun W => hm' ▸ may_any y _ _ fr W)).mono ?_
      rintro e w' ⟨rfl, hW⟩
      exact ⟨rfl, ho.below hW (Nat.le_refl _), At.of_below A hW⟩
  · have h' : hasD xs = false := Bool.eq_false_iff.2 h
    rw [h'] at CD
    rw [frameL, h', Bool.false_and, if_neg (by decide)]
    refine (frame_none A n c y fr _ _ _ _ _ w CD).mono ?_
    rintro e w' ⟨rfl, hW⟩
    exact ⟨rfl, ho.below hW (Nat.le_refl _), At.of_below A hW⟩
end Go.Proofs.Ytdnnfoacpjgloaa.Pat

namespace Go.Proofs.Ytdnnfoacpjgloaa.Pat
open Go.RowKit
set_option linter.unusedVariables false

/-- Four fields, as a value. -/
abbrev pch (q t s f : Int) : Value := .agg #[.int .u16 q, .int .u32 t, .int .u32 s, .int .u16 f]
def QBlk (w : World) (b : Nat) (q t s f : Int) : Prop := w.heap[b]? = some (.cells #[.int .u16 q, .int .u32 t, .int .u32 s, .int .u16 f] 35 (0, 0))
section
variable {w w' : World} {b B : Nat} {q t s f : Int}
theorem QBlk.new (w : World) (q t s f : Int) : QBlk (w.alloc (.cells #[.int .u16 q, .int .u32 t, .int .u32 s, .int .u16 f] 35)) w.heap.size q t s f := heap_alloc_new w _
theorem QBlk.below (h : QBlk w b q t s f) (hb : Below B w w') (hg : b < B) : QBlk w' b q t s f := (hb.block b hg).trans h
theorem QBlk.lt (h : QBlk w b q t s f) : b < w.heap.size := by
  rcases Nat.lt_or_ge b w.heap.size with hlt | hge
  · exact hlt
  · unfold QBlk at h; rw [Array.getElem?_eq_none hge] at h; cases h
theorem QBlk.c0 (h : QBlk w b q t s f) : w.cell? ⟨b, 0, none⟩ = some (.int .u16 q) := cell_of_row w b 0 _ 35 (0, 0) h
theorem QBlk.c1 (h : QBlk w b q t s f) : w.cell? ⟨b, 1, none⟩ = some (.int .u32 t) := cell_of_row w b 1 _ 35 (0, 0) h
theorem QBlk.c2 (h : QBlk w b q t s f) : w.cell? ⟨b, 2, none⟩ = some (.int .u32 s) := cell_of_row w b 2 _ 35 (0, 0) h
theorem QBlk.c3 (h : QBlk w b q t s f) : w.cell? ⟨b, 3, none⟩ = some (.int .u16 f) := cell_of_row w b 3 _ 35 (0, 0) h
theorem QBlk.frozen (h : QBlk w b q t s f) (i : Nat) : w.frozen? ⟨b, i, none⟩ = false := frozen_of_row w b i _ 35 h
theorem QBlk.store (h : QBlk w b q t s f) (q' t' s' f' : Int) :
    QBlk ((((w.setCell ⟨b, 0, none⟩ (.int .u16 q')).setCell ⟨b, 1, none⟩ (.int .u32 t')).setCell ⟨b, 2, none⟩ (.int .u32 s')).setCell ⟨b, 3, none⟩ (.int .u16 f')) b q' t' s' f' := by
  unfold QBlk at h ⊢
  have h1 := heap_setCell_same w b 0 _ 35 (.int .u16 q') h
  have h2 := heap_setCell_same _ b 1 _ 35 (.int .u32 t') h1
  have h3 := heap_setCell_same _ b 2 _ 35 (.int .u32 s') h2
  exact heap_setCell_same _ b 3 _ 35 (.int .u16 f') h3
/-- A block that is not written into. -/
theorem QBlk.at {A : Option Addr} (h : QBlk w b q t s f) (ha : At A w w') (hn : ∀ a, A = some a → a.block ≠ b) : QBlk w' b q t s f :=
  (World.grownBy.block ha b h.lt (by
    rcases A with _ | a
    · simp
    · have := hn a rfl
      simpa using fun e => this e.symm)).trans h
end
/-- Numbers of four fields. -/
structure PF (q t s f : Int) : Prop where
  q0 : 0 ≤ q
  q1 : q ≤ 65535
  t0 : 0 ≤ t
  t1 : t ≤ 4294967295
  s0 : 0 ≤ s
  s1 : s ≤ 4294967295
  f0 : 0 ≤ f
  f1 : f ≤ 65535

set_option maxHeartbeats 1000000 in
theorem apply_none (a : Option Addr) (len cap : Nat) (q t s f : Int) (w : World) (R : World → World → Prop)
    (CF : Hid (∀ W, Below w.heap.size w W → Calls Try.prog 51 #[.slice a len cap, .int .i64 0, .int .u16 f] W fun e w' => e = .returned (.bool false) ∧ R W w')) :
    Calls Try.prog 37 #[.slice a len cap, pch q t s f] w fun e w' => e = .returned (.bool false) ∧ ∃ W, Below w.heap.size w W ∧ R W w' := by
  go_enter Try.func37, Try.ntmps37
  go_wp2_with fail
  have hb0 := (Below.refl w.heap.size w).alloc (Nat.le_refl _) (.cells #[.int .u16 q, .int .u32 t, .int .u32 s, .int .u16 f] 35)
  refine (CF.out _ hb0).mono ?_
  rintro e w1 ⟨rfl, hr⟩
  go_wp2
  go_ret
  exact ⟨rfl, _, hb0, hr⟩

set_option maxHeartbeats 1000000 in
theorem apply_yes (A : Option Addr) (n c base : Nat) (q t s f : Int) (x0 x1 x2 x3 x4 : List Int) (w : World) (ho : Hid (Own w base A n c x0))
    (CF : Hid (∀ W, Own W base A n c x0 → Calls Try.prog 51 #[.slice A n c, .int .i64 0, .int .u16 f] W (Wrote W base A n c x1 true)))
    (CS : Hid (∀ W, Own W base A n c x1 → Calls Try.prog 52 #[.slice A n c, .int .u16 q] W (Wrote W base A n c x2 true)))
    (CT : Hid (∀ W, Own W base A n c x2 → Calls Try.prog 53 #[.slice A n c, .int .u32 t] W (Wrote W base A n c x3 true)))
    (CR : Hid (∀ W, Own W base A n c x3 → Calls Try.prog 54 #[.slice A n c, .int .u32 s] W (Wrote W base A n c x4 true))) :
    Calls Try.prog 37 #[.slice A n c, pch q t s f] w (Wrote w base A n c x4 true) := by
  have HN : Hid (∀ a, A = some a → a.block ≠ w.heap.size) := fun a h => Nat.ne_of_lt (own_lt ho.out a h)
  go_enter Try.func37, Try.ntmps37
  go_wp2_with fail
  have hb0 := (Below.refl w.heap.size w).alloc (Nat.le_refl _) (.cells #[.int .u16 q, .int .u32 t, .int .u32 s, .int .u16 f] 35)
  refine (CF.out _ (ho.out.below hb0 (Nat.le_refl _))).mono ?_
  rintro e w1 ⟨rfl, ho1, ha1⟩
  have D1 := (QBlk.new w q t s f).at ha1 HN.out
  have A1 : Hid (At A w w1) := (At.of_below A hb0).trans ha1
  have HO1 := Lib.hid ho1
  have c0 := D1.c0
  clear ho1 ha1 hb0
  go_wp2_with fail
  refine (CS.out _ HO1.out).mono ?_
  rintro e w2 ⟨rfl, ho2, ha2⟩
  have D2 := D1.at ha2 HN.out
  have A2 : Hid (At A w w2) := A1.out.trans ha2
  have HO2 := Lib.hid ho2
  have c1 := D2.c1
  clear ho2 ha2 D1 c0
  go_wp2_with fail
  refine (CT.out _ HO2.out).mono ?_
  rintro e w3 ⟨rfl, ho3, ha3⟩
  have D3 := D2.at ha3 HN.out
  have A3 : Hid (At A w w3) := A2.out.trans ha3
  have HO3 := Lib.hid ho3
  have c2 := D3.c2
  clear ho3 ha3 D2 c1
  go_wp2_with fail
  refine (CR.out _ HO3.out).mono ?_
  rintro e w4 ⟨rfl, ho4, ha4⟩
  go_wp2
  go_ret
  exact ⟨rfl, ho4, A3.out.trans ha4⟩

theorem apply_own (A : Option Addr) (n c base : Nat) (q t s f : Int) (xs : List Int) (w : World) (ho : Own w base A n c xs) (hp : PF q t s f) :
    Calls Try.prog 37 #[.slice A n c, pch q t s f] w (Wrote w base A n c (applyL xs q t s f) (hasD xs)) := by
  by_cases h : hasD xs = true
  · obtain ⟨a1, a2, a3, a4, -⟩ := frame_up ho.2.1 h (l := 0) rfl hp.f0 hp.f1
    obtain ⟨b1, b2, b3, b4, -⟩ := seq_up a3 a1 hp.q0 hp.q1
    obtain ⟨c1, c2, c3, c4, -⟩ := time_up b3 b1 hp.t0 hp.t1
    obtain ⟨e, -⟩ := apply_steps ho.2.1 h ⟨hp.q0, hp.q1⟩ ⟨hp.t0, hp.t1⟩ ⟨hp.s0, hp.s1⟩ ⟨hp.f0, hp.f1⟩
    rw [h, ← e]
    refine apply_yes A n c base q t s f xs (frameL xs 0 f) (seqL (frameL xs 0 f) q) (timeL (seqL (frameL xs 0 f) q) t) (ssrcL (timeL (seqL (frameL xs 0 f) q) t) s) w ho (fun W hW => ?_) (fun W hW => ?_) (fun W hW => ?_) (fun W hW => ?_)
    · have := frame_own A n c base 0 f xs W hW hp.f0 hp.f1
      rw [h, show (true && mayB 0) = true from rfl] at this
      exact this
    · have := seq_own A n c base q _ W hW hp.q0 hp.q1
      rw [media, decide_eq_true a1] at this
      exact this
    · have := time_own A n c base t _ W hW hp.t0 hp.t1
      rw [media, decide_eq_true b1] at this
      exact this
    · have := ssrc_own A n c base s _ W hW hp.s0 hp.s1
      rw [media, decide_eq_true c1] at this
      exact this
  · have h' : hasD xs = false := Bool.eq_false_iff.2 h
    rw [applyL, h', if_neg (by decide)]
    refine (apply_none A n c q t s f w (fun W w' => Own w' base A n c xs ∧ At A W w') (fun W hW => ?_)).mono ?_
    · have := frame_own A n c base 0 f xs W (ho.below hW (Nat.le_refl _)) hp.f0 hp.f1
      rw [frameL, h', Bool.false_and, if_neg (by decide)] at this
      exact this
    · rintro e w' ⟨rfl, W, hW, h1, h2⟩
      exact ⟨rfl, h1, (At.of_below A hW).trans h2⟩
end Go.Proofs.Ytdnnfoacpjgloaa.Pat
