/- The contract of the reference's Media. · The contract of the reference's Media, where the bytes are a packet. -/
import Derived.Test.YtdnnfoacpjgloaaNe
import Derived.Test.YtdnnfoacpjgloaaMe
import Derived.Test.YtdnnfoacpjgloaaMb
import Derived.Test.YtdnnfoacpjgloaaDl
set_option maxRecDepth 100000
namespace Go.Proofs.Ytdnnfoacpjgloaa.Pat
open Go.RowKit
open Rtp (PV pkt pobj PBlk Loc pvOf PRd zpv Off)
set_option linter.unusedVariables false

def RetM (w : World) (p : Pkt) (l : Int) (k s : Bool) (f n : Int) (e : Ending) (w' : World) : Prop :=
  ∃ lc, e = .returned (.tuple #[pkt (pvOf p lc), dsc l k s f, .int .i64 n]) ∧ PRd w' w'.heap.size p lc ∧ Below w.heap.size w w'
theorem retM_at {W : World} {b d : Nat} {v : PV} {l f n : Int} {k s : Bool} {tmps : Array Value} {R : Ending → World → Prop} (D : PBlk W b v) (E : DBlk W d l k s f) (hR : R (.returned (.tuple #[pkt v, dsc l k s f, .int .i64 n])) W)
    (h2 : tmps[2]?.getD undef = .pointer (some ⟨b, 0, none⟩) := by rfl) (h3 : tmps[3]?.getD undef = .pointer (some ⟨d, 0, none⟩) := by rfl) (h4 : tmps[4]?.getD undef = .int .i64 n := by rfl) :
    bodyPost Try.prog Try.f42 R .ret ⟨tmps, []⟩ W := by
  obtain ⟨c0, c1, c2, c3, c4, c5, c6, c7, c8, c9, c10⟩ := D.cells
  have d0 := E.c0
  have d1 := E.c1
  have d2 := E.c2
  have d3 := E.c3
  exact bodyPost_ret (v := .tuple #[pkt v, dsc l k s f, .int .i64 n]) (by simp [results, Try.results42, go_sem, h2, h3, h4, c0, c1, c2, c3, c4, c5, c6, c7, c8, c9, c10, d0, d1, d2, d3]) rfl hR
theorem DBlk.offb {w w' : World} {b q : Nat} {l f : Int} {k s : Bool} (h : DBlk w q l k s f) (hq : q ≠ b) (ho : Off b w w') : DBlk w' q l k s f := (ho q hq).trans h
theorem off_dstore (b : Nat) (w : World) (u0 u1 u2 u3 : Value) : Off b w ((((w.setCell ⟨b, 0, none⟩ u0).setCell ⟨b, 1, none⟩ u1).setCell ⟨b, 2, none⟩ u2).setCell ⟨b, 3, none⟩ u3) :=
  ((((Off.refl b w).set u0).set u1).set u2).set u3

theorem pdrew {w : World} {b : Nat} {v : PV} (h : PBlk w b v) : PBlk w.drew b v := h
theorem ddrew {w : World} {b : Nat} {l f : Int} {k s : Bool} (h : DBlk w b l k s f) : DBlk w.drew b l k s f := h
theorem prdrew {w : World} {p : Pkt} {lc : Rtp.Loc} (h : PRd w w.heap.size p lc) : PRd w.drew w.drew.heap.size p lc := ⟨h.csrc, h.ext, h.pay, h.cn, h.en, h.pn, h.cc, h.ec, h.pc⟩
theorem pundrew {w : World} {b : Nat} {v : PV} (h : PBlk w.drew b v) : PBlk w b v := h
theorem dundrew {w : World} {b : Nat} {l f : Int} {k s : Bool} (h : DBlk w.drew b l k s f) : DBlk w b l k s f := h
abbrev PW (w : World) (b : Nat) (v : PV) : World :=
  (((((((((((w.setCell ⟨b, 0, none⟩ (.bool v.mrk)).setCell ⟨b, 1, none⟩ (.int .i64 v.ty)).setCell ⟨b, 2, none⟩ (.int .u16 v.seq)).setCell ⟨b, 3, none⟩ (.int .u32 v.time)).setCell ⟨b, 4, none⟩ (.int .u32 v.ssrc)).setCell ⟨b, 5, none⟩ (.slice v.ca v.cn v.cc)).setCell ⟨b, 6, none⟩ (.bool v.he)).setCell ⟨b, 7, none⟩ (.int .u16 v.prof)).setCell ⟨b, 8, none⟩ (.slice v.ea v.en v.ec)).setCell ⟨b, 9, none⟩ (.slice v.pa v.pn v.pc)).setCell ⟨b, 10, none⟩ (.int .i64 v.pad))
abbrev DW (w : World) (b : Nat) (l : Int) (k s : Bool) (f : Int) : World := (((w.setCell ⟨b, 0, none⟩ (.int .i64 l)).setCell ⟨b, 1, none⟩ (.bool k)).setCell ⟨b, 2, none⟩ (.bool s)).setCell ⟨b, 3, none⟩ (.int .u16 f)
/-- The world in which the two results are written. -/
def MW (w : World) (b d : Nat) (v : PV) (l : Int) (k s : Bool) (f : Int) : World :=
  ((((((((((((((((w.setCell ⟨b, 0, none⟩ (.bool v.mrk)).setCell ⟨b, 1, none⟩ (.int .i64 v.ty)).setCell ⟨b, 2, none⟩ (.int .u16 v.seq)).setCell ⟨b, 3, none⟩ (.int .u32 v.time)).setCell ⟨b, 4, none⟩ (.int .u32 v.ssrc)).setCell ⟨b, 5, none⟩ (.slice v.ca v.cn v.cc)).setCell ⟨b, 6, none⟩ (.bool v.he)).setCell ⟨b, 7, none⟩ (.int .u16 v.prof)).setCell ⟨b, 8, none⟩ (.slice v.ea v.en v.ec)).setCell ⟨b, 9, none⟩ (.slice v.pa v.pn v.pc)).setCell ⟨b, 10, none⟩ (.int .i64 v.pad))).setCell ⟨d, 0, none⟩ (.int .i64 l)).setCell ⟨d, 1, none⟩ (.bool k)).setCell ⟨d, 2, none⟩ (.bool s)).setCell ⟨d, 3, none⟩ (.int .u16 f))
theorem MW_at {w w0 : World} {B b d : Nat} {v u : PV} {l l' f f' : Int} {k k' s s' : Bool} (D : PBlk w b v) (E : DBlk w d l k s f) (hbd : b ≠ d) (hb : Below B w0 w) (h1 : B ≤ b) (h2 : B ≤ d) :
    PBlk (MW w b d u l' k' s' f') b u ∧ DBlk (MW w b d u l' k' s' f') d l' k' s' f' ∧ Below B w0 (MW w b d u l' k' s' f') ∧ w.heap.size ≤ (MW w b d u l' k' s' f').heap.size ∧ ∀ i, i ≠ b → i ≠ d → (MW w b d u l' k' s' f').heap[i]? = w.heap[i]? :=
  ⟨Rtp.PBlk.offb (D.store u) hbd (off_dstore d _ _ _ _ _), (DBlk.offb E (Ne.symm hbd) (Rtp.off_pstore b w _ _ _ _ _ _ _ _ _ _ _)).store l' k' s' f', below_dstore (Rtp.below_pstore hb h1 _ _ _ _ _ _ _ _ _ _ _) h2 _ _ _ _,
    (below_dstore (Rtp.below_pstore (Below.refl 0 w) (Nat.zero_le _) _ _ _ _ _ _ _ _ _ _ _) (Nat.zero_le _) _ _ _ _).size, fun i h1 h2 => (off_dstore d _ _ _ _ _ i h2).trans (Rtp.off_pstore b w _ _ _ _ _ _ _ _ _ _ _ i h1)⟩

set_option maxHeartbeats 2000000 in
theorem media_none (a : Option Addr) (len cap : Nat) (p : Pkt) (f t n : Int) (w : World) (hn : (n != 0) = true)
    (CG : Hid (∀ W, Below w.heap.size w W → Calls Try.prog 56 #[.slice a len cap] W (Rtp.RNew W p f t n))) :
    Calls Try.prog 42 #[.slice a len cap] w (RetM w zeroPkt 0 false false 0 n) := by
  go_enter Try.func42, Try.ntmps42
  go_wp2_with fail
  have hb0 : Below w.heap.size w ((w.alloc (pobj zpv)).alloc D0) := ((Below.refl w.heap.size w).alloc (Nat.le_refl _) (pobj zpv)).alloc (by simp) D0
  have D1 : PBlk ((w.alloc (pobj zpv)).alloc D0) w.heap.size zpv := (PBlk.new w zpv).below ((Below.refl (w.alloc (pobj zpv)).heap.size _).alloc (Nat.le_refl _) D0) (by simp)
  have E1 : DBlk ((w.alloc (pobj zpv)).alloc D0) (w.heap.size + 1) 0 false false 0 := by
    have := DBlk.new (w.alloc (pobj zpv)) 0 false false 0
    rw [show (w.alloc (pobj zpv)).heap.size = w.heap.size + 1 from by simp] at this
    exact this
  refine (CG.out _ hb0).mono ?_
  rintro e w1 ⟨lc, rfl, -, -, hb1⟩
  obtain ⟨v, hv⟩ : ∃ v, pvOf p lc = v := ⟨_, rfl⟩
  rw [hv]
  have D2 := (D1.below hb1 D1.lt).below ((Below.refl w1.heap.size w1).alloc (Nat.le_refl _) (pobj v)) (D1.below hb1 D1.lt).lt
  have E2 := (E1.below hb1 E1.lt).below ((Below.refl w1.heap.size w1).alloc (Nat.le_refl _) (pobj v)) (E1.below hb1 E1.lt).lt
  have hb : Below w.heap.size w w1 := hb0.trans (hb1.mono (by simp; omega))
  have hb2 := hb.alloc hb.size (pobj v)
  clear hb0 hb1 D1 E1 hv CG hb
  have HM := Lib.hid (MW_at (u := zpv) (l' := 0) (k' := false) (s' := false) (f' := 0) D2 E2 (by omega) hb2 (Nat.le_refl _) (by omega))
  obtain ⟨f0, f1, f2, f3, f4, f5, f6, f7, f8, f9, f10, g0, g1, g2, g3, g4, g5, g6, g7, g8, g9, g10⟩ := D2.cf
  have i0 := E2.c0
  have i1 := E2.c1
  have i2 := E2.c2
  have i3 := E2.c3
  have j0 := E2.frozen 0
  have j1 := E2.frozen 1
  have j2 := E2.frozen 2
  have j3 := E2.frozen 3
  clear D2 E2 hb2
  go_wp2
  obtain ⟨m1, m2, m3, -, -⟩ := HM.out
  refine retM_at (v := zpv) m1 m2 ⟨⟨none, 0, none, 0, none, 0⟩, rfl, Rtp.zero_rd _ _, m3⟩
end Go.Proofs.Ytdnnfoacpjgloaa.Pat

namespace Go.Proofs.Ytdnnfoacpjgloaa.Pat
open Go.RowKit
open Rtp (PV pkt pobj PBlk Loc pvOf PRd zpv Off)
set_option linter.unusedVariables false

set_option maxHeartbeats 4000000 in
theorem media_bad (a : Option Addr) (len cap : Nat) (p : Pkt) (f t l fr m : Int) (k s : Bool) (w : World) (hm : (m != 0) = true)
    (CG : Hid (∀ W, Below w.heap.size w W → Calls Try.prog 56 #[.slice a len cap] W (Rtp.RNew W p f t 0)))
    (CD : Hid (∀ W A n c B, Rd W B A n p.pay → n ≤ c → n ≤ maxLen → B ≤ W.heap.size → Calls Try.prog 57 #[.slice A n c] W (RetG W l k s fr m))) :
    Calls Try.prog 42 #[.slice a len cap] w (RetM w zeroPkt 0 false false 0 m) := by
  go_enter Try.func42, Try.ntmps42
  go_wp2_with fail
  have hb0 : Below w.heap.size w ((w.alloc (pobj zpv)).alloc D0) := ((Below.refl w.heap.size w).alloc (Nat.le_refl _) (pobj zpv)).alloc (by simp) D0
  have D1 : PBlk ((w.alloc (pobj zpv)).alloc D0) w.heap.size zpv := (PBlk.new w zpv).below ((Below.refl (w.alloc (pobj zpv)).heap.size _).alloc (Nat.le_refl _) D0) (by simp)
  have E1 : DBlk ((w.alloc (pobj zpv)).alloc D0) (w.heap.size + 1) 0 false false 0 := by
    have := DBlk.new (w.alloc (pobj zpv)) 0 false false 0
    rw [show (w.alloc (pobj zpv)).heap.size = w.heap.size + 1 from by simp] at this
    exact this
  refine (CG.out _ hb0).mono ?_
  rintro e w1 ⟨lc, rfl, hq, hnw, hb1⟩
  obtain ⟨v, hv⟩ : ∃ v, pvOf p lc = v := ⟨_, rfl⟩
  rw [hv]
  have hb1' := (Below.refl w1.heap.size w1).alloc (Nat.le_refl _) (pobj v)
  have D2 := (D1.below hb1 D1.lt).below hb1' (D1.below hb1 D1.lt).lt
  have E2 := (E1.below hb1 E1.lt).below hb1' (E1.below hb1 E1.lt).lt
  have F2 := PBlk.new w1 v
  have hb : Below w.heap.size w w1 := hb0.trans (hb1.mono (by simp; omega))
  have hb2 := hb.alloc hb.size (pobj v)
  have hq2 := (hq.below hb1').more hb1'.size
  have hz : w.heap.size + 1 < w1.heap.size := (E1.below hb1 E1.lt).lt
  clear hb0 hb1 D1 E1 CG hb hq hb1' hnw
  have CD2 : Calls Try.prog 57 #[.slice v.pa v.pn v.pc] (w1.alloc (pobj v)) (RetG (w1.alloc (pobj v)) l k s fr m) := by
    subst hv
    exact CD.out _ _ _ _ _ hq2.pay hq2.pc (Nat.le_trans hq2.pn (by decide)) (Nat.le_refl _)
  have HC := Lib.hid CD2
  have HQ2 := Lib.hid hq2
  have HV := Lib.hid hv
  have f9 := F2.c9
  clear CD CD2 hq2 hv
  go_wp2_with fail
  generalize w1.alloc (pobj v) = w2 at *
  generalize w1.heap.size = q at *
  refine HC.out.mono ?_
  rintro e w3 ⟨rfl, hb3⟩
  have hb3' := (Below.refl w3.heap.size w3).alloc (Nat.le_refl _) (.cells #[.int .i64 l, .bool k, .bool s, .int .u16 fr] 82)
  have hb34 := hb3.trans (hb3'.mono hb3.size)
  have hb4 := hb2.trans (hb34.mono hb2.size)
  have D4 := D2.below hb34 D2.lt
  have E4 := E2.below hb34 E2.lt
  have F4 := F2.below hb34 F2.lt
  have G4 := DBlk.new w3 l k s fr
  have HQ4 := Lib.hid ((HQ2.out.below hb34).more hb34.size)
  have hz3 : q < w3.heap.size := Nat.lt_of_lt_of_le F2.lt hb3.size
  clear HC hb2 hb3 hb3' hb34 D2 E2 F2 HQ2 f9
  have HM := Lib.hid (MW_at (u := zpv) (l' := 0) (k' := false) (s' := false) (f' := 0) D4 E4 (by omega) hb4 (Nat.le_refl _) (by omega))
  clear hz hz3
  obtain ⟨f0, f1, f2, f3, f4, f5, f6, f7, f8, f9, f10, g0, g1, g2, g3, g4, g5, g6, g7, g8, g9, g10⟩ := D4.cf
  have i0 := E4.c0
  have i1 := E4.c1
  have i2 := E4.c2
  have i3 := E4.c3
  have j0 := E4.frozen 0
  have j1 := E4.frozen 1
  have j2 := E4.frozen 2
  have j3 := E4.frozen 3
  clear D4 E4 F4 G4 hb4
  go_wp2
  obtain ⟨m1, m2, m3, -, -⟩ := HM.out
  refine retM_at (v := zpv) m1 m2 ⟨⟨none, 0, none, 0, none, 0⟩, rfl, Rtp.zero_rd _ _, m3⟩

set_option maxHeartbeats 4000000 in
theorem media_yes (a : Option Addr) (len cap : Nat) (p : Pkt) (f t l fr : Int) (k s : Bool) (w : World)
    (CG : Hid (∀ W, Below w.heap.size w W → Calls Try.prog 56 #[.slice a len cap] W (Rtp.RNew W p f t 0)))
    (CD : Hid (∀ W A n c B, Rd W B A n p.pay → n ≤ c → n ≤ maxLen → B ≤ W.heap.size → Calls Try.prog 57 #[.slice A n c] W (RetG W l k s fr 0))) :
    Calls Try.prog 42 #[.slice a len cap] w (RetM w p l k s fr 0) := by
  go_enter Try.func42, Try.ntmps42
  go_wp2_with fail
  have hb0 : Below w.heap.size w ((w.alloc (pobj zpv)).alloc D0) := ((Below.refl w.heap.size w).alloc (Nat.le_refl _) (pobj zpv)).alloc (by simp) D0
  have D1 : PBlk ((w.alloc (pobj zpv)).alloc D0) w.heap.size zpv := (PBlk.new w zpv).below ((Below.refl (w.alloc (pobj zpv)).heap.size _).alloc (Nat.le_refl _) D0) (by simp)
  have E1 : DBlk ((w.alloc (pobj zpv)).alloc D0) (w.heap.size + 1) 0 false false 0 := by
    have := DBlk.new (w.alloc (pobj zpv)) 0 false false 0
    rw [show (w.alloc (pobj zpv)).heap.size = w.heap.size + 1 from by simp] at this
    exact this
  refine (CG.out _ hb0).mono ?_
  rintro e w1 ⟨lc, rfl, hq, hnw, hb1⟩
  obtain ⟨v, hv⟩ : ∃ v, pvOf p lc = v := ⟨_, rfl⟩
  rw [hv]
  have hb1' := (Below.refl w1.heap.size w1).alloc (Nat.le_refl _) (pobj v)
  have D2 := (D1.below hb1 D1.lt).below hb1' (D1.below hb1 D1.lt).lt
  have E2 := (E1.below hb1 E1.lt).below hb1' (E1.below hb1 E1.lt).lt
  have F2 := PBlk.new w1 v
  have hb : Below w.heap.size w w1 := hb0.trans (hb1.mono (by simp; omega))
  have hb2 := hb.alloc hb.size (pobj v)
  have hq2 := (hq.below hb1').more hb1'.size
  have hz : w.heap.size + 1 < w1.heap.size := (E1.below hb1 E1.lt).lt
  have HNW : Hid (Rtp.PNw (w.heap.size + 2) p lc) := by
    have : ((w.alloc (pobj zpv)).alloc D0).heap.size = w.heap.size + 2 := by simp
    rw [this] at hnw
    exact hnw
  clear hb0 hb1 D1 E1 CG hb hq hb1' hnw
  have CD2 : Calls Try.prog 57 #[.slice v.pa v.pn v.pc] (w1.alloc (pobj v)) (RetG (w1.alloc (pobj v)) l k s fr 0) := by
    subst hv
    exact CD.out _ _ _ _ _ hq2.pay hq2.pc (Nat.le_trans hq2.pn (by decide)) (Nat.le_refl _)
  have HC := Lib.hid CD2
  have HQ2 := Lib.hid hq2
  have HV := Lib.hid hv
  have f9 := F2.c9
  clear CD CD2 hq2 hv
  go_wp2_with fail
  generalize w1.alloc (pobj v) = w2 at *
  generalize w1.heap.size = q at *
  refine HC.out.mono ?_
  rintro e w3 ⟨rfl, hb3⟩
  have hb3' := (Below.refl w3.heap.size w3).alloc (Nat.le_refl _) (.cells #[.int .i64 l, .bool k, .bool s, .int .u16 fr] 82)
  have hb34 := hb3.trans (hb3'.mono hb3.size)
  have hb4 := hb2.trans (hb34.mono hb2.size)
  have D4 := D2.below hb34 D2.lt
  have E4 := E2.below hb34 E2.lt
  have F4 := F2.below hb34 F2.lt
  have G4 := DBlk.new w3 l k s fr
  have HQ4 := Lib.hid ((HQ2.out.below hb34).more hb34.size)
  have hz3 : q < w3.heap.size := Nat.lt_of_lt_of_le F2.lt hb3.size
  clear HC hb2 hb3 hb3' hb34 D2 E2 F2 HQ2 f9
  have HM := Lib.hid (MW_at (u := v) (l' := l) (k' := k) (s' := s) (f' := fr) D4 E4 (by omega) hb4 (Nat.le_refl _) (by omega))
  have hs1 : q ≠ w.heap.size := by omega
  have hs2 : q ≠ w.heap.size + 1 := by omega
  have hs3 : w3.heap.size ≠ w.heap.size := by omega
  have hs4 : w3.heap.size ≠ w.heap.size + 1 := by omega
  have hs5 : w.heap.size + 1 ≠ w.heap.size := by omega
  clear hz hz3
  go_wp2_with fail
  generalize w3.alloc (.cells #[.int .i64 l, .bool k, .bool s, .int .u16 fr] 82) = w4 at *
  generalize w3.heap.size = g at *
  generalize hr : w.heap.size + 1 = r at *
  have hS : PBlk w4.drew q v ∧ DBlk w4.drew g l k s fr := ⟨F4, G4⟩
  have HD4 := Lib.hid D4
  have HE4 := Lib.hid E4
  clear F4 G4 D4 E4 hb4
  have c0 : ∀ W, (PBlk W q v ∧ DBlk W g l k s fr) → W.cell? ⟨q, 0, none⟩ = some (.bool v.mrk) := fun W h => h.1.c0
  have c1 : ∀ W, (PBlk W q v ∧ DBlk W g l k s fr) → W.cell? ⟨q, 1, none⟩ = some (.int .i64 v.ty) := fun W h => h.1.c1
  have c2 : ∀ W, (PBlk W q v ∧ DBlk W g l k s fr) → W.cell? ⟨q, 2, none⟩ = some (.int .u16 v.seq) := fun W h => h.1.c2
  have c3 : ∀ W, (PBlk W q v ∧ DBlk W g l k s fr) → W.cell? ⟨q, 3, none⟩ = some (.int .u32 v.time) := fun W h => h.1.c3
  have c4 : ∀ W, (PBlk W q v ∧ DBlk W g l k s fr) → W.cell? ⟨q, 4, none⟩ = some (.int .u32 v.ssrc) := fun W h => h.1.c4
  have c5 : ∀ W, (PBlk W q v ∧ DBlk W g l k s fr) → W.cell? ⟨q, 5, none⟩ = some (.slice v.ca v.cn v.cc) := fun W h => h.1.c5
  have c6 : ∀ W, (PBlk W q v ∧ DBlk W g l k s fr) → W.cell? ⟨q, 6, none⟩ = some (.bool v.he) := fun W h => h.1.c6
  have c7 : ∀ W, (PBlk W q v ∧ DBlk W g l k s fr) → W.cell? ⟨q, 7, none⟩ = some (.int .u16 v.prof) := fun W h => h.1.c7
  have c8 : ∀ W, (PBlk W q v ∧ DBlk W g l k s fr) → W.cell? ⟨q, 8, none⟩ = some (.slice v.ea v.en v.ec) := fun W h => h.1.c8
  have c9 : ∀ W, (PBlk W q v ∧ DBlk W g l k s fr) → W.cell? ⟨q, 9, none⟩ = some (.slice v.pa v.pn v.pc) := fun W h => h.1.c9
  have c10 : ∀ W, (PBlk W q v ∧ DBlk W g l k s fr) → W.cell? ⟨q, 10, none⟩ = some (.int .i64 v.pad) := fun W h => h.1.c10
  have d0 : ∀ W, (PBlk W q v ∧ DBlk W g l k s fr) → W.cell? ⟨g, 0, none⟩ = some (.int .i64 l) := fun W h => h.2.c0
  have d1 : ∀ W, (PBlk W q v ∧ DBlk W g l k s fr) → W.cell? ⟨g, 1, none⟩ = some (.bool k) := fun W h => h.2.c1
  have d2 : ∀ W, (PBlk W q v ∧ DBlk W g l k s fr) → W.cell? ⟨g, 2, none⟩ = some (.bool s) := fun W h => h.2.c2
  have d3 : ∀ W, (PBlk W q v ∧ DBlk W g l k s fr) → W.cell? ⟨g, 3, none⟩ = some (.int .u16 fr) := fun W h => h.2.c3
  refine region_seq (fun W => PBlk W q v ∧ DBlk W g l k s fr) [(0, false), (1, false), (2, true), (3, true), (4, false)] (by kernel_rfl) (by kernel_rfl) rfl (by kernel_rfl) ?_
  iterate 2 (refine seq_read (v := _) rfl (fun _ _ _ h => h) hS (Or.inl ⟨by rfl, fun W hW => by go_simp <;> with_reducible rfl⟩) ?_; simp only [Act.put, List.setIfInBounds_toArray, List.set_cons_zero, List.set_cons_succ])
  clear c0 c1 c2 c3 c4 c5 c6 c7 c8 c9 c10 d0 d1 d2 d3
  have D4 := HD4.out
  have E4 := HE4.out
  obtain ⟨f0, f1, f2, f3, f4, f5, f6, f7, f8, f9, f10, g0, g1, g2, g3, g4, g5, g6, g7, g8, g9, g10⟩ := D4.cf
  have i0 := E4.c0
  have i1 := E4.c1
  have i2 := E4.c2
  have i3 := E4.c3
  have j0 := E4.frozen 0
  have j1 := E4.frozen 1
  have j2 := E4.frozen 2
  have j3 := E4.frozen 3
  clear D4 E4
  refine seq_do rfl (fun K hK => ?_)
  go_simp
  have HO := Rtp.off_pstore w.heap.size w4 (.bool v.mrk) (.int .i64 v.ty) (.int .u16 v.seq) (.int .u32 v.time) (.int .u32 v.ssrc) (.slice v.ca v.cn v.cc) (.bool v.he) (.int .u16 v.prof) (.slice v.ea v.en v.ec) (.slice v.pa v.pn v.pc) (.int .i64 v.pad)
  have hS1 : PBlk (PW w4 w.heap.size v).drew q v ∧ DBlk (PW w4 w.heap.size v).drew g l k s fr := And.intro (pdrew (Rtp.PBlk.offb (pundrew hS.1) hs1 HO)) (ddrew (DBlk.offb (dundrew hS.2) hs3 HO))
  refine hK.out _ _ (fun W => PBlk W q v ∧ DBlk W g l k s fr) (fun W h => h) hS1 ?_
  clear hK K
  refine seq_do rfl (fun K hK => ?_)
  go_simp
  have hS2 : PBlk (DW (PW w4 w.heap.size v) r l k s fr).drew q v ∧ DBlk (DW (PW w4 w.heap.size v) r l k s fr).drew g l k s fr := And.intro (pdrew (Rtp.PBlk.offb (pundrew hS1.1) hs2 (off_dstore r _ _ _ _ _))) (ddrew (DBlk.offb (dundrew hS1.2) hs4 (off_dstore r _ _ _ _ _)))
  clear HO
  refine hK.out _ _ (fun W => PBlk W q v ∧ DBlk W g l k s fr) (fun W h => h) hS2 ?_
  clear hK K
  iterate 1 (refine seq_read (v := _) rfl (fun _ _ _ h => h) hS2 (Or.inl ⟨by rfl, fun W hW => by go_simp <;> with_reducible rfl⟩) ?_; simp only [Act.put, List.setIfInBounds_toArray, List.set_cons_zero, List.set_cons_succ])
  refine seq_end ?_
  clear f0 f1 f2 f3 f4 f5 f6 f7 f8 f9 f10 g0 g1 g2 g3 g4 g5 g6 g7 g8 g9 g10 i0 i1 i2 i3 j0 j1 j2 j3
  go_wp2
  obtain ⟨m1, m2, m3, m4, m5⟩ := HM.out
  have m6 : PRd (MW w4 w.heap.size r v l k s fr) (MW w4 w.heap.size r v l k s fr).heap.size p lc := (Rtp.PRd.far (b := w.heap.size + 2) HQ4.out HNW.out (fun i hi => m5 i (by omega) (by omega))).more m4
  exact retM_at (W := (MW w4 w.heap.size r v l k s fr).drew) (v := v) (pdrew m1) (ddrew m2) ⟨lc, by rw [HV.out], prdrew m6, m3.drew⟩
end Go.Proofs.Ytdnnfoacpjgloaa.Pat
