/- The contract of the reference's Media. · The contract of the reference's Sift; SiftAll, walked. · The contract of the reference's Sift, all ways. · The reference's Sift whatever the bytes; SiftAll, walked. -/
import Derived.Test.YthmmafpmpnhleaaTa
import Derived.Test.YthmmafpmpnhleaaMe
import Derived.Test.YthmmafpmpnhleaaDl
import Derived.Test.YthmmafpmpnhleaaTg
import Derived.Test.YthmmafpmpnhleaaVr
import Derived.Test.YthmmafpmpnhleaaVq
set_option maxRecDepth 100000
namespace Go.Proofs.Ythmmafpmpnhleaa.Sft
open Go.RowKit
open Rtp (PV pkt pobj PBlk pvOf PRd zpv Off)
set_option linter.unusedVariables false

def RetM (w : World) (p : Pkt) (l : Int) (k s : Bool) (f n : Int) (e : Ending) (w' : World) : Prop :=
  ∃ lc, e = .returned (.tuple #[pkt (pvOf p lc), dsc l k s f, .int .i64 n]) ∧ PRd w' w'.heap.size p lc ∧ Rtp.PNw w.heap.size p lc ∧ Below w.heap.size w w'

set_option maxHeartbeats 2000000 in
theorem rmedia_none (a : Option Addr) (len cap : Nat) (p : Pkt) (f t n : Int) (w : World) (hn : (n != 0) = true)
    (CG : Hid (∀ W, Below w.heap.size w W → Calls Try.prog 55 #[.slice a len cap] W (Rtp.RNew W p f t n))) :
    Calls Try.prog 28 #[.slice a len cap] w (RetM w zeroPkt 0 false false 0 n) := by
  go_enter Try.func28, Try.ntmps28
  go_wp2_with fail
  have hb0 : Below w.heap.size w ((w.alloc (pobj zpv)).alloc D0) := ((Below.refl w.heap.size w).alloc (Nat.le_refl _) (pobj zpv)).alloc (by simp) D0
  have D1 : PBlk ((w.alloc (pobj zpv)).alloc D0) w.heap.size zpv := (PBlk.new w zpv).below ((Below.refl (w.alloc (pobj zpv)).heap.size _).alloc (Nat.le_refl _) D0) (by simp)
  have E1 : DBlk ((w.alloc (pobj zpv)).alloc D0) (w.heap.size + 1) 0 false false 0 := by
    have := DBlk.new (w.alloc (pobj zpv)) 0 false false 0
    rw [show (w.alloc (pobj zpv)).heap.size = w.heap.size + 1 from by simp] at this
    exact this
  refine (CG.out _ hb0).mono ?_
  rintro e w1 ⟨lc, rfl, -, -, hb1⟩
  obtain ⟨v, hv⟩ : ∃ v, pvOf p lc = v := ⟨_, rfl⟩
  rw [hv]
  have D2 := (D1.below hb1 D1.lt).below ((Below.refl w1.heap.size w1).alloc (Nat.le_refl _) (pobj v)) (D1.below hb1 D1.lt).lt
  have E2 := (E1.below hb1 E1.lt).below ((Below.refl w1.heap.size w1).alloc (Nat.le_refl _) (pobj v)) (E1.below hb1 E1.lt).lt
  have hb : Below w.heap.size w w1 := hb0.trans (hb1.mono (by simp; omega))
  have hb2 := hb.alloc hb.size (pobj v)
  clear hb0 hb1 D1 E1 hv CG hb
  have HM := Lib.hid (MW_at (u := zpv) (l' := 0) (k' := false) (s' := false) (f' := 0) D2 E2 (by omega) hb2 (Nat.le_refl _) (by omega))
  obtain ⟨f0, f1, f2, f3, f4, f5, f6, f7, f8, f9, f10, g0, g1, g2, g3, g4, g5, g6, g7, g8, g9, g10⟩ := D2.cf
  have i0 := E2.c0
  have i1 := E2.c1
  have i2 := E2.c2
  have i3 := E2.c3
  have j0 := E2.frozen 0
  have j1 := E2.frozen 1
  have j2 := E2.frozen 2
  have j3 := E2.frozen 3
  clear D2 E2 hb2
  go_wp2
  obtain ⟨m1, m2, m3, -, -⟩ := HM.out
  refine ret_pd (v := zpv) Try.results28 m1 m2 ⟨⟨none, 0, none, 0, none, 0⟩, rfl, Rtp.zero_rd _ _, Rtp.PNw.zero _ _, m3⟩
set_option maxHeartbeats 4000000 in
theorem rmedia_bad (a : Option Addr) (len cap : Nat) (p : Pkt) (f t l fr m : Int) (k s : Bool) (w : World) (hm : (m != 0) = true)
    (CG : Hid (∀ W, Below w.heap.size w W → Calls Try.prog 55 #[.slice a len cap] W (Rtp.RNew W p f t 0)))
    (CD : Hid (∀ W A n c B, Rd W B A n p.pay → n ≤ c → n ≤ maxLen → B ≤ W.heap.size → Calls Try.prog 17 #[.slice A n c] W (RetG W l k s fr m))) :
    Calls Try.prog 28 #[.slice a len cap] w (RetM w zeroPkt 0 false false 0 m) := by
  go_enter Try.func28, Try.ntmps28
  go_wp2_with fail
  have hb0 : Below w.heap.size w ((w.alloc (pobj zpv)).alloc D0) := ((Below.refl w.heap.size w).alloc (Nat.le_refl _) (pobj zpv)).alloc (by simp) D0
  have D1 : PBlk ((w.alloc (pobj zpv)).alloc D0) w.heap.size zpv := (PBlk.new w zpv).below ((Below.refl (w.alloc (pobj zpv)).heap.size _).alloc (Nat.le_refl _) D0) (by simp)
  have E1 : DBlk ((w.alloc (pobj zpv)).alloc D0) (w.heap.size + 1) 0 false false 0 := by
    have := DBlk.new (w.alloc (pobj zpv)) 0 false false 0
    rw [show (w.alloc (pobj zpv)).heap.size = w.heap.size + 1 from by simp] at this
    exact this
  refine (CG.out _ hb0).mono ?_
  rintro e w1 ⟨lc, rfl, hq, hnw, hb1⟩
  obtain ⟨v, hv⟩ : ∃ v, pvOf p lc = v := ⟨_, rfl⟩
  rw [hv]
  have hb1' := (Below.refl w1.heap.size w1).alloc (Nat.le_refl _) (pobj v)
  have D2 := (D1.below hb1 D1.lt).below hb1' (D1.below hb1 D1.lt).lt
  have E2 := (E1.below hb1 E1.lt).below hb1' (E1.below hb1 E1.lt).lt
  have F2 := PBlk.new w1 v
  have hb : Below w.heap.size w w1 := hb0.trans (hb1.mono (by simp; omega))
  have hb2 := hb.alloc hb.size (pobj v)
  have hq2 := (hq.below hb1').more hb1'.size
  have hz : w.heap.size + 1 < w1.heap.size := (E1.below hb1 E1.lt).lt
  clear hb0 hb1 D1 E1 CG hb hq hb1' hnw
  have CD2 : Calls Try.prog 17 #[.slice v.pa v.pn v.pc] (w1.alloc (pobj v)) (RetG (w1.alloc (pobj v)) l k s fr m) := by
    subst hv
    exact CD.out _ _ _ _ _ hq2.pay hq2.pc (Nat.le_trans hq2.pn (by decide)) (Nat.le_refl _)
  have HC := Lib.hid CD2
  have HQ2 := Lib.hid hq2
  have HV := Lib.hid hv
  have f9 := F2.c9
  clear CD CD2 hq2 hv
  go_wp2_with fail
  generalize w1.alloc (pobj v) = w2 at *
  generalize w1.heap.size = q at *
  refine HC.out.mono ?_
  rintro e w3 ⟨rfl, hb3⟩
  have hb3' := (Below.refl w3.heap.size w3).alloc (Nat.le_refl _) (.cells #[.int .i64 l, .bool k, .bool s, .int .u16 fr] 35)
  have hb34 := hb3.trans (hb3'.mono hb3.size)
  have hb4 := hb2.trans (hb34.mono hb2.size)
  have D4 := D2.below hb34 D2.lt
  have E4 := E2.below hb34 E2.lt
  have F4 := F2.below hb34 F2.lt
  have G4 := DBlk.new w3 l k s fr
  have HQ4 := Lib.hid ((HQ2.out.below hb34).more hb34.size)
  have hz3 : q < w3.heap.size := Nat.lt_of_lt_of_le F2.lt hb3.size
  clear HC hb2 hb3 hb3' hb34 D2 E2 F2 HQ2 f9
  have HM := Lib.hid (MW_at (u := zpv) (l' := 0) (k' := false) (s' := false) (f' := 0) D4 E4 (by omega) hb4 (Nat.le_refl _) (by omega))
  clear hz hz3
  obtain ⟨f0, f1, f2, f3, f4, f5, f6, f7, f8, f9, f10, g0, g1, g2, g3, g4, g5, g6, g7, g8, g9, g10⟩ := D4.cf
  have i0 := E4.c0
  have i1 := E4.c1
  have i2 := E4.c2
  have i3 := E4.c3
  have j0 := E4.frozen 0
  have j1 := E4.frozen 1
  have j2 := E4.frozen 2
  have j3 := E4.frozen 3
  clear D4 E4 F4 G4 hb4
  go_wp2
  obtain ⟨m1, m2, m3, -, -⟩ := HM.out
  refine ret_pd (v := zpv) Try.results28 m1 m2 ⟨⟨none, 0, none, 0, none, 0⟩, rfl, Rtp.zero_rd _ _, Rtp.PNw.zero _ _, m3⟩

set_option maxHeartbeats 4000000 in
theorem rmedia_yes (a : Option Addr) (len cap : Nat) (p : Pkt) (f t l fr : Int) (k s : Bool) (w : World)
    (CG : Hid (∀ W, Below w.heap.size w W → Calls Try.prog 55 #[.slice a len cap] W (Rtp.RNew W p f t 0)))
    (CD : Hid (∀ W A n c B, Rd W B A n p.pay → n ≤ c → n ≤ maxLen → B ≤ W.heap.size → Calls Try.prog 17 #[.slice A n c] W (RetG W l k s fr 0))) :
    Calls Try.prog 28 #[.slice a len cap] w (RetM w p l k s fr 0) := by
  go_enter Try.func28, Try.ntmps28
  go_wp2_with fail
  have hb0 : Below w.heap.size w ((w.alloc (pobj zpv)).alloc D0) := ((Below.refl w.heap.size w).alloc (Nat.le_refl _) (pobj zpv)).alloc (by simp) D0
  have D1 : PBlk ((w.alloc (pobj zpv)).alloc D0) w.heap.size zpv := (PBlk.new w zpv).below ((Below.refl (w.alloc (pobj zpv)).heap.size _).alloc (Nat.le_refl _) D0) (by simp)
  have E1 : DBlk ((w.alloc (pobj zpv)).alloc D0) (w.heap.size + 1) 0 false false 0 := by
    have := DBlk.new (w.alloc (pobj zpv)) 0 false false 0
    rw [show (w.alloc (pobj zpv)).heap.size = w.heap.size + 1 from by simp] at this
    exact this
  refine (CG.out _ hb0).mono ?_
  rintro e w1 ⟨lc, rfl, hq, hnw, hb1⟩
  obtain ⟨v, hv⟩ : ∃ v, pvOf p lc = v := ⟨_, rfl⟩
  rw [hv]
  have hb1' := (Below.refl w1.heap.size w1).alloc (Nat.le_refl _) (pobj v)
  have D2 := (D1.below hb1 D1.lt).below hb1' (D1.below hb1 D1.lt).lt
  have E2 := (E1.below hb1 E1.lt).below hb1' (E1.below hb1 E1.lt).lt
  have F2 := PBlk.new w1 v
  have hb : Below w.heap.size w w1 := hb0.trans (hb1.mono (by simp; omega))
  have hb2 := hb.alloc hb.size (pobj v)
  have hq2 := (hq.below hb1').more hb1'.size
  have hz : w.heap.size + 1 < w1.heap.size := (E1.below hb1 E1.lt).lt
  have HNW : Hid (Rtp.PNw (w.heap.size + 2) p lc) := by
    have : ((w.alloc (pobj zpv)).alloc D0).heap.size = w.heap.size + 2 := by simp
    rw [this] at hnw
    exact hnw
  clear hb0 hb1 D1 E1 CG hb hq hb1' hnw
  have CD2 : Calls Try.prog 17 #[.slice v.pa v.pn v.pc] (w1.alloc (pobj v)) (RetG (w1.alloc (pobj v)) l k s fr 0) := by
    subst hv
    exact CD.out _ _ _ _ _ hq2.pay hq2.pc (Nat.le_trans hq2.pn (by decide)) (Nat.le_refl _)
  have HC := Lib.hid CD2
  have HQ2 := Lib.hid hq2
  have HV := Lib.hid hv
  have f9 := F2.c9
  clear CD CD2 hq2 hv
  go_wp2_with fail
  generalize w1.alloc (pobj v) = w2 at *
  generalize w1.heap.size = q at *
  refine HC.out.mono ?_
  rintro e w3 ⟨rfl, hb3⟩
  have hb3' := (Below.refl w3.heap.size w3).alloc (Nat.le_refl _) (.cells #[.int .i64 l, .bool k, .bool s, .int .u16 fr] 35)
  have hb34 := hb3.trans (hb3'.mono hb3.size)
  have hb4 := hb2.trans (hb34.mono hb2.size)
  have D4 := D2.below hb34 D2.lt
  have E4 := E2.below hb34 E2.lt
  have F4 := F2.below hb34 F2.lt
  have G4 := DBlk.new w3 l k s fr
  have HQ4 := Lib.hid ((HQ2.out.below hb34).more hb34.size)
  have hz3 : q < w3.heap.size := Nat.lt_of_lt_of_le F2.lt hb3.size
  clear HC hb2 hb3 hb3' hb34 D2 E2 F2 HQ2 f9
  have HM := Lib.hid (MW_at (u := v) (l' := l) (k' := k) (s' := s) (f' := fr) D4 E4 (by omega) hb4 (Nat.le_refl _) (by omega))
  have hs1 : q ≠ w.heap.size := by omega
  have hs2 : q ≠ w.heap.size + 1 := by omega
  have hs3 : w3.heap.size ≠ w.heap.size := by omega
  have hs4 : w3.heap.size ≠ w.heap.size + 1 := by omega
  have hs5 : w.heap.size + 1 ≠ w.heap.size := by omega
  clear hz hz3
  go_wp2_with fail
  generalize w3.alloc (.cells #[.int .i64 l, .bool k, .bool s, .int .u16 fr] 35) = w4 at *
  generalize w3.heap.size = g at *
  generalize hr : w.heap.size + 1 = r at *
  have hS : PBlk w4.drew q v ∧ DBlk w4.drew g l k s fr := ⟨F4, G4⟩
  have HD4 := Lib.hid D4
  have HE4 := Lib.hid E4
  clear F4 G4 D4 E4 hb4
  have c0 : ∀ W, (PBlk W q v ∧ DBlk W g l k s fr) → W.cell? ⟨q, 0, none⟩ = some (.bool v.mrk) := fun W h => h.1.c0
  have c1 : ∀ W, (PBlk W q v ∧ DBlk W g l k s fr) → W.cell? ⟨q, 1, none⟩ = some (.int .i64 v.ty) := fun W h => h.1.c1
  have c2 : ∀ W, (PBlk W q v ∧ DBlk W g l k s fr) → W.cell? ⟨q, 2, none⟩ = some (.int .u16 v.seq) := fun W h => h.1.c2
  have c3 : ∀ W, (PBlk W q v ∧ DBlk W g l k s fr) → W.cell? ⟨q, 3, none⟩ = some (.int .u32 v.time) := fun W h => h.1.c3
  have c4 : ∀ W, (PBlk W q v ∧ DBlk W g l k s fr) → W.cell? ⟨q, 4, none⟩ = some (.int .u32 v.ssrc) := fun W h => h.1.c4
  have c5 : ∀ W, (PBlk W q v ∧ DBlk W g l k s fr) → W.cell? ⟨q, 5, none⟩ = some (.slice v.ca v.cn v.cc) := fun W h => h.1.c5
  have c6 : ∀ W, (PBlk W q v ∧ DBlk W g l k s fr) → W.cell? ⟨q, 6, none⟩ = some (.bool v.he) := fun W h => h.1.c6
  have c7 : ∀ W, (PBlk W q v ∧ DBlk W g l k s fr) → W.cell? ⟨q, 7, none⟩ = some (.int .u16 v.prof) := fun W h => h.1.c7
  have c8 : ∀ W, (PBlk W q v ∧ DBlk W g l k s fr) → W.cell? ⟨q, 8, none⟩ = some (.slice v.ea v.en v.ec) := fun W h => h.1.c8
  have c9 : ∀ W, (PBlk W q v ∧ DBlk W g l k s fr) → W.cell? ⟨q, 9, none⟩ = some (.slice v.pa v.pn v.pc) := fun W h => h.1.c9
  have c10 : ∀ W, (PBlk W q v ∧ DBlk W g l k s fr) → W.cell? ⟨q, 10, none⟩ = some (.int .i64 v.pad) := fun W h => h.1.c10
  have d0 : ∀ W, (PBlk W q v ∧ DBlk W g l k s fr) → W.cell? ⟨g, 0, none⟩ = some (.int .i64 l) := fun W h => h.2.c0
  have d1 : ∀ W, (PBlk W q v ∧ DBlk W g l k s fr) → W.cell? ⟨g, 1, none⟩ = some (.bool k) := fun W h => h.2.c1
  have d2 : ∀ W, (PBlk W q v ∧ DBlk W g l k s fr) → W.cell? ⟨g, 2, none⟩ = some (.bool s) := fun W h => h.2.c2
  have d3 : ∀ W, (PBlk W q v ∧ DBlk W g l k s fr) → W.cell? ⟨g, 3, none⟩ = some (.int .u16 fr) := fun W h => h.2.c3
  refine region_seq (fun W => PBlk W q v ∧ DBlk W g l k s fr) [(0, false), (1, false), (2, true), (3, true), (4, false)] (by kernel_rfl) (by kernel_rfl) rfl (by kernel_rfl) ?_
  iterate 2 (refine seq_read (v := _) rfl (fun _ _ _ h => h) hS (Or.inl ⟨by rfl, fun W hW => by go_simp <;> with_reducible rfl⟩) ?_; simp only [Act.put, List.setIfInBounds_toArray, List.set_cons_zero, List.set_cons_succ])
  clear c0 c1 c2 c3 c4 c5 c6 c7 c8 c9 c10 d0 d1 d2 d3
  have D4 := HD4.out
  have E4 := HE4.out
  obtain ⟨f0, f1, f2, f3, f4, f5, f6, f7, f8, f9, f10, g0, g1, g2, g3, g4, g5, g6, g7, g8, g9, g10⟩ := D4.cf
  have i0 := E4.c0
  have i1 := E4.c1
  have i2 := E4.c2
  have i3 := E4.c3
  have j0 := E4.frozen 0
  have j1 := E4.frozen 1
  have j2 := E4.frozen 2
  have j3 := E4.frozen 3
  clear D4 E4
  refine seq_do rfl (fun K hK => ?_)
  go_simp
  have HO := Rtp.off_pstore w.heap.size w4 (.bool v.mrk) (.int .i64 v.ty) (.int .u16 v.seq) (.int .u32 v.time) (.int .u32 v.ssrc) (.slice v.ca v.cn v.cc) (.bool v.he) (.int .u16 v.prof) (.slice v.ea v.en v.ec) (.slice v.pa v.pn v.pc) (.int .i64 v.pad)
  have hS1 : PBlk (PW w4 w.heap.size v).drew q v ∧ DBlk (PW w4 w.heap.size v).drew g l k s fr := And.intro (pdrew (Rtp.PBlk.offb (pundrew hS.1) hs1 HO)) (ddrew (DBlk.offb (dundrew hS.2) hs3 HO))
  refine hK.out _ _ (fun W => PBlk W q v ∧ DBlk W g l k s fr) (fun W h => h) hS1 ?_
  clear hK K
  refine seq_do rfl (fun K hK => ?_)
  go_simp
  have hS2 : PBlk (DW (PW w4 w.heap.size v) r l k s fr).drew q v ∧ DBlk (DW (PW w4 w.heap.size v) r l k s fr).drew g l k s fr := And.intro (pdrew (Rtp.PBlk.offb (pundrew hS1.1) hs2 (off_dstore r _ _ _ _ _))) (ddrew (DBlk.offb (dundrew hS1.2) hs4 (off_dstore r _ _ _ _ _)))
  clear HO
  refine hK.out _ _ (fun W => PBlk W q v ∧ DBlk W g l k s fr) (fun W h => h) hS2 ?_
  clear hK K
  iterate 1 (refine seq_read (v := _) rfl (fun _ _ _ h => h) hS2 (Or.inl ⟨by rfl, fun W hW => by go_simp <;> with_reducible rfl⟩) ?_; simp only [Act.put, List.setIfInBounds_toArray, List.set_cons_zero, List.set_cons_succ])
  refine seq_end ?_
  clear f0 f1 f2 f3 f4 f5 f6 f7 f8 f9 f10 g0 g1 g2 g3 g4 g5 g6 g7 g8 g9 g10 i0 i1 i2 i3 j0 j1 j2 j3
  go_wp2
  obtain ⟨m1, m2, m3, m4, m5⟩ := HM.out
  have m6 : PRd (MW w4 w.heap.size r v l k s fr) (MW w4 w.heap.size r v l k s fr).heap.size p lc := (Rtp.PRd.far (b := w.heap.size + 2) HQ4.out HNW.out (fun i hi => m5 i (by omega) (by omega))).more m4
  exact ret_pd (W := (MW w4 w.heap.size r v l k s fr).drew) (v := v) Try.results28 (pdrew m1) (ddrew m2) ⟨lc, by rw [HV.out], prdrew m6, ⟨fun h => (HNW.out.csrc h).imp fun a ha => ⟨ha.1, by have := ha.2; omega⟩, fun h => (HNW.out.ext h).imp fun a ha => ⟨ha.1, by have := ha.2; omega⟩, fun h => (HNW.out.pay h).imp fun a ha => ⟨ha.1, by have := ha.2; omega⟩⟩, m3.drew⟩
abbrev xval (K : Int) (v : PV) (l : Int) (k s : Bool) (f : Int) (A : Option Addr) (m c : Nat) : Value :=
  .agg #[.int .i64 K, .bool v.mrk, .int .i64 v.ty, .int .u16 v.seq, .int .u32 v.time, .int .u32 v.ssrc, .slice v.ca v.cn v.cc, .bool v.he, .int .u16 v.prof, .slice v.ea v.en v.ec, .slice v.pa v.pn v.pc, .int .i64 v.pad, .int .i64 l, .bool k, .bool s, .int .u16 f, .slice A m c]
abbrev xobj (K : Int) (v : PV) (l : Int) (k s : Bool) (f : Int) (A : Option Addr) (m c : Nat) : Obj :=
  .cells #[.int .i64 K, .bool v.mrk, .int .i64 v.ty, .int .u16 v.seq, .int .u32 v.time, .int .u32 v.ssrc, .slice v.ca v.cn v.cc, .bool v.he, .int .u16 v.prof, .slice v.ea v.en v.ec, .slice v.pa v.pn v.pc, .int .i64 v.pad, .int .i64 l, .bool k, .bool s, .int .u16 f, .slice A m c] 38 (0, 0)
/-- An event of the reference that lies at block b. -/
def XBlk (w : World) (b : Nat) (K : Int) (v : PV) (l : Int) (k s : Bool) (f : Int) (A : Option Addr) (m c : Nat) : Prop := w.heap[b]? = some (xobj K v l k s f A m c)
section
variable {w w' : World} {b B : Nat} {K : Int} {v : PV} {l f : Int} {k s : Bool} {A : Option Addr} {m c : Nat}
theorem XBlk.new (w : World) (K : Int) (v : PV) (l : Int) (k s : Bool) (f : Int) (A : Option Addr) (m c : Nat) : XBlk (w.alloc (xobj K v l k s f A m c)) w.heap.size K v l k s f A m c := heap_alloc_new w _
theorem XBlk.below (h : XBlk w b K v l k s f A m c) (hb : Below B w w') (hg : b < B) : XBlk w' b K v l k s f A m c := (hb.block b hg).trans h
theorem XBlk.lt (h : XBlk w b K v l k s f A m c) : b < w.heap.size := lt_of_some h
theorem XBlk.frozen (h : XBlk w b K v l k s f A m c) (i : Nat) : w.frozen? ⟨b, i, none⟩ = false := frozen_of_row w b i _ _ h
theorem XBlk.cells (h : XBlk w b K v l k s f A m c) : w.cell? ⟨b, 0, none⟩ = some (.int .i64 K) ∧ w.cell? ⟨b, 1, none⟩ = some (.bool v.mrk) ∧ w.cell? ⟨b, 2, none⟩ = some (.int .i64 v.ty) ∧ w.cell? ⟨b, 3, none⟩ = some (.int .u16 v.seq) ∧ w.cell? ⟨b, 4, none⟩ = some (.int .u32 v.time) ∧ w.cell? ⟨b, 5, none⟩ = some (.int .u32 v.ssrc) ∧ w.cell? ⟨b, 6, none⟩ = some (.slice v.ca v.cn v.cc) ∧ w.cell? ⟨b, 7, none⟩ = some (.bool v.he) ∧ w.cell? ⟨b, 8, none⟩ = some (.int .u16 v.prof) ∧ w.cell? ⟨b, 9, none⟩ = some (.slice v.ea v.en v.ec) ∧ w.cell? ⟨b, 10, none⟩ = some (.slice v.pa v.pn v.pc) ∧ w.cell? ⟨b, 11, none⟩ = some (.int .i64 v.pad) ∧ w.cell? ⟨b, 12, none⟩ = some (.int .i64 l) ∧ w.cell? ⟨b, 13, none⟩ = some (.bool k) ∧ w.cell? ⟨b, 14, none⟩ = some (.bool s) ∧ w.cell? ⟨b, 15, none⟩ = some (.int .u16 f) ∧ w.cell? ⟨b, 16, none⟩ = some (.slice A m c) :=
  ⟨cell_of_row w b 0 _ _ (0, 0) h, cell_of_row w b 1 _ _ (0, 0) h, cell_of_row w b 2 _ _ (0, 0) h, cell_of_row w b 3 _ _ (0, 0) h, cell_of_row w b 4 _ _ (0, 0) h, cell_of_row w b 5 _ _ (0, 0) h, cell_of_row w b 6 _ _ (0, 0) h, cell_of_row w b 7 _ _ (0, 0) h, cell_of_row w b 8 _ _ (0, 0) h, cell_of_row w b 9 _ _ (0, 0) h, cell_of_row w b 10 _ _ (0, 0) h, cell_of_row w b 11 _ _ (0, 0) h, cell_of_row w b 12 _ _ (0, 0) h, cell_of_row w b 13 _ _ (0, 0) h, cell_of_row w b 14 _ _ (0, 0) h, cell_of_row w b 15 _ _ (0, 0) h, cell_of_row w b 16 _ _ (0, 0) h⟩
end
/-- The world in which an event is written. -/
def XW (w : World) (b : Nat) (K : Int) (v : PV) (l : Int) (k s : Bool) (f : Int) (A : Option Addr) (m c : Nat) : World :=
  (((((((((((((((((w.setCell ⟨b, 0, none⟩ (.int .i64 K)).setCell ⟨b, 1, none⟩ (.bool v.mrk)).setCell ⟨b, 2, none⟩ (.int .i64 v.ty)).setCell ⟨b, 3, none⟩ (.int .u16 v.seq)).setCell ⟨b, 4, none⟩ (.int .u32 v.time)).setCell ⟨b, 5, none⟩ (.int .u32 v.ssrc)).setCell ⟨b, 6, none⟩ (.slice v.ca v.cn v.cc)).setCell ⟨b, 7, none⟩ (.bool v.he)).setCell ⟨b, 8, none⟩ (.int .u16 v.prof)).setCell ⟨b, 9, none⟩ (.slice v.ea v.en v.ec)).setCell ⟨b, 10, none⟩ (.slice v.pa v.pn v.pc)).setCell ⟨b, 11, none⟩ (.int .i64 v.pad)).setCell ⟨b, 12, none⟩ (.int .i64 l)).setCell ⟨b, 13, none⟩ (.bool k)).setCell ⟨b, 14, none⟩ (.bool s)).setCell ⟨b, 15, none⟩ (.int .u16 f)).setCell ⟨b, 16, none⟩ (.slice A m c))
theorem XBlk.store {w : World} {b : Nat} {K' : Int} {v' : PV} {l' f' : Int} {k' s' : Bool} {A' : Option Addr} {m' c' : Nat} (h : XBlk w b K' v' l' k' s' f' A' m' c') (K : Int) (v : PV) (l : Int) (k s : Bool) (f : Int) (A : Option Addr) (m c : Nat) : XBlk (XW w b K v l k s f A m c) b K v l k s f A m c := by
  unfold XBlk at h
  unfold XBlk XW
  have h0 := heap_setCell_same _ b 0 _ 38 (.int .i64 K) h
  simp only [List.setIfInBounds_toArray, List.set_cons_zero] at h0
  have h1 := heap_setCell_same _ b 1 _ 38 (.bool v.mrk) h0
  simp only [List.setIfInBounds_toArray, List.set_cons_zero, List.set_cons_succ] at h1
  have h2 := heap_setCell_same _ b 2 _ 38 (.int .i64 v.ty) h1
  simp only [List.setIfInBounds_toArray, List.set_cons_zero, List.set_cons_succ] at h2
  have h3 := heap_setCell_same _ b 3 _ 38 (.int .u16 v.seq) h2
  simp only [List.setIfInBounds_toArray, List.set_cons_zero, List.set_cons_succ] at h3
  have h4 := heap_setCell_same _ b 4 _ 38 (.int .u32 v.time) h3
  simp only [List.setIfInBounds_toArray, List.set_cons_zero, List.set_cons_succ] at h4
  have h5 := heap_setCell_same _ b 5 _ 38 (.int .u32 v.ssrc) h4
  simp only [List.setIfInBounds_toArray, List.set_cons_zero, List.set_cons_succ] at h5
  have h6 := heap_setCell_same _ b 6 _ 38 (.slice v.ca v.cn v.cc) h5
  simp only [List.setIfInBounds_toArray, List.set_cons_zero, List.set_cons_succ] at h6
  have h7 := heap_setCell_same _ b 7 _ 38 (.bool v.he) h6
  simp only [List.setIfInBounds_toArray, List.set_cons_zero, List.set_cons_succ] at h7
  have h8 := heap_setCell_same _ b 8 _ 38 (.int .u16 v.prof) h7
  simp only [List.setIfInBounds_toArray, List.set_cons_zero, List.set_cons_succ] at h8
  have h9 := heap_setCell_same _ b 9 _ 38 (.slice v.ea v.en v.ec) h8
  simp only [List.setIfInBounds_toArray, List.set_cons_zero, List.set_cons_succ] at h9
  have h10 := heap_setCell_same _ b 10 _ 38 (.slice v.pa v.pn v.pc) h9
  simp only [List.setIfInBounds_toArray, List.set_cons_zero, List.set_cons_succ] at h10
  have h11 := heap_setCell_same _ b 11 _ 38 (.int .i64 v.pad) h10
  simp only [List.setIfInBounds_toArray, List.set_cons_zero, List.set_cons_succ] at h11
  have h12 := heap_setCell_same _ b 12 _ 38 (.int .i64 l) h11
  simp only [List.setIfInBounds_toArray, List.set_cons_zero, List.set_cons_succ] at h12
  have h13 := heap_setCell_same _ b 13 _ 38 (.bool k) h12
  simp only [List.setIfInBounds_toArray, List.set_cons_zero, List.set_cons_succ] at h13
  have h14 := heap_setCell_same _ b 14 _ 38 (.bool s) h13
  simp only [List.setIfInBounds_toArray, List.set_cons_zero, List.set_cons_succ] at h14
  have h15 := heap_setCell_same _ b 15 _ 38 (.int .u16 f) h14
  simp only [List.setIfInBounds_toArray, List.set_cons_zero, List.set_cons_succ] at h15
  have h16 := heap_setCell_same _ b 16 _ 38 (.slice A m c) h15
  simp only [List.setIfInBounds_toArray, List.set_cons_zero, List.set_cons_succ] at h16
  exact h16
theorem XW_off (w : World) (b : Nat) (K : Int) (v : PV) (l : Int) (k s : Bool) (f : Int) (A : Option Addr) (m c : Nat) : Off b w (XW w b K v l k s f A m c) := (((((((((((((((((Off.refl b w).set (.int .i64 K)).set (.bool v.mrk)).set (.int .i64 v.ty)).set (.int .u16 v.seq)).set (.int .u32 v.time)).set (.int .u32 v.ssrc)).set (.slice v.ca v.cn v.cc)).set (.bool v.he)).set (.int .u16 v.prof)).set (.slice v.ea v.en v.ec)).set (.slice v.pa v.pn v.pc)).set (.int .i64 v.pad)).set (.int .i64 l)).set (.bool k)).set (.bool s)).set (.int .u16 f)).set (.slice A m c)
theorem XW_below {w0 w : World} {B b : Nat} (hb : Below B w0 w) (hB : B ≤ b) (K : Int) (v : PV) (l : Int) (k s : Bool) (f : Int) (A : Option Addr) (m c : Nat) : Below B w0 (XW w b K v l k s f A m c) := (((((((((((((((((hb.setCell (p := ⟨b, 0, none⟩) hB (.int .i64 K)).setCell (p := ⟨b, 1, none⟩) hB (.bool v.mrk)).setCell (p := ⟨b, 2, none⟩) hB (.int .i64 v.ty)).setCell (p := ⟨b, 3, none⟩) hB (.int .u16 v.seq)).setCell (p := ⟨b, 4, none⟩) hB (.int .u32 v.time)).setCell (p := ⟨b, 5, none⟩) hB (.int .u32 v.ssrc)).setCell (p := ⟨b, 6, none⟩) hB (.slice v.ca v.cn v.cc)).setCell (p := ⟨b, 7, none⟩) hB (.bool v.he)).setCell (p := ⟨b, 8, none⟩) hB (.int .u16 v.prof)).setCell (p := ⟨b, 9, none⟩) hB (.slice v.ea v.en v.ec)).setCell (p := ⟨b, 10, none⟩) hB (.slice v.pa v.pn v.pc)).setCell (p := ⟨b, 11, none⟩) hB (.int .i64 v.pad)).setCell (p := ⟨b, 12, none⟩) hB (.int .i64 l)).setCell (p := ⟨b, 13, none⟩) hB (.bool k)).setCell (p := ⟨b, 14, none⟩) hB (.bool s)).setCell (p := ⟨b, 15, none⟩) hB (.int .u16 f)).setCell (p := ⟨b, 16, none⟩) hB (.slice A m c))
theorem XW_all {w w0 : World} {B b : Nat} {K' : Int} {v' : PV} {l' f' : Int} {k' s' : Bool} {A' : Option Addr} {m' c' : Nat} (h : XBlk w b K' v' l' k' s' f' A' m' c') (hb : Below B w0 w) (hB : B ≤ b) (K : Int) (v : PV) (l : Int) (k s : Bool) (f : Int) (A : Option Addr) (m c : Nat) :
    ∃ u, (((((((((((((((((w.setCell ⟨b, 0, none⟩ (.int .i64 K)).setCell ⟨b, 1, none⟩ (.bool v.mrk)).setCell ⟨b, 2, none⟩ (.int .i64 v.ty)).setCell ⟨b, 3, none⟩ (.int .u16 v.seq)).setCell ⟨b, 4, none⟩ (.int .u32 v.time)).setCell ⟨b, 5, none⟩ (.int .u32 v.ssrc)).setCell ⟨b, 6, none⟩ (.slice v.ca v.cn v.cc)).setCell ⟨b, 7, none⟩ (.bool v.he)).setCell ⟨b, 8, none⟩ (.int .u16 v.prof)).setCell ⟨b, 9, none⟩ (.slice v.ea v.en v.ec)).setCell ⟨b, 10, none⟩ (.slice v.pa v.pn v.pc)).setCell ⟨b, 11, none⟩ (.int .i64 v.pad)).setCell ⟨b, 12, none⟩ (.int .i64 l)).setCell ⟨b, 13, none⟩ (.bool k)).setCell ⟨b, 14, none⟩ (.bool s)).setCell ⟨b, 15, none⟩ (.int .u16 f)).setCell ⟨b, 16, none⟩ (.slice A m c)) = u ∧ XBlk u b K v l k s f A m c ∧ (∀ i : Nat, i ≠ b → u.heap[i]? = w.heap[i]?) ∧ Below B w0 u ∧ w.heap.size ≤ u.heap.size :=
  ⟨XW w b K v l k s f A m c, rfl, h.store K v l k s f A m c, XW_off w b K v l k s f A m c, XW_below hb hB K v l k s f A m c, (XW_below (Below.refl 0 w) (Nat.zero_le _) K v l k s f A m c).size⟩
theorem ret_x {W : World} {b : Nat} {n : Int} {K : Int} {v : PV} {l f : Int} {k s : Bool} {A : Option Addr} {m c : Nat} {tmps : Array Value} {R : Ending → World → Prop} (D : XBlk W b K v l k s f A m c) (hR : R (.returned (.tuple #[xval K v l k s f A m c, .int .i64 n])) W)
    (h2 : tmps[2]?.getD undef = .pointer (some ⟨b, 0, none⟩) := by rfl) (h3 : tmps[3]?.getD undef = .int .i64 n := by rfl) : bodyPost Try.prog Try.f10 R .ret ⟨tmps, []⟩ W := by
  obtain ⟨c0, c1, c2, c3, c4, c5, c6, c7, c8, c9, c10, c11, c12, c13, c14, c15, c16⟩ := D.cells
  exact bodyPost_ret (v := .tuple #[xval K v l k s f A m c, .int .i64 n]) (by simp [results, Try.results10, go_sem, h2, h3, c0, c1, c2, c3, c4, c5, c6, c7, c8, c9, c10, c11, c12, c13, c14, c15, c16]) rfl hR
end Go.Proofs.Ythmmafpmpnhleaa.Sft

namespace Go.Proofs.Ythmmafpmpnhleaa.Sft
open Go.RowKit
open Rtp (PV pkt pobj PBlk pvOf PRd zpv Off)
open Fbk (ILoc IRd ItsRd ItsOwn its RetItsA getLE getLV)
set_option linter.unusedVariables false

def RetX (w : World) (ev : Ev) (n : Int) (e : Ending) (w' : World) : Prop :=
  ∃ lc A c ps, e = .returned (.tuple #[xval (kindN ev) (pvOf (flP ev) lc) (flL ev) (flK ev) (flS ev) (flF ev) A (flI ev).length c, .int .i64 n]) ∧ PRd w' w'.heap.size (flP ev) lc ∧ ItsRd w' w'.heap.size A (flI ev).length ps ∧ its ps = flI ev ∧ Below w.heap.size w w'
theorem RetX.none_ {w w' : World} {n : Int} (hb : Below w.heap.size w w') : RetX w .none n (.returned (.tuple #[xval 0 zpv 0 false false 0 none 0 0, .int .i64 n])) w' :=
  ⟨⟨none, 0, none, 0, none, 0⟩, none, 0, [], rfl, prd_zero _ _, ItsRd.nil _ _ _, rfl, hb⟩
abbrev xz : Obj := .cells #[.int .i64 0, .bool false, .int .i64 0, .int .u16 0, .int .u32 0, .int .u32 0, .slice none 0 0, .bool false, .int .u16 0, .slice none 0 0, .slice none 0 0, .int .i64 0, .int .i64 0, .bool false, .bool false, .int .u16 0, .slice none 0 0] 38 (0, 0)
theorem xz_new (w : World) : XBlk (w.alloc xz) w.heap.size 0 zpv 0 false false 0 none 0 0 := XBlk.new w 0 zpv 0 false false 0 none 0 0

theorem rmedia_any (a : Option Addr) (len cap B : Nat) (xs : List Int) (w : World) (hl : len ≤ maxLen) (hlc : len ≤ cap) (hr : Rd w B a len xs) (hB : B ≤ w.heap.size) :
    Calls Try.prog 28 #[.slice a len cap] w (RetM w (flP (medV xs)) (flL (medV xs)) (flK (medV xs)) (flS (medV xs)) (flF (medV xs)) (medE xs)) := by
  have CG : Hid (∀ W, Below w.heap.size w W → Calls Try.prog 55 #[.slice a len cap] W (Rtp.RNew W (Rtp.gP xs) (Rtp.gF xs) (Rtp.gT xs) (pE xs))) := fun W hW => Rtp.rget_new a len cap B xs W hl hlc (hr.below (hW.mono hB)) (Nat.le_trans hB hW.size)
  by_cases h : pE xs = 0
  · have CD : Hid (∀ W A n c B, Rd W B A n (pQ xs).pay → n ≤ c → n ≤ maxLen → B ≤ W.heap.size → Calls Try.prog 17 #[.slice A n c] W (RetG W (gL (pQ xs).pay) (gK (pQ xs).pay) (gS (pQ xs).pay) (gF (pQ xs).pay) (gE (pQ xs).pay))) :=
      fun W A n c B h1 h2 h3 h4 => rget_any A n c B _ W h3 h2 h1 h4
    rw [Rtp.gP, if_pos h, h] at CG
    by_cases hg : gE (pQ xs).pay = 0
    · have hm : medE xs = 0 := by rw [medE, if_pos h, hg]
      rw [hg] at CD
      rw [medV, if_pos hm, hm]
      exact rmedia_yes a len cap _ _ _ _ _ _ _ w CG CD
    · have hm : medE xs = gE (pQ xs).pay := by rw [medE, if_pos h]
      rw [medV, if_neg (by rw [hm]; exact hg), hm]
      exact rmedia_bad a len cap _ _ _ _ _ _ _ _ w (by simpa using hg) CG CD
  · have hm : medE xs = pE xs := by rw [medE, if_neg h]
    rw [medV, if_neg (by rw [hm]; exact h), hm]
    exact rmedia_none a len cap _ _ _ _ w (by simpa using h) CG

set_option maxHeartbeats 4000000 in
theorem rsift_big (a : Option Addr) (n c : Nat) (w : World) (h : 512 < n) : Calls Try.prog 10 #[.slice a n c] w (RetX w .none 5) := by
  have HD := Lib.hid (xz_new w)
  have HB := Lib.hid ((Below.refl w.heap.size w).alloc (Nat.le_refl _) xz)
  go_enter Try.func10, Try.ntmps10
  go_wp2
  generalize w.alloc xz = u at *
  exact ret_x (b := w.heap.size) (K := 0) (v := zpv) (l := 0) (k := false) (s := false) (f := 0) (A := none) (m := 0) (c := 0) HD.out (RetX.none_ HB.out) rfl rfl
set_option maxHeartbeats 4000000 in
theorem rsift_short (a : Option Addr) (n c : Nat) (w : World) (h5 : ¬ 512 < n) (h : n < 2) : Calls Try.prog 10 #[.slice a n c] w (RetX w .none 2) := by
  have HD := Lib.hid (xz_new w)
  have HB := Lib.hid ((Below.refl w.heap.size w).alloc (Nat.le_refl _) xz)
  go_enter Try.func10, Try.ntmps10
  go_wp2
  generalize w.alloc xz = u at *
  exact ret_x (b := w.heap.size) (K := 0) (v := zpv) (l := 0) (k := false) (s := false) (f := 0) (A := none) (m := 0) (c := 0) HD.out (RetX.none_ HB.out) rfl rfl
set_option maxHeartbeats 4000000 in
theorem rsift_feed (b off n c : Nat) (x : Int) (is : List Itm) (w : World) (h5 : ¬ 512 < n) (h2 : ¬ n < 2) (hb : b < w.heap.size) (c1 : w.cell? ⟨b, off + 1, none⟩ = some (.int .u8 x)) (hx : 192 ≤ x) (hy : x ≤ 223)
    (CI : Hid (∀ W, Below w.heap.size w W → Calls Try.prog 27 #[.slice (some ⟨b, off, none⟩) n c] W (RetItsA W is 0))) :
    Calls Try.prog 10 #[.slice (some ⟨b, off, none⟩) n c] w (RetX w (.feed is) 0) := by
  have hb0 := (Below.refl w.heap.size w).alloc (Nat.le_refl _) xz
  have d1 := (hb0.cell (p := ⟨b, off + 1, none⟩) hb).trans c1
  have D0 := xz_new w
  clear c1
  go_enter Try.func10, Try.ntmps10
  go_wp2_with fail
  generalize w.alloc xz = w0 at *
  refine (CI.out w0 hb0).mono ?_
  rintro e w1 ⟨A, c1, ps, rfl, he, ho, ha, hb1⟩
  have D1 := D0.below hb1 D0.lt
  have hs := D0.lt
  have HB1 := Lib.hid (hb0.trans (hb1.mono hb0.size))
  have HO := Lib.hid ho
  have HA := Lib.hid ha
  have HE := Lib.hid he
  have HS := Lib.hid hs
  obtain ⟨m, hm⟩ : ∃ m, is.length = m := ⟨_, rfl⟩
  rw [hm] at ho HO ⊢
  have HM := Lib.hid hm
  have HD := Lib.hid D1
  obtain ⟨f0, f1, f2, f3, f4, f5, f6, f7, f8, f9, f10, f11, f12, f13, f14, f15, f16⟩ := D1.cells
  have g0 := D1.frozen 0
  have g1 := D1.frozen 1
  have g2 := D1.frozen 2
  have g3 := D1.frozen 3
  have g4 := D1.frozen 4
  have g5 := D1.frozen 5
  have g6 := D1.frozen 6
  have g7 := D1.frozen 7
  have g8 := D1.frozen 8
  have g9 := D1.frozen 9
  have g10 := D1.frozen 10
  have g11 := D1.frozen 11
  have g12 := D1.frozen 12
  have g13 := D1.frozen 13
  have g14 := D1.frozen 14
  have g15 := D1.frozen 15
  have g16 := D1.frozen 16
  clear ho ha he hb1 hb0 d1 D0 D1 CI hs hm
  go_wp2
  obtain ⟨u, hu, hx, hk, hbu, hsu⟩ := XW_all HD.out HB1.out (Nat.le_refl _) 2 zpv 0 false false 0 A m c1
  dsimp only [zpv] at hu
  rw [hu]
  clear hu
  refine ret_x (b := w.heap.size) (K := 2) (v := zpv) (l := 0) (k := false) (s := false) (f := 0) (A := A) (m := m) (c := c1) hx ⟨⟨none, 0, none, 0, none, 0⟩, A, c1, ps, by rw [← HM.out]; rfl, prd_zero _ _, ?_, HE.out, hbu⟩ rfl rfl
  have hf := HO.out.far HA.out (fun g hg => hk g (by have := HS.out; omega)) hsu
  rw [← HM.out] at hf
  exact hf
end Go.Proofs.Ythmmafpmpnhleaa.Sft

namespace Go.Proofs.Ythmmafpmpnhleaa.Sft
open Go.RowKit
open Rtp (PV pkt pobj PBlk pvOf PRd zpv Off)
open Fbk (ILoc IRd ItsRd ItsOwn its RetItsA getLE getLV)
set_option linter.unusedVariables false

set_option maxHeartbeats 4000000 in
theorem rsift_feed_no (b off n c : Nat) (x E : Int) (is : List Itm) (w : World) (h5 : ¬ 512 < n) (h2 : ¬ n < 2) (hb : b < w.heap.size) (c1 : w.cell? ⟨b, off + 1, none⟩ = some (.int .u8 x)) (hx : 192 ≤ x) (hy : x ≤ 223) (hE : (E != 0) = true)
    (CI : Hid (∀ W, Below w.heap.size w W → Calls Try.prog 27 #[.slice (some ⟨b, off, none⟩) n c] W (RetItsA W is E))) :
    Calls Try.prog 10 #[.slice (some ⟨b, off, none⟩) n c] w (RetX w .none E) := by
  have hb0 := (Below.refl w.heap.size w).alloc (Nat.le_refl _) xz
  have d1 := (hb0.cell (p := ⟨b, off + 1, none⟩) hb).trans c1
  have D0 := xz_new w
  clear c1
  go_enter Try.func10, Try.ntmps10
  go_wp2_with fail
  generalize w.alloc xz = w0 at *
  refine (CI.out w0 hb0).mono ?_
  rintro e w1 ⟨A, c1, ps, rfl, he, ho, ha, hb1⟩
  have D1 := D0.below hb1 D0.lt
  have HB1 := Lib.hid (hb0.trans (hb1.mono hb0.size))
  have HD := Lib.hid D1
  obtain ⟨f0, f1, f2, f3, f4, f5, f6, f7, f8, f9, f10, f11, f12, f13, f14, f15, f16⟩ := D1.cells
  have g0 := D1.frozen 0
  have g1 := D1.frozen 1
  have g2 := D1.frozen 2
  have g3 := D1.frozen 3
  have g4 := D1.frozen 4
  have g5 := D1.frozen 5
  have g6 := D1.frozen 6
  have g7 := D1.frozen 7
  have g8 := D1.frozen 8
  have g9 := D1.frozen 9
  have g10 := D1.frozen 10
  have g11 := D1.frozen 11
  have g12 := D1.frozen 12
  have g13 := D1.frozen 13
  have g14 := D1.frozen 14
  have g15 := D1.frozen 15
  have g16 := D1.frozen 16
  clear ho ha he hb1 hb0 d1 D0 D1 CI
  go_wp2
  obtain ⟨u, hu, hx, hk, hbu, hsu⟩ := XW_all HD.out HB1.out (Nat.le_refl _) 0 zpv 0 false false 0 none 0 0
  dsimp only [zpv] at hu
  rw [hu]
  clear hu
  exact ret_x (b := w.heap.size) (K := 0) (v := zpv) (l := 0) (k := false) (s := false) (f := 0) (A := none) (m := 0) (c := 0) hx (RetX.none_ hbu) rfl rfl

set_option maxHeartbeats 4000000 in
theorem rsift_media (b off n c : Nat) (p : Pkt) (l f x : Int) (k s : Bool) (w : World) (h5 : ¬ 512 < n) (h2 : ¬ n < 2) (hb : b < w.heap.size) (c1 : w.cell? ⟨b, off + 1, none⟩ = some (.int .u8 x)) (hx : ¬ (192 ≤ x) ∨ (192 ≤ x ∧ ¬ (x ≤ 223)))
    (CM : Hid (∀ W, Below w.heap.size w W → Calls Try.prog 28 #[.slice (some ⟨b, off, none⟩) n c] W (RetM W p l k s f 0))) :
    Calls Try.prog 10 #[.slice (some ⟨b, off, none⟩) n c] w (RetX w (.media p l k s f) 0) := by
  have hb0 := (Below.refl w.heap.size w).alloc (Nat.le_refl _) xz
  have d1 := (hb0.cell (p := ⟨b, off + 1, none⟩) hb).trans c1
  have D0 := xz_new w
  have hs0 : (w.alloc xz).heap.size = w.heap.size + 1 := by simp
  clear c1
  rcases hx with hx | ⟨hx, hy⟩
  · go_enter Try.func10, Try.ntmps10
    go_wp2_with fail
    generalize w.alloc xz = w0 at *
    refine (CM.out w0 hb0).mono ?_
    rintro e w1 ⟨lc, rfl, hq, hnw, hb1⟩
    obtain ⟨v, hv⟩ : ∃ v, pvOf p lc = v := ⟨_, rfl⟩
    rw [hv]
    have hb2 : Below w1.heap.size w1 ((w1.alloc (pobj v)).alloc (.cells #[.int .i64 l, .bool k, .bool s, .int .u16 f] 35 (0, 0))) := ((Below.refl _ _).alloc (Nat.le_refl _) (pobj v)).alloc (by simp) _
    have hb12 := hb1.trans (hb2.mono hb1.size)
    have D1 := D0.below hb12 D0.lt
    have P1 := (PBlk.new w1 v).below ((Below.refl (w1.alloc (pobj v)).heap.size _).alloc (Nat.le_refl _) (.cells #[.int .i64 l, .bool k, .bool s, .int .u16 f] 35 (0, 0))) (PBlk.new w1 v).lt
    have E1 : DBlk ((w1.alloc (pobj v)).alloc (.cells #[.int .i64 l, .bool k, .bool s, .int .u16 f] 35 (0, 0))) (w1.heap.size + 1) l k s f := by
      have := DBlk.new (w1.alloc (pobj v)) l k s f
      rw [show (w1.alloc (pobj v)).heap.size = w1.heap.size + 1 from by simp] at this
      exact this
    have HB1 := Lib.hid (hb0.trans (hb12.mono hb0.size))
    have HQ := Lib.hid ((hq.below hb2).more hb2.size)
    have HN := Lib.hid hnw
    have HS := Lib.hid hs0
    have HV := Lib.hid hv
    have hlt := D0.lt
    have hsz := hb1.size
    clear hb1 hb2 hb12 hb0 d1 D0 CM hq hnw hs0 hv
    go_upto_region 11 with (fail)
    generalize (w1.alloc (pobj v)).alloc (.cells #[.int .i64 l, .bool k, .bool s, .int .u16 f] 35 (0, 0)) = w2 at *
    have hne1 : w1.heap.size ≠ w.heap.size := by omega
    have hne2 : w1.heap.size + 1 ≠ w.heap.size := by omega
    have HD := Lib.hid D1
    obtain ⟨f0, f1, f2, f3, f4, f5, f6, f7, f8, f9, f10, f11, f12, f13, f14, f15, f16⟩ := D1.cells
    have g0 := D1.frozen 0
    have g1 := D1.frozen 1
    have g2 := D1.frozen 2
    have g3 := D1.frozen 3
    have g4 := D1.frozen 4
    have g5 := D1.frozen 5
    have g6 := D1.frozen 6
    have g7 := D1.frozen 7
    have g8 := D1.frozen 8
    have g9 := D1.frozen 9
    have g10 := D1.frozen 10
    have g11 := D1.frozen 11
    have g12 := D1.frozen 12
    have g13 := D1.frozen 13
    have g14 := D1.frozen 14
    have g15 := D1.frozen 15
    have g16 := D1.frozen 16
    obtain ⟨p0, p1, p2, p3, p4, p5, p6, p7, p8, p9, p10⟩ := P1.cells
    have e0 := E1.c0
    have e1 := E1.c1
    have e2 := E1.c2
    have e3 := E1.c3
    clear D1 P1 E1 hlt hsz
    go_wp2
    obtain ⟨u, hu, hx2, hk, hbu, hsu⟩ := XW_all HD.out HB1.out (Nat.le_refl _) 1 v l k s f none 0 0
    rw [hu]
    clear hu
    refine ret_x (b := w.heap.size) (K := 1) (v := v) (l := l) (k := k) (s := s) (f := f) (A := none) (m := 0) (c := 0) hx2 ⟨lc, none, 0, [], by rw [← HV.out]; rfl, ?_, ItsRd.nil _ _ _, rfl, hbu⟩ rfl rfl
    exact (Rtp.PRd.far (b := w.heap.size + 1) HQ.out (HS.out ▸ HN.out) (fun i hi => hk i (by omega))).more hsu
  · go_enter Try.func10, Try.ntmps10
    go_wp2_with fail
    generalize w.alloc xz = w0 at *
    refine (CM.out w0 hb0).mono ?_
    rintro e w1 ⟨lc, rfl, hq, hnw, hb1⟩
    obtain ⟨v, hv⟩ : ∃ v, pvOf p lc = v := ⟨_, rfl⟩
    rw [hv]
    have hb2 : Below w1.heap.size w1 ((w1.alloc (pobj v)).alloc (.cells #[.int .i64 l, .bool k, .bool s, .int .u16 f] 35 (0, 0))) := ((Below.refl _ _).alloc (Nat.le_refl _) (pobj v)).alloc (by simp) _
    have hb12 := hb1.trans (hb2.mono hb1.size)
    have D1 := D0.below hb12 D0.lt
    have P1 := (PBlk.new w1 v).below ((Below.refl (w1.alloc (pobj v)).heap.size _).alloc (Nat.le_refl _) (.cells #[.int .i64 l, .bool k, .bool s, .int .u16 f] 35 (0, 0))) (PBlk.new w1 v).lt
    have E1 : DBlk ((w1.alloc (pobj v)).alloc (.cells #[.int .i64 l, .bool k, .bool s, .int .u16 f] 35 (0, 0))) (w1.heap.size + 1) l k s f := by
      have := DBlk.new (w1.alloc (pobj v)) l k s f
      rw [show (w1.alloc (pobj v)).heap.size = w1.heap.size + 1 from by simp] at this
      exact this
    have HB1 := Lib.hid (hb0.trans (hb12.mono hb0.size))
    have HQ := Lib.hid ((hq.below hb2).more hb2.size)
    have HN := Lib.hid hnw
    have HS := Lib.hid hs0
    have HV := Lib.hid hv
    have hlt := D0.lt
    have hsz := hb1.size
    clear hb1 hb2 hb12 hb0 d1 D0 CM hq hnw hs0 hv
    go_upto_region 11 with (fail)
    generalize (w1.alloc (pobj v)).alloc (.cells #[.int .i64 l, .bool k, .bool s, .int .u16 f] 35 (0, 0)) = w2 at *
    have hne1 : w1.heap.size ≠ w.heap.size := by omega
    have hne2 : w1.heap.size + 1 ≠ w.heap.size := by omega
    have HD := Lib.hid D1
    obtain ⟨f0, f1, f2, f3, f4, f5, f6, f7, f8, f9, f10, f11, f12, f13, f14, f15, f16⟩ := D1.cells
    have g0 := D1.frozen 0
    have g1 := D1.frozen 1
    have g2 := D1.frozen 2
    have g3 := D1.frozen 3
    have g4 := D1.frozen 4
    have g5 := D1.frozen 5
    have g6 := D1.frozen 6
    have g7 := D1.frozen 7
    have g8 := D1.frozen 8
    have g9 := D1.frozen 9
    have g10 := D1.frozen 10
    have g11 := D1.frozen 11
    have g12 := D1.frozen 12
    have g13 := D1.frozen 13
    have g14 := D1.frozen 14
    have g15 := D1.frozen 15
    have g16 := D1.frozen 16
    obtain ⟨p0, p1, p2, p3, p4, p5, p6, p7, p8, p9, p10⟩ := P1.cells
    have e0 := E1.c0
    have e1 := E1.c1
    have e2 := E1.c2
    have e3 := E1.c3
    clear D1 P1 E1 hlt hsz
    go_wp2
    obtain ⟨u, hu, hx2, hk, hbu, hsu⟩ := XW_all HD.out HB1.out (Nat.le_refl _) 1 v l k s f none 0 0
    rw [hu]
    clear hu
    refine ret_x (b := w.heap.size) (K := 1) (v := v) (l := l) (k := k) (s := s) (f := f) (A := none) (m := 0) (c := 0) hx2 ⟨lc, none, 0, [], by rw [← HV.out]; rfl, ?_, ItsRd.nil _ _ _, rfl, hbu⟩ rfl rfl
    exact (Rtp.PRd.far (b := w.heap.size + 1) HQ.out (HS.out ▸ HN.out) (fun i hi => hk i (by omega))).more hsu
set_option maxHeartbeats 4000000 in
theorem rsift_media_no (b off n c : Nat) (p : Pkt) (l f x : Int) (k s : Bool) (E : Int) (w : World) (h5 : ¬ 512 < n) (h2 : ¬ n < 2) (hb : b < w.heap.size) (c1 : w.cell? ⟨b, off + 1, none⟩ = some (.int .u8 x)) (hx : ¬ (192 ≤ x) ∨ (192 ≤ x ∧ ¬ (x ≤ 223))) (hE : (E != 0) = true)
    (CM : Hid (∀ W, Below w.heap.size w W → Calls Try.prog 28 #[.slice (some ⟨b, off, none⟩) n c] W (RetM W p l k s f E))) :
    Calls Try.prog 10 #[.slice (some ⟨b, off, none⟩) n c] w (RetX w .none E) := by
  have hb0 := (Below.refl w.heap.size w).alloc (Nat.le_refl _) xz
  have d1 := (hb0.cell (p := ⟨b, off + 1, none⟩) hb).trans c1
  have D0 := xz_new w
  have hs0 : (w.alloc xz).heap.size = w.heap.size + 1 := by simp
  clear c1
  rcases hx with hx | ⟨hx, hy⟩
  · go_enter Try.func10, Try.ntmps10
    go_wp2_with fail
    generalize w.alloc xz = w0 at *
    refine (CM.out w0 hb0).mono ?_
    rintro e w1 ⟨lc, rfl, hq, hnw, hb1⟩
    obtain ⟨v, hv⟩ : ∃ v, pvOf p lc = v := ⟨_, rfl⟩
    rw [hv]
    have hb2 : Below w1.heap.size w1 ((w1.alloc (pobj v)).alloc (.cells #[.int .i64 l, .bool k, .bool s, .int .u16 f] 35 (0, 0))) := ((Below.refl _ _).alloc (Nat.le_refl _) (pobj v)).alloc (by simp) _
    have hb12 := hb1.trans (hb2.mono hb1.size)
    have D1 := D0.below hb12 D0.lt
    have P1 := (PBlk.new w1 v).below ((Below.refl (w1.alloc (pobj v)).heap.size _).alloc (Nat.le_refl _) (.cells #[.int .i64 l, .bool k, .bool s, .int .u16 f] 35 (0, 0))) (PBlk.new w1 v).lt
    have E1 : DBlk ((w1.alloc (pobj v)).alloc (.cells #[.int .i64 l, .bool k, .bool s, .int .u16 f] 35 (0, 0))) (w1.heap.size + 1) l k s f := by
      have := DBlk.new (w1.alloc (pobj v)) l k s f
      rw [show (w1.alloc (pobj v)).heap.size = w1.heap.size + 1 from by simp] at this
      exact this
    have HB1 := Lib.hid (hb0.trans (hb12.mono hb0.size))
    have HQ := Lib.hid ((hq.below hb2).more hb2.size)
    have HN := Lib.hid hnw
    have HS := Lib.hid hs0
    have HV := Lib.hid hv
    have hlt := D0.lt
    have hsz := hb1.size
    clear hb1 hb2 hb12 hb0 d1 D0 CM hq hnw hs0 hv
    go_upto_region 11 with (fail)
    generalize (w1.alloc (pobj v)).alloc (.cells #[.int .i64 l, .bool k, .bool s, .int .u16 f] 35 (0, 0)) = w2 at *
    have hne1 : w1.heap.size ≠ w.heap.size := by omega
    have hne2 : w1.heap.size + 1 ≠ w.heap.size := by omega
    have HD := Lib.hid D1
    obtain ⟨f0, f1, f2, f3, f4, f5, f6, f7, f8, f9, f10, f11, f12, f13, f14, f15, f16⟩ := D1.cells
    have g0 := D1.frozen 0
    have g1 := D1.frozen 1
    have g2 := D1.frozen 2
    have g3 := D1.frozen 3
    have g4 := D1.frozen 4
    have g5 := D1.frozen 5
    have g6 := D1.frozen 6
    have g7 := D1.frozen 7
    have g8 := D1.frozen 8
    have g9 := D1.frozen 9
    have g10 := D1.frozen 10
    have g11 := D1.frozen 11
    have g12 := D1.frozen 12
    have g13 := D1.frozen 13
    have g14 := D1.frozen 14
    have g15 := D1.frozen 15
    have g16 := D1.frozen 16
    obtain ⟨p0, p1, p2, p3, p4, p5, p6, p7, p8, p9, p10⟩ := P1.cells
    have e0 := E1.c0
    have e1 := E1.c1
    have e2 := E1.c2
    have e3 := E1.c3
    clear D1 P1 E1 hlt hsz
    go_wp2
    obtain ⟨u, hu, hx, hk, hbu, hsu⟩ := XW_all HD.out HB1.out (Nat.le_refl _) 0 zpv 0 false false 0 none 0 0
    dsimp only [zpv] at hu
    rw [hu]
    clear hu
    exact ret_x (b := w.heap.size) (K := 0) (v := zpv) (l := 0) (k := false) (s := false) (f := 0) (A := none) (m := 0) (c := 0) hx (RetX.none_ hbu) rfl rfl
  · go_enter Try.func10, Try.ntmps10
    go_wp2_with fail
    generalize w.alloc xz = w0 at *
    refine (CM.out w0 hb0).mono ?_
    rintro e w1 ⟨lc, rfl, hq, hnw, hb1⟩
    obtain ⟨v, hv⟩ : ∃ v, pvOf p lc = v := ⟨_, rfl⟩
    rw [hv]
    have hb2 : Below w1.heap.size w1 ((w1.alloc (pobj v)).alloc (.cells #[.int .i64 l, .bool k, .bool s, .int .u16 f] 35 (0, 0))) := ((Below.refl _ _).alloc (Nat.le_refl _) (pobj v)).alloc (by simp) _
    have hb12 := hb1.trans (hb2.mono hb1.size)
    have D1 := D0.below hb12 D0.lt
    have P1 := (PBlk.new w1 v).below ((Below.refl (w1.alloc (pobj v)).heap.size _).alloc (Nat.le_refl _) (.cells #[.int .i64 l, .bool k, .bool s, .int .u16 f] 35 (0, 0))) (PBlk.new w1 v).lt
    have E1 : DBlk ((w1.alloc (pobj v)).alloc (.cells #[.int .i64 l, .bool k, .bool s, .int .u16 f] 35 (0, 0))) (w1.heap.size + 1) l k s f := by
      have := DBlk.new (w1.alloc (pobj v)) l k s f
      rw [show (w1.alloc (pobj v)).heap.size = w1.heap.size + 1 from by simp] at this
      exact this
    have HB1 := Lib.hid (hb0.trans (hb12.mono hb0.size))
    have HQ := Lib.hid ((hq.below hb2).more hb2.size)
    have HN := Lib.hid hnw
    have HS := Lib.hid hs0
    have HV := Lib.hid hv
    have hlt := D0.lt
    have hsz := hb1.size
    clear hb1 hb2 hb12 hb0 d1 D0 CM hq hnw hs0 hv
    go_upto_region 11 with (fail)
    generalize (w1.alloc (pobj v)).alloc (.cells #[.int .i64 l, .bool k, .bool s, .int .u16 f] 35 (0, 0)) = w2 at *
    have hne1 : w1.heap.size ≠ w.heap.size := by omega
    have hne2 : w1.heap.size + 1 ≠ w.heap.size := by omega
    have HD := Lib.hid D1
    obtain ⟨f0, f1, f2, f3, f4, f5, f6, f7, f8, f9, f10, f11, f12, f13, f14, f15, f16⟩ := D1.cells
    have g0 := D1.frozen 0
    have g1 := D1.frozen 1
    have g2 := D1.frozen 2
    have g3 := D1.frozen 3
    have g4 := D1.frozen 4
    have g5 := D1.frozen 5
    have g6 := D1.frozen 6
    have g7 := D1.frozen 7
    have g8 := D1.frozen 8
    have g9 := D1.frozen 9
    have g10 := D1.frozen 10
    have g11 := D1.frozen 11
    have g12 := D1.frozen 12
    have g13 := D1.frozen 13
    have g14 := D1.frozen 14
    have g15 := D1.frozen 15
    have g16 := D1.frozen 16
    obtain ⟨p0, p1, p2, p3, p4, p5, p6, p7, p8, p9, p10⟩ := P1.cells
    have e0 := E1.c0
    have e1 := E1.c1
    have e2 := E1.c2
    have e3 := E1.c3
    clear D1 P1 E1 hlt hsz
    go_wp2
    obtain ⟨u, hu, hx, hk, hbu, hsu⟩ := XW_all HD.out HB1.out (Nat.le_refl _) 0 zpv 0 false false 0 none 0 0
    dsimp only [zpv] at hu
    rw [hu]
    clear hu
    exact ret_x (b := w.heap.size) (K := 0) (v := zpv) (l := 0) (k := false) (s := false) (f := 0) (A := none) (m := 0) (c := 0) hx (RetX.none_ hbu) rfl rfl
end Go.Proofs.Ythmmafpmpnhleaa.Sft

namespace Go.Proofs.Ythmmafpmpnhleaa.Sft
open Go.RowKit
open Rtp (PV pkt pobj PBlk pvOf PRd zpv Off)
open Fbk (ILoc IRd ItsRd ItsOwn its RetItsA getLE getLV)
set_option linter.unusedVariables false

theorem rsift_any (a : Option Addr) (n c B : Nat) (xs : List Int) (w : World) (hl : n ≤ maxLen) (hlc : n ≤ c) (hr : Rd w B a n xs) (hB : B ≤ w.heap.size) :
    Calls Try.prog 10 #[.slice a n c] w (RetX w (ofV xs) (ofE xs)) := by
  have hlen := hr.1
  by_cases h5 : 512 < n
  · rw [ofV, ofE, hlen, if_pos h5, if_pos h5]; exact rsift_big a n c w h5
  by_cases h2 : n < 2
  · rw [ofV, ofE, hlen, if_neg h5, if_neg h5, if_pos h2, if_pos h2]; exact rsift_short a n c w h5 h2
  rw [ofV, ofE, hlen, if_neg h5, if_neg h5, if_neg h2, if_neg h2]
  have CI : ∀ W, Below w.heap.size w W → Calls Try.prog 27 #[.slice a n c] W (RetItsA W (getLV xs) (getLE xs)) := fun W hW => Fbk.rf_getA a n c B xs W hlc (hr.below (hW.mono hB)) (Nat.le_trans hB hW.size)
  have CM : ∀ W, Below w.heap.size w W → Calls Try.prog 28 #[.slice a n c] W (RetM W (flP (medV xs)) (flL (medV xs)) (flK (medV xs)) (flS (medV xs)) (flF (medV xs)) (medE xs)) := fun W hW => rmedia_any a n c B xs W hl hlc (hr.below (hW.mono hB)) (Nat.le_trans hB hW.size)
  obtain ⟨b, off, rfl, hbB, hc⟩ := hr.2.2 (by omega)
  have c1 : w.cell? ⟨b, off + 1, none⟩ = some (.int .u8 (xs.getD 1 0)) := hc 1 (by omega)
  have hb : b < w.heap.size := Nat.lt_of_lt_of_le hbB hB
  by_cases hs : sideB xs = true
  · rw [if_pos hs, if_pos hs]
    obtain ⟨hx, hy⟩ : 192 ≤ xs.getD 1 0 ∧ xs.getD 1 0 ≤ 223 := by simpa [sideB] using hs
    by_cases h : getLE xs = 0
    · rw [feeV, if_pos h, h]
      rw [h] at CI
      exact rsift_feed b off n c _ _ w h5 h2 hb c1 hx hy CI
    · rw [feeV, if_neg h]
      exact rsift_feed_no b off n c _ _ _ w h5 h2 hb c1 hx hy (by simpa using h) CI
  · rw [if_neg hs, if_neg hs]
    have hx : ¬ (192 ≤ xs.getD 1 0) ∨ (192 ≤ xs.getD 1 0 ∧ ¬ (xs.getD 1 0 ≤ 223)) := by
      by_cases hx : 192 ≤ xs.getD 1 0
      · refine .inr ⟨hx, fun hy => hs ?_⟩
        simp only [sideB, hx, hy, decide_true, Bool.and_self]
      · exact .inl hx
    by_cases h : medE xs = 0
    · rw [medV, if_pos h, h] at CM
      rw [medV, if_pos h, h]
      exact rsift_media b off n c _ _ _ _ _ _ w h5 h2 hb c1 hx CM
    · rw [medV, if_neg h] at CM
      rw [medV, if_neg h]
      exact rsift_media_no b off n c _ _ _ _ _ _ _ w h5 h2 hb c1 hx (by simpa using h) CM

theorem EvBd.len {ev : Ev} (h : EvBd ev) : (flI ev).length ≤ 140737488351232 := by
  cases ev with
  | none => exact Nat.zero_le _
  | media p l k s f => exact Nat.zero_le _
  | feed is => have := h.1; show is.length ≤ _; omega

set_option maxHeartbeats 8000000 in
theorem all_walk (a : Option Addr) (len cap : Nat) (ev : Ev) (n : Int) (w : World) (hd : EvBd ev)
    (CO : Hid (∀ W, Below w.heap.size w W → Calls Try.prog 9 #[.slice a len cap] W (RetE W ev n)))
    (CX : Hid (∀ W, Below w.heap.size w W → Calls Try.prog 10 #[.slice a len cap] W (RetX W ev n))) :
    Calls Try.prog 3 #[.slice a len cap] w (Rtp.RetB w true) := by
  have HD := Lib.hid hd
  have HL := Lib.hid hd.len
  have CF : Hid (∀ W V, EvRd W W.heap.size ev V → Calls Try.prog 12 #[V] W (RetF W ev)) := fun W V hV => flat_any W ev V hV hd
  have CK : Hid (∀ W V, EvRd W W.heap.size ev V → Calls Try.prog 11 #[V] W (Rtp.RetI W (kindN ev))) := fun W V hV => kind_any W _ ev V hV
  clear hd
  unfold RetX at CX
  unfold RetF at CF
  generalize kindN ev = K at *
  generalize flP ev = p at *
  generalize flL ev = l at *
  generalize flK ev = k at *
  generalize flS ev = s at *
  generalize flF ev = f at *
  generalize flI ev = is at *
  go_enter Try.func3, Try.ntmps3
  go_wp2_with fail
  refine (shown_any _).mono ?_
  rintro e1 w1 ⟨rfl, hb1⟩
  go_wp2_with fail
  refine (CO.out _ hb1).mono ?_
  rintro e2 w2 ⟨V, rfl, hv, hb2⟩
  have hb12 := hb1.trans (hb2.mono hb1.size)
  have HV2 := Lib.hid hv
  clear hb1 hb2 hv CO
  go_wp2_with fail
  refine (CX.out _ hb12).mono ?_
  rintro e3 w3 ⟨lc, A, c, ps, rfl, hq, hi, he, hb3⟩
  obtain ⟨v, hv⟩ : ∃ v, pvOf p lc = v := ⟨_, rfl⟩
  rw [hv]
  obtain ⟨m, hm⟩ : ∃ m, is.length = m := ⟨_, rfl⟩
  rw [hm] at hi HL ⊢
  have hb4 : Below w3.heap.size w3 (w3.alloc (xobj K v l k s f A m c)) := (Below.refl _ _).alloc (Nat.le_refl _) _
  have X4 := XBlk.new w3 K v l k s f A m c
  have hb34 := hb3.trans (hb4.mono hb3.size)
  have HV4 := Lib.hid (HV2.out.bel hb34)
  have HB4 := Lib.hid (hb12.trans (hb34.mono hb12.size))
  have HQ4 := Lib.hid ((hq.below hb4).more hb4.size)
  have HI4 := Lib.hid (hi.bel hb4)
  have HE := Lib.hid he
  have HV := Lib.hid hv
  have HM := Lib.hid hm
  clear hb12 hb3 hb4 hb34 hq hi he hv hm HV2 CX
  go_wp2_with fail
  generalize w3.alloc (xobj K v l k s f A m c) = w4 at *
  generalize w3.heap.size = q at *
  have hS : XBlk w4.drew q K v l k s f A m c := X4
  have HV5 : Hid (EvRd w4.drew w4.drew.heap.size ev V) := HV4.out.bel (Below.refl w4.heap.size w4).drew
  have HB5 : Hid (Below w.heap.size w w4.drew) := HB4.out.drew
  have HQ5 : Hid (PRd w4.drew w4.drew.heap.size p lc) := (HQ4.out.below (Below.refl w4.heap.size w4).drew).more (Nat.le_refl _)
  have HI5 : Hid (ItsRd w4.drew w4.drew.heap.size A m ps) := HI4.out.bel (Below.refl w4.heap.size w4).drew
  have x0 : ∀ W, XBlk W q K v l k s f A m c → W.cell? ⟨q, 0, none⟩ = some (.int .i64 K) := fun W h => h.cells.1
  clear X4 HV4 HB4 HQ4 HI4
  refine region_seq (fun W => XBlk W q K v l k s f A m c) [(0, false), (2, false), (3, false), (1, true), (4, false), (5, false), (6, false), (7, false), (8, false), (9, false)] (by kernel_rfl) (by kernel_rfl) rfl (by kernel_rfl) ?_
  generalize w4.drew = u0 at *
  iterate 3 (refine seq_read (v := _) rfl (fun _ _ _ h => h) hS (Or.inl ⟨by rfl, fun W hW => by go_simp <;> with_reducible rfl⟩) ?_; simp only [Act.put, List.setIfInBounds_toArray, List.set_cons_zero, List.set_cons_succ])
  clear x0
  refine seq_do rfl (fun KK hK => ?_)
  go_simp
  refine (CK.out u0 V HV5.out).mono ?_
  rintro e u1 ⟨rfl, hb6⟩
  have HV6 := Lib.hid (HV5.out.bel hb6)
  have HB6 := Lib.hid (HB5.out.trans (hb6.mono HB5.out.size))
  have HQ6 := Lib.hid ((HQ5.out.below hb6).more hb6.size)
  have HI6 := Lib.hid (HI5.out.bel hb6)
  have hS6 : XBlk u1 q K v l k s f A m c := hS.below hb6 hS.lt
  refine hK.out _ _ _ (fun W h => h) hS6 ?_
  clear hK KK hb6 HV5 HB5 HQ5 HI5 hS CK
  iterate 6 (refine seq_read (v := _) rfl (fun _ _ _ h => h) hS6 (Or.inl ⟨by rfl, fun W hW => by go_simp <;> with_reducible rfl⟩) ?_; simp only [Act.put, List.setIfInBounds_toArray, List.set_cons_zero, List.set_cons_succ])
  refine seq_end ?_
  have HX6 := Lib.hid hS6
  clear hS6
  go_wp2_with fail
  refine (CF.out u1 V HV6.out).mono ?_
  rintro e u2 ⟨lc2, A2, c2, ps2, rfl, hq2, hi2, he2, hb7⟩
  obtain ⟨v2, hv2⟩ : ∃ v2, pvOf p lc2 = v2 := ⟨_, rfl⟩
  rw [hv2]
  rw [HM.out] at hi2 ⊢
  have hb8 : Below u2.heap.size u2 ((u2.alloc (pobj v2)).alloc (.cells #[.int .i64 l, .bool k, .bool s, .int .u16 f] 35 (0, 0))) := ((Below.refl _ _).alloc (Nat.le_refl _) (pobj v2)).alloc (by simp) _
  have hb78 := hb7.trans (hb8.mono hb7.size)
  have P8 := (PBlk.new u2 v2).below ((Below.refl (u2.alloc (pobj v2)).heap.size _).alloc (Nat.le_refl _) (.cells #[.int .i64 l, .bool k, .bool s, .int .u16 f] 35 (0, 0))) (PBlk.new u2 v2).lt
  have E8 : DBlk ((u2.alloc (pobj v2)).alloc (.cells #[.int .i64 l, .bool k, .bool s, .int .u16 f] 35 (0, 0))) (u2.heap.size + 1) l k s f := by
    have := DBlk.new (u2.alloc (pobj v2)) l k s f
    rw [show (u2.alloc (pobj v2)).heap.size = u2.heap.size + 1 from by simp] at this
    exact this
  have X8 := HX6.out.below hb78 HX6.out.lt
  have HB8 := Lib.hid (HB6.out.trans (hb78.mono HB6.out.size))
  have hQ8 := (HQ6.out.below hb78).more hb78.size
  have hQ9 := (hq2.below hb8).more hb8.size
  have HI8 := Lib.hid (HI6.out.bel hb78)
  have HI9 := Lib.hid (hi2.bel hb8)
  have HEE := Lib.hid (he2.trans HE.out.symm)
  clear hb7 hb8 hb78 hq2 hi2 he2 HV6 HB6 HQ6 HI6 HX6 CF HE HM
  have CS : Hid (Calls Try.prog 13 #[pkt v2, pkt v] ((u2.alloc (pobj v2)).alloc (.cells #[.int .i64 l, .bool k, .bool s, .int .u16 f] 35 (0, 0))) (Rtp.RetB ((u2.alloc (pobj v2)).alloc (.cells #[.int .i64 l, .bool k, .bool s, .int .u16 f] 35 (0, 0))) true)) := by
    have := Rtp.same_any _ _ p lc2 lc hQ9 hQ8 (Nat.le_refl _)
    rw [hv2, HV.out] at this
    exact this
  clear hQ8 hQ9 hv2
  go_upto_region 8 with (fail)
  generalize (u2.alloc (pobj v2)).alloc (.cells #[.int .i64 l, .bool k, .bool s, .int .u16 f] 35 (0, 0)) = u3 at *
  generalize u2.heap.size = r at *
  generalize hr1 : r + 1 = r1 at *
  obtain ⟨x0, x1, x2, x3, x4, x5, x6, x7, x8, x9, x10, x11, x12, x13, x14, x15, x16⟩ := X8.cells
  obtain ⟨p0, p1, p2, p3, p4, p5, p6, p7, p8, p9, p10⟩ := P8.cells
  go_wp2_with fail
  refine CS.out.mono ?_
  rintro e u4 ⟨rfl, hb9⟩
  have E9 := E8.below hb9 E8.lt
  have X9 := X8.below hb9 X8.lt
  have HB9 := Lib.hid (HB8.out.trans (hb9.mono HB8.out.size))
  have HI10 := Lib.hid (HI8.out.bel hb9)
  have HI11 := Lib.hid (HI9.out.bel hb9)
  clear x0 x1 x2 x3 x4 x5 x6 x7 x8 x9 x10 x11 x12 x13 x14 x15 x16 p0 p1 p2 p3 p4 p5 p6 p7 p8 p9 p10 hb9 E8 X8 P8 HB8 HI8 HI9 CS
  have e0 := E9.c0
  have e1 := E9.c1
  have e2 := E9.c2
  have e3 := E9.c3
  obtain ⟨x0, x1, x2, x3, x4, x5, x6, x7, x8, x9, x10, x11, x12, x13, x14, x15, x16⟩ := X9.cells
  clear E9 X9 x0 x1 x2 x3 x4 x5 x6 x7 x8 x9 x10 x11
  go_wp2_with fail
  refine (Fbk.same_its A2 A m c2 c ps2 ps u4 HL.out HI11.out HI10.out HEE.out).mono ?_
  rintro e u5 ⟨rfl, hb10⟩
  have HB10 := Lib.hid (HB9.out.trans (hb10.mono HB9.out.size))
  clear hb10 x12 x13 x14 x15 x16 e0 e1 e2 e3
  go_wp2
  go_ret
  exact ⟨rfl, HB10.out⟩
theorem all_law (a : Option Addr) (len cap : Nat) (xs : List Int) (w : World) (hl : len ≤ 140737488351232) (hlc : len ≤ cap) (hr : Rd w w.heap.size a len xs) :
    Calls Try.prog 3 #[.slice a len cap] w (Rtp.RetB w true) :=
  all_walk a len cap (ofV xs) (ofE xs) w (of_ok hr.2.1).2.1 (fun W hW => of_any a len cap w.heap.size xs W (by unfold maxLen; omega) hlc (hr.below hW) hW.size) (fun W hW => rsift_any a len cap w.heap.size xs W (by unfold maxLen; omega) hlc (hr.below hW) hW.size)
end Go.Proofs.Ythmmafpmpnhleaa.Sft
