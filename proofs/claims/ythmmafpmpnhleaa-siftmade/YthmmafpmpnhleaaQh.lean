/- The contract of report.Get. · Items that lie from a block on; rows of 32-bit numbers and pairs as records. No function of the program. -/
import Derived.Test.YthmmafpmpnhleaaQf
set_option maxRecDepth 100000
namespace Go.Proofs.Ythmmafpmpnhleaa.Fbk
open Go.RowKit
set_option linter.unusedVariables false

set_option maxHeartbeats 1000000 in
theorem retI_at {W : World} {b : Nat} {v : IV} {m n : Int} {tmps : Array Value} {R : Ending → World → Prop} (D : IBlk W b v) (hR : R (.returned (.tuple #[itm v, .int .i64 m, .int .i64 n])) W)
    (h2 : tmps[2]?.getD undef = .pointer (some ⟨b, 0, none⟩) := by rfl) (h3 : tmps[3]?.getD undef = .int .i64 m := by rfl) (h4 : tmps[4]?.getD undef = .int .i64 n := by rfl) :
    bodyPost Try.prog Try.f71 R .ret ⟨tmps, []⟩ W := by
  obtain ⟨c0, c1, c2, c3, c4, c5, c6, c7, c8, c9⟩ := D.cells
  exact bodyPost_ret (v := .tuple #[itm v, .int .i64 m, .int .i64 n]) (by simp [results, Try.results71, go_sem, h2, h3, h4, c0, c1, c2, c3, c4, c5, c6, c7, c8, c9]) rfl hR

theorem Kp.rows {α : Type} {L : Lay α} {q base n c : Nat} {w w' : World} {A : Option Addr} {xs : List α} (h : Kp q q w w') (k : RowOwn L w base A n c xs) (hq : q < base) : RowOwn L w' base A n c xs :=
  k.keepB fun g hg hs => h.keep g hs (by omega) (by omega)

/-- What stands while a report is read. -/
structure GS (w W : World) (v : IV) (q n c i : Nat) (A : Option Addr) : Prop where
  below : Below w.heap.size w W
  res : IBlk W w.heap.size v
  rd : RB W q A n c i
  hq : w.heap.size < q
section
variable {w W W' : World} {v : IV} {q n c i : Nat} {A : Option Addr} {xs : List Int}
theorem GS.kp {j : Nat} (p : GS w W v q n c i A) (r : RB W' q A n c j) (k : Kp q q W W') : GS w W' v q n c j A :=
  ⟨p.below.trans (k.below _ (Nat.le_of_lt p.hq) (Nat.le_of_lt p.hq)), k.iblk p.res (Nat.ne_of_lt p.hq) (Nat.ne_of_lt p.hq), r, p.hq⟩
theorem GS.bel (p : GS w W v q n c i A) (hb : Below W.heap.size W W') : GS w W' v q n c i A := ⟨p.below.trans (hb.mono p.below.size), p.res.bel hb, p.rd.bel hb, p.hq⟩
theorem GS.belq (p : GS w W v q n c i A) (hb : Below (q + 1) W W') : GS w W' v q n c i A := ⟨p.below.trans (hb.mono (by have := p.hq; omega)), p.res.below hb (by have := p.hq; omega), p.rd.below hb (by omega), p.hq⟩
theorem GS.set {j : Nat} {u : IV} {x : Value} (p : GS w W v q n c i A) (hu : IBlk (W.setCell ⟨w.heap.size, j, none⟩ x) w.heap.size u) : GS w (W.setCell ⟨w.heap.size, j, none⟩ x) u q n c i A :=
  ⟨p.below.setCell (p := ⟨w.heap.size, j, none⟩) (Nat.le_refl _) x, hu, p.rd.off (p := ⟨w.heap.size, j, none⟩) (Nat.ne_of_lt p.hq) x, p.hq⟩
theorem GS.take (p : GS w W v q n c i A) (hr : Rd w w.heap.size A n xs) (hl : n ≤ maxLen) (hlc : n ≤ c) (s : Nat) (h1 : 1 ≤ s) (h2 : s ≤ 8) (h3 : i + s ≤ n) :
    Calls Try.prog 88 #[.pointer (some ⟨q, 0, none⟩), .int .i64 s] W fun e W' => e = .returned (.int .u64 (nb xs i s)) ∧ GS w W' v q n c (i + s) A ∧ Kp q q W W' :=
  (take_any W q n c w.heap.size i s A xs p.rd (hr.below p.below) hl hlc h1 h2 h3).mono fun e W' ⟨he, h1, h2⟩ => ⟨he, p.kp h1 h2, h2⟩
theorem GS.word (p : GS w W v q n c i A) (hr : Rd w w.heap.size A n xs) (hl : n ≤ maxLen) (hlc : n ≤ c) (h3 : i + 4 ≤ n) :
    Calls Try.prog 87 #[.pointer (some ⟨q, 0, none⟩)] W fun e W' => e = .returned (.int .u32 (nb xs i 4)) ∧ GS w W' v q n c (i + 4) A ∧ Kp q q W W' :=
  (word_any W q n c w.heap.size i A xs p.rd (hr.below p.below) hl hlc h3).mono fun e W' ⟨he, h1, h2⟩ => ⟨he, p.kp h1 h2, h2⟩
theorem GS.blo (p : GS w W v q n c i A) (hr : Rd w w.heap.size A n xs) (hl : n ≤ maxLen) (hlc : n ≤ c) (h3 : i + 24 ≤ n) :
    Calls Try.prog 89 #[.pointer (some ⟨q, 0, none⟩)] W fun e W' => e = .returned (bloV (bloAt xs i)) ∧ GS w W' v q n c (i + 24) A ∧ Kp q q W W' :=
  (block_any W q n c w.heap.size i A xs p.rd (hr.below p.below) (Nat.le_of_lt p.hq) hl hlc h3).mono fun e W' ⟨he, h1, h2⟩ => ⟨he, p.kp h1 h2, h2⟩
end
theorem blosAt_snoc (b : List Int) : ∀ (k i : Nat), blosAt b i (k + 1) = blosAt b i k ++ [bloAt b (i + 24 * k)]
  | 0, i => rfl
  | k + 1, i => by rw [blosAt, blosAt_snoc b k (i + 24), blosAt, List.cons_append, show i + 24 + 24 * k = i + 24 * (k + 1) from by omega]
theorem info_blo : (Try.prog.info? 105).map (fun i => (i.zero, i.size, i.bytes)) = some (some (bloV zblo), 7, 28) := by kernel_rfl

set_option maxHeartbeats 1000000 in
theorem get_no (a : Option Addr) (n c : Nat) (k m x : Int) (w : World) (hx : (x != 0) = true) (CF : Hid (∀ W, Below w.heap.size w W → Calls Try.prog 86 #[.slice a n c] W (RetF W k m x))) :
    Calls Try.prog 71 #[.slice a n c] w (IRet w zeroItm 0 x) := by
  have hb0 := (Below.refl w.heap.size w).alloc (Nat.le_refl _) (iobj ziv)
  have HD := Lib.hid (IBlk.new w ziv)
  have HB := Lib.hid hb0
  clear hb0
  go_enter Try.func71, Try.ntmps71
  go_wp2_with fail
  refine (CF.out _ HB.out).mono ?_
  rintro e w1 ⟨rfl, hb1⟩
  have D1 := HD.out.bel hb1
  have HD1 := Lib.hid D1
  have HB1 := Lib.hid (HB.out.trans (hb1.mono HB.out.size))
  obtain ⟨c0, f0, c1, f1, c2, f2, c3, f3, c4, f4, c5, f5, c6, f6, c7, f7, c8, f8, c9, f9⟩ := D1.cf
  clear D1 hb1 HD HB CF
  go_wp2
  exact retI_at (HD1.out.store ziv) ⟨⟨none, 0, none, 0, none, 0⟩, rfl, IRd.zero _ _, below_istore HB1.out (Nat.le_refl _) _ _ _ _ _ _ _ _ _ _⟩
abbrev ist (w : World) (b : Nat) (u : IV) : World := (((((((((w.setCell ⟨b, 0, none⟩ (.int .i64 u.kind)).setCell ⟨b, 1, none⟩ (.int .u32 u.ssrc)).setCell ⟨b, 2, none⟩ (.int .u64 u.ntp)).setCell ⟨b, 3, none⟩ (.int .u32 u.time)).setCell ⟨b, 4, none⟩ (.int .u32 u.pks)).setCell ⟨b, 5, none⟩ (.int .u32 u.ocs)).setCell ⟨b, 6, none⟩ (.slice u.ba u.bn u.bc)).setCell ⟨b, 7, none⟩ (.slice u.ga u.gn u.gc)).setCell ⟨b, 8, none⟩ (.int .u32 u.media)).setCell ⟨b, 9, none⟩ (.slice u.pa u.pn u.pc)
theorem RWBlk.ist {t : TypeId} {w : World} {q n c b : Nat} {A : Option Addr} {i : Int} (h : RWBlk t w q A n c i) (hp : b ≠ q) (u : IV) : RWBlk t (ist w b u) q A n c i :=
  (((((((((h.off (p := ⟨b, 0, none⟩) hp _).off (p := ⟨b, 1, none⟩) hp _).off (p := ⟨b, 2, none⟩) hp _).off (p := ⟨b, 3, none⟩) hp _).off (p := ⟨b, 4, none⟩) hp _).off (p := ⟨b, 5, none⟩) hp _).off (p := ⟨b, 6, none⟩) hp _).off (p := ⟨b, 7, none⟩) hp _).off (p := ⟨b, 8, none⟩) hp _).off (p := ⟨b, 9, none⟩) hp _
theorem RowOwn.ist {α : Type} {L : Lay α} {w : World} {b base n c : Nat} {A : Option Addr} {xs : List α} (h : RowOwn L w base A n c xs) (hb : b < base) (u : IV) : RowOwn L (ist w b u) base A n c xs :=
  (((((((((h.setOff hb _).setOff hb _).setOff hb _).setOff hb _).setOff hb _).setOff hb _).setOff hb _).setOff hb _).setOff hb _).setOff hb _
def Sg (b : Nat) (A : Option Addr) (k c : Nat) (W : World) : Prop := W.cell? ⟨b, 6, none⟩ = some (.slice A k c)
def Sr (b q : Nat) (v : IV) (A : Option Addr) (n c : Nat) (i : Nat) (W : World) : Prop := IBlk W b v ∧ RB W q A n c i

set_option maxRecDepth 100000 in
set_option maxHeartbeats 8000000 in
theorem get_sender (a : Option Addr) (n c m : Nat) (xs : List Int) (w : World) (hr : Rd w w.heap.size a n xs) (hl : n ≤ maxLen) (hlc : n ≤ c) (hm : m ≤ 15) (hn : 28 + 24 * m ≤ n) (N : Nat) (hNN : 28 + 24 * m = N)
    (CF : Hid (∀ W, Below w.heap.size w W → Calls Try.prog 86 #[.slice a n c] W (RetF W 200 m 0))) :
    Calls Try.prog 71 #[.slice a n c] w fun e w' => ∃ A k, e = .returned (.tuple #[itm ⟨200, nb xs 4 4, nb xs 8 8, nb xs 16 4, nb xs 20 4, nb xs 24 4, A, m, k, none, 0, 0, 0, none, 0, 0⟩, .int .i64 N, .int .i64 0]) ∧ RowOwn bloL w' w.heap.size A m k (blosAt xs 28 m) ∧ Below w.heap.size w w' := by
  obtain ⟨i0, hi0, hz0, hz1, hz2⟩ := info_parts info_blo
  have hb0 := (Below.refl w.heap.size w).alloc (Nat.le_refl _) (iobj ziv)
  have HD := Lib.hid (IBlk.new w ziv)
  have HB := Lib.hid hb0
  have HRd := Lib.hid hr
  have HL := Lib.hid hl
  have HLC := Lib.hid hlc
  have HN := Lib.hid hn
  have HNN := Lib.hid hNN
  have HI := Lib.hid (show Try.prog.info? 105 = some i0 ∧ i0.zero = some (bloV zblo) ∧ i0.size = 7 ∧ i0.bytes = 28 from ⟨hi0, hz0, hz1, hz2⟩)
  clear hb0 hr hl hlc hn hNN hi0 hz0 hz1 hz2
  go_enter Try.func71, Try.ntmps71
  go_wp2_with fail
  refine (CF.out _ HB.out).mono ?_
  rintro e w1 ⟨rfl, hb1⟩
  have hb2 := (Below.refl w1.heap.size w1).alloc (Nat.le_refl _) (.cells #[.slice a n c, .int .i64 4] 133)
  have HP2 : Hid (GS w (w1.alloc (.cells #[.slice a n c, .int .i64 4] 133)) ziv w1.heap.size n c 4 a) :=
    ⟨(HB.out.trans (hb1.mono HB.out.size)).alloc (Nat.le_trans HB.out.size hb1.size) _, (HD.out.bel hb1).bel hb2, RWBlk.new w1 _ _ _ _, (HD.out.bel hb1).lt⟩
  clear hb2 hb1 HD HB CF
  go_wp2_with fail
  refine (HP2.out.word HRd.out HL.out HLC.out (by have := HN.out; omega)).mono ?_
  rintro e w2 ⟨rfl, P3, -⟩
  have D := P3.res
  obtain ⟨c0, f0, c1, f1, c2, f2, c3, f3, c4, f4, c5, f5, c6, f6, c7, f7, c8, f8, c9, f9⟩ := D.cf
  have HP3 : Hid (GS w (((((((((((w2.setCell ⟨w.heap.size, 0, none⟩ (.int .i64 200)).setCell ⟨w.heap.size, 1, none⟩ (.int .u32 (nb xs 4 4))).setCell ⟨w.heap.size, 2, none⟩ (.int .u64 0)).setCell ⟨w.heap.size, 3, none⟩ (.int .u32 0)).setCell ⟨w.heap.size, 4, none⟩ (.int .u32 0)).setCell ⟨w.heap.size, 5, none⟩ (.int .u32 0)).setCell ⟨w.heap.size, 6, none⟩ (.slice none 0 0)).setCell ⟨w.heap.size, 7, none⟩ (.slice none 0 0)).setCell ⟨w.heap.size, 8, none⟩ (.int .u32 0)).setCell ⟨w.heap.size, 9, none⟩ (.slice none 0 0))) ⟨200, nb xs 4 4, 0, 0, 0, 0, none, 0, 0, none, 0, 0, 0, none, 0, 0⟩ w1.heap.size n c 8 a) :=
    ((((((((((P3.set (D.set0 200)).set ((D.set0 200).set1 (nb xs 4 4))).set (((D.set0 200).set1 (nb xs 4 4)).set2 0)).set ((((D.set0 200).set1 (nb xs 4 4)).set2 0).set3 0)).set (((((D.set0 200).set1 (nb xs 4 4)).set2 0).set3 0).set4 0)).set ((((((D.set0 200).set1 (nb xs 4 4)).set2 0).set3 0).set4 0).set5 0)).set (((((((D.set0 200).set1 (nb xs 4 4)).set2 0).set3 0).set4 0).set5 0).set6 none 0 0)).set ((((((((D.set0 200).set1 (nb xs 4 4)).set2 0).set3 0).set4 0).set5 0).set6 none 0 0).set7 none 0 0)).set (((((((((D.set0 200).set1 (nb xs 4 4)).set2 0).set3 0).set4 0).set5 0).set6 none 0 0).set7 none 0 0).set8 0)).set ((((((((((D.set0 200).set1 (nb xs 4 4)).set2 0).set3 0).set4 0).set5 0).set6 none 0 0).set7 none 0 0).set8 0).set9 none 0 0))
  clear D P3 HP2
  go_wp2_with fail
  refine (HP3.out.take HRd.out HL.out HLC.out 8 (by omega) (by omega) (by have := HN.out; omega)).mono ?_
  rintro e w3 ⟨rfl, P4, -⟩
  clear c0 f0 c1 f1 c2 f2 c3 f3 c4 f4 c5 f5 c6 f6 c7 f7 c8 f8 c9 f9
  have c2 := P4.res.c2
  have f2 := P4.res.frozen 2
  have HP4 : Hid (GS w (w3.setCell ⟨w.heap.size, 2, none⟩ (.int .u64 (nb xs 8 8))) ⟨200, nb xs 4 4, nb xs 8 8, 0, 0, 0, none, 0, 0, none, 0, 0, 0, none, 0, 0⟩ w1.heap.size n c 16 a) := P4.set (P4.res.set2 _)
  clear P4 HP3
  go_wp2_with fail
  refine (HP4.out.word HRd.out HL.out HLC.out (by have := HN.out; omega)).mono ?_
  rintro e w4 ⟨rfl, P5, -⟩
  clear c2 f2
  have c3 := P5.res.c3
  have f3 := P5.res.frozen 3
  have HP5 : Hid (GS w (w4.setCell ⟨w.heap.size, 3, none⟩ (.int .u32 (nb xs 16 4))) ⟨200, nb xs 4 4, nb xs 8 8, nb xs 16 4, 0, 0, none, 0, 0, none, 0, 0, 0, none, 0, 0⟩ w1.heap.size n c 20 a) := P5.set (P5.res.set3 _)
  clear P5 HP4
  go_wp2_with fail
  refine (HP5.out.word HRd.out HL.out HLC.out (by have := HN.out; omega)).mono ?_
  rintro e w5 ⟨rfl, P6, -⟩
  clear c3 f3
  have c4 := P6.res.c4
  have f4 := P6.res.frozen 4
  have HP6 : Hid (GS w (w5.setCell ⟨w.heap.size, 4, none⟩ (.int .u32 (nb xs 20 4))) ⟨200, nb xs 4 4, nb xs 8 8, nb xs 16 4, nb xs 20 4, 0, none, 0, 0, none, 0, 0, 0, none, 0, 0⟩ w1.heap.size n c 24 a) := P6.set (P6.res.set4 _)
  clear P6 HP5
  go_wp2_with fail
  refine (HP6.out.word HRd.out HL.out HLC.out (by have := HN.out; omega)).mono ?_
  rintro e w6 ⟨rfl, P7, -⟩
  clear c4 f4
  have c5 := P7.res.c5
  have f5 := P7.res.frozen 5
  have HP7 : Hid (GS w (w6.setCell ⟨w.heap.size, 5, none⟩ (.int .u32 (nb xs 24 4))) ⟨200, nb xs 4 4, nb xs 8 8, nb xs 16 4, nb xs 20 4, nb xs 24 4, none, 0, 0, none, 0, 0, 0, none, 0, 0⟩ w1.heap.size n c 28 a) := P7.set (P7.res.set5 _)
  clear P7 HP6
  go_wp2_with fail
  clear c5 f5
  go_loopw [34] (fun sk wx => ∃ (k : Nat) (A : Option Addr) (z : Nat), k ≤ m ∧ sk = .int .i64 k ∧ Hid (GS w wx ⟨200, nb xs 4 4, nb xs 8 8, nb xs 16 4, nb xs 20 4, nb xs 24 4, A, k, z, none, 0, 0, 0, none, 0, 0⟩ w1.heap.size n c (28 + 24 * k) a) ∧ Hid (RowOwn bloL wx (w1.heap.size + 1) A k z (blosAt xs 28 k))) (fun sk _ => m - (intOf sk).toNat)
  case atStart => exact ⟨0, none, 0, by omega, rfl, HP7.out, RowOwn.nil _ _⟩
  case round =>
    obtain ⟨k, A, z, hk, rfl, hP, hO⟩ := hrel
    rename World => wx
    clear HP7
    by_cases hlt : k < m
    · have hS : Sg w.heap.size A k z wx.drew := hP.out.res.c6
      have c6 : ∀ W, Sg w.heap.size A k z W → W.cell? ⟨w.heap.size, 6, none⟩ = some (.slice A k z) := fun W h => h
      have HP0 : Hid (GS w wx.drew ⟨200, nb xs 4 4, nb xs 8 8, nb xs 16 4, nb xs 20 4, nb xs 24 4, A, k, z, none, 0, 0, 0, none, 0, 0⟩ w1.heap.size n c (28 + 24 * k) a) := ⟨hP.out.below.drew, hP.out.res, hP.out.rd, hP.out.hq⟩
      have HO0 : Hid (RowOwn bloL wx.drew (w1.heap.size + 1) A k z (blosAt xs 28 k)) := hO.out
      clear hP hO
      go_wp2_with fail
      refine region_seqX (Sg w.heap.size A k z) 6 [(0, false), (1, false), (2, true), (3, true), (4, true), (5, false), (6, true)] (by kernel_rfl) (by kernel_rfl) rfl (by kernel_rfl) ?_
      generalize wx.drew = u0 at *
      iterate 2 (refine seqX_read (v := _) rfl (fun _ _ _ h => h) hS (Or.inl ⟨by rfl, fun W hW => by go_simp <;> with_reducible rfl⟩) ?_; simp only [Act.put, List.setIfInBounds_toArray, List.set_cons_zero, List.set_cons_succ])
      clear c6
      refine seqX_do rfl (fun K hK => ?_)
      go_simp
      refine (HP0.out.blo HRd.out HL.out HLC.out (by have := HN.out; omega)).mono ?_
      rintro e u1 ⟨rfl, Pa, Ka⟩
      have Oa := Ka.rows HO0.out (by omega)
      refine hK.out _ _ _ (fun W h => h) Pa.res.c6 ?_
      clear hK K Ka HP0 HO0 hS
      refine seqX_do rfl (fun K hK => ?_)
      have HPa := Lib.hid Pa
      have HOa := Lib.hid Oa
      have HY := Lib.hid (blosAt_snoc xs k 28)
      clear Pa Oa
      generalize bloAt xs (28 + 24 * k) = y at *
      have hbA := (Below.refl u1.heap.size u1).alloc (Nat.le_refl _) (bloO y)
      have HWB : Hid (RowRd bloL (u1.alloc (.cells #[.int .u32 y.ssrc, .int .u8 y.lost, .int .u32 y.total, .int .u32 y.high, .int .u32 y.jit, .int .u32 y.last, .int .u32 y.delay] 105)) (u1.alloc (.cells #[.int .u32 y.ssrc, .int .u8 y.lost, .int .u32 y.total, .int .u32 y.high, .int .u32 y.jit, .int .u32 y.last, .int .u32 y.delay] 105)).heap.size (some ⟨u1.heap.size, 0, none⟩) 1 [y]) := rowRd_blk (L := bloL) (xs := [y]) (KBlk.new u1 y) rfl
      have HP2 : Hid (GS w (u1.alloc (.cells #[.int .u32 y.ssrc, .int .u8 y.lost, .int .u32 y.total, .int .u32 y.high, .int .u32 y.jit, .int .u32 y.last, .int .u32 y.delay] 105)) ⟨200, nb xs 4 4, nb xs 8 8, nb xs 16 4, nb xs 20 4, nb xs 24 4, A, k, z, none, 0, 0, 0, none, 0, 0⟩ w1.heap.size n c (28 + 24 * k + 24) a) := HPa.out.bel hbA
      have HO2 : Hid (RowOwn bloL (u1.alloc (.cells #[.int .u32 y.ssrc, .int .u8 y.lost, .int .u32 y.total, .int .u32 y.high, .int .u32 y.jit, .int .u32 y.last, .int .u32 y.delay] 105)) (w1.heap.size + 1) A k z (blosAt xs 28 k)) := HOa.out.bel hbA
      clear HPa HOa hbA
      go_simp
      refine hK.out _ _ _ (fun W h => h) HP2.out.res.c6 ?_
      clear hK K
      generalize u1.alloc (.cells #[.int .u32 y.ssrc, .int .u8 y.lost, .int .u32 y.total, .int .u32 y.high, .int .u32 y.jit, .int .u32 y.last, .int .u32 y.delay] 105) = u2 at *
      generalize u1.heap.size = qb at *
      refine seqX_do rfl (fun K hK => ?_)
      rw [if_pos (by rfl)]
      refine oper_append_rows (L := bloL) (N := k + 1) (.tmp 37) (.tmp 39) rfl Try.underlying65 HI.out.1 HI.out.2.1 HI.out.2.2.1 HI.out.2.2.2 rfl (blosAt xs 28 (k + 1)) rfl HY.out.symm rfl rfl HO2.out HWB.out HP2.out.rd.lt (by unfold maxLen; omega) (by omega) (fun A2 c2 u3 ho3 hb3 => hK.out _ _ _ (fun W h => h) (HP2.out.belq hb3).res.c6 ?_)
      have Pc := HP2.out.belq hb3
      have hS : Sg w.heap.size A k z u3 := Pc.res.c6
      have x6 := Pc.res.c6
      have y6 := Pc.res.frozen 6
      have HPd : Hid (GS w (u3.setCell ⟨w.heap.size, 6, none⟩ (.slice A2 (k + 1) c2)) ⟨200, nb xs 4 4, nb xs 8 8, nb xs 16 4, nb xs 20 4, nb xs 24 4, A2, (k + 1), c2, none, 0, 0, 0, none, 0, 0⟩ w1.heap.size n c (28 + 24 * k + 24) a) := Pc.set (Pc.res.set6 A2 (k + 1) c2)
      have HOd : Hid (RowOwn bloL (u3.setCell ⟨w.heap.size, 6, none⟩ (.slice A2 (k + 1) c2)) (w1.heap.size + 1) A2 (k + 1) c2 (blosAt xs 28 (k + 1))) := ho3.setOff (by have := Pc.hq; omega) _
      clear hK K HP2 HO2 HWB Pc ho3 hb3
      simp only [Act.put, List.setIfInBounds_toArray, List.set_cons_zero, List.set_cons_succ]
      iterate 1 (refine seqX_read (v := _) rfl (fun _ _ _ h => h) hS (Or.inl ⟨by rfl, fun W hW => by go_simp <;> with_reducible rfl⟩) ?_; simp only [Act.put, List.setIfInBounds_toArray, List.set_cons_zero, List.set_cons_succ])
      refine seqX_last rfl (fun K hK => ?_)
      go_simp
      refine hK.out _ _ ?_
      clear hK K x6 y6 hS
      go_wp2
      go_roundw
      case rel => exact ⟨k + 1, A2, c2, by omega, by go_num, (by rw [show 28 + 24 * (k + 1) = 28 + 24 * k + 24 from by omega]; exact HPd.out), HOd.out⟩
      case measure => simp [intOf]; omega
    · obtain rfl : k = m := by omega
      obtain ⟨v, hv⟩ : ∃ v : IV, v = ⟨200, nb xs 4 4, nb xs 8 8, nb xs 16 4, nb xs 20 4, nb xs 24 4, A, k, z, none, 0, 0, 0, none, 0, 0⟩ := ⟨_, rfl⟩
      have hP' := hP.out
      rw [← hv, HNN.out] at hP'
      have hS : Sr w.heap.size w1.heap.size v a n c N wx.drew := ⟨hP'.res, hP'.rd⟩
      have D : IBlk wx.drew w.heap.size v := hP'.res
      obtain ⟨x0, f0, x1, f1, x2, f2, x3, f3, x4, f4, x5, f5, x6, f6, x7, f7, x8, f8, x9, f9⟩ := D.cf
      have c0 : ∀ W, Sr w.heap.size w1.heap.size v a n c N W → W.cell? ⟨w.heap.size, 0, none⟩ = some (.int .i64 v.kind) := fun W h => h.1.c0
      have c1 : ∀ W, Sr w.heap.size w1.heap.size v a n c N W → W.cell? ⟨w.heap.size, 1, none⟩ = some (.int .u32 v.ssrc) := fun W h => h.1.c1
      have c2 : ∀ W, Sr w.heap.size w1.heap.size v a n c N W → W.cell? ⟨w.heap.size, 2, none⟩ = some (.int .u64 v.ntp) := fun W h => h.1.c2
      have c3 : ∀ W, Sr w.heap.size w1.heap.size v a n c N W → W.cell? ⟨w.heap.size, 3, none⟩ = some (.int .u32 v.time) := fun W h => h.1.c3
      have c4 : ∀ W, Sr w.heap.size w1.heap.size v a n c N W → W.cell? ⟨w.heap.size, 4, none⟩ = some (.int .u32 v.pks) := fun W h => h.1.c4
      have c5 : ∀ W, Sr w.heap.size w1.heap.size v a n c N W → W.cell? ⟨w.heap.size, 5, none⟩ = some (.int .u32 v.ocs) := fun W h => h.1.c5
      have c6 : ∀ W, Sr w.heap.size w1.heap.size v a n c N W → W.cell? ⟨w.heap.size, 6, none⟩ = some (.slice v.ba v.bn v.bc) := fun W h => h.1.c6
      have c7 : ∀ W, Sr w.heap.size w1.heap.size v a n c N W → W.cell? ⟨w.heap.size, 7, none⟩ = some (.slice v.ga v.gn v.gc) := fun W h => h.1.c7
      have c8 : ∀ W, Sr w.heap.size w1.heap.size v a n c N W → W.cell? ⟨w.heap.size, 8, none⟩ = some (.int .u32 v.media) := fun W h => h.1.c8
      have c9 : ∀ W, Sr w.heap.size w1.heap.size v a n c N W → W.cell? ⟨w.heap.size, 9, none⟩ = some (.slice v.pa v.pn v.pc) := fun W h => h.1.c9
      have r1 : ∀ W, Sr w.heap.size w1.heap.size v a n c N W → W.cell? ⟨w1.heap.size, 1, none⟩ = some (.int .i64 N) := fun W h => h.2.c1
      have HW := Lib.hid (show Sr w.heap.size w1.heap.size v a n c N ((((((((((wx.drew.setCell ⟨w.heap.size, 0, none⟩ (.int .i64 v.kind)).setCell ⟨w.heap.size, 1, none⟩ (.int .u32 v.ssrc)).setCell ⟨w.heap.size, 2, none⟩ (.int .u64 v.ntp)).setCell ⟨w.heap.size, 3, none⟩ (.int .u32 v.time)).setCell ⟨w.heap.size, 4, none⟩ (.int .u32 v.pks)).setCell ⟨w.heap.size, 5, none⟩ (.int .u32 v.ocs)).setCell ⟨w.heap.size, 6, none⟩ (.slice v.ba v.bn v.bc)).setCell ⟨w.heap.size, 7, none⟩ (.slice v.ga v.gn v.gc)).setCell ⟨w.heap.size, 8, none⟩ (.int .u32 v.media)).setCell ⟨w.heap.size, 9, none⟩ (.slice v.pa v.pn v.pc)) ∧ Below w.heap.size w ((((((((((wx.drew.setCell ⟨w.heap.size, 0, none⟩ (.int .i64 v.kind)).setCell ⟨w.heap.size, 1, none⟩ (.int .u32 v.ssrc)).setCell ⟨w.heap.size, 2, none⟩ (.int .u64 v.ntp)).setCell ⟨w.heap.size, 3, none⟩ (.int .u32 v.time)).setCell ⟨w.heap.size, 4, none⟩ (.int .u32 v.pks)).setCell ⟨w.heap.size, 5, none⟩ (.int .u32 v.ocs)).setCell ⟨w.heap.size, 6, none⟩ (.slice v.ba v.bn v.bc)).setCell ⟨w.heap.size, 7, none⟩ (.slice v.ga v.gn v.gc)).setCell ⟨w.heap.size, 8, none⟩ (.int .u32 v.media)).setCell ⟨w.heap.size, 9, none⟩ (.slice v.pa v.pn v.pc)) ∧ RowOwn bloL ((((((((((wx.drew.setCell ⟨w.heap.size, 0, none⟩ (.int .i64 v.kind)).setCell ⟨w.heap.size, 1, none⟩ (.int .u32 v.ssrc)).setCell ⟨w.heap.size, 2, none⟩ (.int .u64 v.ntp)).setCell ⟨w.heap.size, 3, none⟩ (.int .u32 v.time)).setCell ⟨w.heap.size, 4, none⟩ (.int .u32 v.pks)).setCell ⟨w.heap.size, 5, none⟩ (.int .u32 v.ocs)).setCell ⟨w.heap.size, 6, none⟩ (.slice v.ba v.bn v.bc)).setCell ⟨w.heap.size, 7, none⟩ (.slice v.ga v.gn v.gc)).setCell ⟨w.heap.size, 8, none⟩ (.int .u32 v.media)).setCell ⟨w.heap.size, 9, none⟩ (.slice v.pa v.pn v.pc)) w.heap.size A k z (blosAt xs 28 k) from
        ⟨⟨D.store v, hP'.rd.ist (Nat.ne_of_lt hP'.hq) v⟩, below_istore hP'.below.drew (Nat.le_refl _) _ _ _ _ _ _ _ _ _ _, (RowOwn.ist (w := wx.drew) hO.out (by have := hP'.hq; omega) v).lower (by have := hP'.hq; omega)⟩)
      have HV := Lib.hid hv
      clear hP hO hP' D hv
      go_wp2_with fail
      refine region_seq (Sr w.heap.size w1.heap.size v a n c N) [(0, false), (1, false), (2, false), (3, true), (4, false), (5, false)] (by kernel_rfl) (by kernel_rfl) rfl (by kernel_rfl) ?_
      generalize wx.drew = u0 at *
      iterate 3 (refine seq_read (v := _) rfl (fun _ _ _ h => h) hS (Or.inl ⟨by rfl, fun W hW => by go_simp <;> with_reducible rfl⟩) ?_; simp only [Act.put, List.setIfInBounds_toArray, List.set_cons_zero, List.set_cons_succ])
      clear c0 c1 c2 c3 c4 c5 c6 c7 c8 c9 r1
      refine seq_do rfl (fun K hK => ?_)
      go_simp
      refine hK.out _ _ _ (fun W h => h) HW.out.1 ?_
      generalize ((((((((((u0.setCell ⟨w.heap.size, 0, none⟩ (.int .i64 v.kind)).setCell ⟨w.heap.size, 1, none⟩ (.int .u32 v.ssrc)).setCell ⟨w.heap.size, 2, none⟩ (.int .u64 v.ntp)).setCell ⟨w.heap.size, 3, none⟩ (.int .u32 v.time)).setCell ⟨w.heap.size, 4, none⟩ (.int .u32 v.pks)).setCell ⟨w.heap.size, 5, none⟩ (.int .u32 v.ocs)).setCell ⟨w.heap.size, 6, none⟩ (.slice v.ba v.bn v.bc)).setCell ⟨w.heap.size, 7, none⟩ (.slice v.ga v.gn v.gc)).setCell ⟨w.heap.size, 8, none⟩ (.int .u32 v.media)).setCell ⟨w.heap.size, 9, none⟩ (.slice v.pa v.pn v.pc)) = u1 at *
      have hS := HW.out.1
      clear hK K x0 x1 x2 x3 x4 x5 x6 x7 x8 x9 f0 f1 f2 f3 f4 f5 f6 f7 f8 f9
      iterate 2 (refine seq_read (v := _) rfl (fun _ _ _ h => h) hS (Or.inl ⟨by rfl, fun W hW => by go_simp <;> with_reducible rfl⟩) ?_; simp only [Act.put, List.setIfInBounds_toArray, List.set_cons_zero, List.set_cons_succ])
      refine seq_end ?_
      clear hS
      go_wp2
      refine retI_at HW.out.1.1 ?_
      rw [HV.out]
      exact ⟨A, z, rfl, HW.out.2.2, HW.out.2.1⟩

set_option maxRecDepth 100000 in
set_option maxHeartbeats 8000000 in
theorem get_receiver (a : Option Addr) (n c m : Nat) (xs : List Int) (w : World) (hr : Rd w w.heap.size a n xs) (hl : n ≤ maxLen) (hlc : n ≤ c) (hm : m ≤ 15) (hn : 8 + 24 * m ≤ n) (N : Nat) (hNN : 8 + 24 * m = N)
    (CF : Hid (∀ W, Below w.heap.size w W → Calls Try.prog 86 #[.slice a n c] W (RetF W 201 m 0))) :
    Calls Try.prog 71 #[.slice a n c] w fun e w' => ∃ A k, e = .returned (.tuple #[itm ⟨201, nb xs 4 4, 0, 0, 0, 0, A, m, k, none, 0, 0, 0, none, 0, 0⟩, .int .i64 N, .int .i64 0]) ∧ RowOwn bloL w' w.heap.size A m k (blosAt xs 8 m) ∧ Below w.heap.size w w' := by
  obtain ⟨i0, hi0, hz0, hz1, hz2⟩ := info_parts info_blo
  have hb0 := (Below.refl w.heap.size w).alloc (Nat.le_refl _) (iobj ziv)
  have HD := Lib.hid (IBlk.new w ziv)
  have HB := Lib.hid hb0
  have HRd := Lib.hid hr
  have HL := Lib.hid hl
  have HLC := Lib.hid hlc
  have HN := Lib.hid hn
  have HNN := Lib.hid hNN
  have HI := Lib.hid (show Try.prog.info? 105 = some i0 ∧ i0.zero = some (bloV zblo) ∧ i0.size = 7 ∧ i0.bytes = 28 from ⟨hi0, hz0, hz1, hz2⟩)
  clear hb0 hr hl hlc hn hNN hi0 hz0 hz1 hz2
  go_enter Try.func71, Try.ntmps71
  go_wp2_with fail
  refine (CF.out _ HB.out).mono ?_
  rintro e w1 ⟨rfl, hb1⟩
  have hb2 := (Below.refl w1.heap.size w1).alloc (Nat.le_refl _) (.cells #[.slice a n c, .int .i64 4] 133)
  have HP2 : Hid (GS w (w1.alloc (.cells #[.slice a n c, .int .i64 4] 133)) ziv w1.heap.size n c 4 a) :=
    ⟨(HB.out.trans (hb1.mono HB.out.size)).alloc (Nat.le_trans HB.out.size hb1.size) _, (HD.out.bel hb1).bel hb2, RWBlk.new w1 _ _ _ _, (HD.out.bel hb1).lt⟩
  clear hb2 hb1 HD HB CF
  go_wp2_with fail
  refine (HP2.out.word HRd.out HL.out HLC.out (by have := HN.out; omega)).mono ?_
  rintro e w2 ⟨rfl, P3, -⟩
  have D := P3.res
  obtain ⟨c0, f0, c1, f1, c2, f2, c3, f3, c4, f4, c5, f5, c6, f6, c7, f7, c8, f8, c9, f9⟩ := D.cf
  have HP3 : Hid (GS w (((((((((((w2.setCell ⟨w.heap.size, 0, none⟩ (.int .i64 201)).setCell ⟨w.heap.size, 1, none⟩ (.int .u32 (nb xs 4 4))).setCell ⟨w.heap.size, 2, none⟩ (.int .u64 0)).setCell ⟨w.heap.size, 3, none⟩ (.int .u32 0)).setCell ⟨w.heap.size, 4, none⟩ (.int .u32 0)).setCell ⟨w.heap.size, 5, none⟩ (.int .u32 0)).setCell ⟨w.heap.size, 6, none⟩ (.slice none 0 0)).setCell ⟨w.heap.size, 7, none⟩ (.slice none 0 0)).setCell ⟨w.heap.size, 8, none⟩ (.int .u32 0)).setCell ⟨w.heap.size, 9, none⟩ (.slice none 0 0))) ⟨201, nb xs 4 4, 0, 0, 0, 0, none, 0, 0, none, 0, 0, 0, none, 0, 0⟩ w1.heap.size n c 8 a) :=
    ((((((((((P3.set (D.set0 201)).set ((D.set0 201).set1 (nb xs 4 4))).set (((D.set0 201).set1 (nb xs 4 4)).set2 0)).set ((((D.set0 201).set1 (nb xs 4 4)).set2 0).set3 0)).set (((((D.set0 201).set1 (nb xs 4 4)).set2 0).set3 0).set4 0)).set ((((((D.set0 201).set1 (nb xs 4 4)).set2 0).set3 0).set4 0).set5 0)).set (((((((D.set0 201).set1 (nb xs 4 4)).set2 0).set3 0).set4 0).set5 0).set6 none 0 0)).set ((((((((D.set0 201).set1 (nb xs 4 4)).set2 0).set3 0).set4 0).set5 0).set6 none 0 0).set7 none 0 0)).set (((((((((D.set0 201).set1 (nb xs 4 4)).set2 0).set3 0).set4 0).set5 0).set6 none 0 0).set7 none 0 0).set8 0)).set ((((((((((D.set0 201).set1 (nb xs 4 4)).set2 0).set3 0).set4 0).set5 0).set6 none 0 0).set7 none 0 0).set8 0).set9 none 0 0))
  clear D P3 HP2
  go_wp2_with fail
  clear c0 f0 c1 f1 c2 f2 c3 f3 c4 f4 c5 f5 c6 f6 c7 f7 c8 f8 c9 f9
  go_loopw [34] (fun sk wx => ∃ (k : Nat) (A : Option Addr) (z : Nat), k ≤ m ∧ sk = .int .i64 k ∧ Hid (GS w wx ⟨201, nb xs 4 4, 0, 0, 0, 0, A, k, z, none, 0, 0, 0, none, 0, 0⟩ w1.heap.size n c (8 + 24 * k) a) ∧ Hid (RowOwn bloL wx (w1.heap.size + 1) A k z (blosAt xs 8 k))) (fun sk _ => m - (intOf sk).toNat)
  case atStart => exact ⟨0, none, 0, by omega, rfl, HP3.out, RowOwn.nil _ _⟩
  case round =>
    obtain ⟨k, A, z, hk, rfl, hP, hO⟩ := hrel
    rename World => wx
    clear HP3
    by_cases hlt : k < m
    · have hS : Sg w.heap.size A k z wx.drew := hP.out.res.c6
      have c6 : ∀ W, Sg w.heap.size A k z W → W.cell? ⟨w.heap.size, 6, none⟩ = some (.slice A k z) := fun W h => h
      have HP0 : Hid (GS w wx.drew ⟨201, nb xs 4 4, 0, 0, 0, 0, A, k, z, none, 0, 0, 0, none, 0, 0⟩ w1.heap.size n c (8 + 24 * k) a) := ⟨hP.out.below.drew, hP.out.res, hP.out.rd, hP.out.hq⟩
      have HO0 : Hid (RowOwn bloL wx.drew (w1.heap.size + 1) A k z (blosAt xs 8 k)) := hO.out
      clear hP hO
      go_wp2_with fail
      refine region_seqX (Sg w.heap.size A k z) 6 [(0, false), (1, false), (2, true), (3, true), (4, true), (5, false), (6, true)] (by kernel_rfl) (by kernel_rfl) rfl (by kernel_rfl) ?_
      generalize wx.drew = u0 at *
      iterate 2 (refine seqX_read (v := _) rfl (fun _ _ _ h => h) hS (Or.inl ⟨by rfl, fun W hW => by go_simp <;> with_reducible rfl⟩) ?_; simp only [Act.put, List.setIfInBounds_toArray, List.set_cons_zero, List.set_cons_succ])
      clear c6
      refine seqX_do rfl (fun K hK => ?_)
      go_simp
      refine (HP0.out.blo HRd.out HL.out HLC.out (by have := HN.out; omega)).mono ?_
      rintro e u1 ⟨rfl, Pa, Ka⟩
      have Oa := Ka.rows HO0.out (by omega)
      refine hK.out _ _ _ (fun W h => h) Pa.res.c6 ?_
      clear hK K Ka HP0 HO0 hS
      refine seqX_do rfl (fun K hK => ?_)
      have HPa := Lib.hid Pa
      have HOa := Lib.hid Oa
      have HY := Lib.hid (blosAt_snoc xs k 8)
      clear Pa Oa
      generalize bloAt xs (8 + 24 * k) = y at *
      have hbA := (Below.refl u1.heap.size u1).alloc (Nat.le_refl _) (bloO y)
      have HWB : Hid (RowRd bloL (u1.alloc (.cells #[.int .u32 y.ssrc, .int .u8 y.lost, .int .u32 y.total, .int .u32 y.high, .int .u32 y.jit, .int .u32 y.last, .int .u32 y.delay] 105)) (u1.alloc (.cells #[.int .u32 y.ssrc, .int .u8 y.lost, .int .u32 y.total, .int .u32 y.high, .int .u32 y.jit, .int .u32 y.last, .int .u32 y.delay] 105)).heap.size (some ⟨u1.heap.size, 0, none⟩) 1 [y]) := rowRd_blk (L := bloL) (xs := [y]) (KBlk.new u1 y) rfl
      have HP2 : Hid (GS w (u1.alloc (.cells #[.int .u32 y.ssrc, .int .u8 y.lost, .int .u32 y.total, .int .u32 y.high, .int .u32 y.jit, .int .u32 y.last, .int .u32 y.delay] 105)) ⟨201, nb xs 4 4, 0, 0, 0, 0, A, k, z, none, 0, 0, 0, none, 0, 0⟩ w1.heap.size n c (8 + 24 * k + 24) a) := HPa.out.bel hbA
      have HO2 : Hid (RowOwn bloL (u1.alloc (.cells #[.int .u32 y.ssrc, .int .u8 y.lost, .int .u32 y.total, .int .u32 y.high, .int .u32 y.jit, .int .u32 y.last, .int .u32 y.delay] 105)) (w1.heap.size + 1) A k z (blosAt xs 8 k)) := HOa.out.bel hbA
      clear HPa HOa hbA
      go_simp
      refine hK.out _ _ _ (fun W h => h) HP2.out.res.c6 ?_
      clear hK K
      generalize u1.alloc (.cells #[.int .u32 y.ssrc, .int .u8 y.lost, .int .u32 y.total, .int .u32 y.high, .int .u32 y.jit, .int .u32 y.last, .int .u32 y.delay] 105) = u2 at *
      generalize u1.heap.size = qb at *
      refine seqX_do rfl (fun K hK => ?_)
      rw [if_pos (by rfl)]
      refine oper_append_rows (L := bloL) (N := k + 1) (.tmp 37) (.tmp 39) rfl Try.underlying65 HI.out.1 HI.out.2.1 HI.out.2.2.1 HI.out.2.2.2 rfl (blosAt xs 8 (k + 1)) rfl HY.out.symm rfl rfl HO2.out HWB.out HP2.out.rd.lt (by unfold maxLen; omega) (by omega) (fun A2 c2 u3 ho3 hb3 => hK.out _ _ _ (fun W h => h) (HP2.out.belq hb3).res.c6 ?_)
      have Pc := HP2.out.belq hb3
      have hS : Sg w.heap.size A k z u3 := Pc.res.c6
      have x6 := Pc.res.c6
      have y6 := Pc.res.frozen 6
      have HPd : Hid (GS w (u3.setCell ⟨w.heap.size, 6, none⟩ (.slice A2 (k + 1) c2)) ⟨201, nb xs 4 4, 0, 0, 0, 0, A2, (k + 1), c2, none, 0, 0, 0, none, 0, 0⟩ w1.heap.size n c (8 + 24 * k + 24) a) := Pc.set (Pc.res.set6 A2 (k + 1) c2)
      have HOd : Hid (RowOwn bloL (u3.setCell ⟨w.heap.size, 6, none⟩ (.slice A2 (k + 1) c2)) (w1.heap.size + 1) A2 (k + 1) c2 (blosAt xs 8 (k + 1))) := ho3.setOff (by have := Pc.hq; omega) _
      clear hK K HP2 HO2 HWB Pc ho3 hb3
      simp only [Act.put, List.setIfInBounds_toArray, List.set_cons_zero, List.set_cons_succ]
      iterate 1 (refine seqX_read (v := _) rfl (fun _ _ _ h => h) hS (Or.inl ⟨by rfl, fun W hW => by go_simp <;> with_reducible rfl⟩) ?_; simp only [Act.put, List.setIfInBounds_toArray, List.set_cons_zero, List.set_cons_succ])
      refine seqX_last rfl (fun K hK => ?_)
      go_simp
      refine hK.out _ _ ?_
      clear hK K x6 y6 hS
      go_wp2
      go_roundw
      case rel => exact ⟨k + 1, A2, c2, by omega, by go_num, (by rw [show 8 + 24 * (k + 1) = 8 + 24 * k + 24 from by omega]; exact HPd.out), HOd.out⟩
      case measure => simp [intOf]; omega
    · obtain rfl : k = m := by omega
      obtain ⟨v, hv⟩ : ∃ v : IV, v = ⟨201, nb xs 4 4, 0, 0, 0, 0, A, k, z, none, 0, 0, 0, none, 0, 0⟩ := ⟨_, rfl⟩
      have hP' := hP.out
      rw [← hv, HNN.out] at hP'
      have hS : Sr w.heap.size w1.heap.size v a n c N wx.drew := ⟨hP'.res, hP'.rd⟩
      have D : IBlk wx.drew w.heap.size v := hP'.res
      obtain ⟨x0, f0, x1, f1, x2, f2, x3, f3, x4, f4, x5, f5, x6, f6, x7, f7, x8, f8, x9, f9⟩ := D.cf
      have c0 : ∀ W, Sr w.heap.size w1.heap.size v a n c N W → W.cell? ⟨w.heap.size, 0, none⟩ = some (.int .i64 v.kind) := fun W h => h.1.c0
      have c1 : ∀ W, Sr w.heap.size w1.heap.size v a n c N W → W.cell? ⟨w.heap.size, 1, none⟩ = some (.int .u32 v.ssrc) := fun W h => h.1.c1
      have c2 : ∀ W, Sr w.heap.size w1.heap.size v a n c N W → W.cell? ⟨w.heap.size, 2, none⟩ = some (.int .u64 v.ntp) := fun W h => h.1.c2
      have c3 : ∀ W, Sr w.heap.size w1.heap.size v a n c N W → W.cell? ⟨w.heap.size, 3, none⟩ = some (.int .u32 v.time) := fun W h => h.1.c3
      have c4 : ∀ W, Sr w.heap.size w1.heap.size v a n c N W → W.cell? ⟨w.heap.size, 4, none⟩ = some (.int .u32 v.pks) := fun W h => h.1.c4
      have c5 : ∀ W, Sr w.heap.size w1.heap.size v a n c N W → W.cell? ⟨w.heap.size, 5, none⟩ = some (.int .u32 v.ocs) := fun W h => h.1.c5
      have c6 : ∀ W, Sr w.heap.size w1.heap.size v a n c N W → W.cell? ⟨w.heap.size, 6, none⟩ = some (.slice v.ba v.bn v.bc) := fun W h => h.1.c6
      have c7 : ∀ W, Sr w.heap.size w1.heap.size v a n c N W → W.cell? ⟨w.heap.size, 7, none⟩ = some (.slice v.ga v.gn v.gc) := fun W h => h.1.c7
      have c8 : ∀ W, Sr w.heap.size w1.heap.size v a n c N W → W.cell? ⟨w.heap.size, 8, none⟩ = some (.int .u32 v.media) := fun W h => h.1.c8
      have c9 : ∀ W, Sr w.heap.size w1.heap.size v a n c N W → W.cell? ⟨w.heap.size, 9, none⟩ = some (.slice v.pa v.pn v.pc) := fun W h => h.1.c9
      have r1 : ∀ W, Sr w.heap.size w1.heap.size v a n c N W → W.cell? ⟨w1.heap.size, 1, none⟩ = some (.int .i64 N) := fun W h => h.2.c1
      have HW := Lib.hid (show Sr w.heap.size w1.heap.size v a n c N ((((((((((wx.drew.setCell ⟨w.heap.size, 0, none⟩ (.int .i64 v.kind)).setCell ⟨w.heap.size, 1, none⟩ (.int .u32 v.ssrc)).setCell ⟨w.heap.size, 2, none⟩ (.int .u64 v.ntp)).setCell ⟨w.heap.size, 3, none⟩ (.int .u32 v.time)).setCell ⟨w.heap.size, 4, none⟩ (.int .u32 v.pks)).setCell ⟨w.heap.size, 5, none⟩ (.int .u32 v.ocs)).setCell ⟨w.heap.size, 6, none⟩ (.slice v.ba v.bn v.bc)).setCell ⟨w.heap.size, 7, none⟩ (.slice v.ga v.gn v.gc)).setCell ⟨w.heap.size, 8, none⟩ (.int .u32 v.media)).setCell ⟨w.heap.size, 9, none⟩ (.slice v.pa v.pn v.pc)) ∧ Below w.heap.size w ((((((((((wx.drew.setCell ⟨w.heap.size, 0, none⟩ (.int .i64 v.kind)).setCell ⟨w.heap.size, 1, none⟩ (.int .u32 v.ssrc)).setCell ⟨w.heap.size, 2, none⟩ (.int .u64 v.ntp)).setCell ⟨w.heap.size, 3, none⟩ (.int .u32 v.time)).setCell ⟨w.heap.size, 4, none⟩ (.int .u32 v.pks)).setCell ⟨w.heap.size, 5, none⟩ (.int .u32 v.ocs)).setCell ⟨w.heap.size, 6, none⟩ (.slice v.ba v.bn v.bc)).setCell ⟨w.heap.size, 7, none⟩ (.slice v.ga v.gn v.gc)).setCell ⟨w.heap.size, 8, none⟩ (.int .u32 v.media)).setCell ⟨w.heap.size, 9, none⟩ (.slice v.pa v.pn v.pc)) ∧ RowOwn bloL ((((((((((wx.drew.setCell ⟨w.heap.size, 0, none⟩ (.int .i64 v.kind)).setCell ⟨w.heap.size, 1, none⟩ (.int .u32 v.ssrc)).setCell ⟨w.heap.size, 2, none⟩ (.int .u64 v.ntp)).setCell ⟨w.heap.size, 3, none⟩ (.int .u32 v.time)).setCell ⟨w.heap.size, 4, none⟩ (.int .u32 v.pks)).setCell ⟨w.heap.size, 5, none⟩ (.int .u32 v.ocs)).setCell ⟨w.heap.size, 6, none⟩ (.slice v.ba v.bn v.bc)).setCell ⟨w.heap.size, 7, none⟩ (.slice v.ga v.gn v.gc)).setCell ⟨w.heap.size, 8, none⟩ (.int .u32 v.media)).setCell ⟨w.heap.size, 9, none⟩ (.slice v.pa v.pn v.pc)) w.heap.size A k z (blosAt xs 8 k) from
        ⟨⟨D.store v, hP'.rd.ist (Nat.ne_of_lt hP'.hq) v⟩, below_istore hP'.below.drew (Nat.le_refl _) _ _ _ _ _ _ _ _ _ _, (RowOwn.ist (w := wx.drew) hO.out (by have := hP'.hq; omega) v).lower (by have := hP'.hq; omega)⟩)
      have HV := Lib.hid hv
      clear hP hO hP' D hv
      go_wp2_with fail
      refine region_seq (Sr w.heap.size w1.heap.size v a n c N) [(0, false), (1, false), (2, false), (3, true), (4, false), (5, false)] (by kernel_rfl) (by kernel_rfl) rfl (by kernel_rfl) ?_
      generalize wx.drew = u0 at *
      iterate 3 (refine seq_read (v := _) rfl (fun _ _ _ h => h) hS (Or.inl ⟨by rfl, fun W hW => by go_simp <;> with_reducible rfl⟩) ?_; simp only [Act.put, List.setIfInBounds_toArray, List.set_cons_zero, List.set_cons_succ])
      clear c0 c1 c2 c3 c4 c5 c6 c7 c8 c9 r1
      refine seq_do rfl (fun K hK => ?_)
      go_simp
      refine hK.out _ _ _ (fun W h => h) HW.out.1 ?_
      generalize ((((((((((u0.setCell ⟨w.heap.size, 0, none⟩ (.int .i64 v.kind)).setCell ⟨w.heap.size, 1, none⟩ (.int .u32 v.ssrc)).setCell ⟨w.heap.size, 2, none⟩ (.int .u64 v.ntp)).setCell ⟨w.heap.size, 3, none⟩ (.int .u32 v.time)).setCell ⟨w.heap.size, 4, none⟩ (.int .u32 v.pks)).setCell ⟨w.heap.size, 5, none⟩ (.int .u32 v.ocs)).setCell ⟨w.heap.size, 6, none⟩ (.slice v.ba v.bn v.bc)).setCell ⟨w.heap.size, 7, none⟩ (.slice v.ga v.gn v.gc)).setCell ⟨w.heap.size, 8, none⟩ (.int .u32 v.media)).setCell ⟨w.heap.size, 9, none⟩ (.slice v.pa v.pn v.pc)) = u1 at *
      have hS := HW.out.1
      clear hK K x0 x1 x2 x3 x4 x5 x6 x7 x8 x9 f0 f1 f2 f3 f4 f5 f6 f7 f8 f9
      iterate 2 (refine seq_read (v := _) rfl (fun _ _ _ h => h) hS (Or.inl ⟨by rfl, fun W hW => by go_simp <;> with_reducible rfl⟩) ?_; simp only [Act.put, List.setIfInBounds_toArray, List.set_cons_zero, List.set_cons_succ])
      refine seq_end ?_
      clear hS
      go_wp2
      refine retI_at HW.out.1.1 ?_
      rw [HV.out]
      exact ⟨A, z, rfl, HW.out.2.2, HW.out.2.1⟩

/-- What Get tells. -/
def gRV (b : List Int) : Itm := if rE b = 0 then iV b else zeroItm
def gRN (b : List Int) : Nat := if rE b = 0 then iN b else 0
theorem rE_ok {b : List Int} (h : rE b = 0) : isRep (b.getD 1 0) = true ∧ iE b = 0 := by
  unfold rE at h
  split at h
  · omega
  · split at h
    · omega
    · split at h
      · omega
      · rename_i h1
        exact ⟨by simpa using h1, h⟩
theorem get_any (a : Option Addr) (n c B : Nat) (xs : List Int) (w : World) (hl : n ≤ maxLen) (hlc : n ≤ c) (hr : Rd w B a n xs) (hB : B ≤ w.heap.size) :
    Calls Try.prog 71 #[.slice a n c] w (IRet w (gRV xs) (gRN xs) (rE xs)) := by
  have CF : ∀ W, Below w.heap.size w W → Calls Try.prog 86 #[.slice a n c] W (RetF W (if rE xs = 0 then xs.getD 1 0 else 0) (if rE xs = 0 then cI xs else 0) (rE xs)) := fun W hW => first_any a n c B xs W hl hlc (hr.below (hW.mono hB)) (Nat.le_trans hB hW.size)
  by_cases h0 : rE xs = 0
  · obtain ⟨hk, hi⟩ := rE_ok h0
    obtain ⟨h4, _, hh, hln⟩ := iE_ok hi
    have b0 := hr.2.1.getD 0
    have hc : 0 ≤ cI xs := by unfold cI; omega
    obtain ⟨m, hm⟩ : ∃ m : Nat, cI xs = m := ⟨(cI xs).toNat, by omega⟩
    rw [hm] at hh
    rw [hr.1] at hln
    have hz : 0 ≤ (0 : Int) := Int.le_refl _
    simp only [isRep, Bool.or_eq_true, decide_eq_true_eq] at hk
    unfold gRV gRN
    rw [if_pos h0, if_pos h0, h0]
    rcases hk with hk | hk
    · rw [hk] at hh
      unfold hE at hh
      rw [if_pos rfl] at hh
      split at hh
      · omega
      rename_i hq
      have hN : iN xs = 28 + 24 * m := by unfold iN; omega
      have hV : iV xs = ⟨200, nb xs 4 4, nb xs 8 8, nb xs 16 4, nb xs 20 4, nb xs 24 4, blosAt xs 28 m, [], 0, []⟩ := by unfold iV; rw [if_pos hk, hm, Int.toNat_natCast]
      rw [hN, hV]
      refine (get_sender a n c m xs w (hr.more hB) hl hlc (by omega) (by omega) _ rfl (fun W hW => by have := CF W hW; rwa [if_pos h0, if_pos h0, h0, hk, hm] at this)).mono ?_
      rintro e w' ⟨A, k, rfl, ho, hb⟩
      have hlen := blosAt_length xs m 28
      refine ⟨⟨A, k, none, 0, none, 0⟩, ?_, ⟨?_, Wd.none_ _ rfl, RowRd.none_ _ rfl, by simp only [hlen]; omega, Nat.zero_le _, Nat.zero_le _, by simp only [hlen]; exact ho.2.1, Nat.le_refl _, Nat.le_refl _⟩, hb⟩
      · simp only [ivOf, hlen, List.length_nil]
      · simp only [hlen]; exact ho.rd
    · rw [hk] at hh
      unfold hE at hh
      rw [if_neg (by decide), if_pos rfl] at hh
      split at hh
      · omega
      rename_i hq
      have hN : iN xs = 8 + 24 * m := by unfold iN; omega
      have hV : iV xs = ⟨201, nb xs 4 4, 0, 0, 0, 0, blosAt xs 8 m, [], 0, []⟩ := by unfold iV; rw [if_neg (by omega), if_pos hk, hm, Int.toNat_natCast]
      rw [hN, hV]
      refine (get_receiver a n c m xs w (hr.more hB) hl hlc (by omega) (by omega) _ rfl (fun W hW => by have := CF W hW; rwa [if_pos h0, if_pos h0, h0, hk, hm] at this)).mono ?_
      rintro e w' ⟨A, k, rfl, ho, hb⟩
      have hlen := blosAt_length xs m 8
      refine ⟨⟨A, k, none, 0, none, 0⟩, ?_, ⟨?_, Wd.none_ _ rfl, RowRd.none_ _ rfl, by simp only [hlen]; omega, Nat.zero_le _, Nat.zero_le _, by simp only [hlen]; exact ho.2.1, Nat.le_refl _, Nat.le_refl _⟩, hb⟩
      · simp only [ivOf, hlen, List.length_nil]
      · simp only [hlen]; exact ho.rd
  · unfold gRV gRN
    rw [if_neg h0, if_neg h0]
    exact get_no a n c _ _ _ w (by simpa using h0) (fun W hW => CF W hW)

end Go.Proofs.Ythmmafpmpnhleaa.Fbk

namespace Go.Proofs.Ythmmafpmpnhleaa.Fbk
open Go.RowKit
set_option linter.unusedVariables false

def w32L : Lay Int := ⟨30, 1, fun x => [.int .u32 x], fun _ => rfl, fun x v hv => by
  simp only [List.mem_cons, List.not_mem_nil, or_false] at hv
  subst hv; rfl, by decide⟩
theorem info_w32 : (Try.prog.info? 30).map (fun i => (i.zero, i.size, i.bytes)) = some (some (.int .u32 0), 1, 4) := by kernel_rfl
theorem info_pair : (Try.prog.info? 108).map (fun i => (i.zero, i.size, i.bytes)) = some (some (.agg #[.int .u16 0, .int .u16 0]), 2, 4) := by kernel_rfl
theorem rowRd_wd {w : World} {B n : Nat} {a : Option Addr} {xs : List Int} (h : RowRd w32L w B a n xs) (hw : Words xs) : Wd w B a n xs :=
  ⟨h.1, hw, fun hn => by
    obtain ⟨b, off, e, hlt, hc⟩ := h.2 hn
    refine ⟨b, off, e, hlt, fun i hi => ?_⟩
    obtain ⟨x, hx⟩ : ∃ x, xs[i]? = some x := ⟨_, List.getElem?_eq_getElem (show i < xs.length from by rw [h.1]; exact hi)⟩
    have hq : w.cell? ⟨b, off + i * 1 + 0, none⟩ = some (.int .u32 x) := hc i x hx 0 _ rfl
    rw [Nat.mul_one, Nat.add_zero] at hq
    rw [hq, List.getD_eq_getElem?_getD, hx]
    rfl⟩
theorem pairsAt_snoc (b : List Int) : ∀ (k i : Nat), pairsAt b i (k + 1) = pairsAt b i k ++ [(nb b (i + 4 * k) 2, nb b (i + 4 * k + 2) 2)]
  | 0, i => rfl
  | k + 1, i => by rw [pairsAt, pairsAt_snoc b k (i + 4), pairsAt, List.cons_append, show i + 4 + 4 * k = i + 4 * (k + 1) from by omega]
def Sgc (b j : Nat) (A : Option Addr) (k c : Nat) (W : World) : Prop := W.cell? ⟨b, j, none⟩ = some (.slice A k c)
theorem wrap_u16' (x : Int) (h : U16 x) : IntKind.u16.wrap x = x := by have := h.1; have := h.2; simp [IntKind.wrap, IntKind.bits, IntKind.signed]; omega

/-- The lists lie in blocks from B on. -/
def IAb (B : Nat) (l : ILoc) : Prop := (∀ b off, l.ba = some ⟨b, off, none⟩ → B ≤ b) ∧ (∀ b off, l.ga = some ⟨b, off, none⟩ → B ≤ b) ∧ (∀ b off, l.pa = some ⟨b, off, none⟩ → B ≤ b)
def IRetA (w : World) (i : Itm) (m n : Int) (e : Ending) (w' : World) : Prop :=
  ∃ l, e = .returned (.tuple #[itm (ivOf i l), .int .i64 m, .int .i64 n]) ∧ IRd w' w'.heap.size i l ∧ IAb w.heap.size l ∧ Below w.heap.size w w'
theorem IRetA.none_ {w w' : World} {n : Int} (hb : Below w.heap.size w w') : IRetA w zeroItm 0 n (.returned (.tuple #[itm ziv, .int .i64 0, .int .i64 n])) w' := ⟨⟨none, 0, none, 0, none, 0⟩, rfl, IRd.zero _ _, ⟨(fun _ _ h => by cases h), (fun _ _ h => by cases h), (fun _ _ h => by cases h)⟩, hb⟩
theorem IRd.set {w : World} {B r j : Nat} {i : Itm} {l : ILoc} (h : IRd w B i l) (ha : IAb (r + 1) l) (u : Value) : IRd (w.setCell ⟨r, j, none⟩ u) B i l := by
  have hc : ∀ b o, r + 1 ≤ b → (w.setCell ⟨r, j, none⟩ u).cell? ⟨b, o, none⟩ = w.cell? ⟨b, o, none⟩ := fun b o hb => World.cell?_setCell_far w ⟨r, j, none⟩ ⟨b, o, none⟩ u (by show r ≠ b; omega)
  refine ⟨⟨h.blocks.1, fun hn => ?_⟩, ⟨h.gone.1, h.gone.2.1, fun hn => ?_⟩, ⟨h.pairs.1, fun hn => ?_⟩, h.bn, h.gn, h.pn, h.bc, h.gc, h.pc⟩
  · obtain ⟨b, off, e, hlt, hq⟩ := h.blocks.2 hn
    exact ⟨b, off, e, hlt, fun k x hx m v hv => by rw [hc b _ (ha.1 b off e)]; exact hq k x hx m v hv⟩
  · obtain ⟨b, off, e, hlt, hq⟩ := h.gone.2.2 hn
    exact ⟨b, off, e, hlt, fun k hk => by rw [hc b _ (ha.2.1 b off e)]; exact hq k hk⟩
  · obtain ⟨b, off, e, hlt, hq⟩ := h.pairs.2 hn
    exact ⟨b, off, e, hlt, fun k x hx m v hv => by rw [hc b _ (ha.2.2 b off e)]; exact hq k x hx m v hv⟩
theorem IRd.ist {w : World} {B r : Nat} {i : Itm} {l : ILoc} (h : IRd w B i l) (ha : IAb (r + 1) l) (u : IV) : IRd (ist w r u) B i l :=
  (((((((((h.set ha _).set ha _).set ha _).set ha _).set ha _).set ha _).set ha _).set ha _).set ha _).set ha _
theorem ist_size (w : World) (r : Nat) (u : IV) : (Fbk.ist w r u).heap.size = w.heap.size := by simp [Fbk.ist, World.setCell]
theorem own_ge {α : Type} {L : Lay α} {w : World} {base n c b o : Nat} {A : Option Addr} {xs : List α} (h : RowOwn L w base A n c xs) (ha : A = some ⟨b, o, none⟩) : base ≤ b := by
  rcases h.2.2.2 with ⟨rfl, _⟩ | ⟨g, T, rfl, hg, _⟩
  · cases ha
  · simp only [Option.some.injEq, Addr.mk.injEq, and_true] at ha
    omega
end Go.Proofs.Ythmmafpmpnhleaa.Fbk
