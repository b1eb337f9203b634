/- The contracts of report's writer: put, block. · The contract of report.Put. -/
import Derived.Test.YthmmafpmpnhleaaQc
import Derived.Test.YthmmafpmpnhleaaXg
set_option maxRecDepth 100000
namespace Go.Proofs.Ythmmafpmpnhleaa.Fbk
open Go.RowKit
set_option linter.unusedVariables false

/-- A writer, or a reader, that lies at block q: bytes, and where it stands. -/
def RWBlk (t : TypeId) (w : World) (q : Nat) (A : Option Addr) (n c : Nat) (i : Int) : Prop := w.heap[q]? = some (.cells #[.slice A n c, .int .i64 i] t (0, 0))
section
variable {t : TypeId} {w w' : World} {q n c B : Nat} {A : Option Addr} {i : Int}
theorem RWBlk.lt (h : RWBlk t w q A n c i) : q < w.heap.size := lt_of_some h
theorem RWBlk.c0 (h : RWBlk t w q A n c i) : w.cell? ⟨q, 0, none⟩ = some (.slice A n c) := cell_of_row w q 0 _ t (0, 0) h
theorem RWBlk.c1 (h : RWBlk t w q A n c i) : w.cell? ⟨q, 1, none⟩ = some (.int .i64 i) := cell_of_row w q 1 _ t (0, 0) h
theorem RWBlk.frozen (h : RWBlk t w q A n c i) (k : Nat) : w.frozen? ⟨q, k, none⟩ = false := frozen_of_row w q k _ t h
theorem RWBlk.set1 (h : RWBlk t w q A n c i) (y : Int) : RWBlk t (w.setCell ⟨q, 1, none⟩ (.int .i64 y)) q A n c y := heap_setCell_same w q 1 _ t (.int .i64 y) h
theorem RWBlk.new (w : World) (A : Option Addr) (n c : Nat) (i : Int) : RWBlk t (w.alloc (.cells #[.slice A n c, .int .i64 i] t)) w.heap.size A n c i := heap_alloc_new w _
theorem RWBlk.below (h : RWBlk t w q A n c i) (hb : Below B w w') (hg : q < B) : RWBlk t w' q A n c i := (hb.block q hg).trans h
theorem RWBlk.bel (h : RWBlk t w q A n c i) (hb : Below w.heap.size w w') : RWBlk t w' q A n c i := h.below hb h.lt
theorem RWBlk.off (h : RWBlk t w q A n c i) {p : Addr} (hp : p.block ≠ q) (u : Value) : RWBlk t (w.setCell p u) q A n c i := (Below.heap_setCell w p u q (fun e => hp e.symm)).trans h
end
/-- Nothing but the blocks g and q has changed. -/
structure Kp (g q : Nat) (w w' : World) : Prop where
  below : ∀ B, B ≤ g → B ≤ q → Below B w w'
  keep : ∀ i, i < w.heap.size → i ≠ g → i ≠ q → w'.heap[i]? = w.heap[i]?
section
variable {g q : Nat} {w w' w'' : World}
theorem Kp.refl (g q : Nat) (w : World) : Kp g q w w := ⟨fun _ _ _ => Below.refl _ _, fun _ _ _ _ => rfl⟩
theorem Kp.size (h : Kp g q w w') : w.heap.size ≤ w'.heap.size := (h.below 0 (Nat.zero_le _) (Nat.zero_le _)).size
theorem Kp.trans (h : Kp g q w w') (k : Kp g q w' w'') : Kp g q w w'' := ⟨fun B h1 h2 => (h.below B h1 h2).trans (k.below B h1 h2), fun i hi h1 h2 => (k.keep i (Nat.lt_of_lt_of_le hi h.size) h1 h2).trans (h.keep i hi h1 h2)⟩
theorem Kp.bel (h : Kp g q w w') (k : Below w'.heap.size w' w'') (hg : g < w'.heap.size) (hq : q < w'.heap.size) : Kp g q w w'' :=
  h.trans ⟨fun B h1 h2 => k.mono (by omega), fun i hi _ _ => k.block i hi⟩
theorem Kp.kblk {b : Nat} {x : Blo} (h : Kp g q w w') (k : KBlk w b x) (hg : b ≠ g) (hq : b ≠ q) : KBlk w' b x := (h.keep b k.lt hg hq).trans k
theorem Kp.iblk {b : Nat} {x : IV} (h : Kp g q w w') (k : IBlk w b x) (hg : b ≠ g) (hq : b ≠ q) : IBlk w' b x := (h.keep b k.lt hg hq).trans k
end
def zer (n : Nat) : List Int := List.replicate n 0
theorem zer_len (n : Nat) : (zer n).length = n := by simp [zer]
def Srw (t : TypeId) (q : Nat) (A : Option Addr) (n c : Nat) (i : Int) (W : World) : Prop := RWBlk t W q A n c i
/-- A writer at q that has written ds into the first of len bytes at g. -/
structure WSt (w : World) (q g len : Nat) (ds : List Int) : Prop where
  le : ds.length ≤ len
  ok : Bytes ds
  max : len ≤ maxLen
  ne : g ≠ q
  row : Blk w g (ds ++ zer (len - ds.length)) []
  wr : RWBlk 143 w q (some ⟨g, 0, none⟩) len len ds.length
theorem written_zer (ds : List Int) (len s : Nat) (n : Int) (h : ds.length + s ≤ len) : written (ds ++ zer (len - ds.length)) ds.length s 0 n = (ds ++ be s n) ++ zer (len - (ds ++ be s n).length) := by
  unfold written
  rw [Nat.add_zero, Nat.sub_zero, List.take_append_of_le_length (Nat.le_refl _), List.take_of_length_le (Nat.le_refl _), List.drop_append, List.drop_of_length_le (by omega), List.nil_append, List.length_append, be_length]
  unfold zer
  rw [List.drop_replicate, show len - ds.length - (ds.length + s - ds.length) = len - (ds.length + s) from by omega]
theorem WSt.bel {w w' : World} {q g len : Nat} {ds : List Int} (h : WSt w q g len ds) (hb : Below w.heap.size w w') : WSt w' q g len ds := ⟨h.le, h.ok, h.max, h.ne, h.row.below hb h.row.lt, h.wr.bel hb⟩
set_option maxHeartbeats 1000000 in
theorem wput_any (w : World) (q g len : Nat) (ds : List Int) (s : Nat) (n : Int) (st : WSt w q g len ds) (h1 : 1 ≤ s) (h2 : s ≤ 8) (hfit : ds.length + s ≤ len) (hn : 0 ≤ n) (hn2 : n ≤ 18446744073709551615) (hf : n < 256 ^ s) :
    Calls Try.prog 101 #[.pointer (some ⟨q, 0, none⟩), .int .i64 s, .int .u64 n] w fun e w' => e = .returned (.tuple #[]) ∧ WSt w' q g len (ds ++ be s n) ∧ Kp g q w w' := by
  have hmax := st.max
  have hwr := st.wr
  have hrow := st.row
  have hfb : fitsB s n = true := by simp [fitsB, hf]
  have CP : Hid (∀ W, w.heap.size ≤ W.heap.size → Blk W g (ds ++ zer (len - ds.length)) [] → Calls Try.prog 75 #[.slice (some ⟨g, 0, none⟩) len len, .int .i64 ds.length, .int .i64 s, .int .u64 n] W fun e w' => e = .returned (.bool true) ∧ Blk w' g (written (ds ++ zer (len - ds.length)) (0 + ds.length) s 0 n) [] ∧ W.grownBy w' (some g)) := fun W hW hk =>
    Fld.put_yes g 0 len len ds.length s n _ [] W hmax (Nat.le_refl _) hn hn2 (by simp [zer_len]; have := st.le; omega) hk h1 h2 hfit hfb
  have HST := Lib.hid st
  have hle : (ds.length : Int) + s ≤ 9223372036854775807 := by unfold maxLen at hmax; omega
  have hS : Srw 143 q (some ⟨g, 0, none⟩) len len ds.length w.drew := hwr
  have c0 : ∀ W, Srw 143 q (some ⟨g, 0, none⟩) len len ds.length W → W.cell? ⟨q, 0, none⟩ = some (.slice (some ⟨g, 0, none⟩) len len) := fun W h => h.c0
  have c1 : ∀ W, Srw 143 q (some ⟨g, 0, none⟩) len len ds.length W → W.cell? ⟨q, 1, none⟩ = some (.int .i64 ds.length) := fun W h => h.c1
  clear st hwr hfb hf hmax hrow
  go_enter Try.func101, Try.ntmps101
  go_wp2_with fail
  refine region_seq (Srw 143 q (some ⟨g, 0, none⟩) len len ds.length) [(0, false), (1, false), (2, false), (3, false), (4, false), (5, false), (6, false), (7, false), (8, false), (9, false), (10, true)] (by kernel_rfl) (by kernel_rfl) rfl (by kernel_rfl) ?_
  iterate 10 (refine seq_read (v := _) rfl (fun _ _ _ h => h) hS (Or.inl ⟨by rfl, fun W hW => by go_simp <;> with_reducible rfl⟩) ?_; simp only [Act.put, List.setIfInBounds_toArray, List.set_cons_zero, List.set_cons_succ])
  clear c0 c1
  refine seq_do rfl (fun K hK => ?_)
  go_simp
  refine (CP.out w.drew (Nat.le_refl _) HST.out.row).mono ?_
  rintro e w1 ⟨rfl, hk1, hg1⟩
  rw [Nat.zero_add, written_zer ds len s n hfit] at hk1
  have hw1 : RWBlk 143 w1 q (some ⟨g, 0, none⟩) len len ds.length := (hg1.block q HST.out.wr.lt (by simp [HST.out.ne.symm])).trans HST.out.wr
  refine hK.out _ _ _ (fun W h => h) hw1 ?_
  clear hK K
  refine seq_end ?_
  have d1 := hw1.c1
  have d2 := hw1.frozen 1
  have HK1 := Lib.hid hk1
  have HG1 := Lib.hid hg1
  have HW1 := Lib.hid hw1
  clear hk1 hg1 hw1 hS
  go_wp2
  go_end0
  refine ⟨rfl, ?_, ?_, ?_⟩
  · have hne := HST.out.ne
    have hl : (ds ++ be s n).length = ds.length + s := by rw [List.length_append, be_length]
    refine ⟨by omega, HST.out.ok.append (be_bytes _ _), HST.out.max, hne, ?_, ?_⟩
    · exact (Below.heap_setCell w1 ⟨q, 1, none⟩ _ g hne).trans HK1.out
    · rw [hl]; exact HW1.out.set1 _
  · intro B h1 h2
    exact (((Below.refl B w).drew.grown HG1.out (by have := HST.out.row.lt; simp; omega) (by rintro k h; injection h with h; omega)).setCell (p := ⟨q, 1, none⟩) h2 _)
  · intro i hi hg hq
    exact (Below.heap_setCell w1 ⟨q, 1, none⟩ _ i hq).trans (HG1.out.block i hi (by simp [hg]))
set_option maxHeartbeats 4000000 in
theorem wblock_any (w : World) (q g len : Nat) (ds : List Int) (x : Blo) (st : WSt w q g len ds) (hx : x.Ok) (ht : x.total < 16777216) (hfit : ds.length + 24 ≤ len) :
    Calls Try.prog 102 #[.pointer (some ⟨q, 0, none⟩), bloV x] w fun e w' => e = .returned (.tuple #[]) ∧ WSt w' q g len (ds ++ bloB x) ∧ Kp g q w w' := by
  have qssrc : IntKind.u64.wrap x.ssrc = x.ssrc := wrap_u64 _ ⟨hx.ssrc.1, by have := hx.ssrc.2; omega⟩
  have qlost : IntKind.u64.wrap x.lost = x.lost := wrap_u64 _ ⟨hx.lost.1, by have := hx.lost.2; omega⟩
  have qtotal : IntKind.u64.wrap x.total = x.total := wrap_u64 _ ⟨hx.total.1, by have := hx.total.2; omega⟩
  have qhigh : IntKind.u64.wrap x.high = x.high := wrap_u64 _ ⟨hx.high.1, by have := hx.high.2; omega⟩
  have qjit : IntKind.u64.wrap x.jit = x.jit := wrap_u64 _ ⟨hx.jit.1, by have := hx.jit.2; omega⟩
  have qlast : IntKind.u64.wrap x.last = x.last := wrap_u64 _ ⟨hx.last.1, by have := hx.last.2; omega⟩
  have qdelay : IntKind.u64.wrap x.delay = x.delay := wrap_u64 _ ⟨hx.delay.1, by have := hx.delay.2; omega⟩
  have D0 := KBlk.new w x
  have hb0 : Below w.heap.size w (w.alloc (bloO x)) := (Below.refl _ _).alloc (Nat.le_refl _) _
  have hgw : w.heap.size ≠ g := by have := st.row.lt; omega
  have hqw : w.heap.size ≠ q := by have := st.wr.lt; omega
  have st0 := st.bel hb0
  have kp0 : Kp g q w (w.alloc (bloO x)) := (Kp.refl g q w).bel hb0 st.row.lt st.wr.lt
  have HD0 := Lib.hid D0
  have HS0 := Lib.hid st0
  have HP0 := Lib.hid kp0
  have HX := Lib.hid hx
  have HT := Lib.hid ht
  clear st D0 hb0 st0 kp0 hx ht
  go_enter Try.func102, Try.ntmps102
  go_wp2_with fail
  refine (wput_any _ q g len (ds) 4 x.ssrc HS0.out (by omega) (by omega) (by first | omega | (simp only [List.length_append, be_length]; omega)) HX.out.ssrc.1 (by have := HX.out.ssrc.2; omega) (by have := HX.out.ssrc.2; have := HT.out; omega)).mono ?_
  rintro e w1 ⟨rfl, st1, kp1⟩
  have HS1 := Lib.hid st1
  have HP1 := Lib.hid (HP0.out.trans kp1)
  have HD1 := Lib.hid (kp1.kblk HD0.out hgw hqw)
  have c1 := HD1.out.c1
  clear st1 kp1 HS0 HP0 HD0
  go_wp2_with fail
  refine (wput_any _ q g len (ds ++ be 4 x.ssrc) 1 x.lost HS1.out (by omega) (by omega) (by first | omega | (simp only [List.length_append, be_length]; omega)) HX.out.lost.1 (by have := HX.out.lost.2; omega) (by have := HX.out.lost.2; have := HT.out; omega)).mono ?_
  rintro e w2 ⟨rfl, st2, kp2⟩
  have HS2 := Lib.hid st2
  have HP2 := Lib.hid (HP1.out.trans kp2)
  have HD2 := Lib.hid (kp2.kblk HD1.out hgw hqw)
  have c2 := HD2.out.c2
  clear st2 kp2 HS1 HP1 HD1
  clear c1
  go_wp2_with fail
  refine (wput_any _ q g len ((ds ++ be 4 x.ssrc) ++ be 1 x.lost) 3 x.total HS2.out (by omega) (by omega) (by first | omega | (simp only [List.length_append, be_length]; omega)) HX.out.total.1 (by have := HX.out.total.2; omega) (by have := HX.out.total.2; have := HT.out; omega)).mono ?_
  rintro e w3 ⟨rfl, st3, kp3⟩
  have HS3 := Lib.hid st3
  have HP3 := Lib.hid (HP2.out.trans kp3)
  have HD3 := Lib.hid (kp3.kblk HD2.out hgw hqw)
  have c3 := HD3.out.c3
  clear st3 kp3 HS2 HP2 HD2
  clear c2
  go_wp2_with fail
  refine (wput_any _ q g len (((ds ++ be 4 x.ssrc) ++ be 1 x.lost) ++ be 3 x.total) 4 x.high HS3.out (by omega) (by omega) (by first | omega | (simp only [List.length_append, be_length]; omega)) HX.out.high.1 (by have := HX.out.high.2; omega) (by have := HX.out.high.2; have := HT.out; omega)).mono ?_
  rintro e w4 ⟨rfl, st4, kp4⟩
  have HS4 := Lib.hid st4
  have HP4 := Lib.hid (HP3.out.trans kp4)
  have HD4 := Lib.hid (kp4.kblk HD3.out hgw hqw)
  have c4 := HD4.out.c4
  clear st4 kp4 HS3 HP3 HD3
  clear c3
  go_wp2_with fail
  refine (wput_any _ q g len ((((ds ++ be 4 x.ssrc) ++ be 1 x.lost) ++ be 3 x.total) ++ be 4 x.high) 4 x.jit HS4.out (by omega) (by omega) (by first | omega | (simp only [List.length_append, be_length]; omega)) HX.out.jit.1 (by have := HX.out.jit.2; omega) (by have := HX.out.jit.2; have := HT.out; omega)).mono ?_
  rintro e w5 ⟨rfl, st5, kp5⟩
  have HS5 := Lib.hid st5
  have HP5 := Lib.hid (HP4.out.trans kp5)
  have HD5 := Lib.hid (kp5.kblk HD4.out hgw hqw)
  have c5 := HD5.out.c5
  clear st5 kp5 HS4 HP4 HD4
  clear c4
  go_wp2_with fail
  refine (wput_any _ q g len (((((ds ++ be 4 x.ssrc) ++ be 1 x.lost) ++ be 3 x.total) ++ be 4 x.high) ++ be 4 x.jit) 4 x.last HS5.out (by omega) (by omega) (by first | omega | (simp only [List.length_append, be_length]; omega)) HX.out.last.1 (by have := HX.out.last.2; omega) (by have := HX.out.last.2; have := HT.out; omega)).mono ?_
  rintro e w6 ⟨rfl, st6, kp6⟩
  have HS6 := Lib.hid st6
  have HP6 := Lib.hid (HP5.out.trans kp6)
  have HD6 := Lib.hid (kp6.kblk HD5.out hgw hqw)
  have c6 := HD6.out.c6
  clear st6 kp6 HS5 HP5 HD5
  clear c5
  go_wp2_with fail
  refine (wput_any _ q g len ((((((ds ++ be 4 x.ssrc) ++ be 1 x.lost) ++ be 3 x.total) ++ be 4 x.high) ++ be 4 x.jit) ++ be 4 x.last) 4 x.delay HS6.out (by omega) (by omega) (by first | omega | (simp only [List.length_append, be_length]; omega)) HX.out.delay.1 (by have := HX.out.delay.2; omega) (by have := HX.out.delay.2; have := HT.out; omega)).mono ?_
  rintro e w7 ⟨rfl, st7, kp7⟩
  have HS7 := Lib.hid st7
  have HP7 := Lib.hid (HP6.out.trans kp7)
  clear st7 kp7 HS6 HP6
  clear c6
  go_wp2
  go_end0
  refine ⟨rfl, ?_, HP7.out⟩
  have := HS7.out
  simpa [bloB, List.append_assoc] using this
end Go.Proofs.Ythmmafpmpnhleaa.Fbk

namespace Go.Proofs.Ythmmafpmpnhleaa.Fbk
open Go.RowKit
set_option linter.unusedVariables false

/-- What Put tells. -/
def putRE (i : Itm) : Int := if isRep i.kind then (if mayI i then 0 else 1) else 4
def putRB (i : Itm) : List Int := if putRE i = 0 then encI i else []
theorem putRE_ok {i : Itm} (h : putRE i = 0) : isRep i.kind = true ∧ MayI i ∧ putRB i = encI i := by
  have hb : putRB i = encI i := by rw [putRB, if_pos h]
  unfold putRE at h
  split at h
  · split at h
    · rename_i h1 h2
      exact ⟨h1, (mayI_iff i).1 h2, hb⟩
    · omega
  · omega
theorem be1 (x : Int) (h : 0 ≤ x ∧ x ≤ 255) : be 1 x = [x] := by simp [be]; omega
theorem be2 (x : Int) (h : 0 ≤ x ∧ x ≤ 255) : be 2 x = [0, x] := by simp [be]; omega
/-- The bytes of a report, part behind part. -/
theorem enc_sender (i : Itm) (n : Nat) (hk : i.kind = 200) (hg : i.gone = []) (hp : i.pairs = []) (hn : i.blocks.length = n) (h15 : n ≤ 15) :
    encI i = (((((((be 1 (128 + n) ++ be 1 200) ++ be 2 (6 + 6 * n)) ++ be 4 i.ssrc) ++ be 8 i.ntp) ++ be 4 i.time) ++ be 4 i.pks) ++ be 4 i.ocs) ++ blosB i.blocks := by
  have e : (bodyI i).length = 4 * (6 + 6 * n) := by simp [bodyI, hk, hg, hp, be_length, blosB_length, bes_length, pairsB, hn]; omega
  rw [encI, e, Nat.mul_div_cancel_left _ (by decide), be1 _ ⟨by omega, by omega⟩, be1 200 ⟨by omega, by omega⟩, be2 _ ⟨by omega, by omega⟩]
  simp [bodyI, cntI, hk, hg, hp, hn, bes, pairsB]
theorem enc_receiver (i : Itm) (n : Nat) (hk : i.kind = 201) (hg : i.gone = []) (hp : i.pairs = []) (hn : i.blocks.length = n) (h15 : n ≤ 15) :
    encI i = (((be 1 (128 + n) ++ be 1 201) ++ be 2 (1 + 6 * n)) ++ be 4 i.ssrc) ++ blosB i.blocks := by
  have e : (bodyI i).length = 4 * (1 + 6 * n) := by simp [bodyI, hk, hg, hp, be_length, blosB_length, bes_length, pairsB, hn]; omega
  rw [encI, e, Nat.mul_div_cancel_left _ (by decide), be1 _ ⟨by omega, by omega⟩, be1 201 ⟨by omega, by omega⟩, be2 _ ⟨by omega, by omega⟩]
  simp [bodyI, cntI, hk, hg, hp, hn, bes, pairsB]
theorem blosB_snoc (l : List Blo) (x : Blo) : blosB (l ++ [x]) = blosB l ++ bloB x := by
  induction l with
  | nil => simp [blosB]
  | cons y r ih => simp [blosB, ih]

/-- What stands while a report is written. -/
structure PS (w W : World) (v : IV) (q g len : Nat) (ds : List Int) : Prop where
  below : Below w.heap.size w W
  res : IBlk W w.heap.size v
  st : WSt W q g len ds
  hg : w.heap.size < g
  hq : w.heap.size < q
section
variable {w W W' : World} {v : IV} {q g len : Nat} {ds ds' : List Int}
theorem PS.kp (p : PS w W v q g len ds) (st : WSt W' q g len ds') (k : Kp g q W W') : PS w W' v q g len ds' :=
  ⟨p.below.trans (k.below _ (Nat.le_of_lt p.hg) (Nat.le_of_lt p.hq)), k.iblk p.res (Nat.ne_of_lt p.hg) (Nat.ne_of_lt p.hq), st, p.hg, p.hq⟩
theorem PS.bel (p : PS w W v q g len ds) (hb : Below W.heap.size W W') : PS w W' v q g len ds := ⟨p.below.trans (hb.mono p.below.size), p.res.bel hb, p.st.bel hb, p.hg, p.hq⟩
theorem PS.put (p : PS w W v q g len ds) (s : Nat) (n : Int) (h1 : 1 ≤ s) (h2 : s ≤ 8) (hfit : ds.length + s ≤ len) (hn : 0 ≤ n) (hn2 : n ≤ 18446744073709551615) (hf : n < 256 ^ s) :
    Calls Try.prog 101 #[.pointer (some ⟨q, 0, none⟩), .int .i64 s, .int .u64 n] W fun e W' => e = .returned (.tuple #[]) ∧ PS w W' v q g len (ds ++ be s n) :=
  (wput_any W q g len ds s n p.st h1 h2 hfit hn hn2 hf).mono fun e W' ⟨he, h1, h2⟩ => ⟨he, p.kp h1 h2⟩
theorem PS.blo (p : PS w W v q g len ds) (x : Blo) (hx : x.Ok) (ht : x.total < 16777216) (hfit : ds.length + 24 ≤ len) :
    Calls Try.prog 102 #[.pointer (some ⟨q, 0, none⟩), bloV x] W fun e W' => e = .returned (.tuple #[]) ∧ PS w W' v q g len (ds ++ bloB x) :=
  (wblock_any W q g len ds x p.st hx ht hfit).mono fun e W' ⟨he, h1, h2⟩ => ⟨he, p.kp h1 h2⟩
theorem PS.own (p : PS w W v q g len ds) (h : ds.length = len) : Own W w.heap.size (some ⟨g, 0, none⟩) ds.length len ds := by
  have hr := p.st.row
  rw [h, Nat.sub_self, zer, List.replicate_zero, List.append_nil] at hr
  rw [h]
  exact Own.of_blk hr (Nat.le_of_lt p.hg) p.st.ok h p.st.max
end

set_option maxHeartbeats 1000000 in
theorem put_kind (v : IV) (w : World) (hk : isRep v.kind = false) : Calls Try.prog 80 #[itm v] w (RetR w [] 4) := by
  have CK : Hid (∀ W, Calls Try.prog 99 #[.int .i64 v.kind] W fun e w' => e = .returned (.bool false) ∧ W = w') := fun W => hk ▸ kindMay_any v.kind W
  have HB := Lib.hid ((Below.refl w.heap.size w).alloc (Nat.le_refl _) (iobj v))
  clear hk
  go_enter Try.func80, Try.ntmps80
  go_wp2_with fail
  refine (CK.out _).mono ?_
  rintro e w' ⟨rfl, rfl⟩
  go_wp2
  go_ret2
  exact ⟨none, 0, rfl, Own.nil _ _, HB.out⟩
set_option maxHeartbeats 1000000 in
theorem put_form (v : IV) (w : World) (hk : isRep v.kind = true) (CM : Hid (∀ W, Below w.heap.size w W → Calls Try.prog 96 #[itm v] W (RetB W false))) : Calls Try.prog 80 #[itm v] w (RetR w [] 1) := by
  have CK : Hid (∀ W, Calls Try.prog 99 #[.int .i64 v.kind] W fun e w' => e = .returned (.bool true) ∧ W = w') := fun W => hk ▸ kindMay_any v.kind W
  have HB := Lib.hid ((Below.refl w.heap.size w).alloc (Nat.le_refl _) (iobj v))
  clear hk
  go_enter Try.func80, Try.ntmps80
  go_wp2_with fail
  refine (CK.out _).mono ?_
  rintro e w' ⟨rfl, rfl⟩
  go_wp2_with fail
  refine (CM.out _ HB.out).mono ?_
  rintro e w1 ⟨rfl, hb1⟩
  have HB1 := Lib.hid (HB.out.trans (hb1.mono HB.out.size))
  clear hb1
  go_wp2
  go_ret2
  exact ⟨none, 0, rfl, Own.nil _ _, HB1.out⟩

set_option maxRecDepth 100000 in
set_option maxHeartbeats 8000000 in
theorem put_sender (v : IV) (B n N : Nat) (xs : List Blo) (w : World) (hkind : v.kind = 200) (hbn : v.bn = n) (h15 : n ≤ 15) (hN : N = 28 + 24 * n) (hr : RowRd bloL w B v.ba n xs) (hB : B ≤ w.heap.size) (hxo : ∀ x ∈ xs, x.Ok) (hxt : ∀ x ∈ xs, x.total < 16777216)
    (h1 : U32 v.ssrc) (h2 : 0 ≤ v.ntp ∧ v.ntp ≤ 18446744073709551615) (h3 : U32 v.time) (h4 : U32 v.pks) (h5 : U32 v.ocs)
    (CM : Hid (∀ W, Below w.heap.size w W → Calls Try.prog 96 #[itm v] W (RetB W true))) (ys : List Int)
    (hys : Hid (ys = (((((((be 1 (128 + n) ++ be 1 200) ++ be 2 (6 + 6 * n)) ++ be 4 v.ssrc) ++ be 8 v.ntp) ++ be 4 v.time) ++ be 4 v.pks) ++ be 4 v.ocs) ++ blosB xs)) :
    Calls Try.prog 80 #[itm v] w (RetR w ys 0) := by
  have CK : Hid (∀ W, Calls Try.prog 99 #[.int .i64 v.kind] W fun e w' => e = .returned (.bool true) ∧ W = w') := fun W => by have := kindMay_any v.kind W; rwa [show isRep v.kind = true from by simp [isRep, hkind]] at this
  have CS : Hid (∀ W, Calls Try.prog 100 #[.int .i64 v.kind, .int .i64 v.bn] W fun e w' => e = .returned (.int .i64 N) ∧ W = w') := fun W => by
    have := sizeOf_any v.kind v.bn W (by omega) (by omega)
    rwa [show (8 : Int) + 24 * v.bn + (if v.kind = 200 then 20 else 0) = N from by rw [hkind, hbn, hN]; simp; try omega] at this
  obtain ⟨i0, hi0, hz0, hz1, hz2⟩ := info_parts info5
  have HB := Lib.hid ((Below.refl w.heap.size w).alloc (Nat.le_refl _) (iobj v))
  have HD := Lib.hid (IBlk.new w v)
  have HK := Lib.hid hkind
  have HBN := Lib.hid hbn
  have HR := Lib.hid hr
  have HN := Lib.hid hN
  have HXO := Lib.hid hxo
  have HXT := Lib.hid hxt
  have H1 := Lib.hid h1
  have H2 := Lib.hid h2
  have H3 := Lib.hid h3
  have H4 := Lib.hid h4
  have H5 := Lib.hid h5
  have qs : IntKind.u64.wrap v.ssrc = v.ssrc := wrap_u64 _ ⟨h1.1, by have := h1.2; omega⟩
  have qt : IntKind.u64.wrap v.time = v.time := wrap_u64 _ ⟨h3.1, by have := h3.2; omega⟩
  have qp : IntKind.u64.wrap v.pks = v.pks := wrap_u64 _ ⟨h4.1, by have := h4.2; omega⟩
  have qo : IntKind.u64.wrap v.ocs = v.ocs := wrap_u64 _ ⟨h5.1, by have := h5.2; omega⟩
  have qn : IntKind.u64.wrap (128 + (n : Int)) = 128 + n := wrap_u64 _ ⟨by omega, by omega⟩
  have qk : IntKind.u64.wrap 200 = 200 := by rfl
  have qd : (N : Int).tdiv 4 = 7 + 6 * n := by rw [Int.tdiv_eq_ediv_of_nonneg (by omega)]; omega
  have qw : IntKind.i64.wrap (7 + 6 * (n : Int) - 1) = 6 + 6 * n := by rw [IntWalk.i64_in _ (by omega)]; omega
  have qw2 : IntKind.u64.wrap (6 + 6 * (n : Int)) = 6 + 6 * n := wrap_u64 _ ⟨by omega, by omega⟩
  clear hkind hbn hr hxo hxt h1 h2 h3 h4 h5 hN
  go_enter Try.func80, Try.ntmps80
  go_wp2_with fail
  refine (CK.out _).mono ?_
  rintro e w' ⟨rfl, rfl⟩
  go_wp2_with fail
  refine (CM.out _ HB.out).mono ?_
  rintro e w1 ⟨rfl, hb1⟩
  have HB1 := Lib.hid (HB.out.trans (hb1.mono HB.out.size))
  have D1 := HD.out.bel hb1
  have HD1 := Lib.hid D1
  have c0 := D1.c0
  have c6 := D1.c6
  clear hb1 D1 CM CK HB HD
  go_wp2_with fail
  refine (CS.out _).mono ?_
  rintro e w' ⟨rfl, rfl⟩
  clear CS c0 c6
  go_wp2_with (at_make; refine wpList_make_full _ rfl _ _ 22 rfl w1.heap.size 5 i0 _ 1 Try.underlying22 hi0 hz0 hz1 .i64 .i64 _ _ N rfl rfl ?c1 ?c2 ?c3 ?c4 ?c5 ?_
               case c1 => omega
               case c2 => omega
               case c3 => rw [hz2]; have := HN.out; omega
               case c4 => unfold maxLen; have := HN.out; omega
               case c5 => exact Nat.le_refl _
               intro w2 hown hg2
               rw [bcells_zeros] at hown
               have HO := Lib.hid (own_blk hown rfl)
               have hb2 : Below w1.heap.size w1 w2 := (Below.refl _ _).grown hg2 (Nat.le_refl _) (by simp)
               have HD2 := Lib.hid (HD1.out.bel hb2)
               have HB2 := Lib.hid (HB1.out.trans (hb2.mono HB1.out.size))
               have HQ := Lib.hid (show w.heap.size < w1.heap.size from HD1.out.lt)
               clear hown hg2 hb2 HD1 HB1
               generalize w1.heap.size = g at *
               have P3 : PS w (w2.alloc (.cells #[.slice (some ⟨g, 0, none⟩) N N, .int .i64 0] 143)) v w2.heap.size g N [] := by
                 have hlt := HO.out.lt
                 have hb3 := (Below.refl w2.heap.size w2).alloc (Nat.le_refl _) (.cells #[.slice (some ⟨g, 0, none⟩) N N, .int .i64 0] 143)
                 exact ⟨HB2.out.trans (hb3.mono HB2.out.size), HD2.out.bel hb3, ⟨Nat.zero_le _, Bytes.nil, by unfold maxLen; have := HN.out; omega, by omega, HO.out.alloc _, RWBlk.new w2 _ _ _ _⟩, HQ.out, HD2.out.lt⟩
               have c0 := P3.res.c0
               have c6 := P3.res.c6
               rw [HK.out] at c0
               rw [HBN.out] at c6
               have HP3 := Lib.hid P3
               clear P3 HO HD2 HB2 HQ)
  generalize w2.alloc (.cells #[.slice (some ⟨g, 0, none⟩) N N, .int .i64 0] 143) = w3 at *
  generalize w2.heap.size = q at *
  clear hi0 hz0 hz1 hz2

  refine (PS.put (ds := []) HP3.out 1 (128 + n) (by omega) (by omega) (by have := HN.out; simp only [List.length_nil]; omega) (by omega) (by omega) (by omega)).mono ?_
  rintro e w4 ⟨rfl, P4⟩
  have HP4 := Lib.hid P4
  clear HP3 c0 c6
  have c0 := P4.res.c0
  rw [HK.out] at c0
  clear P4
  go_wp2_with fail
  refine (PS.put (ds := ([] ++ be 1 (128 + n))) HP4.out 1 (200) (by omega) (by omega) (by simp only [List.length_append, be_length, List.length_nil]; have := HN.out; omega) (by decide) (by decide) (by decide)).mono ?_
  rintro e w5 ⟨rfl, P5⟩
  have HP5 := Lib.hid P5
  clear HP4 c0
  have e0 := P5.st.wr.c0
  clear P5
  go_wp2_with fail
  refine (PS.put (ds := (([] ++ be 1 (128 + n)) ++ be 1 (200))) HP5.out 2 (6 + 6 * n) (by omega) (by omega) (by simp only [List.length_append, be_length, List.length_nil]; have := HN.out; omega) (by omega) (by omega) (by omega)).mono ?_
  rintro e w6 ⟨rfl, P6⟩
  have HP6 := Lib.hid P6
  clear HP5 e0
  have c1 := P6.res.c1
  clear P6
  go_wp2_with fail
  refine (PS.put (ds := ((([] ++ be 1 (128 + n)) ++ be 1 (200)) ++ be 2 (6 + 6 * n))) HP6.out 4 (v.ssrc) (by omega) (by omega) (by simp only [List.length_append, be_length, List.length_nil]; have := HN.out; omega) (H1.out.1) (by have := H1.out.2; omega) (by have := H1.out.2; omega)).mono ?_
  rintro e w7 ⟨rfl, P7⟩
  have HP7 := Lib.hid P7
  clear HP6 c1
  have c0 := P7.res.c0
  rw [HK.out] at c0
  have c2 := P7.res.c2
  clear P7
  go_wp2_with fail
  refine (PS.put (ds := (((([] ++ be 1 (128 + n)) ++ be 1 (200)) ++ be 2 (6 + 6 * n)) ++ be 4 (v.ssrc))) HP7.out 8 (v.ntp) (by omega) (by omega) (by simp only [List.length_append, be_length, List.length_nil]; have := HN.out; omega) (H2.out.1) (H2.out.2) (by have := H2.out.2; omega)).mono ?_
  rintro e w8 ⟨rfl, P8⟩
  have HP8 := Lib.hid P8
  clear HP7 c0 c2
  have c3 := P8.res.c3
  clear P8
  go_wp2_with fail
  refine (PS.put (ds := ((((([] ++ be 1 (128 + n)) ++ be 1 (200)) ++ be 2 (6 + 6 * n)) ++ be 4 (v.ssrc)) ++ be 8 (v.ntp))) HP8.out 4 (v.time) (by omega) (by omega) (by simp only [List.length_append, be_length, List.length_nil]; have := HN.out; omega) (H3.out.1) (by have := H3.out.2; omega) (by have := H3.out.2; omega)).mono ?_
  rintro e w9 ⟨rfl, P9⟩
  have HP9 := Lib.hid P9
  clear HP8 c3
  have c4 := P9.res.c4
  clear P9
  go_wp2_with fail
  refine (PS.put (ds := (((((([] ++ be 1 (128 + n)) ++ be 1 (200)) ++ be 2 (6 + 6 * n)) ++ be 4 (v.ssrc)) ++ be 8 (v.ntp)) ++ be 4 (v.time))) HP9.out 4 (v.pks) (by omega) (by omega) (by simp only [List.length_append, be_length, List.length_nil]; have := HN.out; omega) (H4.out.1) (by have := H4.out.2; omega) (by have := H4.out.2; omega)).mono ?_
  rintro e w10 ⟨rfl, P10⟩
  have HP10 := Lib.hid P10
  clear HP9 c4
  have c5 := P10.res.c5
  clear P10
  go_wp2_with fail
  refine (PS.put (ds := ((((((([] ++ be 1 (128 + n)) ++ be 1 (200)) ++ be 2 (6 + 6 * n)) ++ be 4 (v.ssrc)) ++ be 8 (v.ntp)) ++ be 4 (v.time)) ++ be 4 (v.pks))) HP10.out 4 (v.ocs) (by omega) (by omega) (by simp only [List.length_append, be_length, List.length_nil]; have := HN.out; omega) (H5.out.1) (by have := H5.out.2; omega) (by have := H5.out.2; omega)).mono ?_
  rintro e w11 ⟨rfl, P11⟩
  have HP11 := Lib.hid P11
  clear HP10 c5
  have c6 := P11.res.c6
  rw [HBN.out] at c6
  clear P11
  obtain ⟨z, hz⟩ : ∃ z, z = (((((((([] ++ be 1 (128 + n)) ++ be 1 (200)) ++ be 2 (6 + 6 * n)) ++ be 4 (v.ssrc)) ++ be 8 (v.ntp)) ++ be 4 (v.time)) ++ be 4 (v.pks)) ++ be 4 (v.ocs)) := ⟨_, rfl⟩
  rw [← hz] at HP11
  have HZ := Lib.hid (show ys = z ++ blosB xs from by rw [hz, hys.out]; simp)
  have HZL := Lib.hid (show z.length = 28 from by rw [hz]; simp only [List.length_append, be_length, List.length_nil])
  clear hz hys qs qt qp qo qn qk qd qw qw2
  go_wp2
  clear c6
  go_loopw [64] (fun sk wx => ∃ k : Nat, k ≤ n ∧ sk = .int .i64 k ∧ Hid (PS w wx v q g N (z ++ blosB (xs.take k)))) (fun sk _ => n - (intOf sk).toNat)
  case atStart => exact ⟨0, by omega, rfl, by rw [List.take_zero, blosB, List.append_nil]; exact HP11.out⟩
  case round =>
    obtain ⟨k, hk, rfl, hP⟩ := hrel
    rename World => wx
    by_cases hlt : k < n
    · obtain ⟨b, off, x, ea, hbB, hx, d0, d1, d2, d3, d4, d5, d6⟩ := blo_at (HR.out.below (hP.out.below.mono hB)) hlt
      have HX := Lib.hid hx
      have P1 := hP.out.bel ((Below.refl wx.heap.size wx).alloc (Nat.le_refl _) (bloO x))
      have HP1 := Lib.hid P1
      clear hx P1 hP HP11
      rw [ea]
      go_wp2_with fail
      refine (PS.blo HP1.out x (HXO.out x (List.mem_of_getElem? HX.out)) (HXT.out x (List.mem_of_getElem? HX.out)) (by rw [List.length_append, HZL.out, blosB_length, List.length_take, HR.out.1, HN.out]; omega)).mono ?_
      rintro e w9 ⟨rfl, P9⟩
      have HP9 := Lib.hid P9
      clear P9
      go_wp2
      go_roundw
      case rel =>
        refine ⟨k + 1, by omega, by go_num, ?_⟩
        show PS w w9 v q g N (z ++ blosB (xs.take (k + 1)))
        rw [List.take_add_one, HX.out]
        show PS w w9 v q g N (z ++ blosB (xs.take k ++ [x]))
        rw [blosB_snoc, ← List.append_assoc]
        exact HP9.out
      case measure => simp [intOf]; omega
    · obtain rfl : k = n := by omega
      have e0 := hP.out.st.wr.c0
      clear HP11
      go_wp2
      go_ret2
      have ht : xs.take k = xs := List.take_of_length_le (by rw [HR.out.1]; exact Nat.le_refl _)
      have hP := hP.out
      rw [ht, ← HZ.out] at hP
      have hl : ys.length = N := by rw [HZ.out, List.length_append, HZL.out, blosB_length, HR.out.1, HN.out]
      refine ⟨some ⟨g, 0, none⟩, N, by rw [hl]; rfl, hP.own hl, hP.below⟩

set_option maxRecDepth 100000 in
set_option maxHeartbeats 8000000 in
theorem put_receiver (v : IV) (B n N : Nat) (xs : List Blo) (w : World) (hkind : v.kind = 201) (hbn : v.bn = n) (h15 : n ≤ 15) (hN : N = 8 + 24 * n) (hr : RowRd bloL w B v.ba n xs) (hB : B ≤ w.heap.size) (hxo : ∀ x ∈ xs, x.Ok) (hxt : ∀ x ∈ xs, x.total < 16777216)
    (h1 : U32 v.ssrc) (h2 : 0 ≤ v.ntp ∧ v.ntp ≤ 18446744073709551615) (h3 : U32 v.time) (h4 : U32 v.pks) (h5 : U32 v.ocs)
    (CM : Hid (∀ W, Below w.heap.size w W → Calls Try.prog 96 #[itm v] W (RetB W true))) (ys : List Int)
    (hys : Hid (ys = (((be 1 (128 + n) ++ be 1 201) ++ be 2 (1 + 6 * n)) ++ be 4 v.ssrc) ++ blosB xs)) :
    Calls Try.prog 80 #[itm v] w (RetR w ys 0) := by
  have CK : Hid (∀ W, Calls Try.prog 99 #[.int .i64 v.kind] W fun e w' => e = .returned (.bool true) ∧ W = w') := fun W => by have := kindMay_any v.kind W; rwa [show isRep v.kind = true from by simp [isRep, hkind]] at this
  have CS : Hid (∀ W, Calls Try.prog 100 #[.int .i64 v.kind, .int .i64 v.bn] W fun e w' => e = .returned (.int .i64 N) ∧ W = w') := fun W => by
    have := sizeOf_any v.kind v.bn W (by omega) (by omega)
    rwa [show (8 : Int) + 24 * v.bn + (if v.kind = 200 then 20 else 0) = N from by rw [hkind, hbn, hN]; simp; try omega] at this
  obtain ⟨i0, hi0, hz0, hz1, hz2⟩ := info_parts info5
  have HB := Lib.hid ((Below.refl w.heap.size w).alloc (Nat.le_refl _) (iobj v))
  have HD := Lib.hid (IBlk.new w v)
  have HK := Lib.hid hkind
  have HBN := Lib.hid hbn
  have HR := Lib.hid hr
  have HN := Lib.hid hN
  have HXO := Lib.hid hxo
  have HXT := Lib.hid hxt
  have H1 := Lib.hid h1
  have H2 := Lib.hid h2
  have H3 := Lib.hid h3
  have H4 := Lib.hid h4
  have H5 := Lib.hid h5
  have qs : IntKind.u64.wrap v.ssrc = v.ssrc := wrap_u64 _ ⟨h1.1, by have := h1.2; omega⟩
  have qt : IntKind.u64.wrap v.time = v.time := wrap_u64 _ ⟨h3.1, by have := h3.2; omega⟩
  have qp : IntKind.u64.wrap v.pks = v.pks := wrap_u64 _ ⟨h4.1, by have := h4.2; omega⟩
  have qo : IntKind.u64.wrap v.ocs = v.ocs := wrap_u64 _ ⟨h5.1, by have := h5.2; omega⟩
  have qn : IntKind.u64.wrap (128 + (n : Int)) = 128 + n := wrap_u64 _ ⟨by omega, by omega⟩
  have qk : IntKind.u64.wrap 201 = 201 := by rfl
  have qd : (N : Int).tdiv 4 = 2 + 6 * n := by rw [Int.tdiv_eq_ediv_of_nonneg (by omega)]; omega
  have qw : IntKind.i64.wrap (2 + 6 * (n : Int) - 1) = 1 + 6 * n := by rw [IntWalk.i64_in _ (by omega)]; omega
  have qw2 : IntKind.u64.wrap (1 + 6 * (n : Int)) = 1 + 6 * n := wrap_u64 _ ⟨by omega, by omega⟩
  clear hkind hbn hr hxo hxt h1 h2 h3 h4 h5 hN
  go_enter Try.func80, Try.ntmps80
  go_wp2_with fail
  refine (CK.out _).mono ?_
  rintro e w' ⟨rfl, rfl⟩
  go_wp2_with fail
  refine (CM.out _ HB.out).mono ?_
  rintro e w1 ⟨rfl, hb1⟩
  have HB1 := Lib.hid (HB.out.trans (hb1.mono HB.out.size))
  have D1 := HD.out.bel hb1
  have HD1 := Lib.hid D1
  have c0 := D1.c0
  have c6 := D1.c6
  clear hb1 D1 CM CK HB HD
  go_wp2_with fail
  refine (CS.out _).mono ?_
  rintro e w' ⟨rfl, rfl⟩
  clear CS c0 c6
  go_wp2_with (at_make; refine wpList_make_full _ rfl _ _ 22 rfl w1.heap.size 5 i0 _ 1 Try.underlying22 hi0 hz0 hz1 .i64 .i64 _ _ N rfl rfl ?c1 ?c2 ?c3 ?c4 ?c5 ?_
               case c1 => omega
               case c2 => omega
               case c3 => rw [hz2]; have := HN.out; omega
               case c4 => unfold maxLen; have := HN.out; omega
               case c5 => exact Nat.le_refl _
               intro w2 hown hg2
               rw [bcells_zeros] at hown
               have HO := Lib.hid (own_blk hown rfl)
               have hb2 : Below w1.heap.size w1 w2 := (Below.refl _ _).grown hg2 (Nat.le_refl _) (by simp)
               have HD2 := Lib.hid (HD1.out.bel hb2)
               have HB2 := Lib.hid (HB1.out.trans (hb2.mono HB1.out.size))
               have HQ := Lib.hid (show w.heap.size < w1.heap.size from HD1.out.lt)
               clear hown hg2 hb2 HD1 HB1
               generalize w1.heap.size = g at *
               have P3 : PS w (w2.alloc (.cells #[.slice (some ⟨g, 0, none⟩) N N, .int .i64 0] 143)) v w2.heap.size g N [] := by
                 have hlt := HO.out.lt
                 have hb3 := (Below.refl w2.heap.size w2).alloc (Nat.le_refl _) (.cells #[.slice (some ⟨g, 0, none⟩) N N, .int .i64 0] 143)
                 exact ⟨HB2.out.trans (hb3.mono HB2.out.size), HD2.out.bel hb3, ⟨Nat.zero_le _, Bytes.nil, by unfold maxLen; have := HN.out; omega, by omega, HO.out.alloc _, RWBlk.new w2 _ _ _ _⟩, HQ.out, HD2.out.lt⟩
               have c0 := P3.res.c0
               have c6 := P3.res.c6
               rw [HK.out] at c0
               rw [HBN.out] at c6
               have HP3 := Lib.hid P3
               clear P3 HO HD2 HB2 HQ)
  generalize w2.alloc (.cells #[.slice (some ⟨g, 0, none⟩) N N, .int .i64 0] 143) = w3 at *
  generalize w2.heap.size = q at *
  clear hi0 hz0 hz1 hz2

  refine (PS.put (ds := []) HP3.out 1 (128 + n) (by omega) (by omega) (by have := HN.out; simp only [List.length_nil]; omega) (by omega) (by omega) (by omega)).mono ?_
  rintro e w4 ⟨rfl, P4⟩
  have HP4 := Lib.hid P4
  clear HP3 c0 c6
  have c0 := P4.res.c0
  rw [HK.out] at c0
  clear P4
  go_wp2_with fail
  refine (PS.put (ds := ([] ++ be 1 (128 + n))) HP4.out 1 (201) (by omega) (by omega) (by simp only [List.length_append, be_length, List.length_nil]; have := HN.out; omega) (by decide) (by decide) (by decide)).mono ?_
  rintro e w5 ⟨rfl, P5⟩
  have HP5 := Lib.hid P5
  clear HP4 c0
  have e0 := P5.st.wr.c0
  clear P5
  go_wp2_with fail
  refine (PS.put (ds := (([] ++ be 1 (128 + n)) ++ be 1 (201))) HP5.out 2 (1 + 6 * n) (by omega) (by omega) (by simp only [List.length_append, be_length, List.length_nil]; have := HN.out; omega) (by omega) (by omega) (by omega)).mono ?_
  rintro e w6 ⟨rfl, P6⟩
  have HP6 := Lib.hid P6
  clear HP5 e0
  have c1 := P6.res.c1
  clear P6
  go_wp2_with fail
  refine (PS.put (ds := ((([] ++ be 1 (128 + n)) ++ be 1 (201)) ++ be 2 (1 + 6 * n))) HP6.out 4 (v.ssrc) (by omega) (by omega) (by simp only [List.length_append, be_length, List.length_nil]; have := HN.out; omega) (H1.out.1) (by have := H1.out.2; omega) (by have := H1.out.2; omega)).mono ?_
  rintro e w7 ⟨rfl, P7⟩
  have HP7 := Lib.hid P7
  clear HP6 c1
  have c0 := P7.res.c0
  rw [HK.out] at c0
  have c6 := P7.res.c6
  rw [HBN.out] at c6
  clear P7
  obtain ⟨z, hz⟩ : ∃ z, z = (((([] ++ be 1 (128 + n)) ++ be 1 (201)) ++ be 2 (1 + 6 * n)) ++ be 4 (v.ssrc)) := ⟨_, rfl⟩
  rw [← hz] at HP7
  have HZ := Lib.hid (show ys = z ++ blosB xs from by rw [hz, hys.out]; simp)
  have HZL := Lib.hid (show z.length = 8 from by rw [hz]; simp only [List.length_append, be_length, List.length_nil])
  clear hz hys qs qt qp qo qn qk qd qw qw2
  go_wp2
  clear c0 c6
  go_loopw [64] (fun sk wx => ∃ k : Nat, k ≤ n ∧ sk = .int .i64 k ∧ Hid (PS w wx v q g N (z ++ blosB (xs.take k)))) (fun sk _ => n - (intOf sk).toNat)
  case atStart => exact ⟨0, by omega, rfl, by rw [List.take_zero, blosB, List.append_nil]; exact HP7.out⟩
  case round =>
    obtain ⟨k, hk, rfl, hP⟩ := hrel
    rename World => wx
    by_cases hlt : k < n
    · obtain ⟨b, off, x, ea, hbB, hx, d0, d1, d2, d3, d4, d5, d6⟩ := blo_at (HR.out.below (hP.out.below.mono hB)) hlt
      have HX := Lib.hid hx
      have P1 := hP.out.bel ((Below.refl wx.heap.size wx).alloc (Nat.le_refl _) (bloO x))
      have HP1 := Lib.hid P1
      clear hx P1 hP HP7
      rw [ea]
      go_wp2_with fail
      refine (PS.blo HP1.out x (HXO.out x (List.mem_of_getElem? HX.out)) (HXT.out x (List.mem_of_getElem? HX.out)) (by rw [List.length_append, HZL.out, blosB_length, List.length_take, HR.out.1, HN.out]; omega)).mono ?_
      rintro e w9 ⟨rfl, P9⟩
      have HP9 := Lib.hid P9
      clear P9
      go_wp2
      go_roundw
      case rel =>
        refine ⟨k + 1, by omega, by go_num, ?_⟩
        show PS w w9 v q g N (z ++ blosB (xs.take (k + 1)))
        rw [List.take_add_one, HX.out]
        show PS w w9 v q g N (z ++ blosB (xs.take k ++ [x]))
        rw [blosB_snoc, ← List.append_assoc]
        exact HP9.out
      case measure => simp [intOf]; omega
    · obtain rfl : k = n := by omega
      have e0 := hP.out.st.wr.c0
      clear HP7
      go_wp2
      go_ret2
      have ht : xs.take k = xs := List.take_of_length_le (by rw [HR.out.1]; exact Nat.le_refl _)
      have hP := hP.out
      rw [ht, ← HZ.out] at hP
      have hl : ys.length = N := by rw [HZ.out, List.length_append, HZL.out, blosB_length, HR.out.1, HN.out]
      refine ⟨some ⟨g, 0, none⟩, N, by rw [hl]; rfl, hP.own hl, hP.below⟩


/-- The contract to use. -/
theorem put_itm (w : World) (i : Itm) (l : ILoc) (B : Nat) (ho : i.Ok) (h : IRd w B i l) (hB : B ≤ w.heap.size) : Calls Try.prog 80 #[itm (ivOf i l)] w (RetR w (putRB i) (putRE i)) := by
  have CM : ∀ W, Below w.heap.size w W → Calls Try.prog 96 #[itm (ivOf i l)] W (RetB W (mayRB i)) := fun W hW => may_itm W i l B (h.below (hW.mono hB)) (Nat.le_trans hB hW.size)
  rcases hk : isRep i.kind with _ | _
  · have e1 : putRE i = 4 := by rw [putRE, hk]; rfl
    rw [putRB, e1, if_neg (by decide)]
    exact put_kind (ivOf i l) w hk
  · rcases hm : mayI i with _ | _
    · have e1 : putRE i = 1 := by rw [putRE, hk, hm]; rfl
      rw [putRB, e1, if_neg (by decide)]
      exact put_form (ivOf i l) w hk (fun W hW => by have := CM W hW; rwa [mayRB, hk, hm] at this)
    · have e1 : putRE i = 0 := by rw [putRE, hk, hm]; rfl
      rw [putRB, e1, if_pos rfl]
      have CM' : Hid (∀ W, Below w.heap.size w W → Calls Try.prog 96 #[itm (ivOf i l)] W (RetB W true)) := fun W hW => by have := CM W hW; rwa [mayRB, hk, hm] at this
      have hM := (mayI_iff i).1 hm
      rcases hM with ⟨k, g, p, m, r⟩ | ⟨k, s, g, p, m, r⟩ | ⟨k, _⟩ | ⟨k, _⟩ | ⟨k, _⟩
      · exact put_sender (ivOf i l) B i.blocks.length _ i.blocks w k rfl r.1 rfl h.blocks hB ho.blocks r.2 ho.ssrc ho.ntp ho.time ho.pks ho.ocs CM' (encI i) (enc_sender i _ k g p rfl r.1)
      · exact put_receiver (ivOf i l) B i.blocks.length _ i.blocks w k rfl r.1 rfl h.blocks hB ho.blocks r.2 ho.ssrc ho.ntp ho.time ho.pks ho.ocs CM' (encI i) (enc_receiver i _ k g p rfl r.1)
      · exact absurd hk (by simp [isRep, k])
      · exact absurd hk (by simp [isRep, k])
      · exact absurd hk (by simp [isRep, k])

end Go.Proofs.Ythmmafpmpnhleaa.Fbk
