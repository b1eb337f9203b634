/- The contracts of report's writer: put, block. -/
import Derived.Test.YtjbgfaoancmknaaQc
import Derived.Test.YtjbgfaoancmknaaXg
namespace Go.Proofs.Ytjbgfaoancmknaa.Fbk
open Go.RowKit
set_option linter.unusedVariables false

/-- A writer, or a reader, that lies at block q: bytes, and where it stands. -/
def RWBlk (t : TypeId) (w : World) (q : Nat) (A : Option Addr) (n c : Nat) (i : Int) : Prop := w.heap[q]? = some (.cells #[.slice A n c, .int .i64 i] t (0, 0))
section
variable {t : TypeId} {w w' : World} {q n c B : Nat} {A : Option Addr} {i : Int}
theorem RWBlk.lt (h : RWBlk t w q A n c i) : q < w.heap.size := lt_of_some h
theorem RWBlk.c0 (h : RWBlk t w q A n c i) : w.cell? ⟨q, 0, none⟩ = some (.slice A n c) := cell_of_row w q 0 _ t (0, 0) h
theorem RWBlk.c1 (h : RWBlk t w q A n c i) : w.cell? ⟨q, 1, none⟩ = some (.int .i64 i) := cell_of_row w q 1 _ t (0, 0) h
theorem RWBlk.frozen (h : RWBlk t w q A n c i) (k : Nat) : w.frozen? ⟨q, k, none⟩ = false := frozen_of_row w q k _ t h
theorem RWBlk.set1 (h : RWBlk t w q A n c i) (y : Int) : RWBlk t (w.setCell ⟨q, 1, none⟩ (.int .i64 y)) q A n c y := heap_setCell_same w q 1 _ t (.int .i64 y) h
theorem RWBlk.new (w : World) (A : Option Addr) (n c : Nat) (i : Int) : RWBlk t (w.alloc (.cells #[.slice A n c, .int .i64 i] t)) w.heap.size A n c i := heap_alloc_new w _
theorem RWBlk.below (h : RWBlk t w q A n c i) (hb : Below B w w') (hg : q < B) : RWBlk t w' q A n c i := (hb.block q hg).trans h
theorem RWBlk.bel (h : RWBlk t w q A n c i) (hb : Below w.heap.size w w') : RWBlk t w' q A n c i := h.below hb h.lt
theorem RWBlk.off (h : RWBlk t w q A n c i) {p : Addr} (hp : p.block ≠ q) (u : Value) : RWBlk t (w.setCell p u) q A n c i := (Below.heap_setCell w p u q (fun e => hp e.symm)).trans h
end
/-- Nothing but the blocks g and q has changed. -/
structure Kp (g q : Nat) (w w' : World) : Prop where
  below : ∀ B, B ≤ g → B ≤ q → Below B w w'
  keep : ∀ i, i < w.heap.size → i ≠ g → i ≠ q → w'.heap[i]? = w.heap[i]?
section
variable {g q : Nat} {w w' w'' : World}
theorem Kp.refl (g q : Nat) (w : World) : Kp g q w w := ⟨fun _ _ _ => Below.refl _ _, fun _ _ _ _ => rfl⟩
theorem Kp.size (h : Kp g q w w') : w.heap.size ≤ w'.heap.size := (h.below 0 (Nat.zero_le _) (Nat.zero_le _)).size
theorem Kp.trans (h : Kp g q w w') (k : Kp g q w' w'') : Kp g q w w'' := ⟨fun B h1 h2 => (h.below B h1 h2).trans (k.below B h1 h2), fun i hi h1 h2 => (k.keep i (Nat.lt_of_lt_of_le hi h.size) h1 h2).trans (h.keep i hi h1 h2)⟩
theorem Kp.bel (h : Kp g q w w') (k : Below w'.heap.size w' w'') (hg : g < w'.heap.size) (hq : q < w'.heap.size) : Kp g q w w'' :=
  h.trans ⟨fun B h1 h2 => k.mono (by omega), fun i hi _ _ => k.block i hi⟩
theorem Kp.kblk {b : Nat} {x : Blo} (h : Kp g q w w') (k : KBlk w b x) (hg : b ≠ g) (hq : b ≠ q) : KBlk w' b x := (h.keep b k.lt hg hq).trans k
theorem Kp.iblk {b : Nat} {x : IV} (h : Kp g q w w') (k : IBlk w b x) (hg : b ≠ g) (hq : b ≠ q) : IBlk w' b x := (h.keep b k.lt hg hq).trans k
end
def zer (n : Nat) : List Int := List.replicate n 0
theorem zer_len (n : Nat) : (zer n).length = n := by simp [zer]
def Srw (t : TypeId) (q : Nat) (A : Option Addr) (n c : Nat) (i : Int) (W : World) : Prop := RWBlk t W q A n c i
/-- A writer at q that has written ds into the first of len bytes at g. -/
structure WSt (w : World) (q g len : Nat) (ds : List Int) : Prop where
  le : ds.length ≤ len
  ok : Bytes ds
  max : len ≤ maxLen
  ne : g ≠ q
  row : Blk w g (ds ++ zer (len - ds.length)) []
  wr : RWBlk 71 w q (some ⟨g, 0, none⟩) len len ds.length
theorem written_zer (ds : List Int) (len s : Nat) (n : Int) (h : ds.length + s ≤ len) : written (ds ++ zer (len - ds.length)) ds.length s 0 n = (ds ++ be s n) ++ zer (len - (ds ++ be s n).length) := by
  unfold written
  rw [Nat.add_zero, Nat.sub_zero, List.take_append_of_le_length (Nat.le_refl _), List.take_of_length_le (Nat.le_refl _), List.drop_append, List.drop_of_length_le (by omega), List.nil_append, List.length_append, be_length]
  unfold zer
  rw [List.drop_replicate, show len - ds.length - (ds.length + s - ds.length) = len - (ds.length + s) from by omega]
theorem WSt.bel {w w' : World} {q g len : Nat} {ds : List Int} (h : WSt w q g len ds) (hb : Below w.heap.size w w') : WSt w' q g len ds := ⟨h.le, h.ok, h.max, h.ne, h.row.below hb h.row.lt, h.wr.bel hb⟩
set_option maxHeartbeats 1000000 in
theorem wput_any (w : World) (q g len : Nat) (ds : List Int) (s : Nat) (n : Int) (st : WSt w q g len ds) (h1 : 1 ≤ s) (h2 : s ≤ 8) (hfit : ds.length + s ≤ len) (hn : 0 ≤ n) (hn2 : n ≤ 18446744073709551615) (hf : n < 256 ^ s) :
    Calls Try.prog 46 #[.pointer (some ⟨q, 0, none⟩), .int .i64 s, .int .u64 n] w fun e w' => e = .returned (.tuple #[]) ∧ WSt w' q g len (ds ++ be s n) ∧ Kp g q w w' := by
  have hmax := st.max
  have hwr := st.wr
  have hrow := st.row
  have hfb : fitsB s n = true := by simp [fitsB, hf]
  have CP : Hid (∀ W, w.heap.size ≤ W.heap.size → Blk W g (ds ++ zer (len - ds.length)) [] → Calls Try.prog 57 #[.slice (some ⟨g, 0, none⟩) len len, .int .i64 ds.length, .int .i64 s, .int .u64 n] W fun e w' => e = .returned (.bool true) ∧ Blk w' g (written (ds ++ zer (len - ds.length)) (0 + ds.length) s 0 n) [] ∧ W.grownBy w' (some g)) := fun W hW hk =>
    Fld.put_yes g 0 len len ds.length s n _ [] W hmax (Nat.le_refl _) hn hn2 (by simp [zer_len]; have := st.le; omega) hk h1 h2 hfit hfb
  have HST := Lib.hid st
  have hle : (ds.length : Int) + s ≤ 9223372036854775807 := by unfold maxLen at hmax; omega
  have hS : Srw 71 q (some ⟨g, 0, none⟩) len len ds.length w.drew := hwr
  have c0 : ∀ W, Srw 71 q (some ⟨g, 0, none⟩) len len ds.length W → W.cell? ⟨q, 0, none⟩ = some (.slice (some ⟨g, 0, none⟩) len len) := fun W h => h.c0
  have c1 : ∀ W, Srw 71 q (some ⟨g, 0, none⟩) len len ds.length W → W.cell? ⟨q, 1, none⟩ = some (.int .i64 ds.length) := fun W h => h.c1
  clear st hwr hfb hf hmax hrow
  go_enter Try.func46, Try.ntmps46
  go_wp2_with fail
  refine region_seq (Srw 71 q (some ⟨g, 0, none⟩) len len ds.length) [(0, false), (1, false), (2, false), (3, false), (4, false), (5, false), (6, false), (7, false), (8, false), (9, false), (10, true)] (by kernel_rfl) (by kernel_rfl) rfl (by kernel_rfl) ?_
  iterate 10 (refine seq_read (v := _) rfl (fun _ _ _ h => h) hS (Or.inl ⟨by rfl, fun W hW => by go_simp <;> with_reducible rfl⟩) ?_; simp only [Act.put, List.setIfInBounds_toArray, List.set_cons_zero, List.set_cons_succ])
  clear c0 c1
  refine seq_do rfl (fun K hK => ?_)
  go_simp
  refine (CP.out w.drew (Nat.le_refl _) HST.out.row).mono ?_
  rintro e w1 ⟨rfl, hk1, hg1⟩
  rw [Nat.zero_add, written_zer ds len s n hfit] at hk1
  have hw1 : RWBlk 71 w1 q (some ⟨g, 0, none⟩) len len ds.length := (hg1.block q HST.out.wr.lt (by simp [HST.out.ne.symm])).trans HST.out.wr
  refine hK.out _ _ _ (fun W h => h) hw1 ?_
  clear hK K
  refine seq_end ?_
  have d1 := hw1.c1
  have d2 := hw1.frozen 1
  have HK1 := Lib.hid hk1
  have HG1 := Lib.hid hg1
  have HW1 := Lib.hid hw1
  clear hk1 hg1 hw1 hS
  go_wp2
  go_end0
  refine ⟨rfl, ?_, ?_, ?_⟩
  · have hne := HST.out.ne
    have hl : (ds ++ be s n).length = ds.length + s := by rw [List.length_append, be_length]
    refine ⟨by omega, HST.out.ok.append (be_bytes _ _), HST.out.max, hne, ?_, ?_⟩
    · exact (Below.heap_setCell w1 ⟨q, 1, none⟩ _ g hne).trans HK1.out
    · rw [hl]; exact HW1.out.set1 _
  · intro B h1 h2
    exact (((Below.refl B w).drew.grown HG1.out (by have := HST.out.row.lt; simp; omega) (by rintro k h; injection h with h; omega)).setCell (p := ⟨q, 1, none⟩) h2 _)
  · intro i hi hg hq
    exact (Below.heap_setCell w1 ⟨q, 1, none⟩ _ i hq).trans (HG1.out.block i hi (by simp [hg]))
set_option maxHeartbeats 4000000 in
theorem wblock_any (w : World) (q g len : Nat) (ds : List Int) (x : Blo) (st : WSt w q g len ds) (hx : x.Ok) (ht : x.total < 16777216) (hfit : ds.length + 24 ≤ len) :
    Calls Try.prog 47 #[.pointer (some ⟨q, 0, none⟩), bloV x] w fun e w' => e = .returned (.tuple #[]) ∧ WSt w' q g len (ds ++ bloB x) ∧ Kp g q w w' := by
  have qssrc : IntKind.u64.wrap x.ssrc = x.ssrc := wrap_u64 _ ⟨hx.ssrc.1, by have := hx.ssrc.2; omega⟩
  have qlost : IntKind.u64.wrap x.lost = x.lost := wrap_u64 _ ⟨hx.lost.1, by have := hx.lost.2; omega⟩
  have qtotal : IntKind.u64.wrap x.total = x.total := wrap_u64 _ ⟨hx.total.1, by have := hx.total.2; omega⟩
  have qhigh : IntKind.u64.wrap x.high = x.high := wrap_u64 _ ⟨hx.high.1, by have := hx.high.2; omega⟩
  have qjit : IntKind.u64.wrap x.jit = x.jit := wrap_u64 _ ⟨hx.jit.1, by have := hx.jit.2; omega⟩
  have qlast : IntKind.u64.wrap x.last = x.last := wrap_u64 _ ⟨hx.last.1, by have := hx.last.2; omega⟩
  have qdelay : IntKind.u64.wrap x.delay = x.delay := wrap_u64 _ ⟨hx.delay.1, by have := hx.delay.2; omega⟩
  have D0 := KBlk.new w x
  have hb0 : Below w.heap.size w (w.alloc (bloO x)) := (Below.refl _ _).alloc (Nat.le_refl _) _
  have hgw : w.heap.size ≠ g := by have := st.row.lt; omega
  have hqw : w.heap.size ≠ q := by have := st.wr.lt; omega
  have st0 := st.bel hb0
  have kp0 : Kp g q w (w.alloc (bloO x)) := (Kp.refl g q w).bel hb0 st.row.lt st.wr.lt
  have HD0 := Lib.hid D0
  have HS0 := Lib.hid st0
  have HP0 := Lib.hid kp0
  have HX := Lib.hid hx
  have HT := Lib.hid ht
  clear st D0 hb0 st0 kp0 hx ht
  go_enter Try.func47, Try.ntmps47
  go_wp2_with fail
  refine (wput_any _ q g len (ds) 4 x.ssrc HS0.out (by omega) (by omega) (by first | omega | (simp only [List.length_append, be_length]; omega)) HX.out.ssrc.1 (by have := HX.out.ssrc.2; omega) (by have := HX.out.ssrc.2; have := HT.out; omega)).mono ?_
  rintro e w1 ⟨rfl, st1, kp1⟩
  have HS1 := Lib.hid st1
  have HP1 := Lib.hid (HP0.out.trans kp1)
  have HD1 := Lib.hid (kp1.kblk HD0.out hgw hqw)
  have c1 := HD1.out.c1
  clear st1 kp1 HS0 HP0 HD0
  go_wp2_with fail
  refine (wput_any _ q g len (ds ++ be 4 x.ssrc) 1 x.lost HS1.out (by omega) (by omega) (by first | omega | (simp only [List.length_append, be_length]; omega)) HX.out.lost.1 (by have := HX.out.lost.2; omega) (by have := HX.out.lost.2; have := HT.out; omega)).mono ?_
  rintro e w2 ⟨rfl, st2, kp2⟩
  have HS2 := Lib.hid st2
  have HP2 := Lib.hid (HP1.out.trans kp2)
  have HD2 := Lib.hid (kp2.kblk HD1.out hgw hqw)
  have c2 := HD2.out.c2
  clear st2 kp2 HS1 HP1 HD1
  clear c1
  go_wp2_with fail
  refine (wput_any _ q g len ((ds ++ be 4 x.ssrc) ++ be 1 x.lost) 3 x.total HS2.out (by omega) (by omega) (by first | omega | (simp only [List.length_append, be_length]; omega)) HX.out.total.1 (by have := HX.out.total.2; omega) (by have := HX.out.total.2; have := HT.out; omega)).mono ?_
  rintro e w3 ⟨rfl, st3, kp3⟩
  have HS3 := Lib.hid st3
  have HP3 := Lib.hid (HP2.out.trans kp3)
  have HD3 := Lib.hid (kp3.kblk HD2.out hgw hqw)
  have c3 := HD3.out.c3
  clear st3 kp3 HS2 HP2 HD2
  clear c2
  go_wp2_with fail
  refine (wput_any _ q g len (((ds ++ be 4 x.ssrc) ++ be 1 x.lost) ++ be 3 x.total) 4 x.high HS3.out (by omega) (by omega) (by first | omega | (simp only [List.length_append, be_length]; omega)) HX.out.high.1 (by have := HX.out.high.2; omega) (by have := HX.out.high.2; have := HT.out; omega)).mono ?_
  rintro e w4 ⟨rfl, st4, kp4⟩
  have HS4 := Lib.hid st4
  have HP4 := Lib.hid (HP3.out.trans kp4)
  have HD4 := Lib.hid (kp4.kblk HD3.out hgw hqw)
  have c4 := HD4.out.c4
  clear st4 kp4 HS3 HP3 HD3
  clear c3
  go_wp2_with fail
  refine (wput_any _ q g len ((((ds ++ be 4 x.ssrc) ++ be 1 x.lost) ++ be 3 x.total) ++ be 4 x.high) 4 x.jit HS4.out (by omega) (by omega) (by first | omega | (simp only [List.length_append, be_length]; omega)) HX.out.jit.1 (by have := HX.out.jit.2; omega) (by have := HX.out.jit.2; have := HT.out; omega)).mono ?_
  rintro e w5 ⟨rfl, st5, kp5⟩
  have HS5 := Lib.hid st5
  have HP5 := Lib.hid (HP4.out.trans kp5)
  have HD5 := Lib.hid (kp5.kblk HD4.out hgw hqw)
  have c5 := HD5.out.c5
  clear st5 kp5 HS4 HP4 HD4
  clear c4
  go_wp2_with fail
  refine (wput_any _ q g len (((((ds ++ be 4 x.ssrc) ++ be 1 x.lost) ++ be 3 x.total) ++ be 4 x.high) ++ be 4 x.jit) 4 x.last HS5.out (by omega) (by omega) (by first | omega | (simp only [List.length_append, be_length]; omega)) HX.out.last.1 (by have := HX.out.last.2; omega) (by have := HX.out.last.2; have := HT.out; omega)).mono ?_
  rintro e w6 ⟨rfl, st6, kp6⟩
  have HS6 := Lib.hid st6
  have HP6 := Lib.hid (HP5.out.trans kp6)
  have HD6 := Lib.hid (kp6.kblk HD5.out hgw hqw)
  have c6 := HD6.out.c6
  clear st6 kp6 HS5 HP5 HD5
  clear c5
  go_wp2_with fail
  refine (wput_any _ q g len ((((((ds ++ be 4 x.ssrc) ++ be 1 x.lost) ++ be 3 x.total) ++ be 4 x.high) ++ be 4 x.jit) ++ be 4 x.last) 4 x.delay HS6.out (by omega) (by omega) (by first | omega | (simp only [List.length_append, be_length]; omega)) HX.out.delay.1 (by have := HX.out.delay.2; omega) (by have := HX.out.delay.2; have := HT.out; omega)).mono ?_
  rintro e w7 ⟨rfl, st7, kp7⟩
  have HS7 := Lib.hid st7
  have HP7 := Lib.hid (HP6.out.trans kp7)
  clear st7 kp7 HS6 HP6
  clear c6
  go_wp2
  go_end0
  refine ⟨rfl, ?_, HP7.out⟩
  have := HS7.out
  simpa [bloB, List.append_assoc] using this
end Go.Proofs.Ytjbgfaoancmknaa.Fbk
