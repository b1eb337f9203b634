/- The contracts of rtcp's writer: put; begin. -/
import Derived.Test.YtjbgfaoancmknaaVd
namespace Go.Proofs.Ytjbgfaoancmknaa.Fbk
open Go.RowKit
set_option linter.unusedVariables false

/-- A writer at q that has written ds into the first of len bytes at g. -/
structure CSt (w : World) (q g len : Nat) (ds : List Int) : Prop where
  le : ds.length ≤ len
  ok : Bytes ds
  max : len ≤ maxLen
  ne : g ≠ q
  row : Blk w g (ds ++ zer (len - ds.length)) []
  wr : RWBlk 67 w q (some ⟨g, 0, none⟩) len len ds.length
theorem CSt.bel {w w' : World} {q g len : Nat} {ds : List Int} (h : CSt w q g len ds) (hb : Below w.heap.size w w') : CSt w' q g len ds := ⟨h.le, h.ok, h.max, h.ne, h.row.below hb h.row.lt, h.wr.bel hb⟩
set_option maxHeartbeats 1000000 in
theorem cput_any (w : World) (q g len : Nat) (ds : List Int) (s : Nat) (n : Int) (st : CSt w q g len ds) (h1 : 1 ≤ s) (h2 : s ≤ 8) (hfit : ds.length + s ≤ len) (hn : 0 ≤ n) (hn2 : n ≤ 18446744073709551615) (hf : n < 256 ^ s) :
    Calls Try.prog 44 #[.pointer (some ⟨q, 0, none⟩), .int .i64 s, .int .u64 n] w fun e w' => e = .returned (.tuple #[]) ∧ CSt w' q g len (ds ++ be s n) ∧ Kp g q w w' := by
  have hmax := st.max
  have hwr := st.wr
  have hrow := st.row
  have hfb : fitsB s n = true := by simp [fitsB, hf]
  have CP : Hid (∀ W, w.heap.size ≤ W.heap.size → Blk W g (ds ++ zer (len - ds.length)) [] → Calls Try.prog 57 #[.slice (some ⟨g, 0, none⟩) len len, .int .i64 ds.length, .int .i64 s, .int .u64 n] W fun e w' => e = .returned (.bool true) ∧ Blk w' g (written (ds ++ zer (len - ds.length)) (0 + ds.length) s 0 n) [] ∧ W.grownBy w' (some g)) := fun W hW hk =>
    Fld.put_yes g 0 len len ds.length s n _ [] W hmax (Nat.le_refl _) hn hn2 (by simp [zer_len]; have := st.le; omega) hk h1 h2 hfit hfb
  have HST := Lib.hid st
  have hle : (ds.length : Int) + s ≤ 9223372036854775807 := by unfold maxLen at hmax; omega
  have hS : Srw 67 q (some ⟨g, 0, none⟩) len len ds.length w.drew := hwr
  have c0 : ∀ W, Srw 67 q (some ⟨g, 0, none⟩) len len ds.length W → W.cell? ⟨q, 0, none⟩ = some (.slice (some ⟨g, 0, none⟩) len len) := fun W h => h.c0
  have c1 : ∀ W, Srw 67 q (some ⟨g, 0, none⟩) len len ds.length W → W.cell? ⟨q, 1, none⟩ = some (.int .i64 ds.length) := fun W h => h.c1
  clear st hwr hfb hf hmax hrow
  go_enter Try.func44, Try.ntmps44
  go_wp2_with fail
  refine region_seq (Srw 67 q (some ⟨g, 0, none⟩) len len ds.length) [(0, false), (1, false), (2, false), (3, false), (4, false), (5, false), (6, false), (7, false), (8, false), (9, false), (10, true)] (by kernel_rfl) (by kernel_rfl) rfl (by kernel_rfl) ?_
  iterate 10 (refine seq_read (v := _) rfl (fun _ _ _ h => h) hS (Or.inl ⟨by rfl, fun W hW => by go_simp <;> with_reducible rfl⟩) ?_; simp only [Act.put, List.setIfInBounds_toArray, List.set_cons_zero, List.set_cons_succ])
  clear c0 c1
  refine seq_do rfl (fun K hK => ?_)
  go_simp
  refine (CP.out w.drew (Nat.le_refl _) HST.out.row).mono ?_
  rintro e w1 ⟨rfl, hk1, hg1⟩
  rw [Nat.zero_add, written_zer ds len s n hfit] at hk1
  have hw1 : RWBlk 67 w1 q (some ⟨g, 0, none⟩) len len ds.length := (hg1.block q HST.out.wr.lt (by simp [HST.out.ne.symm])).trans HST.out.wr
  refine hK.out _ _ _ (fun W h => h) hw1 ?_
  clear hK K
  refine seq_end ?_
  have d1 := hw1.c1
  have d2 := hw1.frozen 1
  have HK1 := Lib.hid hk1
  have HG1 := Lib.hid hg1
  have HW1 := Lib.hid hw1
  clear hk1 hg1 hw1 hS
  go_wp2
  go_end0
  refine ⟨rfl, ?_, ?_, ?_⟩
  · have hne := HST.out.ne
    have hl : (ds ++ be s n).length = ds.length + s := by rw [List.length_append, be_length]
    refine ⟨by omega, HST.out.ok.append (be_bytes _ _), HST.out.max, hne, ?_, ?_⟩
    · exact (Below.heap_setCell w1 ⟨q, 1, none⟩ _ g hne).trans HK1.out
    · rw [hl]; exact HW1.out.set1 _
  · intro B h1 h2
    exact (((Below.refl B w).drew.grown HG1.out (by have := HST.out.row.lt; simp; omega) (by rintro k h; injection h with h; omega)).setCell (p := ⟨q, 1, none⟩) h2 _)
  · intro i hi hg hq
    exact (Below.heap_setCell w1 ⟨q, 1, none⟩ _ i hq).trans (HG1.out.block i hi (by simp [hg]))
theorem RWBlk.store {t : TypeId} {w : World} {q n c : Nat} {A : Option Addr} {i : Int} (h : RWBlk t w q A n c i) (A' : Option Addr) (n' c' : Nat) (i' : Int) : RWBlk t ((w.setCell ⟨q, 0, none⟩ (.slice A' n' c')).setCell ⟨q, 1, none⟩ (.int .i64 i')) q A' n' c' i' := by
  have h0 : RWBlk t (w.setCell ⟨q, 0, none⟩ (.slice A' n' c')) q A' n' c' i := heap_setCell_same w q 0 _ t (.slice A' n' c') h
  exact h0.set1 i'
/-- What stands while an item is written. -/
structure CW (w W : World) (v : IV) (q g len : Nat) (ds : List Int) : Prop where
  below : Below w.heap.size w W
  res : IBlk W w.heap.size v
  st : CSt W q g len ds
  hg : w.heap.size < g
  hq : w.heap.size < q
section
variable {w W W' : World} {v : IV} {q g len : Nat} {ds ds' : List Int}
theorem CW.kp (p : CW w W v q g len ds) (st : CSt W' q g len ds') (k : Kp g q W W') : CW w W' v q g len ds' :=
  ⟨p.below.trans (k.below _ (Nat.le_of_lt p.hg) (Nat.le_of_lt p.hq)), k.iblk p.res (Nat.ne_of_lt p.hg) (Nat.ne_of_lt p.hq), st, p.hg, p.hq⟩
theorem CW.bel (p : CW w W v q g len ds) (hb : Below W.heap.size W W') : CW w W' v q g len ds := ⟨p.below.trans (hb.mono p.below.size), p.res.bel hb, p.st.bel hb, p.hg, p.hq⟩
theorem CW.put (p : CW w W v q g len ds) (s : Nat) (n : Int) (h1 : 1 ≤ s) (h2 : s ≤ 8) (hfit : ds.length + s ≤ len) (hn : 0 ≤ n) (hn2 : n ≤ 18446744073709551615) (hf : n < 256 ^ s) :
    Calls Try.prog 44 #[.pointer (some ⟨q, 0, none⟩), .int .i64 s, .int .u64 n] W fun e W' => e = .returned (.tuple #[]) ∧ CW w W' v q g len (ds ++ be s n) :=
  (cput_any W q g len ds s n p.st h1 h2 hfit hn hn2 hf).mono fun e W' ⟨he, h1, h2⟩ => ⟨he, p.kp h1 h2⟩
theorem CW.own (p : CW w W v q g len ds) (h : ds.length = len) : Own W w.heap.size (some ⟨g, 0, none⟩) ds.length len ds := by
  have hr := p.st.row
  rw [h, Nat.sub_self, zer, List.replicate_zero, List.append_nil] at hr
  rw [h]
  exact Own.of_blk hr (Nat.le_of_lt p.hg) p.st.ok h p.st.max
end
/-- What begin tells: a writer that has written ds. -/
def BegRet (w : World) (N : Nat) (ds : List Int) (e : Ending) (w' : World) : Prop :=
  ∃ g, e = .returned (.agg #[.slice (some ⟨g, 0, none⟩) N N, .int .i64 ds.length]) ∧ Blk w' g (ds ++ zer (N - ds.length)) [] ∧ w.heap.size ≤ g ∧ Below w.heap.size w w'
/-- The same, with the cell of begin's result. -/
structure BW (w W : World) (v : IV) (q g len : Nat) (ds : List Int) : Prop extends CW w W v q g len ds where
  ret : RWBlk 67 W (w.heap.size + 1) none 0 0 0
  hg1 : w.heap.size + 1 < g
  hq1 : w.heap.size + 1 < q
theorem BW.put {w W : World} {v : IV} {q g len : Nat} {ds : List Int} (p : BW w W v q g len ds) (s : Nat) (n : Int) (h1 : 1 ≤ s) (h2 : s ≤ 8) (hfit : ds.length + s ≤ len) (hn : 0 ≤ n) (hn2 : n ≤ 18446744073709551615) (hf : n < 256 ^ s) :
    Calls Try.prog 44 #[.pointer (some ⟨q, 0, none⟩), .int .i64 s, .int .u64 n] W fun e W' => e = .returned (.tuple #[]) ∧ BW w W' v q g len (ds ++ be s n) :=
  (cput_any W q g len ds s n p.st h1 h2 hfit hn hn2 hf).mono fun e W' ⟨he, h1, h2⟩ => ⟨he, p.toCW.kp h1 h2, (h2.keep _ p.ret.lt (Nat.ne_of_lt p.hg1) (Nat.ne_of_lt p.hq1)).trans p.ret, p.hg1, p.hq1⟩
theorem retB_at {W : World} {b n c : Nat} {A : Option Addr} {i : Int} {tmps : Array Value} {R : Ending → World → Prop} (D : RWBlk 67 W b A n c i) (hR : R (.returned (.agg #[.slice A n c, .int .i64 i])) W)
    (h2 : tmps[4]?.getD undef = .pointer (some ⟨b, 0, none⟩) := by rfl) :
    bodyPost Try.prog Try.f43 R .ret ⟨tmps, []⟩ W := by
  have c0 := D.c0
  have c1 := D.c1
  exact bodyPost_ret (v := .agg #[.slice A n c, .int .i64 i]) (by simp [results, Try.results43, go_sem, h2, c0, c1]) rfl hR
set_option maxRecDepth 100000 in
set_option maxHeartbeats 4000000 in
theorem begin_any (v : IV) (N m low : Nat) (w : World) (hN : N = 4 * (m + 1)) (hm : m ≤ 100) (hlow : low ≤ 31) (hk : 0 ≤ v.kind ∧ v.kind ≤ 255) (CS : Hid (∀ W, Below w.heap.size w W → Calls Try.prog 25 #[itm v] W (RetI W N))) :
    Calls Try.prog 43 #[itm v, .int .i64 low] w (BegRet w N ((be 1 (128 + low) ++ be 1 v.kind) ++ be 2 m)) := by
  obtain ⟨i0, hi0, hz0, hz1, hz2⟩ := info_parts info5
  have HB0 : Below w.heap.size w (w.alloc (iobj v)) := (Below.refl w.heap.size w).alloc (Nat.le_refl _) (iobj v)
  have hw1 : (w.alloc (iobj v)).heap.size = w.heap.size + 1 := by simp
  have HB : Hid (Below w.heap.size w ((w.alloc (iobj v)).alloc (.cells #[.slice none 0 0, .int .i64 0] 67))) := HB0.alloc (by omega) _
  have HD : Hid (IBlk ((w.alloc (iobj v)).alloc (.cells #[.slice none 0 0, .int .i64 0] 67)) w.heap.size v) := (IBlk.new w v).bel ((Below.refl _ _).alloc (Nat.le_refl _) _)
  have HRt : Hid (RWBlk 67 ((w.alloc (iobj v)).alloc (.cells #[.slice none 0 0, .int .i64 0] 67)) (w.heap.size + 1) none 0 0 0) := by have := RWBlk.new (t := 67) (w.alloc (iobj v)) none 0 0 0; rw [hw1] at this; exact this
  clear HB0 hw1
  have HN := Lib.hid hN
  have HK := Lib.hid hk
  have qn : IntKind.u64.wrap (128 + (low : Int)) = 128 + low := wrap_u64 _ ⟨by omega, by omega⟩
  have qk : IntKind.u64.wrap v.kind = v.kind := wrap_u64 _ ⟨hk.1, by omega⟩
  have qd : (N : Int).tdiv 4 = m + 1 := by rw [Int.tdiv_eq_ediv_of_nonneg (by omega)]; omega
  have qw : IntKind.i64.wrap ((m : Int) + 1 - 1) = m := by rw [IntWalk.i64_in _ (by omega)]; omega
  have qw2 : IntKind.u64.wrap (m : Int) = m := wrap_u64 _ ⟨by omega, by omega⟩
  have c0 := HD.out.c0
  have c1 := HD.out.c1
  have c2 := HD.out.c2
  have c3 := HD.out.c3
  have c4 := HD.out.c4
  have c5 := HD.out.c5
  have c6 := HD.out.c6
  have c7 := HD.out.c7
  have c8 := HD.out.c8
  have c9 := HD.out.c9
  clear hN hk
  go_enter Try.func43, Try.ntmps43
  go_wp2_with fail
  refine (CS.out _ HB.out).mono ?_
  rintro e w1 ⟨rfl, hb1⟩
  have HB1 := Lib.hid (HB.out.trans (hb1.mono HB.out.size))
  have HD1 := Lib.hid (HD.out.bel hb1)
  have HR1 := Lib.hid (HRt.out.bel hb1)
  clear hb1 CS HB HD HRt c0 c1 c2 c3 c4 c5 c6 c7 c8 c9
  go_wp2_with (at_make; refine wpList_make_full _ rfl _ _ 24 rfl w1.heap.size 5 i0 _ 1 Try.underlying24 hi0 hz0 hz1 .i64 .i64 _ _ N rfl rfl ?c1 ?c2 ?c3 ?c4 ?c5 ?_
               case c1 => omega
               case c2 => omega
               case c3 => rw [hz2]; have := HN.out; omega
               case c4 => unfold maxLen; have := HN.out; omega
               case c5 => exact Nat.le_refl _
               intro w2 hown hg2
               rw [bcells_zeros] at hown
               have HO := Lib.hid (own_blk hown rfl)
               have hb2 : Below w1.heap.size w1 w2 := (Below.refl _ _).grown hg2 (Nat.le_refl _) (by simp)
               have HD2 := Lib.hid (HD1.out.bel hb2)
               have HR2 := Lib.hid (HR1.out.bel hb2)
               have HQ1 := Lib.hid (show w.heap.size + 1 < w1.heap.size from HR1.out.lt)
               have HB2 := Lib.hid (HB1.out.trans (hb2.mono HB1.out.size))
               have HQ := Lib.hid (show w.heap.size < w1.heap.size from HD1.out.lt)
               clear hown hg2 hb2 HD1 HB1 HR1
               generalize w1.heap.size = g at *
               have P3 : BW w (w2.alloc (.cells #[.slice (some ⟨g, 0, none⟩) N N, .int .i64 0] 67)) v w2.heap.size g N [] := by
                 have hlt := HO.out.lt
                 have hb3 := (Below.refl w2.heap.size w2).alloc (Nat.le_refl _) (.cells #[.slice (some ⟨g, 0, none⟩) N N, .int .i64 0] 67)
                 exact ⟨⟨HB2.out.trans (hb3.mono HB2.out.size), HD2.out.bel hb3, ⟨Nat.zero_le _, Bytes.nil, by unfold maxLen; have := HN.out; omega, by omega, HO.out.alloc _, RWBlk.new w2 _ _ _ _⟩, HQ.out, HD2.out.lt⟩, HR2.out.bel hb3, HQ1.out, HR2.out.lt⟩
               have HP3 := Lib.hid P3
               clear P3 HO HD2 HB2 HQ HQ1 HR2)
  generalize w2.alloc (.cells #[.slice (some ⟨g, 0, none⟩) N N, .int .i64 0] 67) = w3 at *
  generalize w2.heap.size = q at *
  clear hi0 hz0 hz1 hz2
  refine (BW.put (ds := []) HP3.out 1 (128 + low) (by omega) (by omega) (by have := HN.out; simp only [List.length_nil]; omega) (by omega) (by omega) (by omega)).mono ?_
  rintro e w4 ⟨rfl, P4⟩
  have HP4 := Lib.hid P4
  have c0 := P4.res.c0
  clear HP3 P4
  go_wp2_with fail
  refine (BW.put (ds := ([] ++ be 1 (128 + low))) HP4.out 1 v.kind (by omega) (by omega) (by simp only [List.length_append, be_length, List.length_nil]; have := HN.out; omega) HK.out.1 (by have := HK.out.2; omega) (by have := HK.out.2; omega)).mono ?_
  rintro e w5 ⟨rfl, P5⟩
  have HP5 := Lib.hid P5
  have e0 := P5.st.wr.c0
  clear HP4 c0 P5
  go_wp2_with fail
  refine (BW.put (ds := (([] ++ be 1 (128 + low)) ++ be 1 v.kind)) HP5.out 2 m (by omega) (by omega) (by simp only [List.length_append, be_length, List.length_nil]; have := HN.out; omega) (by omega) (by omega) (by omega)).mono ?_
  rintro e w6 ⟨rfl, P6⟩
  have HP6 := Lib.hid P6
  have hlen : (([] ++ be 1 (128 + (low : Int)) ++ be 1 v.kind ++ be 2 (m : Int)).length : Int) = 4 := by simp [be_length]
  have e0' := P6.st.wr.c0
  have e1 := P6.st.wr.c1
  rw [hlen] at e1
  have r0 := P6.ret.c0
  have r1 := P6.ret.c1
  have z0 := P6.ret.frozen 0
  have z1 := P6.ret.frozen 1
  have D := Lib.hid (P6.ret.store (some ⟨g, 0, none⟩) N N 4)
  have hBel := Lib.hid ((P6.below.setCell (p := ⟨w.heap.size + 1, 0, none⟩) (Nat.le_succ _) (.slice (some ⟨g, 0, none⟩) N N)).setCell (p := ⟨w.heap.size + 1, 1, none⟩) (Nat.le_succ _) (.int .i64 4))
  clear HP5 P6 e0
  go_wp2
  refine retB_at D.out ⟨g, ?_, ?_, Nat.le_of_lt HP6.out.hg, hBel.out⟩
  · rw [show (((be 1 (128 + (low : Int)) ++ be 1 v.kind) ++ be 2 (m : Int)).length : Int) = 4 from by simp [be_length]]
  · have hne : g ≠ w.heap.size + 1 := Nat.ne_of_gt HP6.out.hg1
    have := HP6.out.st.row
    rw [List.nil_append] at this
    exact (Below.heap_setCell _ ⟨w.heap.size + 1, 1, none⟩ _ g hne).trans ((Below.heap_setCell _ ⟨w.heap.size + 1, 0, none⟩ _ g hne).trans this)
end Go.Proofs.Ytjbgfaoancmknaa.Fbk
