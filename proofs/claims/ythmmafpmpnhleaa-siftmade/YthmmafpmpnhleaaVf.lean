/- The contracts of rtcp's writer: put; begin. · The contracts of rtcp.farewell, question, bytesOf. · The contract of rtcp.bytesOf. -/
import Derived.Test.YthmmafpmpnhleaaVd
set_option maxRecDepth 100000
namespace Go.Proofs.Ythmmafpmpnhleaa.Fbk
open Go.RowKit
set_option linter.unusedVariables false

/-- A writer at q that has written ds into the first of len bytes at g. -/
structure CSt (w : World) (q g len : Nat) (ds : List Int) : Prop where
  le : ds.length ≤ len
  ok : Bytes ds
  max : len ≤ maxLen
  ne : g ≠ q
  row : Blk w g (ds ++ zer (len - ds.length)) []
  wr : RWBlk 140 w q (some ⟨g, 0, none⟩) len len ds.length
theorem CSt.bel {w w' : World} {q g len : Nat} {ds : List Int} (h : CSt w q g len ds) (hb : Below w.heap.size w w') : CSt w' q g len ds := ⟨h.le, h.ok, h.max, h.ne, h.row.below hb h.row.lt, h.wr.bel hb⟩
set_option maxHeartbeats 1000000 in
theorem cput_any (w : World) (q g len : Nat) (ds : List Int) (s : Nat) (n : Int) (st : CSt w q g len ds) (h1 : 1 ≤ s) (h2 : s ≤ 8) (hfit : ds.length + s ≤ len) (hn : 0 ≤ n) (hn2 : n ≤ 18446744073709551615) (hf : n < 256 ^ s) :
    Calls Try.prog 98 #[.pointer (some ⟨q, 0, none⟩), .int .i64 s, .int .u64 n] w fun e w' => e = .returned (.tuple #[]) ∧ CSt w' q g len (ds ++ be s n) ∧ Kp g q w w' := by
  have hmax := st.max
  have hwr := st.wr
  have hrow := st.row
  have hfb : fitsB s n = true := by simp [fitsB, hf]
  have CP : Hid (∀ W, w.heap.size ≤ W.heap.size → Blk W g (ds ++ zer (len - ds.length)) [] → Calls Try.prog 75 #[.slice (some ⟨g, 0, none⟩) len len, .int .i64 ds.length, .int .i64 s, .int .u64 n] W fun e w' => e = .returned (.bool true) ∧ Blk w' g (written (ds ++ zer (len - ds.length)) (0 + ds.length) s 0 n) [] ∧ W.grownBy w' (some g)) := fun W hW hk =>
    Fld.put_yes g 0 len len ds.length s n _ [] W hmax (Nat.le_refl _) hn hn2 (by simp [zer_len]; have := st.le; omega) hk h1 h2 hfit hfb
  have HST := Lib.hid st
  have hle : (ds.length : Int) + s ≤ 9223372036854775807 := by unfold maxLen at hmax; omega
  have hS : Srw 140 q (some ⟨g, 0, none⟩) len len ds.length w.drew := hwr
  have c0 : ∀ W, Srw 140 q (some ⟨g, 0, none⟩) len len ds.length W → W.cell? ⟨q, 0, none⟩ = some (.slice (some ⟨g, 0, none⟩) len len) := fun W h => h.c0
  have c1 : ∀ W, Srw 140 q (some ⟨g, 0, none⟩) len len ds.length W → W.cell? ⟨q, 1, none⟩ = some (.int .i64 ds.length) := fun W h => h.c1
  clear st hwr hfb hf hmax hrow
  go_enter Try.func98, Try.ntmps98
  go_wp2_with fail
  refine region_seq (Srw 140 q (some ⟨g, 0, none⟩) len len ds.length) [(0, false), (1, false), (2, false), (3, false), (4, false), (5, false), (6, false), (7, false), (8, false), (9, false), (10, true)] (by kernel_rfl) (by kernel_rfl) rfl (by kernel_rfl) ?_
  iterate 10 (refine seq_read (v := _) rfl (fun _ _ _ h => h) hS (Or.inl ⟨by rfl, fun W hW => by go_simp <;> with_reducible rfl⟩) ?_; simp only [Act.put, List.setIfInBounds_toArray, List.set_cons_zero, List.set_cons_succ])
  clear c0 c1
  refine seq_do rfl (fun K hK => ?_)
  go_simp
  refine (CP.out w.drew (Nat.le_refl _) HST.out.row).mono ?_
  rintro e w1 ⟨rfl, hk1, hg1⟩
  rw [Nat.zero_add, written_zer ds len s n hfit] at hk1
  have hw1 : RWBlk 140 w1 q (some ⟨g, 0, none⟩) len len ds.length := (hg1.block q HST.out.wr.lt (by simp [HST.out.ne.symm])).trans HST.out.wr
  refine hK.out _ _ _ (fun W h => h) hw1 ?_
  clear hK K
  refine seq_end ?_
  have d1 := hw1.c1
  have d2 := hw1.frozen 1
  have HK1 := Lib.hid hk1
  have HG1 := Lib.hid hg1
  have HW1 := Lib.hid hw1
  clear hk1 hg1 hw1 hS
  go_wp2
  go_end0
  refine ⟨rfl, ?_, ?_, ?_⟩
  · have hne := HST.out.ne
    have hl : (ds ++ be s n).length = ds.length + s := by rw [List.length_append, be_length]
    refine ⟨by omega, HST.out.ok.append (be_bytes _ _), HST.out.max, hne, ?_, ?_⟩
    · exact (Below.heap_setCell w1 ⟨q, 1, none⟩ _ g hne).trans HK1.out
    · rw [hl]; exact HW1.out.set1 _
  · intro B h1 h2
    exact (((Below.refl B w).drew.grown HG1.out (by have := HST.out.row.lt; simp; omega) (by rintro k h; injection h with h; omega)).setCell (p := ⟨q, 1, none⟩) h2 _)
  · intro i hi hg hq
    exact (Below.heap_setCell w1 ⟨q, 1, none⟩ _ i hq).trans (HG1.out.block i hi (by simp [hg]))
theorem RWBlk.store {t : TypeId} {w : World} {q n c : Nat} {A : Option Addr} {i : Int} (h : RWBlk t w q A n c i) (A' : Option Addr) (n' c' : Nat) (i' : Int) : RWBlk t ((w.setCell ⟨q, 0, none⟩ (.slice A' n' c')).setCell ⟨q, 1, none⟩ (.int .i64 i')) q A' n' c' i' := by
  have h0 : RWBlk t (w.setCell ⟨q, 0, none⟩ (.slice A' n' c')) q A' n' c' i := heap_setCell_same w q 0 _ t (.slice A' n' c') h
  exact h0.set1 i'
/-- What stands while an item is written. -/
structure CW (w W : World) (v : IV) (q g len : Nat) (ds : List Int) : Prop where
  below : Below w.heap.size w W
  res : IBlk W w.heap.size v
  st : CSt W q g len ds
  hg : w.heap.size < g
  hq : w.heap.size < q
section
variable {w W W' : World} {v : IV} {q g len : Nat} {ds ds' : List Int}
theorem CW.kp (p : CW w W v q g len ds) (st : CSt W' q g len ds') (k : Kp g q W W') : CW w W' v q g len ds' :=
  ⟨p.below.trans (k.below _ (Nat.le_of_lt p.hg) (Nat.le_of_lt p.hq)), k.iblk p.res (Nat.ne_of_lt p.hg) (Nat.ne_of_lt p.hq), st, p.hg, p.hq⟩
theorem CW.bel (p : CW w W v q g len ds) (hb : Below W.heap.size W W') : CW w W' v q g len ds := ⟨p.below.trans (hb.mono p.below.size), p.res.bel hb, p.st.bel hb, p.hg, p.hq⟩
theorem CW.put (p : CW w W v q g len ds) (s : Nat) (n : Int) (h1 : 1 ≤ s) (h2 : s ≤ 8) (hfit : ds.length + s ≤ len) (hn : 0 ≤ n) (hn2 : n ≤ 18446744073709551615) (hf : n < 256 ^ s) :
    Calls Try.prog 98 #[.pointer (some ⟨q, 0, none⟩), .int .i64 s, .int .u64 n] W fun e W' => e = .returned (.tuple #[]) ∧ CW w W' v q g len (ds ++ be s n) :=
  (cput_any W q g len ds s n p.st h1 h2 hfit hn hn2 hf).mono fun e W' ⟨he, h1, h2⟩ => ⟨he, p.kp h1 h2⟩
theorem CW.own (p : CW w W v q g len ds) (h : ds.length = len) : Own W w.heap.size (some ⟨g, 0, none⟩) ds.length len ds := by
  have hr := p.st.row
  rw [h, Nat.sub_self, zer, List.replicate_zero, List.append_nil] at hr
  rw [h]
  exact Own.of_blk hr (Nat.le_of_lt p.hg) p.st.ok h p.st.max
end
/-- What begin tells: a writer that has written ds. -/
def BegRet (w : World) (N : Nat) (ds : List Int) (e : Ending) (w' : World) : Prop :=
  ∃ g, e = .returned (.agg #[.slice (some ⟨g, 0, none⟩) N N, .int .i64 ds.length]) ∧ Blk w' g (ds ++ zer (N - ds.length)) [] ∧ w.heap.size ≤ g ∧ Below w.heap.size w w'
/-- The same, with the cell of begin's result. -/
structure BW (w W : World) (v : IV) (q g len : Nat) (ds : List Int) : Prop extends CW w W v q g len ds where
  ret : RWBlk 140 W (w.heap.size + 1) none 0 0 0
  hg1 : w.heap.size + 1 < g
  hq1 : w.heap.size + 1 < q
theorem BW.put {w W : World} {v : IV} {q g len : Nat} {ds : List Int} (p : BW w W v q g len ds) (s : Nat) (n : Int) (h1 : 1 ≤ s) (h2 : s ≤ 8) (hfit : ds.length + s ≤ len) (hn : 0 ≤ n) (hn2 : n ≤ 18446744073709551615) (hf : n < 256 ^ s) :
    Calls Try.prog 98 #[.pointer (some ⟨q, 0, none⟩), .int .i64 s, .int .u64 n] W fun e W' => e = .returned (.tuple #[]) ∧ BW w W' v q g len (ds ++ be s n) :=
  (cput_any W q g len ds s n p.st h1 h2 hfit hn hn2 hf).mono fun e W' ⟨he, h1, h2⟩ => ⟨he, p.toCW.kp h1 h2, (h2.keep _ p.ret.lt (Nat.ne_of_lt p.hg1) (Nat.ne_of_lt p.hq1)).trans p.ret, p.hg1, p.hq1⟩
theorem retB_at {W : World} {b n c : Nat} {A : Option Addr} {i : Int} {tmps : Array Value} {R : Ending → World → Prop} (D : RWBlk 140 W b A n c i) (hR : R (.returned (.agg #[.slice A n c, .int .i64 i])) W)
    (h2 : tmps[4]?.getD undef = .pointer (some ⟨b, 0, none⟩) := by rfl) :
    bodyPost Try.prog Try.f97 R .ret ⟨tmps, []⟩ W := by
  have c0 := D.c0
  have c1 := D.c1
  exact bodyPost_ret (v := .agg #[.slice A n c, .int .i64 i]) (by simp [results, Try.results97, go_sem, h2, c0, c1]) rfl hR
set_option maxRecDepth 100000 in
set_option maxHeartbeats 4000000 in
theorem begin_any (v : IV) (N m low : Nat) (w : World) (hN : N = 4 * (m + 1)) (hm : m ≤ 100) (hlow : low ≤ 31) (hk : 0 ≤ v.kind ∧ v.kind ≤ 255) (CS : Hid (∀ W, Below w.heap.size w W → Calls Try.prog 77 #[itm v] W (RetI W N))) :
    Calls Try.prog 97 #[itm v, .int .i64 low] w (BegRet w N ((be 1 (128 + low) ++ be 1 v.kind) ++ be 2 m)) := by
  obtain ⟨i0, hi0, hz0, hz1, hz2⟩ := info_parts info5
  have HB0 : Below w.heap.size w (w.alloc (iobj v)) := (Below.refl w.heap.size w).alloc (Nat.le_refl _) (iobj v)
  have hw1 : (w.alloc (iobj v)).heap.size = w.heap.size + 1 := by simp
  have HB : Hid (Below w.heap.size w ((w.alloc (iobj v)).alloc (.cells #[.slice none 0 0, .int .i64 0] 140))) := HB0.alloc (by omega) _
  have HD : Hid (IBlk ((w.alloc (iobj v)).alloc (.cells #[.slice none 0 0, .int .i64 0] 140)) w.heap.size v) := (IBlk.new w v).bel ((Below.refl _ _).alloc (Nat.le_refl _) _)
  have HRt : Hid (RWBlk 140 ((w.alloc (iobj v)).alloc (.cells #[.slice none 0 0, .int .i64 0] 140)) (w.heap.size + 1) none 0 0 0) := by have := RWBlk.new (t := 140) (w.alloc (iobj v)) none 0 0 0; rw [hw1] at this; exact this
  clear HB0 hw1
  have HN := Lib.hid hN
  have HK := Lib.hid hk
  have qn : IntKind.u64.wrap (128 + (low : Int)) = 128 + low := wrap_u64 _ ⟨by omega, by omega⟩
  have qk : IntKind.u64.wrap v.kind = v.kind := wrap_u64 _ ⟨hk.1, by omega⟩
  have qd : (N : Int).tdiv 4 = m + 1 := by rw [Int.tdiv_eq_ediv_of_nonneg (by omega)]; omega
  have qw : IntKind.i64.wrap ((m : Int) + 1 - 1) = m := by rw [IntWalk.i64_in _ (by omega)]; omega
  have qw2 : IntKind.u64.wrap (m : Int) = m := wrap_u64 _ ⟨by omega, by omega⟩
  obtain ⟨c0, c1, c2, c3, c4, c5, c6, c7, c8, c9⟩ := HD.out.cells
  clear hN hk
  go_enter Try.func97, Try.ntmps97
  go_wp2_with fail
  refine (CS.out _ HB.out).mono ?_
  rintro e w1 ⟨rfl, hb1⟩
  have HB1 := Lib.hid (HB.out.trans (hb1.mono HB.out.size))
  have HD1 := Lib.hid (HD.out.bel hb1)
  have HR1 := Lib.hid (HRt.out.bel hb1)
  clear hb1 CS HB HD HRt c0 c1 c2 c3 c4 c5 c6 c7 c8 c9
  go_wp2_with (at_make; refine wpList_make_full _ rfl _ _ 22 rfl w1.heap.size 5 i0 _ 1 Try.underlying22 hi0 hz0 hz1 .i64 .i64 _ _ N rfl rfl ?c1 ?c2 ?c3 ?c4 ?c5 ?_
               case c1 => omega
               case c2 => omega
               case c3 => rw [hz2]; have := HN.out; omega
               case c4 => unfold maxLen; have := HN.out; omega
               case c5 => exact Nat.le_refl _
               intro w2 hown hg2
               rw [bcells_zeros] at hown
               have HO := Lib.hid (own_blk hown rfl)
               have hb2 : Below w1.heap.size w1 w2 := (Below.refl _ _).grown hg2 (Nat.le_refl _) (by simp)
               have HD2 := Lib.hid (HD1.out.bel hb2)
               have HR2 := Lib.hid (HR1.out.bel hb2)
               have HQ1 := Lib.hid (show w.heap.size + 1 < w1.heap.size from HR1.out.lt)
               have HB2 := Lib.hid (HB1.out.trans (hb2.mono HB1.out.size))
               have HQ := Lib.hid (show w.heap.size < w1.heap.size from HD1.out.lt)
               clear hown hg2 hb2 HD1 HB1 HR1
               generalize w1.heap.size = g at *
               have P3 : BW w (w2.alloc (.cells #[.slice (some ⟨g, 0, none⟩) N N, .int .i64 0] 140)) v w2.heap.size g N [] := by
                 have hlt := HO.out.lt
                 have hb3 := (Below.refl w2.heap.size w2).alloc (Nat.le_refl _) (.cells #[.slice (some ⟨g, 0, none⟩) N N, .int .i64 0] 140)
                 exact ⟨⟨HB2.out.trans (hb3.mono HB2.out.size), HD2.out.bel hb3, ⟨Nat.zero_le _, Bytes.nil, by unfold maxLen; have := HN.out; omega, by omega, HO.out.alloc _, RWBlk.new w2 _ _ _ _⟩, HQ.out, HD2.out.lt⟩, HR2.out.bel hb3, HQ1.out, HR2.out.lt⟩
               have HP3 := Lib.hid P3
               clear P3 HO HD2 HB2 HQ HQ1 HR2)
  generalize w2.alloc (.cells #[.slice (some ⟨g, 0, none⟩) N N, .int .i64 0] 140) = w3 at *
  generalize w2.heap.size = q at *
  clear hi0 hz0 hz1 hz2
  refine (BW.put (ds := []) HP3.out 1 (128 + low) (by omega) (by omega) (by have := HN.out; simp only [List.length_nil]; omega) (by omega) (by omega) (by omega)).mono ?_
  rintro e w4 ⟨rfl, P4⟩
  have HP4 := Lib.hid P4
  have c0 := P4.res.c0
  clear HP3 P4
  go_wp2_with fail
  refine (BW.put (ds := ([] ++ be 1 (128 + low))) HP4.out 1 v.kind (by omega) (by omega) (by simp only [List.length_append, be_length, List.length_nil]; have := HN.out; omega) HK.out.1 (by have := HK.out.2; omega) (by have := HK.out.2; omega)).mono ?_
  rintro e w5 ⟨rfl, P5⟩
  have HP5 := Lib.hid P5
  have e0 := P5.st.wr.c0
  clear HP4 c0 P5
  go_wp2_with fail
  refine (BW.put (ds := (([] ++ be 1 (128 + low)) ++ be 1 v.kind)) HP5.out 2 m (by omega) (by omega) (by simp only [List.length_append, be_length, List.length_nil]; have := HN.out; omega) (by omega) (by omega) (by omega)).mono ?_
  rintro e w6 ⟨rfl, P6⟩
  have HP6 := Lib.hid P6
  have hlen : (([] ++ be 1 (128 + (low : Int)) ++ be 1 v.kind ++ be 2 (m : Int)).length : Int) = 4 := by simp [be_length]
  have e0' := P6.st.wr.c0
  have e1 := P6.st.wr.c1
  rw [hlen] at e1
  have r0 := P6.ret.c0
  have r1 := P6.ret.c1
  have z0 := P6.ret.frozen 0
  have z1 := P6.ret.frozen 1
  have D := Lib.hid (P6.ret.store (some ⟨g, 0, none⟩) N N 4)
  have hBel := Lib.hid ((P6.below.setCell (p := ⟨w.heap.size + 1, 0, none⟩) (Nat.le_succ _) (.slice (some ⟨g, 0, none⟩) N N)).setCell (p := ⟨w.heap.size + 1, 1, none⟩) (Nat.le_succ _) (.int .i64 4))
  clear HP5 P6 e0
  go_wp2
  refine retB_at D.out ⟨g, ?_, ?_, Nat.le_of_lt HP6.out.hg, hBel.out⟩
  · rw [show (((be 1 (128 + (low : Int)) ++ be 1 v.kind) ++ be 2 (m : Int)).length : Int) = 4 from by simp [be_length]]
  · have hne : g ≠ w.heap.size + 1 := Nat.ne_of_gt HP6.out.hg1
    have := HP6.out.st.row
    rw [List.nil_append] at this
    exact (Below.heap_setCell _ ⟨w.heap.size + 1, 1, none⟩ _ g hne).trans ((Below.heap_setCell _ ⟨w.heap.size + 1, 0, none⟩ _ g hne).trans this)
end Go.Proofs.Ythmmafpmpnhleaa.Fbk

namespace Go.Proofs.Ythmmafpmpnhleaa.Fbk
open Go.RowKit
set_option linter.unusedVariables false

theorem cbes_snoc (l : List Int) (x : Int) : bes (l ++ [x]) = bes l ++ be 4 x := by
  induction l with
  | nil => simp [bes]
  | cons y r ih => simp [bes, ih]
theorem cpairs_snoc (l : List (Int × Int)) (x : Int × Int) : pairsB (l ++ [x]) = (pairsB l ++ be 2 x.1) ++ be 2 x.2 := by
  induction l with
  | nil => simp [pairsB]
  | cons y r ih => simp [pairsB, ih]
theorem cbes_bytes4 (xs : List Int) : Bytes (bes xs) := bes_bytes xs
/-- What stands behind begin. -/
theorem CW.new {w w1 : World} {v : IV} {g N : Nat} {z : List Int} (HB : Below w.heap.size w (w.alloc (iobj v))) (hk : Blk w1 g (z ++ zer (N - z.length)) []) (hg : (w.alloc (iobj v)).heap.size ≤ g) (hb : Below (w.alloc (iobj v)).heap.size (w.alloc (iobj v)) w1) (hz : z.length ≤ N) (hzb : Bytes z) (hN : N ≤ maxLen) (i : Int) (hi : i = z.length) :
    CW w (w1.alloc (.cells #[.slice (some ⟨g, 0, none⟩) N N, .int .i64 i] 140)) v w1.heap.size g N z := by
  subst hi
  have hb3 := (Below.refl w1.heap.size w1).alloc (Nat.le_refl _) (.cells #[.slice (some ⟨g, 0, none⟩) N N, .int .i64 z.length] 140)
  have hs : (w.alloc (iobj v)).heap.size = w.heap.size + 1 := by simp
  have hlt := hk.lt
  have h1 := HB.trans (hb.mono HB.size)
  exact ⟨h1.trans (hb3.mono h1.size), ((IBlk.new w v).bel hb).bel hb3, ⟨hz, hzb, hN, by omega, hk.alloc _, RWBlk.new w1 _ _ _ _⟩, by omega, by omega⟩
set_option maxRecDepth 100000 in
set_option maxHeartbeats 4000000 in
theorem farewell_any (v : IV) (B n N : Nat) (xs : List Int) (w : World) (hkind : v.kind = 203) (hgn : v.gn = n) (h1 : 1 ≤ n) (h15 : n ≤ 15) (hN : N = 4 * (n + 1)) (hr : Wd w B v.ga n xs) (hB : B ≤ w.heap.size) (hx : ∀ x ∈ xs, U32 x)
    (CS : Hid (∀ W, Below w.heap.size w W → Calls Try.prog 77 #[itm v] W (RetI W N))) (ys : List Int)
    (hys : Hid (ys = ((be 1 (128 + n) ++ be 1 203) ++ be 2 n) ++ bes xs)) :
    Calls Try.prog 78 #[itm v] w (NewRow w ys) := by
  have HB : Hid (Below w.heap.size w (w.alloc (iobj v))) := (Below.refl w.heap.size w).alloc (Nat.le_refl _) (iobj v)
  have HD : Hid (IBlk (w.alloc (iobj v)) w.heap.size v) := IBlk.new w v
  have HK := Lib.hid hkind
  have HR := Lib.hid hr
  have HX := Lib.hid hx
  have HG := Lib.hid hgn
  have HN := Lib.hid hN
  have CB : Hid (∀ W, Below w.heap.size w W → Calls Try.prog 97 #[itm v, .int .i64 v.gn] W (BegRet W N ((be 1 (128 + n) ++ be 1 v.kind) ++ be 2 n))) := fun W hW => by rw [hgn]; exact begin_any v N n n W hN (by omega) (by omega) (by omega) (fun W' hW' => CS.out W' (hW.trans (hW'.mono hW.size)))
  obtain ⟨c0, c1, c2, c3, c4, c5, c6, c7, c8, c9⟩ := HD.out.cells
  clear hkind hr hx hgn hN
  go_enter Try.func78, Try.ntmps78
  go_wp2_with fail
  refine (CB.out _ HB.out).mono ?_
  rintro e w1 ⟨g, rfl, hk1, hg1, hb1⟩
  obtain ⟨z, hz⟩ : ∃ z, z = (be 1 (128 + (n : Int)) ++ be 1 v.kind) ++ be 2 (n : Int) := ⟨_, rfl⟩
  rw [← hz] at hk1
  have hzl : z.length = 4 := by rw [hz]; simp only [List.length_append, be_length]
  have P := CW.new HB.out hk1 hg1 hb1 (by rw [hzl]; have := HN.out; omega) (by rw [hz]; exact ((be_bytes _ _).append (be_bytes _ _)).append (be_bytes _ _)) (by unfold maxLen; have := HN.out; omega) 4 (by rw [hzl]; rfl)
  have HP := Lib.hid P
  have HZ := Lib.hid (show ys = z ++ bes xs from by rw [hz, hys.out, HK.out])
  have HZL := Lib.hid hzl
  rw [← hz, hzl]
  have c7 := P.res.c7
  rw [HG.out] at c7
  clear P hk1 hg1 hb1 hz hzl hys CB CS HB HD c0 c1 c2 c3 c4 c5 c6 c8 c9
  go_wp2
  clear c7
  go_loopw [14] (fun sk wx => ∃ k : Nat, k ≤ n ∧ sk = .int .i64 k ∧ Hid (CW w wx v w1.heap.size g N (z ++ bes (xs.take k)))) (fun sk _ => n - (intOf sk).toNat)
  case atStart => exact ⟨0, by omega, rfl, by rw [List.take_zero, bes, List.append_nil]; exact HP.out⟩
  case round =>
    obtain ⟨k, hk, rfl, hP⟩ := hrel
    rename World => wx
    by_cases hlt : k < n
    · obtain ⟨b, off, ea, hbB, hx⟩ := (HR.out.below (hP.out.below.mono hB)).2.2 (by omega)
      have hxl := HR.out.1
      have x0 := hx k hlt
      have hgx : xs[k]? = some (xs.getD k 0) := by rw [List.getD_eq_getElem?_getD, List.getElem?_eq_getElem (by omega)]; rfl
      have hu := HX.out _ (List.mem_of_getElem? hgx)
      generalize xs.getD k 0 = x at *
      have HU := Lib.hid hu
      have qx : IntKind.u64.wrap x = x := wrap_u64 _ ⟨hu.1, by have := hu.2; omega⟩
      have HT := Lib.hid (show bes (xs.take (k + 1)) = bes (xs.take k) ++ be 4 x from by rw [List.take_add_one, hgx]; exact cbes_snoc _ _)
      clear hx hgx hu HP
      rw [ea]
      go_wp2_with fail
      refine (CW.put hP.out 4 x (by omega) (by omega) (by rw [List.length_append, HZL.out, bes_length, List.length_take, hxl, HN.out]; omega) HU.out.1 (by have := HU.out.2; omega) (by have := HU.out.2; omega)).mono ?_
      rintro e w9 ⟨rfl, P9⟩
      rw [List.append_assoc, ← HT.out] at P9
      have HP9 := Lib.hid P9
      clear P9
      go_wp2
      go_roundw
      case rel => exact ⟨k + 1, by omega, by go_num, HP9⟩
      case measure => simp [intOf]; omega
    · obtain rfl : k = n := by omega
      have e0 := hP.out.st.wr.c0
      clear HP
      go_wp2
      go_ret
      have ht : xs.take k = xs := List.take_of_length_le (by rw [HR.out.1]; exact Nat.le_refl _)
      have hP := hP.out
      rw [ht, ← HZ.out] at hP
      have hl : ys.length = N := by rw [HZ.out, List.length_append, HZL.out, bes_length, HR.out.1, HN.out]; omega
      exact ⟨some ⟨g, 0, none⟩, N, by rw [hl]; rfl, hP.own hl, hP.below⟩
theorem CW.putk {w W : World} {v : IV} {q g len : Nat} {ds : List Int} (p : CW w W v q g len ds) (s : Nat) (n : Int) (h1 : 1 ≤ s) (h2 : s ≤ 8) (hfit : ds.length + s ≤ len) (hn : 0 ≤ n) (hn2 : n ≤ 18446744073709551615) (hf : n < 256 ^ s) :
    Calls Try.prog 98 #[.pointer (some ⟨q, 0, none⟩), .int .i64 s, .int .u64 n] W fun e W' => e = .returned (.tuple #[]) ∧ CW w W' v q g len (ds ++ be s n) ∧ Kp g q W W' :=
  (cput_any W q g len ds s n p.st h1 h2 hfit hn hn2 hf).mono fun e W' ⟨he, h1, h2⟩ => ⟨he, p.kp h1 h2, h2⟩
theorem Kp.prblk {g q b : Nat} {w w' : World} {x : Int × Int} (h : Kp g q w w') (k : PrBlk w b x) (hg : b ≠ g) (hq : b ≠ q) : PrBlk w' b x := (h.keep b (lt_of_some k) hg hq).trans k
set_option maxRecDepth 100000 in
set_option maxHeartbeats 8000000 in
theorem question_any (v : IV) (B n N : Nat) (xs : List (Int × Int)) (w : World) (hkind : v.kind = 205 ∨ v.kind = 206) (hpn : v.pn = n) (h15 : n ≤ 16) (hN : N = 4 * ((2 + n) + 1)) (hr : RowRd pairL w B v.pa n xs) (hB : B ≤ w.heap.size) (hx : ∀ x ∈ xs, U16 x.1 ∧ U16 x.2)
    (h1 : U32 v.ssrc) (h2 : U32 v.media)
    (CS : Hid (∀ W, Below w.heap.size w W → Calls Try.prog 77 #[itm v] W (RetI W N))) (ys : List Int)
    (hys : Hid (ys = ((((be 1 129 ++ be 1 v.kind) ++ be 2 ((2 + n : Nat) : Int)) ++ be 4 v.ssrc) ++ be 4 v.media) ++ pairsB xs)) :
    Calls Try.prog 79 #[itm v] w (NewRow w ys) := by
  have HB : Hid (Below w.heap.size w (w.alloc (iobj v))) := (Below.refl w.heap.size w).alloc (Nat.le_refl _) (iobj v)
  have HD : Hid (IBlk (w.alloc (iobj v)) w.heap.size v) := IBlk.new w v
  have HR := Lib.hid hr
  have HX := Lib.hid hx
  have HG := Lib.hid hpn
  have HN := Lib.hid hN
  have H1 := Lib.hid h1
  have H2 := Lib.hid h2
  have CB : Hid (∀ W, Below w.heap.size w W → Calls Try.prog 97 #[itm v, .int .i64 1] W (BegRet W N ((be 1 129 ++ be 1 v.kind) ++ be 2 ((2 + n : Nat) : Int)))) := fun W hW => begin_any v N (2 + n) 1 W hN (by omega) (by omega) (by omega) (fun W' hW' => CS.out W' (hW.trans (hW'.mono hW.size)))
  have qs : IntKind.u64.wrap v.ssrc = v.ssrc := wrap_u64 _ ⟨h1.1, by have := h1.2; omega⟩
  have qm : IntKind.u64.wrap v.media = v.media := wrap_u64 _ ⟨h2.1, by have := h2.2; omega⟩
  obtain ⟨c0, c1, c2, c3, c4, c5, c6, c7, c8, c9⟩ := HD.out.cells
  clear hkind hr hx hpn hN h1 h2
  go_enter Try.func79, Try.ntmps79
  go_wp2_with fail
  refine (CB.out _ HB.out).mono ?_
  rintro e w1 ⟨g, rfl, hk1, hg1, hb1⟩
  obtain ⟨z, hz⟩ : ∃ z, z = (be 1 129 ++ be 1 v.kind) ++ be 2 ((2 + n : Nat) : Int) := ⟨_, rfl⟩
  rw [← hz] at hk1
  have hzl : z.length = 4 := by rw [hz]; simp only [List.length_append, be_length]
  have P := CW.new HB.out hk1 hg1 hb1 (by rw [hzl]; have := HN.out; omega) (by rw [hz]; exact ((be_bytes _ _).append (be_bytes _ _)).append (be_bytes _ _)) (by unfold maxLen; have := HN.out; omega) 4 (by rw [hzl]; rfl)
  have HP := Lib.hid P
  have HZ0 := Lib.hid hz
  have HZL := Lib.hid hzl
  rw [← hz, hzl]
  clear c0 c1 c2 c3 c4 c5 c6 c7 c8 c9
  have c1 := P.res.c1
  clear P hk1 hg1 hb1 hz hzl CB CS HB HD
  go_wp2_with fail
  refine (CW.put HP.out 4 v.ssrc (by omega) (by omega) (by rw [HZL.out, HN.out]; omega) H1.out.1 (by have := H1.out.2; omega) (by have := H1.out.2; omega)).mono ?_
  rintro e w2 ⟨rfl, P2⟩
  have HP2 := Lib.hid P2
  clear HP c1
  have c8 := P2.res.c8
  clear P2
  go_wp2_with fail
  refine (CW.put HP2.out 4 v.media (by omega) (by omega) (by rw [List.length_append, be_length, HZL.out, HN.out]; omega) H2.out.1 (by have := H2.out.2; omega) (by have := H2.out.2; omega)).mono ?_
  rintro e w3 ⟨rfl, P3⟩
  obtain ⟨y, hy⟩ : ∃ y, y = (z ++ be 4 v.ssrc) ++ be 4 v.media := ⟨_, rfl⟩
  rw [← hy] at P3
  have HP3 := Lib.hid P3
  have HZ := Lib.hid (show ys = y ++ pairsB xs from by rw [hy, HZ0.out, hys.out])
  have HYL := Lib.hid (show y.length = 12 from by rw [hy, List.length_append, List.length_append, be_length, be_length, HZL.out])
  clear HP2 c8
  have c9 := P3.res.c9
  rw [HG.out] at c9
  clear P3 hy hys HZ0 HZL
  generalize w1.heap.size = q at *
  clear qs qm
  go_wp2
  clear c9
  go_loopw [19] (fun sk wx => ∃ k : Nat, k ≤ n ∧ sk = .int .i64 k ∧ Hid (CW w wx v q g N (y ++ pairsB (xs.take k)))) (fun sk _ => n - (intOf sk).toNat)
  case atStart => exact ⟨0, by omega, rfl, by rw [List.take_zero, pairsB, List.append_nil]; exact HP3.out⟩
  case round =>
    obtain ⟨k, hk, rfl, hP⟩ := hrel
    rename World => wx
    by_cases hlt : k < n
    · obtain ⟨b, off, x, ea, hbB, hx, d0, d1⟩ := pair_at (HR.out.below (hP.out.below.mono hB)) hlt
      have hxl := HR.out.1
      have hu := HX.out _ (List.mem_of_getElem? hx)
      have HT := Lib.hid (show pairsB (xs.take (k + 1)) = (pairsB (xs.take k) ++ be 2 x.1) ++ be 2 x.2 from by rw [List.take_add_one, hx]; exact cpairs_snoc _ _)
      obtain ⟨x0, x1⟩ := x
      simp only at d0 d1 hu HT
      have HU := Lib.hid hu
      have q0 : IntKind.u64.wrap x0 = x0 := wrap_u64 _ ⟨hu.1.1, by have := hu.1.2; omega⟩
      have q1 : IntKind.u64.wrap x1 = x1 := wrap_u64 _ ⟨hu.2.1, by have := hu.2.2; omega⟩
      have HA : Hid (CW w (wx.alloc (pairO (x0, x1))) v q g N (y ++ pairsB (xs.take k))) := hP.out.bel ((Below.refl _ _).alloc (Nat.le_refl _) _)
      have HE : Hid (PrBlk (wx.alloc (pairO (x0, x1))) wx.heap.size (x0, x1)) := PrBlk.new wx (x0, x1)
      have hne : wx.heap.size ≠ g ∧ wx.heap.size ≠ q := ⟨Nat.ne_of_gt hP.out.st.row.lt, Nat.ne_of_gt hP.out.st.wr.lt⟩
      have HNE := Lib.hid hne
      have e0 := HE.out.c0
      have e1 := HE.out.c1
      have HL : Hid ((pairsB (xs.take k)).length = 4 * k) := by show (pairsB (xs.take k)).length = 4 * k; rw [pairsB_length, List.length_take]; omega
      clear hx hu HP3 hP hne
      rw [ea]
      go_wp2_with fail
      refine (CW.putk HA.out 2 x0 (by omega) (by omega) (by rw [List.length_append, HYL.out, HL.out, HN.out]; omega) HU.out.1.1 (by have := HU.out.1.2; omega) (by have := HU.out.1.2; omega)).mono ?_
      rintro e w8 ⟨rfl, P8, kp8⟩
      have HP8 := Lib.hid P8
      have HE8 := Lib.hid (kp8.prblk HE.out HNE.out.1 HNE.out.2)
      clear P8 kp8 HE HA e0 e1
      have e1 := HE8.out.c1
      go_wp2_with fail
      refine (CW.putk HP8.out 2 x1 (by omega) (by omega) (by simp only [List.length_append, be_length, HYL.out, HL.out, HN.out]; omega) HU.out.2.1 (by have := HU.out.2.2; omega) (by have := HU.out.2.2; omega)).mono ?_
      rintro e w9 ⟨rfl, P9, kp9⟩
      rw [List.append_assoc, List.append_assoc, ← List.append_assoc (pairsB _), ← HT.out] at P9
      have HP9 := Lib.hid P9
      clear P9 kp9 HP8 HE8 e1
      go_wp2
      go_roundw
      case rel => exact ⟨k + 1, by omega, by go_num, HP9⟩
      case measure => simp [intOf]; omega
    · obtain rfl : k = n := by omega
      have e0 := hP.out.st.wr.c0
      clear HP3
      go_wp2
      go_ret
      have ht : xs.take k = xs := List.take_of_length_le (by rw [HR.out.1]; exact Nat.le_refl _)
      have hP := hP.out
      rw [ht, ← HZ.out] at hP
      have hl : ys.length = N := by rw [HZ.out, List.length_append, HYL.out, pairsB_length, HR.out.1, HN.out]; omega
      exact ⟨some ⟨g, 0, none⟩, N, by rw [hl]; rfl, hP.own hl, hP.below⟩
end Go.Proofs.Ythmmafpmpnhleaa.Fbk

namespace Go.Proofs.Ythmmafpmpnhleaa.Fbk
open Go.RowKit
set_option linter.unusedVariables false

theorem own_low {w : World} {base base' n c : Nat} {A : Option Addr} {xs : List Int} (h : Own w base A n c xs) (hb : base' ≤ base) : Own w base' A n c xs := by
  obtain ⟨h1, h2, h3, h4, h5⟩ := h
  refine ⟨h1, h2, h3, h4, ?_⟩
  rcases h5 with h | ⟨g, T, e, hg, r⟩
  · exact .inl h
  · exact .inr ⟨g, T, e, Nat.le_trans hb hg, r⟩
set_option maxHeartbeats 1000000 in
theorem bytes_203 (ssrc ntp time pks ocs : Int) (ba : Option Addr) (bn bc : Nat) (ga : Option Addr) (gn gc : Nat) (media : Int) (pa : Option Addr) (pn pc : Nat) (w : World) (ys : List Int)
    (CF : Hid (∀ W, Below w.heap.size w W → Calls Try.prog 78 #[itm ⟨203, ssrc, ntp, time, pks, ocs, ba, bn, bc, ga, gn, gc, media, pa, pn, pc⟩] W (NewRow W ys))) :
    Calls Try.prog 53 #[itm ⟨203, ssrc, ntp, time, pks, ocs, ba, bn, bc, ga, gn, gc, media, pa, pn, pc⟩] w (NewRow w ys) := by
  have HB := Lib.hid ((Below.refl w.heap.size w).alloc (Nat.le_refl _) (iobj ⟨203, ssrc, ntp, time, pks, ocs, ba, bn, bc, ga, gn, gc, media, pa, pn, pc⟩))
  have D := IBlk.new w ⟨203, ssrc, ntp, time, pks, ocs, ba, bn, bc, ga, gn, gc, media, pa, pn, pc⟩
  obtain ⟨c0, c1, c2, c3, c4, c5, c6, c7, c8, c9⟩ := D.cells
  clear D
  go_enter Try.func53, Try.ntmps53
  go_wp2_with fail
  refine (CF.out _ HB.out).mono ?_
  rintro e w2 ⟨A, c, rfl, ho, hb2⟩
  have HB2 := Lib.hid (HB.out.trans (hb2.mono HB.out.size))
  have HO := Lib.hid (own_low ho HB.out.size)
  clear hb2 ho c0 c1 c2 c3 c4 c5 c6 c7 c8 c9
  go_wp2
  go_ret
  exact ⟨A, c, rfl, HO.out, HB2.out⟩
set_option maxHeartbeats 1000000 in
theorem bytes_205 (K : Int) (hK : K = 205 ∨ K = 206) (ssrc ntp time pks ocs : Int) (ba : Option Addr) (bn bc : Nat) (ga : Option Addr) (gn gc : Nat) (media : Int) (pa : Option Addr) (pn pc : Nat) (w : World) (ys : List Int)
    (CF : Hid (∀ W, Below w.heap.size w W → Calls Try.prog 79 #[itm ⟨K, ssrc, ntp, time, pks, ocs, ba, bn, bc, ga, gn, gc, media, pa, pn, pc⟩] W (NewRow W ys))) :
    Calls Try.prog 53 #[itm ⟨K, ssrc, ntp, time, pks, ocs, ba, bn, bc, ga, gn, gc, media, pa, pn, pc⟩] w (NewRow w ys) := by
  rcases hK with rfl | rfl
  case' inl =>
    have HB := Lib.hid ((Below.refl w.heap.size w).alloc (Nat.le_refl _) (iobj ⟨205, ssrc, ntp, time, pks, ocs, ba, bn, bc, ga, gn, gc, media, pa, pn, pc⟩))
    have D := IBlk.new w ⟨205, ssrc, ntp, time, pks, ocs, ba, bn, bc, ga, gn, gc, media, pa, pn, pc⟩
  case' inr =>
    have HB := Lib.hid ((Below.refl w.heap.size w).alloc (Nat.le_refl _) (iobj ⟨206, ssrc, ntp, time, pks, ocs, ba, bn, bc, ga, gn, gc, media, pa, pn, pc⟩))
    have D := IBlk.new w ⟨206, ssrc, ntp, time, pks, ocs, ba, bn, bc, ga, gn, gc, media, pa, pn, pc⟩
  all_goals
    obtain ⟨c0, c1, c2, c3, c4, c5, c6, c7, c8, c9⟩ := D.cells
    clear D
    go_enter Try.func53, Try.ntmps53
    go_wp2_with fail
    refine (CF.out _ HB.out).mono ?_
    rintro e w2 ⟨A, c, rfl, ho, hb2⟩
    have HB2 := Lib.hid (HB.out.trans (hb2.mono HB.out.size))
    have HO := Lib.hid (own_low ho HB.out.size)
    clear hb2 ho c0 c1 c2 c3 c4 c5 c6 c7 c8 c9
    go_wp2
    go_ret
    exact ⟨A, c, rfl, HO.out, HB2.out⟩
set_option maxHeartbeats 1000000 in
theorem bytes_rest (v : IV) (ys : List Int) (n : Int) (w : World) (k2 : ¬ v.kind = 203) (k3 : ¬ v.kind = 205) (k4 : ¬ v.kind = 206) (CM : Hid (∀ W, Below w.heap.size w W → Calls Try.prog 80 #[itm v] W (RetR W ys n))) :
    Calls Try.prog 53 #[itm v] w (NewRow w ys) := by
  have b2 : (v.kind == 203) = false := by simpa using k2
  have b3 : (v.kind == 205) = false := by simpa using k3
  have b4 : (v.kind == 206) = false := by simpa using k4
  have HB := Lib.hid ((Below.refl w.heap.size w).alloc (Nat.le_refl _) (iobj v))
  have D := IBlk.new w v
  obtain ⟨c0, c1, c2, c3, c4, c5, c6, c7, c8, c9⟩ := D.cells
  clear D
  go_enter Try.func53, Try.ntmps53
  go_wp2_with fail
  refine (CM.out _ HB.out).mono ?_
  rintro e w2 ⟨A, c, rfl, ho, hb2⟩
  have HB2 := Lib.hid (HB.out.trans (hb2.mono HB.out.size))
  have HO := Lib.hid (own_low ho HB.out.size)
  clear hb2 ho c0 c1 c2 c3 c4 c5 c6 c7 c8 c9
  go_wp2
  go_ret
  exact ⟨A, c, rfl, HO.out, HB2.out⟩
theorem enc_bye (i : Itm) (hk : i.kind = 203) (hM : MayI i) : encI i = ((be 1 (128 + (i.gone.length : Int)) ++ be 1 203) ++ be 2 (i.gone.length : Int)) ++ bes i.gone := by
  have hL := encI_203 i hk hM
  rcases hM with ⟨k, _⟩ | ⟨k, _⟩ | ⟨k, s, b, p, m, z, r1, r2⟩ | ⟨k, _⟩ | ⟨k, _⟩
  all_goals (try (exfalso; omega))
  have e : (bodyI i).length / 4 = i.gone.length := by rw [encI_length] at hL; omega
  rw [encI, e, be1 _ ⟨by omega, by omega⟩, be1 203 ⟨by omega, by omega⟩, be2 _ ⟨by omega, by omega⟩]
  simp [bodyI, cntI, hk, b, p, blosB, pairsB]
theorem enc_ask (i : Itm) (hk : i.kind = 205 ∨ i.kind = 206) (hM : MayI i) : encI i = ((((be 1 129 ++ be 1 i.kind) ++ be 2 ((2 + i.pairs.length : Nat) : Int)) ++ be 4 i.ssrc) ++ be 4 i.media) ++ pairsB i.pairs := by
  have hL := encI_205 i hk hM
  have e : (bodyI i).length / 4 = 2 + i.pairs.length := by rw [encI_length] at hL; omega
  rcases hM with ⟨k, _⟩ | ⟨k, _⟩ | ⟨k, _⟩ | ⟨k, s, b, g, r1, r2⟩ | ⟨k, s, b, g, p⟩
  all_goals (try (exfalso; omega))
  · rw [encI, e, be1 129 ⟨by omega, by omega⟩, be1 i.kind ⟨by omega, by omega⟩, be2 _ ⟨by omega, by omega⟩]
    simp [bodyI, cntI, k, b, g, bes, blosB]
  · rw [encI, e, be1 129 ⟨by omega, by omega⟩, be1 i.kind ⟨by omega, by omega⟩, be2 _ ⟨by omega, by rw [p]; simp⟩]
    simp [bodyI, cntI, k, b, g, bes, blosB]
theorem rc_bytes (w : World) (i : Itm) (l : ILoc) (B : Nat) (ho : i.Ok) (h : IRd w B i l) (hB : B ≤ w.heap.size) (hM : MayI i) : Calls Try.prog 53 #[itm (ivOf i l)] w (NewRow w (encI i)) := by
  have CS : ∀ W, Below w.heap.size w W → Calls Try.prog 77 #[itm (ivOf i l)] W (RetI W (encI i).length) := fun W hW => rc_size W i l B ho (h.below (hW.mono hB)) (Nat.le_trans hB hW.size) hM
  have hM' := hM
  by_cases k2 : i.kind = 203
  · rcases hM with ⟨k, _⟩ | ⟨k, _⟩ | ⟨k, s, b, p, m, z, r1, r2⟩ | ⟨k, _⟩ | ⟨k, _⟩
    all_goals (try (exfalso; omega))
    have e := encI_203 i k2 hM'
    have e2 := enc_bye i k2 hM'
    have CF : ∀ W, Below w.heap.size w W → Calls Try.prog 78 #[itm (ivOf i l)] W (NewRow W (encI i)) := fun W hW =>
      farewell_any (ivOf i l) B i.gone.length (encI i).length i.gone W k2 rfl r1 r2 (by rw [e]; omega) (h.below (hW.mono hB)).gone (Nat.le_trans hB hW.size) ho.gone (fun W' hW' => CS W' (hW.trans (hW'.mono hW.size))) _ e2
    rw [ivOf, k2] at CF ⊢
    exact bytes_203 i.ssrc i.ntp i.time i.pks i.ocs l.ba i.blocks.length l.bc l.ga i.gone.length l.gc i.media l.pa i.pairs.length l.pc w _ CF
  by_cases k3 : i.kind = 205 ∨ i.kind = 206
  · have hp : i.pairs.length ≤ 16 := by
      rcases hM with ⟨k, _⟩ | ⟨k, _⟩ | ⟨k, _⟩ | ⟨k, s, b, g, r1, r2⟩ | ⟨k, s, b, g, p⟩
      all_goals (try (exfalso; omega))
      · exact r2
      · rw [p]; simp
    have e := encI_205 i k3 hM'
    have e2 := enc_ask i k3 hM'
    have CF : ∀ W, Below w.heap.size w W → Calls Try.prog 79 #[itm (ivOf i l)] W (NewRow W (encI i)) := fun W hW =>
      question_any (ivOf i l) B i.pairs.length (encI i).length i.pairs W k3 rfl hp (by rw [e]; omega) (h.below (hW.mono hB)).pairs (Nat.le_trans hB hW.size) ho.pairs ho.ssrc ho.media (fun W' hW' => CS W' (hW.trans (hW'.mono hW.size))) _ e2
    exact bytes_205 i.kind k3 i.ssrc i.ntp i.time i.pks i.ocs l.ba i.blocks.length l.bc l.ga i.gone.length l.gc i.media l.pa i.pairs.length l.pc w _ CF
  have e : putRB i = encI i := by
    have hr : isRep i.kind = true := by
      rcases hM with ⟨k, _⟩ | ⟨k, _⟩ | ⟨k, _⟩ | ⟨k, _⟩ | ⟨k, _⟩ <;> simp [isRep, k] <;> omega
    rw [putRB, putRE, hr, (mayI_iff i).2 hM]; rfl
  rw [← e]
  exact bytes_rest (ivOf i l) (putRB i) (putRE i) w k2 (fun h => k3 (.inl h)) (fun h => k3 (.inr h)) (fun W hW => put_itm W i l B ho (h.below (hW.mono hB)) (Nat.le_trans hB hW.size))
end Go.Proofs.Ythmmafpmpnhleaa.Fbk
