/- The contract of rtcp.getOne. · The contract of rtcp.getOne, of any bytes. -/
import Derived.Test.YthmmafpmpnhleaaVj
import Derived.Test.YthmmafpmpnhleaaQh
import Derived.Test.YthmmafpmpnhleaaVb
set_option maxRecDepth 100000
namespace Go.Proofs.Ythmmafpmpnhleaa.Fbk
open Go.RowKit
set_option linter.unusedVariables false

set_option maxHeartbeats 1000000 in
theorem get_noA (a : Option Addr) (n c : Nat) (k m x : Int) (w : World) (hx : (x != 0) = true) (CF : Hid (∀ W, Below w.heap.size w W → Calls Try.prog 86 #[.slice a n c] W (RetF W k m x))) :
    Calls Try.prog 71 #[.slice a n c] w (IRetA w zeroItm 0 x) := by
  have hb0 := (Below.refl w.heap.size w).alloc (Nat.le_refl _) (iobj ziv)
  have HD := Lib.hid (IBlk.new w ziv)
  have HB := Lib.hid hb0
  clear hb0
  go_enter Try.func71, Try.ntmps71
  go_wp2_with fail
  refine (CF.out _ HB.out).mono ?_
  rintro e w1 ⟨rfl, hb1⟩
  have D1 := HD.out.bel hb1
  have HD1 := Lib.hid D1
  have HB1 := Lib.hid (HB.out.trans (hb1.mono HB.out.size))
  obtain ⟨c0, f0, c1, f1, c2, f2, c3, f3, c4, f4, c5, f5, c6, f6, c7, f7, c8, f8, c9, f9⟩ := D1.cf
  clear D1 hb1 HD HB CF
  go_wp2
  exact retI_at (HD1.out.store ziv) ⟨⟨none, 0, none, 0, none, 0⟩, rfl, IRd.zero _ _, ⟨(fun _ _ h => by cases h), (fun _ _ h => by cases h), (fun _ _ h => by cases h)⟩, below_istore HB1.out (Nat.le_refl _) _ _ _ _ _ _ _ _ _ _⟩
/-- report.Get, with where the lists lie. -/
theorem get_anyA (a : Option Addr) (n c B : Nat) (xs : List Int) (w : World) (hl : n ≤ maxLen) (hlc : n ≤ c) (hr : Rd w B a n xs) (hB : B ≤ w.heap.size) :
    Calls Try.prog 71 #[.slice a n c] w (IRetA w (gRV xs) (gRN xs) (rE xs)) := by
  have CF : ∀ W, Below w.heap.size w W → Calls Try.prog 86 #[.slice a n c] W (RetF W (if rE xs = 0 then xs.getD 1 0 else 0) (if rE xs = 0 then cI xs else 0) (rE xs)) := fun W hW => first_any a n c B xs W hl hlc (hr.below (hW.mono hB)) (Nat.le_trans hB hW.size)
  by_cases h0 : rE xs = 0
  · obtain ⟨hk, hi⟩ := rE_ok h0
    obtain ⟨h4, _, hh, hln⟩ := iE_ok hi
    have b0 := hr.2.1.getD 0
    have hc : 0 ≤ cI xs := by unfold cI; omega
    obtain ⟨m, hm⟩ : ∃ m : Nat, cI xs = m := ⟨(cI xs).toNat, by omega⟩
    rw [hm] at hh
    rw [hr.1] at hln
    have hz : 0 ≤ (0 : Int) := Int.le_refl _
    simp only [isRep, Bool.or_eq_true, decide_eq_true_eq] at hk
    unfold gRV gRN
    rw [if_pos h0, if_pos h0, h0]
    rcases hk with hk | hk
    · rw [hk] at hh
      unfold hE at hh
      rw [if_pos rfl] at hh
      split at hh
      · omega
      rename_i hq
      have hN : iN xs = 28 + 24 * m := by unfold iN; omega
      have hV : iV xs = ⟨200, nb xs 4 4, nb xs 8 8, nb xs 16 4, nb xs 20 4, nb xs 24 4, blosAt xs 28 m, [], 0, []⟩ := by unfold iV; rw [if_pos hk, hm, Int.toNat_natCast]
      rw [hN, hV]
      refine (get_sender a n c m xs w (hr.more hB) hl hlc (by omega) (by omega) _ rfl (fun W hW => by have := CF W hW; rwa [if_pos h0, if_pos h0, h0, hk, hm] at this)).mono ?_
      rintro e w' ⟨A, k, rfl, ho, hb⟩
      have hlen := blosAt_length xs m 28
      refine ⟨⟨A, k, none, 0, none, 0⟩, ?_, ⟨?_, Wd.none_ _ rfl, RowRd.none_ _ rfl, by simp only [hlen]; omega, Nat.zero_le _, Nat.zero_le _, by simp only [hlen]; exact ho.2.1, Nat.le_refl _, Nat.le_refl _⟩, ⟨fun b' o' h => own_ge ho h, (fun _ _ h => by cases h), (fun _ _ h => by cases h)⟩, hb⟩
      · simp only [ivOf, hlen, List.length_nil]
      · simp only [hlen]; exact ho.rd
    · rw [hk] at hh
      unfold hE at hh
      rw [if_neg (by decide), if_pos rfl] at hh
      split at hh
      · omega
      rename_i hq
      have hN : iN xs = 8 + 24 * m := by unfold iN; omega
      have hV : iV xs = ⟨201, nb xs 4 4, 0, 0, 0, 0, blosAt xs 8 m, [], 0, []⟩ := by unfold iV; rw [if_neg (by omega), if_pos hk, hm, Int.toNat_natCast]
      rw [hN, hV]
      refine (get_receiver a n c m xs w (hr.more hB) hl hlc (by omega) (by omega) _ rfl (fun W hW => by have := CF W hW; rwa [if_pos h0, if_pos h0, h0, hk, hm] at this)).mono ?_
      rintro e w' ⟨A, k, rfl, ho, hb⟩
      have hlen := blosAt_length xs m 8
      refine ⟨⟨A, k, none, 0, none, 0⟩, ?_, ⟨?_, Wd.none_ _ rfl, RowRd.none_ _ rfl, by simp only [hlen]; omega, Nat.zero_le _, Nat.zero_le _, by simp only [hlen]; exact ho.2.1, Nat.le_refl _, Nat.le_refl _⟩, ⟨fun b' o' h => own_ge ho h, (fun _ _ h => by cases h), (fun _ _ h => by cases h)⟩, hb⟩
      · simp only [ivOf, hlen, List.length_nil]
      · simp only [hlen]; exact ho.rd
  · unfold gRV gRN
    rw [if_neg h0, if_neg h0]
    exact get_noA a n c _ _ _ w (by simpa using h0) (fun W hW => CF W hW)
/-- The item that stands behind a head that is right. -/
theorem citem_iv (b off n c q : Nat) (xs : List Int) (W : World) (R : CRB W q (some ⟨b, off, none⟩) n c 4) (hr : Rd W q (some ⟨b, off, none⟩) n xs) (hl : n ≤ maxLen) (hlc : n ≤ c) (he : iE xs = 0) (K cnt : Int) (hK : xs.getD 1 0 = K)
    (h3 : (K = 203 ∧ cnt = cI xs) ∨ (K = 205 ∧ cnt = gI xs - 2) ∨ (K = 206 ∧ cnt = 0)) :
    Calls Try.prog 73 #[.pointer (some ⟨q, 0, none⟩), .int .i64 K, .int .i64 cnt] W fun e w' => ∃ l, e = .returned (itm (ivOf (iV xs) l)) ∧ IRd w' w'.heap.size (iV xs) l ∧ IAb W.heap.size l ∧ CRB w' q (some ⟨b, off, none⟩) n c (iN xs) ∧ Kp q q W w' := by
  obtain ⟨h4, _, hh, hln⟩ := iE_ok he
  have hb := hr.2.1
  rw [hr.1] at hln
  rw [hK] at hh
  have hc0 : 0 ≤ cI xs := by have := hb.getD 0; unfold cI; omega
  have hg0 : 0 ≤ gI xs := by have := hb.getD 2; have := hb.getD 3; unfold gI; omega
  rcases h3 with ⟨rfl, rfl⟩ | ⟨rfl, rfl⟩ | ⟨rfl, rfl⟩
  · have hh' : ¬ (cI xs < 1 ∨ 15 < cI xs ∨ gI xs ≠ cI xs) := by
      intro hbad
      unfold hE at hh
      rw [if_neg (by decide), if_neg (by decide), if_pos rfl, if_pos hbad] at hh
      omega
    obtain ⟨m, hm⟩ : ∃ m : Nat, cI xs = m := ⟨(cI xs).toNat, by omega⟩
    have hN : iN xs = 4 + 4 * m := by unfold iN; omega
    have hV : iV xs = ⟨203, 0, 0, 0, 0, 0, [], wordsAt xs 4 m, 0, []⟩ := by unfold iV; rw [if_neg (by omega), if_neg (by omega), if_pos hK, hm, Int.toNat_natCast]
    rw [hN, hV, hm]
    refine (citem_203 _ n c m q _ xs W R hr hl hlc (by omega) (by omega) rfl).mono ?_
    rintro e' w' ⟨A, z, rfl, ho, hR, hk⟩
    have hlen := wordsAt_length xs m 4
    refine ⟨⟨none, 0, A, z, none, 0⟩, ?_, ⟨RowRd.none_ _ rfl, ?_, RowRd.none_ _ rfl, Nat.zero_le _, by simp only [hlen]; omega, Nat.zero_le _, Nat.le_refl _, by simp only [hlen]; exact ho.2.1, Nat.le_refl _⟩, ⟨(fun _ _ h => by cases h), fun b' o' h => own_ge ho h, (fun _ _ h => by cases h)⟩, hR, hk⟩
    · simp only [ivOf, hlen, List.length_nil]
    · simp only [hlen]; exact rowRd_wd ho.rd (wordsAt_words xs hb m 4)
  · have hh' : ¬ (gI xs < 3 ∨ 18 < gI xs) := by
      intro hbad
      unfold hE at hh
      rw [if_neg (by decide), if_neg (by decide), if_neg (by decide), if_pos rfl] at hh
      split at hh <;> omega
    obtain ⟨m, hm⟩ : ∃ m : Nat, gI xs - 2 = m := ⟨(gI xs - 2).toNat, by omega⟩
    have hN : iN xs = 12 + 4 * m := by unfold iN; omega
    have hV : iV xs = ⟨205, nb xs 4 4, 0, 0, 0, 0, [], [], nb xs 8 4, pairsAt xs 12 m⟩ := by unfold iV; rw [if_neg (by omega), if_neg (by omega), if_neg (by omega), if_pos hK, hm, Int.toNat_natCast]
    rw [hN, hV, hm]
    refine (citem_205 205 (by decide) _ n c m q _ xs W R hr hl hlc (by omega) (by omega) rfl).mono ?_
    rintro e' w' ⟨A, z, rfl, ho, hR, hk⟩
    have hlen := pairsAt_length xs m 12
    refine ⟨⟨none, 0, none, 0, A, z⟩, ?_, ⟨RowRd.none_ _ rfl, Wd.none_ _ rfl, ?_, Nat.zero_le _, Nat.zero_le _, by simp only [hlen]; omega, Nat.le_refl _, Nat.le_refl _, by simp only [hlen]; exact ho.2.1⟩, ⟨(fun _ _ h => by cases h), (fun _ _ h => by cases h), fun b' o' h => own_ge ho h⟩, hR, hk⟩
    · simp only [ivOf, hlen, List.length_nil]
    · simp only [hlen]; exact ho.rd
  · have hh' : ¬ (gI xs ≠ 2) := by
      intro hbad
      unfold hE at hh
      rw [if_neg (by decide), if_neg (by decide), if_neg (by decide), if_neg (by decide), if_pos rfl] at hh
      split at hh <;> omega
    have hN : iN xs = 12 + 4 * 0 := by unfold iN; omega
    have hV : iV xs = ⟨206, nb xs 4 4, 0, 0, 0, 0, [], [], nb xs 8 4, pairsAt xs 12 0⟩ := by unfold iV; rw [if_neg (by omega), if_neg (by omega), if_neg (by omega), if_neg (by omega)]; rfl
    rw [hN, hV]
    refine (citem_205 206 (by decide) _ n c 0 q _ xs W R hr hl hlc (by omega) (by omega) rfl).mono ?_
    rintro e' w' ⟨A, z, rfl, ho, hR, hk⟩
    have hlen := pairsAt_length xs 0 12
    refine ⟨⟨none, 0, none, 0, A, z⟩, ?_, ⟨RowRd.none_ _ rfl, Wd.none_ _ rfl, ?_, Nat.zero_le _, Nat.zero_le _, by simp only [hlen]; omega, Nat.le_refl _, Nat.le_refl _, by simp only [hlen]; exact ho.2.1⟩, ⟨(fun _ _ h => by cases h), (fun _ _ h => by cases h), fun b' o' h => own_ge ho h⟩, hR, hk⟩
    · simp only [ivOf, hlen, List.length_nil]
    · simp only [hlen]; exact ho.rd
set_option maxHeartbeats 1000000 in
theorem retO_at {W : World} {b : Nat} {v : IV} {m n : Int} {tmps : Array Value} {R : Ending → World → Prop} (D : IBlk W b v) (hR : R (.returned (.tuple #[itm v, .int .i64 m, .int .i64 n])) W)
    (h2 : tmps[2]?.getD undef = .pointer (some ⟨b, 0, none⟩) := by rfl) (h3 : tmps[3]?.getD undef = .int .i64 m := by rfl) (h4 : tmps[4]?.getD undef = .int .i64 n := by rfl) :
    bodyPost Try.prog Try.f43 R .ret ⟨tmps, []⟩ W := by
  obtain ⟨c0, c1, c2, c3, c4, c5, c6, c7, c8, c9⟩ := D.cells
  exact bodyPost_ret (v := .tuple #[itm v, .int .i64 m, .int .i64 n]) (by simp [results, Try.results43, go_sem, h2, h3, h4, c0, c1, c2, c3, c4, c5, c6, c7, c8, c9]) rfl hR
set_option maxHeartbeats 1000000 in
theorem one_short (a : Option Addr) (n c : Nat) (w : World) (h : n < 4) : Calls Try.prog 43 #[.slice a n c] w (IRetA w zeroItm 0 2) := by
  have h' : (n : Int) < 4 := by omega
  have HB : Hid (Below w.heap.size w (w.alloc (iobj ziv))) := (Below.refl w.heap.size w).alloc (Nat.le_refl _) (iobj ziv)
  have HD := Lib.hid (IBlk.new w ziv)
  go_enter Try.func43, Try.ntmps43
  go_wp2
  exact retO_at HD.out (IRetA.none_ HB.out)
set_option maxHeartbeats 1000000 in
theorem one_form (b off n c : Nat) (x0 : Int) (w : World) (h : 4 ≤ n) (hb : b < w.heap.size) (hx : (bits BinOp.and IntKind.u8 x0 224 != 128) = true) (d0 : w.cell? ⟨b, off, none⟩ = some (.int .u8 x0)) : Calls Try.prog 43 #[.slice (some ⟨b, off, none⟩) n c] w (IRetA w zeroItm 0 1) := by
  have h' : ¬ (n : Int) < 4 := by omega
  have h0 : 0 < n := by omega
  have HB : Hid (Below w.heap.size w (w.alloc (iobj ziv))) := (Below.refl w.heap.size w).alloc (Nat.le_refl _) (iobj ziv)
  have HD := Lib.hid (IBlk.new w ziv)
  have e0 : (w.alloc (iobj ziv)).cell? ⟨b, off, none⟩ = some (.int .u8 x0) := (HB.out.cell (p := ⟨b, off, none⟩) hb).trans d0
  go_enter Try.func43, Try.ntmps43
  go_wp2
  exact retO_at HD.out (IRetA.none_ HB.out)
theorem ist_below {B b : Nat} {w w' : World} (h : Below B w w') (hB : B ≤ b) (u : IV) : Below B w (Fbk.ist w' b u) := below_istore h hB _ _ _ _ _ _ _ _ _ _
set_option maxRecDepth 100000 in
set_option maxHeartbeats 4000000 in
theorem one_rep (b off n c : Nat) (x0 K y : Int) (w : World) (h : 4 ≤ n) (hb : b < w.heap.size) (hx : (bits BinOp.and IntKind.u8 x0 224 != 128) = false) (hy : bits BinOp.and IntKind.u8 x0 31 = y) (hy1 : 0 ≤ y ∧ y ≤ 31) (hx1 : 0 ≤ K ∧ K ≤ 255) (d0 : w.cell? ⟨b, off, none⟩ = some (.int .u8 x0)) (d1 : w.cell? ⟨b, off + 1, none⟩ = some (.int .u8 K)) (hk : ¬ K = 203 ∧ ¬ K = 205 ∧ ¬ K = 206) (i : Itm) (m f : Int)
    (CR : Hid (∀ W, Below w.heap.size w W → Calls Try.prog 71 #[.slice (some ⟨b, off, none⟩) n c] W (IRetA W i m f))) : Calls Try.prog 43 #[.slice (some ⟨b, off, none⟩) n c] w (IRetA w i m f) := by
  have h' : ¬ (n : Int) < 4 := by omega
  have h0 : 0 < n := by omega
  have hp1 : 1 < n := by omega
  have hi1 : (1 : Int) < n := by omega
  have q1 : IntKind.i64.wrap K = K := IntWalk.i64_in _ (by omega)
  have q2 : IntKind.i64.wrap y = y := IntWalk.i64_in _ (by omega)
  have HB : Hid (Below w.heap.size w (w.alloc (iobj ziv))) := (Below.refl w.heap.size w).alloc (Nat.le_refl _) (iobj ziv)
  have HD : Hid (IBlk (w.alloc (iobj ziv)).drew w.heap.size ziv) := IBlk.new w ziv
  have HB1 : Hid (Below w.heap.size w (w.alloc (iobj ziv)).drew) := HB.out.drew
  have e0 : (w.alloc (iobj ziv)).cell? ⟨b, off, none⟩ = some (.int .u8 x0) := (HB.out.cell (p := ⟨b, off, none⟩) hb).trans d0
  have e1 : (w.alloc (iobj ziv)).cell? ⟨b, off + 1, none⟩ = some (.int .u8 K) := (HB.out.cell (p := ⟨b, off + 1, none⟩) hb).trans d1
  have hS : Fst x0 K b off (w.alloc (iobj ziv)).drew := ⟨e0, e1⟩
  have C0 : ∀ W, Fst x0 K b off W → W.cell? ⟨b, off, none⟩ = some (.int .u8 x0) := fun W h => h.1
  have C1 : ∀ W, Fst x0 K b off W → W.cell? ⟨b, off + 1, none⟩ = some (.int .u8 K) := fun W h => h.2
  have CO : Hid (∀ W, Calls Try.prog 70 #[.int .i64 K] W fun e w' => e = .returned (.bool false) ∧ W = w') := fun W => by
    have := ours_any K W
    rwa [show (decide (K = 203) || decide (K = 205) || decide (K = 206)) = false from by simp [hk]] at this
  clear d0 d1 HB hk
  go_enter Try.func43, Try.ntmps43
  go_wp2_with fail
  refine region_seq (Fst x0 K b off) [(0, false), (1, false), (2, false), (3, false), (4, false), (5, false), (6, false), (7, false), (8, false), (9, false), (10, false)] (by kernel_rfl) (by kernel_rfl) rfl (by kernel_rfl) ?_
  iterate 11 (refine seq_read (v := _) rfl (fun _ _ _ h => h) hS (Or.inl ⟨by rfl, fun W hW => by go_simp <;> with_reducible rfl⟩) ?_; simp only [Act.put, List.setIfInBounds_toArray, List.set_cons_zero, List.set_cons_succ])
  refine seq_end ?_
  clear hS C0 C1 e0 e1
  generalize (w.alloc (iobj ziv)).drew = w1 at *
  go_wp2_with fail
  refine (CO.out _).mono ?_
  rintro e w' ⟨rfl, rfl⟩
  clear CO
  go_wp2_with fail
  refine (CR.out _ HB1.out).mono ?_
  rintro e w2 ⟨l, rfl, hi, ha, hb2⟩
  have hq1 : w.heap.size + 1 ≤ w1.heap.size := HD.out.lt
  have hab : IAb (w.heap.size + 1) l := ⟨fun b o h => Nat.le_trans hq1 (ha.1 b o h), fun b o h => Nat.le_trans hq1 (ha.2.1 b o h), fun b o h => Nat.le_trans hq1 (ha.2.2 b o h)⟩
  have D := HD.out.bel hb2
  obtain ⟨v, hv⟩ : ∃ v : IV, v = ivOf i l := ⟨_, rfl⟩
  have hbel := ist_below (HB1.out.trans (hb2.mono HB1.out.size)) (Nat.le_refl w.heap.size) v
  have hsz : (Fbk.ist w2 w.heap.size v).heap.size = w2.heap.size := ist_size _ _ _
  have HW := Lib.hid (show IBlk ((((((((((w2.setCell ⟨w.heap.size, 0, none⟩ (.int .i64 v.kind)).setCell ⟨w.heap.size, 1, none⟩ (.int .u32 v.ssrc)).setCell ⟨w.heap.size, 2, none⟩ (.int .u64 v.ntp)).setCell ⟨w.heap.size, 3, none⟩ (.int .u32 v.time)).setCell ⟨w.heap.size, 4, none⟩ (.int .u32 v.pks)).setCell ⟨w.heap.size, 5, none⟩ (.int .u32 v.ocs)).setCell ⟨w.heap.size, 6, none⟩ (.slice v.ba v.bn v.bc)).setCell ⟨w.heap.size, 7, none⟩ (.slice v.ga v.gn v.gc)).setCell ⟨w.heap.size, 8, none⟩ (.int .u32 v.media)).setCell ⟨w.heap.size, 9, none⟩ (.slice v.pa v.pn v.pc)) w.heap.size v ∧ Below w.heap.size w ((((((((((w2.setCell ⟨w.heap.size, 0, none⟩ (.int .i64 v.kind)).setCell ⟨w.heap.size, 1, none⟩ (.int .u32 v.ssrc)).setCell ⟨w.heap.size, 2, none⟩ (.int .u64 v.ntp)).setCell ⟨w.heap.size, 3, none⟩ (.int .u32 v.time)).setCell ⟨w.heap.size, 4, none⟩ (.int .u32 v.pks)).setCell ⟨w.heap.size, 5, none⟩ (.int .u32 v.ocs)).setCell ⟨w.heap.size, 6, none⟩ (.slice v.ba v.bn v.bc)).setCell ⟨w.heap.size, 7, none⟩ (.slice v.ga v.gn v.gc)).setCell ⟨w.heap.size, 8, none⟩ (.int .u32 v.media)).setCell ⟨w.heap.size, 9, none⟩ (.slice v.pa v.pn v.pc)) ∧ IRd ((((((((((w2.setCell ⟨w.heap.size, 0, none⟩ (.int .i64 v.kind)).setCell ⟨w.heap.size, 1, none⟩ (.int .u32 v.ssrc)).setCell ⟨w.heap.size, 2, none⟩ (.int .u64 v.ntp)).setCell ⟨w.heap.size, 3, none⟩ (.int .u32 v.time)).setCell ⟨w.heap.size, 4, none⟩ (.int .u32 v.pks)).setCell ⟨w.heap.size, 5, none⟩ (.int .u32 v.ocs)).setCell ⟨w.heap.size, 6, none⟩ (.slice v.ba v.bn v.bc)).setCell ⟨w.heap.size, 7, none⟩ (.slice v.ga v.gn v.gc)).setCell ⟨w.heap.size, 8, none⟩ (.int .u32 v.media)).setCell ⟨w.heap.size, 9, none⟩ (.slice v.pa v.pn v.pc)) (((((((((((w2.setCell ⟨w.heap.size, 0, none⟩ (.int .i64 v.kind)).setCell ⟨w.heap.size, 1, none⟩ (.int .u32 v.ssrc)).setCell ⟨w.heap.size, 2, none⟩ (.int .u64 v.ntp)).setCell ⟨w.heap.size, 3, none⟩ (.int .u32 v.time)).setCell ⟨w.heap.size, 4, none⟩ (.int .u32 v.pks)).setCell ⟨w.heap.size, 5, none⟩ (.int .u32 v.ocs)).setCell ⟨w.heap.size, 6, none⟩ (.slice v.ba v.bn v.bc)).setCell ⟨w.heap.size, 7, none⟩ (.slice v.ga v.gn v.gc)).setCell ⟨w.heap.size, 8, none⟩ (.int .u32 v.media)).setCell ⟨w.heap.size, 9, none⟩ (.slice v.pa v.pn v.pc))).heap.size i l from
    ⟨D.store v, hbel, by have := hi.ist hab v; exact this.more (by exact Nat.le_of_eq hsz.symm)⟩)
  have HAB := Lib.hid (show IAb w.heap.size l from ⟨fun b o h => Nat.le_trans (Nat.le_of_lt hq1) (ha.1 b o h), fun b o h => Nat.le_trans (Nat.le_of_lt hq1) (ha.2.1 b o h), fun b o h => Nat.le_trans (Nat.le_of_lt hq1) (ha.2.2 b o h)⟩)
  have HV := Lib.hid hv
  rw [← hv]
  obtain ⟨c0, f0, c1, f1, c2, f2, c3, f3, c4, f4, c5, f5, c6, f6, c7, f7, c8, f8, c9, f9⟩ := D.cf
  clear D hi ha hb2 hab hbel hsz hq1 hv CR HD HB1
  go_wp2
  generalize ((((((((((w2.setCell ⟨w.heap.size, 0, none⟩ (.int .i64 v.kind)).setCell ⟨w.heap.size, 1, none⟩ (.int .u32 v.ssrc)).setCell ⟨w.heap.size, 2, none⟩ (.int .u64 v.ntp)).setCell ⟨w.heap.size, 3, none⟩ (.int .u32 v.time)).setCell ⟨w.heap.size, 4, none⟩ (.int .u32 v.pks)).setCell ⟨w.heap.size, 5, none⟩ (.int .u32 v.ocs)).setCell ⟨w.heap.size, 6, none⟩ (.slice v.ba v.bn v.bc)).setCell ⟨w.heap.size, 7, none⟩ (.slice v.ga v.gn v.gc)).setCell ⟨w.heap.size, 8, none⟩ (.int .u32 v.media)).setCell ⟨w.heap.size, 9, none⟩ (.slice v.pa v.pn v.pc)) = u1 at *
  refine retO_at HW.out.1 ?_
  rw [HV.out]
  exact ⟨l, rfl, HW.out.2.2, HAB.out, HW.out.2.1⟩
set_option maxRecDepth 100000 in
set_option maxHeartbeats 4000000 in
theorem one_kind (b off n c : Nat) (x0 K y : Int) (w : World) (h : 4 ≤ n) (hb : b < w.heap.size) (hx : (bits BinOp.and IntKind.u8 x0 224 != 128) = false) (hy : bits BinOp.and IntKind.u8 x0 31 = y) (hy1 : 0 ≤ y ∧ y ≤ 31) (hx1 : 0 ≤ K ∧ K ≤ 255) (d0 : w.cell? ⟨b, off, none⟩ = some (.int .u8 x0)) (d1 : w.cell? ⟨b, off + 1, none⟩ = some (.int .u8 K)) (hk : K = 203 ∨ K = 205 ∨ K = 206) (hk3 : (K != 203) = true) (hy2 : (y != 1) = true) : Calls Try.prog 43 #[.slice (some ⟨b, off, none⟩) n c] w (IRetA w zeroItm 0 4) := by
  have h' : ¬ (n : Int) < 4 := by omega
  have h0 : 0 < n := by omega
  have hp1 : 1 < n := by omega
  have hi1 : (1 : Int) < n := by omega
  have q1 : IntKind.i64.wrap K = K := IntWalk.i64_in _ (by omega)
  have q2 : IntKind.i64.wrap y = y := IntWalk.i64_in _ (by omega)
  have HB : Hid (Below w.heap.size w (w.alloc (iobj ziv))) := (Below.refl w.heap.size w).alloc (Nat.le_refl _) (iobj ziv)
  have HD : Hid (IBlk (w.alloc (iobj ziv)).drew w.heap.size ziv) := IBlk.new w ziv
  have HB1 : Hid (Below w.heap.size w (w.alloc (iobj ziv)).drew) := HB.out.drew
  have e0 : (w.alloc (iobj ziv)).cell? ⟨b, off, none⟩ = some (.int .u8 x0) := (HB.out.cell (p := ⟨b, off, none⟩) hb).trans d0
  have e1 : (w.alloc (iobj ziv)).cell? ⟨b, off + 1, none⟩ = some (.int .u8 K) := (HB.out.cell (p := ⟨b, off + 1, none⟩) hb).trans d1
  have hS : Fst x0 K b off (w.alloc (iobj ziv)).drew := ⟨e0, e1⟩
  have C0 : ∀ W, Fst x0 K b off W → W.cell? ⟨b, off, none⟩ = some (.int .u8 x0) := fun W h => h.1
  have C1 : ∀ W, Fst x0 K b off W → W.cell? ⟨b, off + 1, none⟩ = some (.int .u8 K) := fun W h => h.2
  have CO : Hid (∀ W, Calls Try.prog 70 #[.int .i64 K] W fun e w' => e = .returned (.bool true) ∧ W = w') := fun W => by
    have := ours_any K W
    rwa [show (decide (K = 203) || decide (K = 205) || decide (K = 206)) = true from by rcases hk with h | h | h <;> simp [h]] at this
  clear d0 d1 HB hk
  go_enter Try.func43, Try.ntmps43
  go_wp2_with fail
  refine region_seq (Fst x0 K b off) [(0, false), (1, false), (2, false), (3, false), (4, false), (5, false), (6, false), (7, false), (8, false), (9, false), (10, false)] (by kernel_rfl) (by kernel_rfl) rfl (by kernel_rfl) ?_
  iterate 11 (refine seq_read (v := _) rfl (fun _ _ _ h => h) hS (Or.inl ⟨by rfl, fun W hW => by go_simp <;> with_reducible rfl⟩) ?_; simp only [Act.put, List.setIfInBounds_toArray, List.set_cons_zero, List.set_cons_succ])
  refine seq_end ?_
  clear hS C0 C1 e0 e1
  generalize (w.alloc (iobj ziv)).drew = w1 at *
  go_wp2_with fail
  refine (CO.out _).mono ?_
  rintro e w' ⟨rfl, rfl⟩
  clear CO
  obtain ⟨c0, f0, c1, f1, c2, f2, c3, f3, c4, f4, c5, f5, c6, f6, c7, f7, c8, f8, c9, f9⟩ := HD.out.cf
  have HS := Lib.hid (HD.out.store ziv)
  have HBS := Lib.hid (ist_below HB1.out (Nat.le_refl w.heap.size) ziv)
  clear HD HB1
  go_wp2
  exact retO_at HS.out (IRetA.none_ HBS.out)
def Sr2 (b q : Nat) (v : IV) (A : Option Addr) (n c : Nat) (i : Nat) (W : World) : Prop := IBlk W b v ∧ CRB W q A n c i
set_option maxRecDepth 100000 in
set_option maxHeartbeats 8000000 in
/-- behind the kind: g the words, cnt and k what listed tells of them. -/
theorem one_tail (b off n c : Nat) (x0 K y : Int) (w : World) (h : 4 ≤ n) (hb : b < w.heap.size) (hx : (bits BinOp.and IntKind.u8 x0 224 != 128) = false) (hy : bits BinOp.and IntKind.u8 x0 31 = y) (hy1 : 0 ≤ y ∧ y ≤ 31) (hx1 : 0 ≤ K ∧ K ≤ 255) (d0 : w.cell? ⟨b, off, none⟩ = some (.int .u8 x0)) (d1 : w.cell? ⟨b, off + 1, none⟩ = some (.int .u8 K)) (hk : K = 203 ∨ K = 205 ∨ K = 206) (hbb : (K != 203) = false ∨ ((K != 203) = true ∧ (y != 1) = false)) (g cnt : Int) (k : Bool) (i : Itm) (m : Nat) (f : Int) (hg : 0 ≤ g ∧ g ≤ 65535) (hm : m ≤ 281474976710656)
    (hR : Hid ((k = false → i = zeroItm ∧ m = 0 ∧ f = 1) ∧ (k = true → (n : Int) < 4 + 4 * g → i = zeroItm ∧ m = 0 ∧ f = 2) ∧ (k = true → ¬ (n : Int) < 4 + 4 * g → f = 0)))
    (CG : Hid (∀ W, Below w.heap.size w W → Calls Try.prog 69 #[.slice (some ⟨b, off, none⟩) n c, .int .i64 2, .int .i64 2] W fun e w' => e = .returned (.tuple #[.int .u64 g, .bool true]) ∧ W = w'))
    (CL : Hid (∀ W, Calls Try.prog 72 #[.int .i64 K, .int .i64 y, .int .i64 g] W (RetL cnt k W)))
    (CI : Hid (k = true → ¬ (n : Int) < 4 + 4 * g → ∀ W q, Below w.heap.size w W → w.heap.size < q → CRB W q (some ⟨b, off, none⟩) n c 4 → Calls Try.prog 73 #[.pointer (some ⟨q, 0, none⟩), .int .i64 K, .int .i64 cnt] W fun e w' => ∃ l, e = .returned (itm (ivOf i l)) ∧ IRd w' w'.heap.size i l ∧ IAb W.heap.size l ∧ CRB w' q (some ⟨b, off, none⟩) n c m ∧ Kp q q W w')) :
    Calls Try.prog 43 #[.slice (some ⟨b, off, none⟩) n c] w (IRetA w i m f) := by
  have q3 : IntKind.i64.wrap g = g := IntWalk.i64_in _ (by omega)
  rcases k with _ | _
  case' true => by_cases hln : (n : Int) < 4 + 4 * g
  case false =>
    obtain ⟨rfl, rfl, rfl⟩ := hR.out.1 rfl
    clear hR CI
    rcases hbb with hb1 | ⟨hb1, hb2⟩
    all_goals
      have h' : ¬ (n : Int) < 4 := by omega
      have h0 : 0 < n := by omega
      have hp1 : 1 < n := by omega
      have hi1 : (1 : Int) < n := by omega
      have q1 : IntKind.i64.wrap K = K := IntWalk.i64_in _ (by omega)
      have q2 : IntKind.i64.wrap y = y := IntWalk.i64_in _ (by omega)
      have HB : Hid (Below w.heap.size w (w.alloc (iobj ziv))) := (Below.refl w.heap.size w).alloc (Nat.le_refl _) (iobj ziv)
      have HD : Hid (IBlk (w.alloc (iobj ziv)).drew w.heap.size ziv) := IBlk.new w ziv
      have HB1 : Hid (Below w.heap.size w (w.alloc (iobj ziv)).drew) := HB.out.drew
      have e0 : (w.alloc (iobj ziv)).cell? ⟨b, off, none⟩ = some (.int .u8 x0) := (HB.out.cell (p := ⟨b, off, none⟩) hb).trans d0
      have e1 : (w.alloc (iobj ziv)).cell? ⟨b, off + 1, none⟩ = some (.int .u8 K) := (HB.out.cell (p := ⟨b, off + 1, none⟩) hb).trans d1
      have hS : Fst x0 K b off (w.alloc (iobj ziv)).drew := ⟨e0, e1⟩
      have C0 : ∀ W, Fst x0 K b off W → W.cell? ⟨b, off, none⟩ = some (.int .u8 x0) := fun W h => h.1
      have C1 : ∀ W, Fst x0 K b off W → W.cell? ⟨b, off + 1, none⟩ = some (.int .u8 K) := fun W h => h.2
      have CO : Hid (∀ W, Calls Try.prog 70 #[.int .i64 K] W fun e w' => e = .returned (.bool true) ∧ W = w') := fun W => by
        have := ours_any K W
        rwa [show (decide (K = 203) || decide (K = 205) || decide (K = 206)) = true from by rcases hk with h | h | h <;> simp [h]] at this
      clear d0 d1 HB hk
      go_enter Try.func43, Try.ntmps43
      go_wp2_with fail
      refine region_seq (Fst x0 K b off) [(0, false), (1, false), (2, false), (3, false), (4, false), (5, false), (6, false), (7, false), (8, false), (9, false), (10, false)] (by kernel_rfl) (by kernel_rfl) rfl (by kernel_rfl) ?_
      iterate 11 (refine seq_read (v := _) rfl (fun _ _ _ h => h) hS (Or.inl ⟨by rfl, fun W hW => by go_simp <;> with_reducible rfl⟩) ?_; simp only [Act.put, List.setIfInBounds_toArray, List.set_cons_zero, List.set_cons_succ])
      refine seq_end ?_
      clear hS C0 C1 e0 e1
      generalize (w.alloc (iobj ziv)).drew = w1 at *
      go_wp2_with fail
      refine (CO.out _).mono ?_
      rintro e w' ⟨rfl, rfl⟩
      clear CO
      go_wp2_with fail
      refine (CG.out _ HB1.out).mono ?_
      rintro e w' ⟨rfl, rfl⟩
      clear CG
      go_wp2_with fail
      refine (CL.out _).mono ?_
      rintro e w' ⟨rfl, rfl⟩
      clear CL
      obtain ⟨c0, f0, c1, f1, c2, f2, c3, f3, c4, f4, c5, f5, c6, f6, c7, f7, c8, f8, c9, f9⟩ := HD.out.cf
      have HS := Lib.hid (HD.out.store ziv)
      have HBS := Lib.hid (ist_below HB1.out (Nat.le_refl w.heap.size) ziv)
      clear HD HB1
      go_wp2
      exact retO_at HS.out (IRetA.none_ HBS.out)
  case pos =>
    obtain ⟨rfl, rfl, rfl⟩ := hR.out.2.1 rfl hln
    clear hR CI
    rcases hbb with hb1 | ⟨hb1, hb2⟩
    all_goals
      have h' : ¬ (n : Int) < 4 := by omega
      have h0 : 0 < n := by omega
      have hp1 : 1 < n := by omega
      have hi1 : (1 : Int) < n := by omega
      have q1 : IntKind.i64.wrap K = K := IntWalk.i64_in _ (by omega)
      have q2 : IntKind.i64.wrap y = y := IntWalk.i64_in _ (by omega)
      have HB : Hid (Below w.heap.size w (w.alloc (iobj ziv))) := (Below.refl w.heap.size w).alloc (Nat.le_refl _) (iobj ziv)
      have HD : Hid (IBlk (w.alloc (iobj ziv)).drew w.heap.size ziv) := IBlk.new w ziv
      have HB1 : Hid (Below w.heap.size w (w.alloc (iobj ziv)).drew) := HB.out.drew
      have e0 : (w.alloc (iobj ziv)).cell? ⟨b, off, none⟩ = some (.int .u8 x0) := (HB.out.cell (p := ⟨b, off, none⟩) hb).trans d0
      have e1 : (w.alloc (iobj ziv)).cell? ⟨b, off + 1, none⟩ = some (.int .u8 K) := (HB.out.cell (p := ⟨b, off + 1, none⟩) hb).trans d1
      have hS : Fst x0 K b off (w.alloc (iobj ziv)).drew := ⟨e0, e1⟩
      have C0 : ∀ W, Fst x0 K b off W → W.cell? ⟨b, off, none⟩ = some (.int .u8 x0) := fun W h => h.1
      have C1 : ∀ W, Fst x0 K b off W → W.cell? ⟨b, off + 1, none⟩ = some (.int .u8 K) := fun W h => h.2
      have CO : Hid (∀ W, Calls Try.prog 70 #[.int .i64 K] W fun e w' => e = .returned (.bool true) ∧ W = w') := fun W => by
        have := ours_any K W
        rwa [show (decide (K = 203) || decide (K = 205) || decide (K = 206)) = true from by rcases hk with h | h | h <;> simp [h]] at this
      clear d0 d1 HB hk
      go_enter Try.func43, Try.ntmps43
      go_wp2_with fail
      refine region_seq (Fst x0 K b off) [(0, false), (1, false), (2, false), (3, false), (4, false), (5, false), (6, false), (7, false), (8, false), (9, false), (10, false)] (by kernel_rfl) (by kernel_rfl) rfl (by kernel_rfl) ?_
      iterate 11 (refine seq_read (v := _) rfl (fun _ _ _ h => h) hS (Or.inl ⟨by rfl, fun W hW => by go_simp <;> with_reducible rfl⟩) ?_; simp only [Act.put, List.setIfInBounds_toArray, List.set_cons_zero, List.set_cons_succ])
      refine seq_end ?_
      clear hS C0 C1 e0 e1
      generalize (w.alloc (iobj ziv)).drew = w1 at *
      go_wp2_with fail
      refine (CO.out _).mono ?_
      rintro e w' ⟨rfl, rfl⟩
      clear CO
      go_wp2_with fail
      refine (CG.out _ HB1.out).mono ?_
      rintro e w' ⟨rfl, rfl⟩
      clear CG
      go_wp2_with fail
      refine (CL.out _).mono ?_
      rintro e w' ⟨rfl, rfl⟩
      clear CL
      obtain ⟨c0, f0, c1, f1, c2, f2, c3, f3, c4, f4, c5, f5, c6, f6, c7, f7, c8, f8, c9, f9⟩ := HD.out.cf
      have HS := Lib.hid (HD.out.store ziv)
      have HBS := Lib.hid (ist_below HB1.out (Nat.le_refl w.heap.size) ziv)
      clear HD HB1
      go_wp2
      exact retO_at HS.out (IRetA.none_ HBS.out)
  case neg =>
    obtain rfl := hR.out.2.2 rfl hln
    have HCI := Lib.hid (CI.out rfl hln)
    clear hR CI
    rcases hbb with hb1 | ⟨hb1, hb2⟩
    all_goals
      have h' : ¬ (n : Int) < 4 := by omega
      have h0 : 0 < n := by omega
      have hp1 : 1 < n := by omega
      have hi1 : (1 : Int) < n := by omega
      have q1 : IntKind.i64.wrap K = K := IntWalk.i64_in _ (by omega)
      have q2 : IntKind.i64.wrap y = y := IntWalk.i64_in _ (by omega)
      have HB : Hid (Below w.heap.size w (w.alloc (iobj ziv))) := (Below.refl w.heap.size w).alloc (Nat.le_refl _) (iobj ziv)
      have HD : Hid (IBlk (w.alloc (iobj ziv)).drew w.heap.size ziv) := IBlk.new w ziv
      have HB1 : Hid (Below w.heap.size w (w.alloc (iobj ziv)).drew) := HB.out.drew
      have e0 : (w.alloc (iobj ziv)).cell? ⟨b, off, none⟩ = some (.int .u8 x0) := (HB.out.cell (p := ⟨b, off, none⟩) hb).trans d0
      have e1 : (w.alloc (iobj ziv)).cell? ⟨b, off + 1, none⟩ = some (.int .u8 K) := (HB.out.cell (p := ⟨b, off + 1, none⟩) hb).trans d1
      have hS : Fst x0 K b off (w.alloc (iobj ziv)).drew := ⟨e0, e1⟩
      have C0 : ∀ W, Fst x0 K b off W → W.cell? ⟨b, off, none⟩ = some (.int .u8 x0) := fun W h => h.1
      have C1 : ∀ W, Fst x0 K b off W → W.cell? ⟨b, off + 1, none⟩ = some (.int .u8 K) := fun W h => h.2
      have CO : Hid (∀ W, Calls Try.prog 70 #[.int .i64 K] W fun e w' => e = .returned (.bool true) ∧ W = w') := fun W => by
        have := ours_any K W
        rwa [show (decide (K = 203) || decide (K = 205) || decide (K = 206)) = true from by rcases hk with h | h | h <;> simp [h]] at this
      clear d0 d1 HB hk
      go_enter Try.func43, Try.ntmps43
      go_wp2_with fail
      refine region_seq (Fst x0 K b off) [(0, false), (1, false), (2, false), (3, false), (4, false), (5, false), (6, false), (7, false), (8, false), (9, false), (10, false)] (by kernel_rfl) (by kernel_rfl) rfl (by kernel_rfl) ?_
      iterate 11 (refine seq_read (v := _) rfl (fun _ _ _ h => h) hS (Or.inl ⟨by rfl, fun W hW => by go_simp <;> with_reducible rfl⟩) ?_; simp only [Act.put, List.setIfInBounds_toArray, List.set_cons_zero, List.set_cons_succ])
      refine seq_end ?_
      clear hS C0 C1 e0 e1
      generalize (w.alloc (iobj ziv)).drew = w1 at *
      go_wp2_with fail
      refine (CO.out _).mono ?_
      rintro e w' ⟨rfl, rfl⟩
      clear CO
      go_wp2_with fail
      refine (CG.out _ HB1.out).mono ?_
      rintro e w' ⟨rfl, rfl⟩
      clear CG
      go_wp2_with fail
      refine (CL.out _).mono ?_
      rintro e w' ⟨rfl, rfl⟩
      clear CL
      have hq1 : w.heap.size < w1.heap.size := HD.out.lt
      have hA := (Below.refl w1.heap.size w1).alloc (Nat.le_refl _) (.cells #[.slice (some ⟨b, off, none⟩) n c, .int .i64 4] 121)
      have HQ1 := Lib.hid hq1
      have HB2 : Hid (Below w.heap.size w (w1.alloc (.cells #[.slice (some ⟨b, off, none⟩) n c, .int .i64 4] 121))) := HB1.out.trans (hA.mono (Nat.le_of_lt hq1))
      have HD2 : Hid (IBlk (w1.alloc (.cells #[.slice (some ⟨b, off, none⟩) n c, .int .i64 4] 121)) w.heap.size ziv) := HD.out.bel hA
      have HC2 : Hid (CRB (w1.alloc (.cells #[.slice (some ⟨b, off, none⟩) n c, .int .i64 4] 121)) w1.heap.size (some ⟨b, off, none⟩) n c 4) := RWBlk.new w1 _ _ _ _
      clear hq1 hA HB1 HD
      go_wp2_with fail
      refine (HCI.out _ _ HB2.out HQ1.out HC2.out).mono ?_
      generalize w1.alloc (.cells #[.slice (some ⟨b, off, none⟩) n c, .int .i64 4] 121) = w5 at *
      generalize w1.heap.size = q at *
      rintro e w6 ⟨l, rfl, hi, ha, hR6, hK⟩
      have D := hK.iblk HD2.out (Nat.ne_of_lt HQ1.out) (Nat.ne_of_lt HQ1.out)
      have hq5 : w.heap.size + 1 ≤ w5.heap.size := Nat.le_trans HQ1.out (Nat.le_of_lt HC2.out.lt)
      have hab : IAb (w.heap.size + 1) l := ⟨fun b o h => Nat.le_trans hq5 (ha.1 b o h), fun b o h => Nat.le_trans hq5 (ha.2.1 b o h), fun b o h => Nat.le_trans hq5 (ha.2.2 b o h)⟩
      obtain ⟨v, hv⟩ : ∃ v : IV, v = ivOf i l := ⟨_, rfl⟩
      have hbel := ist_below (HB2.out.trans (hK.below _ (Nat.le_of_lt HQ1.out) (Nat.le_of_lt HQ1.out))) (Nat.le_refl w.heap.size) v
      have hsz : (Fbk.ist w6 w.heap.size v).heap.size = w6.heap.size := ist_size _ _ _
      have HW := Lib.hid (show IBlk ((((((((((w6.setCell ⟨w.heap.size, 0, none⟩ (.int .i64 v.kind)).setCell ⟨w.heap.size, 1, none⟩ (.int .u32 v.ssrc)).setCell ⟨w.heap.size, 2, none⟩ (.int .u64 v.ntp)).setCell ⟨w.heap.size, 3, none⟩ (.int .u32 v.time)).setCell ⟨w.heap.size, 4, none⟩ (.int .u32 v.pks)).setCell ⟨w.heap.size, 5, none⟩ (.int .u32 v.ocs)).setCell ⟨w.heap.size, 6, none⟩ (.slice v.ba v.bn v.bc)).setCell ⟨w.heap.size, 7, none⟩ (.slice v.ga v.gn v.gc)).setCell ⟨w.heap.size, 8, none⟩ (.int .u32 v.media)).setCell ⟨w.heap.size, 9, none⟩ (.slice v.pa v.pn v.pc)) w.heap.size v ∧ Below w.heap.size w ((((((((((w6.setCell ⟨w.heap.size, 0, none⟩ (.int .i64 v.kind)).setCell ⟨w.heap.size, 1, none⟩ (.int .u32 v.ssrc)).setCell ⟨w.heap.size, 2, none⟩ (.int .u64 v.ntp)).setCell ⟨w.heap.size, 3, none⟩ (.int .u32 v.time)).setCell ⟨w.heap.size, 4, none⟩ (.int .u32 v.pks)).setCell ⟨w.heap.size, 5, none⟩ (.int .u32 v.ocs)).setCell ⟨w.heap.size, 6, none⟩ (.slice v.ba v.bn v.bc)).setCell ⟨w.heap.size, 7, none⟩ (.slice v.ga v.gn v.gc)).setCell ⟨w.heap.size, 8, none⟩ (.int .u32 v.media)).setCell ⟨w.heap.size, 9, none⟩ (.slice v.pa v.pn v.pc)) ∧ IRd ((((((((((w6.setCell ⟨w.heap.size, 0, none⟩ (.int .i64 v.kind)).setCell ⟨w.heap.size, 1, none⟩ (.int .u32 v.ssrc)).setCell ⟨w.heap.size, 2, none⟩ (.int .u64 v.ntp)).setCell ⟨w.heap.size, 3, none⟩ (.int .u32 v.time)).setCell ⟨w.heap.size, 4, none⟩ (.int .u32 v.pks)).setCell ⟨w.heap.size, 5, none⟩ (.int .u32 v.ocs)).setCell ⟨w.heap.size, 6, none⟩ (.slice v.ba v.bn v.bc)).setCell ⟨w.heap.size, 7, none⟩ (.slice v.ga v.gn v.gc)).setCell ⟨w.heap.size, 8, none⟩ (.int .u32 v.media)).setCell ⟨w.heap.size, 9, none⟩ (.slice v.pa v.pn v.pc)) (((((((((((w6.setCell ⟨w.heap.size, 0, none⟩ (.int .i64 v.kind)).setCell ⟨w.heap.size, 1, none⟩ (.int .u32 v.ssrc)).setCell ⟨w.heap.size, 2, none⟩ (.int .u64 v.ntp)).setCell ⟨w.heap.size, 3, none⟩ (.int .u32 v.time)).setCell ⟨w.heap.size, 4, none⟩ (.int .u32 v.pks)).setCell ⟨w.heap.size, 5, none⟩ (.int .u32 v.ocs)).setCell ⟨w.heap.size, 6, none⟩ (.slice v.ba v.bn v.bc)).setCell ⟨w.heap.size, 7, none⟩ (.slice v.ga v.gn v.gc)).setCell ⟨w.heap.size, 8, none⟩ (.int .u32 v.media)).setCell ⟨w.heap.size, 9, none⟩ (.slice v.pa v.pn v.pc))).heap.size i l ∧ CRB ((((((((((w6.setCell ⟨w.heap.size, 0, none⟩ (.int .i64 v.kind)).setCell ⟨w.heap.size, 1, none⟩ (.int .u32 v.ssrc)).setCell ⟨w.heap.size, 2, none⟩ (.int .u64 v.ntp)).setCell ⟨w.heap.size, 3, none⟩ (.int .u32 v.time)).setCell ⟨w.heap.size, 4, none⟩ (.int .u32 v.pks)).setCell ⟨w.heap.size, 5, none⟩ (.int .u32 v.ocs)).setCell ⟨w.heap.size, 6, none⟩ (.slice v.ba v.bn v.bc)).setCell ⟨w.heap.size, 7, none⟩ (.slice v.ga v.gn v.gc)).setCell ⟨w.heap.size, 8, none⟩ (.int .u32 v.media)).setCell ⟨w.heap.size, 9, none⟩ (.slice v.pa v.pn v.pc)) q (some ⟨b, off, none⟩) n c m from
        ⟨D.store v, hbel, by have := hi.ist hab v; exact this.more (by exact Nat.le_of_eq hsz.symm), RWBlk.ist hR6 (Nat.ne_of_lt HQ1.out) v⟩)
      have HAB := Lib.hid (show IAb w.heap.size l from ⟨fun b o h => Nat.le_trans (Nat.le_of_lt hq5) (ha.1 b o h), fun b o h => Nat.le_trans (Nat.le_of_lt hq5) (ha.2.1 b o h), fun b o h => Nat.le_trans (Nat.le_of_lt hq5) (ha.2.2 b o h)⟩)
      have HAB1 := Lib.hid hab
      have HV := Lib.hid hv
      rw [← hv]
      obtain ⟨c0, f0, c1, f1, c2, f2, c3, f3, c4, f4, c5, f5, c6, f6, c7, f7, c8, f8, c9, f9⟩ := D.cf
      clear D hi ha hR6 hK hab hbel hsz hq5 hv HCI HD2 HC2 HB2
      go_wp2_with fail
      generalize ((((((((((w6.setCell ⟨w.heap.size, 0, none⟩ (.int .i64 v.kind)).setCell ⟨w.heap.size, 1, none⟩ (.int .u32 v.ssrc)).setCell ⟨w.heap.size, 2, none⟩ (.int .u64 v.ntp)).setCell ⟨w.heap.size, 3, none⟩ (.int .u32 v.time)).setCell ⟨w.heap.size, 4, none⟩ (.int .u32 v.pks)).setCell ⟨w.heap.size, 5, none⟩ (.int .u32 v.ocs)).setCell ⟨w.heap.size, 6, none⟩ (.slice v.ba v.bn v.bc)).setCell ⟨w.heap.size, 7, none⟩ (.slice v.ga v.gn v.gc)).setCell ⟨w.heap.size, 8, none⟩ (.int .u32 v.media)).setCell ⟨w.heap.size, 9, none⟩ (.slice v.pa v.pn v.pc)) = u1 at *
      clear c0 f0 c1 f1 c2 f2 c3 f3 c4 f4 c5 f5 c6 f6 c7 f7 c8 f8 c9 f9
      have HW2 : Hid (IBlk u1.drew w.heap.size v ∧ Below w.heap.size w u1.drew ∧ IRd u1.drew u1.drew.heap.size i l ∧ CRB u1.drew q (some ⟨b, off, none⟩) n c m) := ⟨HW.out.1, HW.out.2.1.drew, HW.out.2.2.1.below ((Below.refl _ _).drew), HW.out.2.2.2⟩
      refine region_seq (Sr2 w.heap.size q v (some ⟨b, off, none⟩) n c m) [(0, false), (1, false), (2, false), (3, true), (4, false), (5, false)] (by kernel_rfl) (by kernel_rfl) rfl (by kernel_rfl) ?_
      clear HW
      generalize u1.drew = u2 at *
      have hS : Sr2 w.heap.size q v (some ⟨b, off, none⟩) n c m u2 := ⟨HW2.out.1, HW2.out.2.2.2⟩
      have g0 : ∀ W, Sr2 w.heap.size q v (some ⟨b, off, none⟩) n c m W → W.cell? ⟨w.heap.size, 0, none⟩ = some (.int .i64 v.kind) := fun W h => h.1.c0
      have g1 : ∀ W, Sr2 w.heap.size q v (some ⟨b, off, none⟩) n c m W → W.cell? ⟨w.heap.size, 1, none⟩ = some (.int .u32 v.ssrc) := fun W h => h.1.c1
      have g2 : ∀ W, Sr2 w.heap.size q v (some ⟨b, off, none⟩) n c m W → W.cell? ⟨w.heap.size, 2, none⟩ = some (.int .u64 v.ntp) := fun W h => h.1.c2
      have g3 : ∀ W, Sr2 w.heap.size q v (some ⟨b, off, none⟩) n c m W → W.cell? ⟨w.heap.size, 3, none⟩ = some (.int .u32 v.time) := fun W h => h.1.c3
      have g4 : ∀ W, Sr2 w.heap.size q v (some ⟨b, off, none⟩) n c m W → W.cell? ⟨w.heap.size, 4, none⟩ = some (.int .u32 v.pks) := fun W h => h.1.c4
      have g5 : ∀ W, Sr2 w.heap.size q v (some ⟨b, off, none⟩) n c m W → W.cell? ⟨w.heap.size, 5, none⟩ = some (.int .u32 v.ocs) := fun W h => h.1.c5
      have g6 : ∀ W, Sr2 w.heap.size q v (some ⟨b, off, none⟩) n c m W → W.cell? ⟨w.heap.size, 6, none⟩ = some (.slice v.ba v.bn v.bc) := fun W h => h.1.c6
      have g7 : ∀ W, Sr2 w.heap.size q v (some ⟨b, off, none⟩) n c m W → W.cell? ⟨w.heap.size, 7, none⟩ = some (.slice v.ga v.gn v.gc) := fun W h => h.1.c7
      have g8 : ∀ W, Sr2 w.heap.size q v (some ⟨b, off, none⟩) n c m W → W.cell? ⟨w.heap.size, 8, none⟩ = some (.int .u32 v.media) := fun W h => h.1.c8
      have g9 : ∀ W, Sr2 w.heap.size q v (some ⟨b, off, none⟩) n c m W → W.cell? ⟨w.heap.size, 9, none⟩ = some (.slice v.pa v.pn v.pc) := fun W h => h.1.c9
      have gr : ∀ W, Sr2 w.heap.size q v (some ⟨b, off, none⟩) n c m W → W.cell? ⟨q, 1, none⟩ = some (.int .i64 m) := fun W h => h.2.c1
      obtain ⟨c0, f0, c1, f1, c2, f2, c3, f3, c4, f4, c5, f5, c6, f6, c7, f7, c8, f8, c9, f9⟩ := HW2.out.1.cf
      have hbel := ist_below HW2.out.2.1 (Nat.le_refl w.heap.size) v
      have hsz : (Fbk.ist u2 w.heap.size v).heap.size = u2.heap.size := ist_size _ _ _
      have hab : IAb (w.heap.size + 1) l := HAB1.out
      have HW3 := Lib.hid (show IBlk ((((((((((u2.setCell ⟨w.heap.size, 0, none⟩ (.int .i64 v.kind)).setCell ⟨w.heap.size, 1, none⟩ (.int .u32 v.ssrc)).setCell ⟨w.heap.size, 2, none⟩ (.int .u64 v.ntp)).setCell ⟨w.heap.size, 3, none⟩ (.int .u32 v.time)).setCell ⟨w.heap.size, 4, none⟩ (.int .u32 v.pks)).setCell ⟨w.heap.size, 5, none⟩ (.int .u32 v.ocs)).setCell ⟨w.heap.size, 6, none⟩ (.slice v.ba v.bn v.bc)).setCell ⟨w.heap.size, 7, none⟩ (.slice v.ga v.gn v.gc)).setCell ⟨w.heap.size, 8, none⟩ (.int .u32 v.media)).setCell ⟨w.heap.size, 9, none⟩ (.slice v.pa v.pn v.pc)) w.heap.size v ∧ Below w.heap.size w ((((((((((u2.setCell ⟨w.heap.size, 0, none⟩ (.int .i64 v.kind)).setCell ⟨w.heap.size, 1, none⟩ (.int .u32 v.ssrc)).setCell ⟨w.heap.size, 2, none⟩ (.int .u64 v.ntp)).setCell ⟨w.heap.size, 3, none⟩ (.int .u32 v.time)).setCell ⟨w.heap.size, 4, none⟩ (.int .u32 v.pks)).setCell ⟨w.heap.size, 5, none⟩ (.int .u32 v.ocs)).setCell ⟨w.heap.size, 6, none⟩ (.slice v.ba v.bn v.bc)).setCell ⟨w.heap.size, 7, none⟩ (.slice v.ga v.gn v.gc)).setCell ⟨w.heap.size, 8, none⟩ (.int .u32 v.media)).setCell ⟨w.heap.size, 9, none⟩ (.slice v.pa v.pn v.pc)) ∧ IRd ((((((((((u2.setCell ⟨w.heap.size, 0, none⟩ (.int .i64 v.kind)).setCell ⟨w.heap.size, 1, none⟩ (.int .u32 v.ssrc)).setCell ⟨w.heap.size, 2, none⟩ (.int .u64 v.ntp)).setCell ⟨w.heap.size, 3, none⟩ (.int .u32 v.time)).setCell ⟨w.heap.size, 4, none⟩ (.int .u32 v.pks)).setCell ⟨w.heap.size, 5, none⟩ (.int .u32 v.ocs)).setCell ⟨w.heap.size, 6, none⟩ (.slice v.ba v.bn v.bc)).setCell ⟨w.heap.size, 7, none⟩ (.slice v.ga v.gn v.gc)).setCell ⟨w.heap.size, 8, none⟩ (.int .u32 v.media)).setCell ⟨w.heap.size, 9, none⟩ (.slice v.pa v.pn v.pc)) (((((((((((u2.setCell ⟨w.heap.size, 0, none⟩ (.int .i64 v.kind)).setCell ⟨w.heap.size, 1, none⟩ (.int .u32 v.ssrc)).setCell ⟨w.heap.size, 2, none⟩ (.int .u64 v.ntp)).setCell ⟨w.heap.size, 3, none⟩ (.int .u32 v.time)).setCell ⟨w.heap.size, 4, none⟩ (.int .u32 v.pks)).setCell ⟨w.heap.size, 5, none⟩ (.int .u32 v.ocs)).setCell ⟨w.heap.size, 6, none⟩ (.slice v.ba v.bn v.bc)).setCell ⟨w.heap.size, 7, none⟩ (.slice v.ga v.gn v.gc)).setCell ⟨w.heap.size, 8, none⟩ (.int .u32 v.media)).setCell ⟨w.heap.size, 9, none⟩ (.slice v.pa v.pn v.pc))).heap.size i l ∧ CRB ((((((((((u2.setCell ⟨w.heap.size, 0, none⟩ (.int .i64 v.kind)).setCell ⟨w.heap.size, 1, none⟩ (.int .u32 v.ssrc)).setCell ⟨w.heap.size, 2, none⟩ (.int .u64 v.ntp)).setCell ⟨w.heap.size, 3, none⟩ (.int .u32 v.time)).setCell ⟨w.heap.size, 4, none⟩ (.int .u32 v.pks)).setCell ⟨w.heap.size, 5, none⟩ (.int .u32 v.ocs)).setCell ⟨w.heap.size, 6, none⟩ (.slice v.ba v.bn v.bc)).setCell ⟨w.heap.size, 7, none⟩ (.slice v.ga v.gn v.gc)).setCell ⟨w.heap.size, 8, none⟩ (.int .u32 v.media)).setCell ⟨w.heap.size, 9, none⟩ (.slice v.pa v.pn v.pc)) q (some ⟨b, off, none⟩) n c m from
        ⟨HW2.out.1.store v, hbel, by have := HW2.out.2.2.1.ist hab v; exact this.more (by exact Nat.le_of_eq hsz.symm), RWBlk.ist HW2.out.2.2.2 (Nat.ne_of_lt HQ1.out) v⟩)
      clear hbel hsz hab HW2
      iterate 3 (refine seq_read (v := _) rfl (fun _ _ _ h => h) hS (Or.inl ⟨by rfl, fun W hW => by go_simp <;> with_reducible rfl⟩) ?_; simp only [Act.put, List.setIfInBounds_toArray, List.set_cons_zero, List.set_cons_succ])
      clear g0 g1 g2 g3 g4 g5 g6 g7 g8 g9 gr
      refine seq_do rfl (fun K hK => ?_)
      go_simp
      refine hK.out _ _ _ (fun W h => h) (show Sr2 w.heap.size q v (some ⟨b, off, none⟩) n c m ((((((((((u2.setCell ⟨w.heap.size, 0, none⟩ (.int .i64 v.kind)).setCell ⟨w.heap.size, 1, none⟩ (.int .u32 v.ssrc)).setCell ⟨w.heap.size, 2, none⟩ (.int .u64 v.ntp)).setCell ⟨w.heap.size, 3, none⟩ (.int .u32 v.time)).setCell ⟨w.heap.size, 4, none⟩ (.int .u32 v.pks)).setCell ⟨w.heap.size, 5, none⟩ (.int .u32 v.ocs)).setCell ⟨w.heap.size, 6, none⟩ (.slice v.ba v.bn v.bc)).setCell ⟨w.heap.size, 7, none⟩ (.slice v.ga v.gn v.gc)).setCell ⟨w.heap.size, 8, none⟩ (.int .u32 v.media)).setCell ⟨w.heap.size, 9, none⟩ (.slice v.pa v.pn v.pc)) from ⟨HW3.out.1, HW3.out.2.2.2⟩) ?_
      generalize ((((((((((u2.setCell ⟨w.heap.size, 0, none⟩ (.int .i64 v.kind)).setCell ⟨w.heap.size, 1, none⟩ (.int .u32 v.ssrc)).setCell ⟨w.heap.size, 2, none⟩ (.int .u64 v.ntp)).setCell ⟨w.heap.size, 3, none⟩ (.int .u32 v.time)).setCell ⟨w.heap.size, 4, none⟩ (.int .u32 v.pks)).setCell ⟨w.heap.size, 5, none⟩ (.int .u32 v.ocs)).setCell ⟨w.heap.size, 6, none⟩ (.slice v.ba v.bn v.bc)).setCell ⟨w.heap.size, 7, none⟩ (.slice v.ga v.gn v.gc)).setCell ⟨w.heap.size, 8, none⟩ (.int .u32 v.media)).setCell ⟨w.heap.size, 9, none⟩ (.slice v.pa v.pn v.pc)) = u3 at *
      have hS : Sr2 w.heap.size q v (some ⟨b, off, none⟩) n c m u3 := ⟨HW3.out.1, HW3.out.2.2.2⟩
      clear hK K c0 f0 c1 f1 c2 f2 c3 f3 c4 f4 c5 f5 c6 f6 c7 f7 c8 f8 c9 f9
      iterate 2 (refine seq_read (v := _) rfl (fun _ _ _ h => h) hS (Or.inl ⟨by rfl, fun W hW => by go_simp <;> with_reducible rfl⟩) ?_; simp only [Act.put, List.setIfInBounds_toArray, List.set_cons_zero, List.set_cons_succ])
      refine seq_end ?_
      clear hS
      go_wp2
      refine retO_at HW3.out.1 ?_
      rw [HV.out]
      exact ⟨l, rfl, HW3.out.2.2.1, HAB.out, HW3.out.2.1⟩

end Go.Proofs.Ythmmafpmpnhleaa.Fbk

namespace Go.Proofs.Ythmmafpmpnhleaa.Fbk
open Go.RowKit
set_option linter.unusedVariables false

theorem iE_head {xs : List Int} (h4 : ¬ xs.length < 4) (h0 : xs.getD 0 0 / 32 = 4) : iE xs = if hE (xs.getD 1 0) (cI xs) (gI xs) ≠ 0 then hE (xs.getD 1 0) (cI xs) (gI xs) else if (xs.length : Int) < 4 + 4 * gI xs then 2 else 0 := by
  rw [iE, if_neg h4, if_neg (by omega)]
theorem one_ours (b off n c B : Nat) (xs : List Int) (w : World) (hl : n ≤ maxLen) (hlc : n ≤ c) (hr : Rd w B (some ⟨b, off, none⟩) n xs) (hB : B ≤ w.heap.size) (h4 : 4 ≤ n) (h0 : xs.getD 0 0 / 32 = 4) (K cnt : Int) (hK : xs.getD 1 0 = K) (k : Bool)
    (h3 : (K = 203 ∧ cnt = cI xs) ∨ (K = 205 ∧ cnt = gI xs - 2) ∨ (K = 206 ∧ cnt = 0)) (hbb : (K != 203) = false ∨ ((K != 203) = true ∧ (cI xs != 1) = false)) (hk : hE K (cI xs) (gI xs) = if k = true then 0 else 1)
    (CL : ∀ W, Calls Try.prog 72 #[.int .i64 K, .int .i64 (cI xs), .int .i64 (gI xs)] W (RetL cnt k W)) :
    Calls Try.prog 43 #[.slice (some ⟨b, off, none⟩) n c] w (IRetA w (gIV xs) (gIN xs) (iE xs)) := by
  have hx := hr.1
  have hb := hr.2.1
  obtain ⟨b', off', ea, hbB, hc⟩ := hr.2.2 (by omega)
  simp only [Option.some.injEq, Addr.mk.injEq, and_true] at ea
  obtain ⟨rfl, rfl⟩ := ea
  have c0 := hc 0 (by omega)
  have c1 := hc 1 (by omega)
  rw [Nat.add_zero] at c0
  rw [hK] at c1
  have b0 := hb.getD 0
  have b1 := hb.getD 1
  have b2 := hb.getD 2
  have b3 := hb.getD 3
  have hei := iE_head (xs := xs) (by omega) h0
  rw [hK, hk, hx] at hei
  have hg : 0 ≤ gI xs ∧ gI xs ≤ 65535 := by unfold gI; omega
  have hm : gIN xs ≤ 281474976710656 := by
    unfold gIN
    split
    · unfold iN; omega
    · omega
  refine one_tail b off n c (xs.getD 0 0) K (cI xs) w h4 (by omega) ?_ (and_31 _ b0.1 b0.2) (by unfold cI; omega) (by omega) c0 c1 (by omega) hbb (gI xs) cnt k (gIV xs) (gIN xs) (iE xs) hg hm ?_ ?_ CL ?_
  · rw [and_224 _ b0.1 b0.2]; exact decide_eq_false (by omega)
  · refine ⟨fun h => ?_, fun h h2 => ?_, fun h h2 => ?_⟩
    · have e : iE xs = 1 := by rw [hei, h]; simp
      exact ⟨by rw [gIV, e]; rfl, by rw [gIN, e]; rfl, e⟩
    · have e : iE xs = 2 := by rw [hei, h]; simp; omega
      exact ⟨by rw [gIV, e]; rfl, by rw [gIN, e]; rfl, e⟩
    · rw [hei, h]; simp; omega
  · intro W hW
    have := Fld.get_any (some ⟨b, off, none⟩) n c B 2 2 xs W hl hlc (hr.below (hW.mono hB))
    have e1 : numGet xs 2 2 = gI xs := (numGet_nb xs 2 2 (by omega) (by omega) (by omega)).trans (nb_two xs (by omega))
    rw [e1, show withinB n 2 2 = true from by simp [withinB]; omega] at this
    exact this
  · intro h h2 W q hW hq hR
    have e : iE xs = 0 := by rw [hei, h]; simp; omega
    rw [gIV, gIN, if_pos e, if_pos e]
    exact citem_iv b off n c q xs W hR ((hr.below (hW.mono hB)).more (by omega)) hl hlc e K cnt hK h3
theorem one_any (a : Option Addr) (n c B : Nat) (xs : List Int) (w : World) (hl : n ≤ maxLen) (hlc : n ≤ c) (hr : Rd w B a n xs) (hB : B ≤ w.heap.size) :
    Calls Try.prog 43 #[.slice a n c] w (IRetA w (gIV xs) (gIN xs) (iE xs)) := by
  have hx := hr.1
  have hb := hr.2.1
  by_cases h4 : n < 4
  · have e1 : iE xs = 2 := by rw [iE, if_pos (by omega)]
    rw [gIV, gIN, e1, if_neg (by decide), if_neg (by decide)]
    exact one_short a n c w h4
  · obtain ⟨b, off, ea, hbB, hc⟩ := hr.2.2 (by omega)
    have b0 := hb.getD 0
    have b1 := hb.getD 1
    have c0 := hc 0 (by omega)
    have c1 := hc 1 (by omega)
    rw [Nat.add_zero] at c0
    have hbw : b < w.heap.size := by omega
    have hcI : 0 ≤ cI xs ∧ cI xs ≤ 31 := by unfold cI; omega
    have hgI : 0 ≤ gI xs ∧ gI xs ≤ 65535 := by have := hb.getD 2; have := hb.getD 3; unfold gI; omega
    by_cases h0 : xs.getD 0 0 / 32 ≠ 4
    · have e1 : iE xs = 1 := by rw [iE, if_neg (by omega), if_pos h0]
      rw [gIV, gIN, e1, if_neg (by decide), if_neg (by decide), ea]
      exact one_form b off n c _ w (by omega) hbw (by rw [and_224 _ b0.1 b0.2]; exact decide_eq_true h0) c0
    · have h0' : xs.getD 0 0 / 32 = 4 := by omega
      have hei := iE_head (xs := xs) (by omega) h0'
      have hq : (bits BinOp.and IntKind.u8 (xs.getD 0 0) 224 != 128) = false := by rw [and_224 _ b0.1 b0.2]; exact decide_eq_false (by omega)
      subst ea
      by_cases hk : xs.getD 1 0 = 203 ∨ xs.getD 1 0 = 205 ∨ xs.getD 1 0 = 206
      · rcases hk with hk | hk | hk
        · refine one_ours b off n c B xs w hl hlc hr hB (by omega) h0' 203 (cI xs) hk ((decide (1 ≤ cI xs) && decide (cI xs ≤ 15)) && decide (gI xs = cI xs)) (.inl ⟨rfl, rfl⟩) (.inl rfl) ?_ (fun W => listed_203 _ _ W)
          unfold hE
          rw [if_neg (by decide), if_neg (by decide), if_pos rfl]
          by_cases hq : cI xs < 1 ∨ 15 < cI xs ∨ gI xs ≠ cI xs
          · rw [if_pos hq, if_neg (by simp; omega)]
          · rw [if_neg hq, if_pos (by simp; omega)]
        · by_cases h1 : cI xs = 1
          · refine one_ours b off n c B xs w hl hlc hr hB (by omega) h0' 205 (gI xs - 2) hk (decide (1 ≤ gI xs - 2) && decide (gI xs - 2 ≤ 16)) (.inr (.inl ⟨rfl, rfl⟩)) (.inr ⟨rfl, by simpa using h1⟩) ?_ (fun W => listed_205 _ _ W hgI.1 hgI.2)
            unfold hE
            rw [if_neg (by decide), if_neg (by decide), if_neg (by decide), if_pos rfl, if_neg (by omega)]
            by_cases hq : gI xs < 3 ∨ 18 < gI xs
            · rw [if_pos hq, if_neg (by simp; omega)]
            · rw [if_neg hq, if_pos (by simp; omega)]
          · have e1 : iE xs = 4 := by
              rw [hei, hk]; unfold hE
              rw [if_neg (show ¬ (205 : Int) = 200 by decide), if_neg (show ¬ (205 : Int) = 201 by decide), if_neg (show ¬ (205 : Int) = 203 by decide), if_pos rfl, if_pos h1]; rfl
            rw [gIV, gIN, e1, if_neg (by decide), if_neg (by decide)]
            exact one_kind b off n c _ _ (cI xs) w (by omega) hbw hq (and_31 _ b0.1 b0.2) hcI (by omega) c0 c1 (.inr (.inl hk)) (by rw [hk]; rfl) (by simpa using h1)
        · by_cases h1 : cI xs = 1
          · refine one_ours b off n c B xs w hl hlc hr hB (by omega) h0' 206 0 hk (decide (gI xs = 2)) (.inr (.inr ⟨rfl, rfl⟩)) (.inr ⟨rfl, by simpa using h1⟩) ?_ (fun W => listed_206 _ _ W)
            unfold hE
            rw [if_neg (by decide), if_neg (by decide), if_neg (by decide), if_neg (by decide), if_pos rfl, if_neg (by omega)]
            by_cases hq : gI xs ≠ 2
            · rw [if_pos hq, if_neg (by simp; omega)]
            · rw [if_neg hq, if_pos (by simp; omega)]
          · have e1 : iE xs = 4 := by
              rw [hei, hk]; unfold hE
              rw [if_neg (show ¬ (206 : Int) = 200 by decide), if_neg (show ¬ (206 : Int) = 201 by decide), if_neg (show ¬ (206 : Int) = 203 by decide), if_neg (show ¬ (206 : Int) = 205 by decide), if_pos rfl, if_pos h1]; rfl
            rw [gIV, gIN, e1, if_neg (by decide), if_neg (by decide)]
            exact one_kind b off n c _ _ (cI xs) w (by omega) hbw hq (and_31 _ b0.1 b0.2) hcI (by omega) c0 c1 (.inr (.inr hk)) (by rw [hk]; rfl) (by simpa using h1)
      · have e : rE xs = iE xs := by
          rw [rE, if_neg (by omega), if_neg h0]
          by_cases hr : isRep (xs.getD 1 0) = false
          · rw [if_pos hr, hei]
            have : hE (xs.getD 1 0) (cI xs) (gI xs) = 4 := by
              simp only [isRep, Bool.or_eq_false_iff, decide_eq_false_iff_not] at hr
              unfold hE
              rw [if_neg hr.1, if_neg hr.2, if_neg (by omega), if_neg (by omega), if_neg (by omega)]
            rw [this]; rfl
          · rw [if_neg hr]
        have CR := fun W (hW : Below w.heap.size w W) => get_anyA (some ⟨b, off, none⟩) n c B xs W hl hlc (hr.below (hW.mono hB)) (Nat.le_trans hB hW.size)
        unfold gRV gRN at CR
        rw [e] at CR
        exact one_rep b off n c _ _ (cI xs) w (by omega) hbw hq (and_31 _ b0.1 b0.2) hcI (by omega) c0 c1 (by omega) _ _ _ CR
end Go.Proofs.Ythmmafpmpnhleaa.Fbk
