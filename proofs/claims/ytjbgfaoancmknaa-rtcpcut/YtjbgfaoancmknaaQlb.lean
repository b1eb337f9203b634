/- The contract of the reference's item: farewells, what is asked for again, pictures. -/
import Derived.Test.YtjbgfaoancmknaaQl
namespace Go.Proofs.Ytjbgfaoancmknaa.Fbk
open Go.RowKit
set_option linter.unusedVariables false

def w32L : Lay Int := ⟨28, 1, fun x => [.int .u32 x], fun _ => rfl, fun x v hv => by
  simp only [List.mem_cons, List.not_mem_nil, or_false] at hv
  subst hv; rfl, by decide⟩
theorem info_w32 : (Try.prog.info? 28).map (fun i => (i.zero, i.size, i.bytes)) = some (some (.int .u32 0), 1, 4) := by kernel_rfl
theorem info_pair : (Try.prog.info? 66).map (fun i => (i.zero, i.size, i.bytes)) = some (some (.agg #[.int .u16 0, .int .u16 0]), 2, 4) := by kernel_rfl
theorem rowRd_wd {w : World} {B n : Nat} {a : Option Addr} {xs : List Int} (h : RowRd w32L w B a n xs) (hw : Words xs) : Wd w B a n xs :=
  ⟨h.1, hw, fun hn => by
    obtain ⟨b, off, e, hlt, hc⟩ := h.2 hn
    refine ⟨b, off, e, hlt, fun i hi => ?_⟩
    obtain ⟨x, hx⟩ : ∃ x, xs[i]? = some x := ⟨_, List.getElem?_eq_getElem (show i < xs.length from by rw [h.1]; exact hi)⟩
    have hq : w.cell? ⟨b, off + i * 1 + 0, none⟩ = some (.int .u32 x) := hc i x hx 0 _ rfl
    rw [Nat.mul_one, Nat.add_zero] at hq
    rw [hq, List.getD_eq_getElem?_getD, hx]
    rfl⟩
theorem pairsAt_snoc (b : List Int) : ∀ (k i : Nat), pairsAt b i (k + 1) = pairsAt b i k ++ [(nb b (i + 4 * k) 2, nb b (i + 4 * k + 2) 2)]
  | 0, i => rfl
  | k + 1, i => by rw [pairsAt, pairsAt_snoc b k (i + 4), pairsAt, List.cons_append, show i + 4 + 4 * k = i + 4 * (k + 1) from by omega]
def Sgc (b j : Nat) (A : Option Addr) (k c : Nat) (W : World) : Prop := W.cell? ⟨b, j, none⟩ = some (.slice A k c)
theorem wrap_u16' (x : Int) (h : U16 x) : IntKind.u16.wrap x = x := by have := h.1; have := h.2; simp [IntKind.wrap, IntKind.bits, IntKind.signed]; omega

set_option maxRecDepth 100000 in
set_option maxHeartbeats 16000000 in
theorem item_get203 (a : Option Addr) (n c m : Nat) (xs : List Int) (w : World) (hr : Rd w w.heap.size a n xs) (hl : n ≤ 1000) (hlc : n ≤ c) (hm : m ≤ 15) (hn : 0 + 4 * m = n) :
    Calls Try.prog 42 #[.int .i64 203, .int .i64 m, .slice a n c] w fun e w' => ∃ A k, e = .returned (itm ⟨203, 0, 0, 0, 0, 0, none, 0, 0, A, m, k, 0, none, 0, 0⟩) ∧ RowOwn w32L w' w.heap.size A m k (wordsAt xs 0 m) ∧ Below w.heap.size w w' := by
  obtain ⟨i0, hi0, hz0, hz1, hz2⟩ := info_parts info_w32
  have HI := Lib.hid (show Try.prog.info? 28 = some i0 ∧ i0.zero = some (.int .u32 0) ∧ i0.size = 1 ∧ i0.bytes = 4 from ⟨hi0, hz0, hz1, hz2⟩)
  have CR : Hid (∀ W (i s : Nat) (j t : Int), Below w.heap.size w W → 1 ≤ s → s ≤ 8 → i + s ≤ n → j = i → t = s → Calls Try.prog 56 #[.slice a n c, .int .i64 j, .int .i64 t] W fun e w' => e = .returned (.int .u64 (nb xs i s)) ∧ W = w') := fun W i s j t hW h1 h2 h3 hj ht =>
    read_nb a n c w.heap.size i s xs W (by unfold maxLen; omega) hlc (hr.below hW) h1 h2 h3 j hj t ht
  have Q32 := Lib.hid (fun i => wrap_u32 _ (nb32 xs hr.2.1 i))
  have Q16 := Lib.hid (fun i => wrap_u16' _ (nb16 xs hr.2.1 i))
  have HNN := Lib.hid hn
  have HLL := Lib.hid hl
  clear hr hl hlc hn hi0 hz0 hz1 hz2
  go_enter Try.func42, Try.ntmps42
  go_wp2_with fail
  go_loopw [8, 9] (fun sa sk wx => ∃ (k : Nat) (A : Option Addr) (z : Nat), k ≤ m ∧ sk = .int .i64 k ∧ sa = .int .i64 (0 + 4 * k : Nat) ∧ Hid (TS w wx ⟨203, 0, 0, 0, 0, 0, none, 0, 0, A, k, z, 0, none, 0, 0⟩) ∧ Hid (RowOwn w32L wx (w.heap.size + 2) A k z (wordsAt xs 0 k))) (fun _ sk _ => m - (intOf sk).toNat)
  case atStart => exact ⟨0, none, 0, by omega, rfl, rfl, TS.new w ⟨203, 0, 0, 0, 0, 0, none, 0, 0, none, 0, 0, 0, none, 0, 0⟩, RowOwn.nil _ _⟩
  case round =>
    obtain ⟨k, A, z, hk, rfl, rfl, hP, hO⟩ := hrel
    rename World => wx
    by_cases hlt : k < m
    · have hS : Sgc (w.heap.size + 1) 7 A k z wx.drew := hP.out.cur.c7
      have cc : ∀ W, Sgc (w.heap.size + 1) 7 A k z W → W.cell? ⟨w.heap.size + 1, 7, none⟩ = some (.slice A k z) := fun W h => h
      have HP0 : Hid (TS w wx.drew ⟨203, 0, 0, 0, 0, 0, none, 0, 0, A, k, z, 0, none, 0, 0⟩) := ⟨hP.out.below.drew, hP.out.res, hP.out.cur⟩
      have HO0 : Hid (RowOwn w32L wx.drew (w.heap.size + 2) A k z (wordsAt xs 0 k)) := hO.out
      have HY := Lib.hid (wordsAt_snoc xs 0 k)
      have HAT : Hid (0 + 4 * (k + 1) = 0 + 4 * k + 4) := by show 0 + 4 * (k + 1) = 0 + 4 * k + 4; omega
      have HLE := Lib.hid (show 0 + 4 * k + 4 ≤ n from by have := HNN.out; omega)
      have hat : 0 + 4 * k ≤ 1000 := by have := HNN.out; omega
      generalize 0 + 4 * k = p at *
      have C0 : Hid (∀ W, Below w.heap.size w W → Calls Try.prog 56 #[.slice a n c, .int .i64 (p : Int), .int .i64 4] W fun e w' => e = .returned (.int .u64 (nb xs p 4)) ∧ W = w') := fun W hW => CR.out W p 4 _ _ hW (by omega) (by omega) (by have := HLE.out; omega) (by omega) rfl
      have q0' := Q32.out p
      generalize nb xs p 4 = y0 at *
      clear hP hO CR
      go_wp2_with fail
      refine region_seqX (Sgc (w.heap.size + 1) 7 A k z) 9 [(0, false), (1, false), (2, false), (3, false), (4, true), (5, false), (6, true), (7, true), (8, false), (9, true)] (by kernel_rfl) (by kernel_rfl) rfl (by kernel_rfl) ?_
      generalize wx.drew = u0 at *
      iterate 4 (refine seqX_read (v := _) rfl (fun _ _ _ h => h) hS (Or.inl ⟨by rfl, fun W hW => by go_simp <;> with_reducible rfl⟩) ?_; simp only [Act.put, List.setIfInBounds_toArray, List.set_cons_zero, List.set_cons_succ])
      clear cc
      refine seqX_do rfl (fun K hK => ?_)
      go_simp
      refine (C0.out _ HP0.out.below).mono ?_
      rintro e w' ⟨rfl, rfl⟩
      refine hK.out _ _ _ (fun W h => h) hS ?_
      clear hK K C0
      iterate 1 (refine seqX_read (v := _) rfl (fun _ _ _ h => h) hS (Or.inl ⟨by rfl, fun W hW => by go_simp <;> with_reducible rfl⟩) ?_; simp only [Act.put, List.setIfInBounds_toArray, List.set_cons_zero, List.set_cons_succ])
      clear hS
      refine seqX_do rfl (fun K hK => ?_)
      have hbA := (Below.refl u0.heap.size u0).alloc (Nat.le_refl _) (.cells #[.int .u32 y0] 28)
      have HWB : Hid (RowRd w32L (u0.alloc (.cells #[.int .u32 y0] 28)) (u0.alloc (.cells #[.int .u32 y0] 28)).heap.size (some ⟨u0.heap.size, 0, none⟩) 1 [y0]) := rowRd_blk (L := w32L) (xs := [y0]) (heap_alloc_new u0 _) rfl
      have HP2 : Hid (TS w (u0.alloc (.cells #[.int .u32 y0] 28)) ⟨203, 0, 0, 0, 0, 0, none, 0, 0, A, k, z, 0, none, 0, 0⟩) := HP0.out.bel hbA
      have HO2 : Hid (RowOwn w32L (u0.alloc (.cells #[.int .u32 y0] 28)) (w.heap.size + 2) A k z (wordsAt xs 0 k)) := HO0.out.bel hbA
      clear HP0 HO0 hbA
      go_simp
      refine hK.out _ _ _ (fun W h => h) HP2.out.cur.c7 ?_
      clear hK K
      generalize u0.alloc (.cells #[.int .u32 y0] 28) = u2 at *
      generalize u0.heap.size = qb at *
      refine seqX_do rfl (fun K hK => ?_)
      rw [if_pos (by rfl)]
      refine oper_append_rows (L := w32L) (N := k + 1) (.tmp 96) (.tmp 101) rfl Try.underlying31 HI.out.1 HI.out.2.1 HI.out.2.2.1 HI.out.2.2.2 rfl (wordsAt xs 0 (k + 1)) rfl HY.out.symm rfl rfl HO2.out HWB.out HP2.out.cur.lt (by unfold maxLen; omega) (by omega) (fun A2 c2 u3 ho3 hb3 => hK.out _ _ _ (fun W h => h) (HP2.out.belq hb3).cur.c7 ?_)
      have Pc := HP2.out.belq hb3
      have hS : Sgc (w.heap.size + 1) 7 A k z u3 := Pc.cur.c7
      have x6 := Pc.cur.c7
      have y6' := Pc.cur.frozen 7
      have HPd : Hid (TS w (u3.setCell ⟨w.heap.size + 1, 7, none⟩ (.slice A2 (k + 1) c2)) ⟨203, 0, 0, 0, 0, 0, none, 0, 0, A2, (k + 1), c2, 0, none, 0, 0⟩) := Pc.set (Pc.cur.set7 A2 (k + 1) c2)
      have HOd : Hid (RowOwn w32L (u3.setCell ⟨w.heap.size + 1, 7, none⟩ (.slice A2 (k + 1) c2)) (w.heap.size + 2) A2 (k + 1) c2 (wordsAt xs 0 (k + 1))) := ho3.setOff (by omega) _
      clear hK K HP2 HO2 HWB Pc ho3 hb3
      simp only [Act.put, List.setIfInBounds_toArray, List.set_cons_zero, List.set_cons_succ]
      iterate 1 (refine seqX_read (v := _) rfl (fun _ _ _ h => h) hS (Or.inl ⟨by rfl, fun W hW => by go_simp <;> with_reducible rfl⟩) ?_; simp only [Act.put, List.setIfInBounds_toArray, List.set_cons_zero, List.set_cons_succ])
      refine seqX_last rfl (fun K hK => ?_)
      go_simp
      refine hK.out _ _ ?_
      clear hK K x6 y6' hS
      go_wp2
      go_roundw
      case rel => exact ⟨k + 1, A2, c2, by omega, by go_num, by rw [HAT.out]; go_num, HPd.out, HOd.out⟩
      case measure => simp [intOf]; omega
    · obtain rfl : k = m := by omega
      obtain ⟨v, hv⟩ : ∃ v : IV, v = ⟨203, 0, 0, 0, 0, 0, none, 0, 0, A, k, z, 0, none, 0, 0⟩ := ⟨_, rfl⟩
      have hP' := hP.out
      rw [← hv] at hP'
      have D := hP'.cur
      have E := hP'.res
      have x0 := D.c0
      have z0 := E.c0
      have f0 := E.frozen 0
      have x1 := D.c1
      have z1 := E.c1
      have f1 := E.frozen 1
      have x2 := D.c2
      have z2 := E.c2
      have f2 := E.frozen 2
      have x3 := D.c3
      have z3 := E.c3
      have f3 := E.frozen 3
      have x4 := D.c4
      have z4 := E.c4
      have f4 := E.frozen 4
      have x5 := D.c5
      have z5 := E.c5
      have f5 := E.frozen 5
      have x6 := D.c6
      have z6 := E.c6
      have f6 := E.frozen 6
      have x7 := D.c7
      have z7 := E.c7
      have f7 := E.frozen 7
      have x8 := D.c8
      have z8 := E.c8
      have f8 := E.frozen 8
      have x9 := D.c9
      have z9 := E.c9
      have f9 := E.frozen 9
      have HW := Lib.hid (show IBlk ((((((((((wx.setCell ⟨w.heap.size, 0, none⟩ (.int .i64 v.kind)).setCell ⟨w.heap.size, 1, none⟩ (.int .u32 v.ssrc)).setCell ⟨w.heap.size, 2, none⟩ (.int .u64 v.ntp)).setCell ⟨w.heap.size, 3, none⟩ (.int .u32 v.time)).setCell ⟨w.heap.size, 4, none⟩ (.int .u32 v.pks)).setCell ⟨w.heap.size, 5, none⟩ (.int .u32 v.ocs)).setCell ⟨w.heap.size, 6, none⟩ (.slice v.ba v.bn v.bc)).setCell ⟨w.heap.size, 7, none⟩ (.slice v.ga v.gn v.gc)).setCell ⟨w.heap.size, 8, none⟩ (.int .u32 v.media)).setCell ⟨w.heap.size, 9, none⟩ (.slice v.pa v.pn v.pc)) w.heap.size v ∧ Below w.heap.size w ((((((((((wx.setCell ⟨w.heap.size, 0, none⟩ (.int .i64 v.kind)).setCell ⟨w.heap.size, 1, none⟩ (.int .u32 v.ssrc)).setCell ⟨w.heap.size, 2, none⟩ (.int .u64 v.ntp)).setCell ⟨w.heap.size, 3, none⟩ (.int .u32 v.time)).setCell ⟨w.heap.size, 4, none⟩ (.int .u32 v.pks)).setCell ⟨w.heap.size, 5, none⟩ (.int .u32 v.ocs)).setCell ⟨w.heap.size, 6, none⟩ (.slice v.ba v.bn v.bc)).setCell ⟨w.heap.size, 7, none⟩ (.slice v.ga v.gn v.gc)).setCell ⟨w.heap.size, 8, none⟩ (.int .u32 v.media)).setCell ⟨w.heap.size, 9, none⟩ (.slice v.pa v.pn v.pc)) ∧ RowOwn w32L ((((((((((wx.setCell ⟨w.heap.size, 0, none⟩ (.int .i64 v.kind)).setCell ⟨w.heap.size, 1, none⟩ (.int .u32 v.ssrc)).setCell ⟨w.heap.size, 2, none⟩ (.int .u64 v.ntp)).setCell ⟨w.heap.size, 3, none⟩ (.int .u32 v.time)).setCell ⟨w.heap.size, 4, none⟩ (.int .u32 v.pks)).setCell ⟨w.heap.size, 5, none⟩ (.int .u32 v.ocs)).setCell ⟨w.heap.size, 6, none⟩ (.slice v.ba v.bn v.bc)).setCell ⟨w.heap.size, 7, none⟩ (.slice v.ga v.gn v.gc)).setCell ⟨w.heap.size, 8, none⟩ (.int .u32 v.media)).setCell ⟨w.heap.size, 9, none⟩ (.slice v.pa v.pn v.pc)) w.heap.size A k z (wordsAt xs 0 k) from
        ⟨E.store v, below_istore hP'.below (Nat.le_refl _) _ _ _ _ _ _ _ _ _ _, (RowOwn.ist hO.out (by omega) v).lower (by omega)⟩)
      have HV := Lib.hid hv
      clear hP hO hP' D E hv CR
      go_wp2
      generalize ((((((((((wx.setCell ⟨w.heap.size, 0, none⟩ (.int .i64 v.kind)).setCell ⟨w.heap.size, 1, none⟩ (.int .u32 v.ssrc)).setCell ⟨w.heap.size, 2, none⟩ (.int .u64 v.ntp)).setCell ⟨w.heap.size, 3, none⟩ (.int .u32 v.time)).setCell ⟨w.heap.size, 4, none⟩ (.int .u32 v.pks)).setCell ⟨w.heap.size, 5, none⟩ (.int .u32 v.ocs)).setCell ⟨w.heap.size, 6, none⟩ (.slice v.ba v.bn v.bc)).setCell ⟨w.heap.size, 7, none⟩ (.slice v.ga v.gn v.gc)).setCell ⟨w.heap.size, 8, none⟩ (.int .u32 v.media)).setCell ⟨w.heap.size, 9, none⟩ (.slice v.pa v.pn v.pc)) = u1 at *
      refine retT_at HW.out.1 ?_
      rw [HV.out]
      exact ⟨A, z, rfl, HW.out.2.2, HW.out.2.1⟩

set_option maxRecDepth 100000 in
set_option maxHeartbeats 16000000 in
theorem item_get205 (a : Option Addr) (n c m : Nat) (xs : List Int) (w : World) (hr : Rd w w.heap.size a n xs) (hl : n ≤ 1000) (hlc : n ≤ c) (hm : m ≤ 16) (hn : 8 + 4 * m = n) :
    Calls Try.prog 42 #[.int .i64 205, .int .i64 m, .slice a n c] w fun e w' => ∃ A k, e = .returned (itm ⟨205, nb xs 0 4, 0, 0, 0, 0, none, 0, 0, none, 0, 0, nb xs 4 4, A, m, k⟩) ∧ RowOwn pairL w' w.heap.size A m k (pairsAt xs 8 m) ∧ Below w.heap.size w w' := by
  obtain ⟨i0, hi0, hz0, hz1, hz2⟩ := info_parts info_pair
  have HI := Lib.hid (show Try.prog.info? 66 = some i0 ∧ i0.zero = some (.agg #[.int .u16 0, .int .u16 0]) ∧ i0.size = 2 ∧ i0.bytes = 4 from ⟨hi0, hz0, hz1, hz2⟩)
  have CR : Hid (∀ W (i s : Nat) (j t : Int), Below w.heap.size w W → 1 ≤ s → s ≤ 8 → i + s ≤ n → j = i → t = s → Calls Try.prog 56 #[.slice a n c, .int .i64 j, .int .i64 t] W fun e w' => e = .returned (.int .u64 (nb xs i s)) ∧ W = w') := fun W i s j t hW h1 h2 h3 hj ht =>
    read_nb a n c w.heap.size i s xs W (by unfold maxLen; omega) hlc (hr.below hW) h1 h2 h3 j hj t ht
  have Q32 := Lib.hid (fun i => wrap_u32 _ (nb32 xs hr.2.1 i))
  have Q16 := Lib.hid (fun i => wrap_u16' _ (nb16 xs hr.2.1 i))
  have HNN := Lib.hid hn
  have HLL := Lib.hid hl
  have q1 := Q32.out 0
  have q8 := Q32.out 4
  clear hr hl hlc hn hi0 hz0 hz1 hz2
  go_enter Try.func42, Try.ntmps42
  go_wp2_with fail
  refine (CR.out _ 0 4 0 4 (TS.new w ⟨205, 0, 0, 0, 0, 0, none, 0, 0, none, 0, 0, 0, none, 0, 0⟩).below (by omega) (by omega) (by have := HNN.out; omega) rfl rfl).mono ?_
  rintro e w' ⟨rfl, rfl⟩
  go_wp2_with fail
  refine (CR.out _ 4 4 4 4 (TS.new w ⟨205, nb xs 0 4, 0, 0, 0, 0, none, 0, 0, none, 0, 0, 0, none, 0, 0⟩).below (by omega) (by omega) (by have := HNN.out; omega) rfl rfl).mono ?_
  rintro e w' ⟨rfl, rfl⟩
  go_wp2_with fail
  go_loopw [8, 9] (fun sa sk wx => ∃ (k : Nat) (A : Option Addr) (z : Nat), k ≤ m ∧ sk = .int .i64 k ∧ sa = .int .i64 (8 + 4 * k : Nat) ∧ Hid (TS w wx ⟨205, nb xs 0 4, 0, 0, 0, 0, none, 0, 0, none, 0, 0, nb xs 4 4, A, k, z⟩) ∧ Hid (RowOwn pairL wx (w.heap.size + 2) A k z (pairsAt xs 8 k))) (fun _ sk _ => m - (intOf sk).toNat)
  case atStart => exact ⟨0, none, 0, by omega, rfl, rfl, TS.new w ⟨205, nb xs 0 4, 0, 0, 0, 0, none, 0, 0, none, 0, 0, nb xs 4 4, none, 0, 0⟩, RowOwn.nil _ _⟩
  case round =>
    obtain ⟨k, A, z, hk, rfl, rfl, hP, hO⟩ := hrel
    rename World => wx
    by_cases hlt : k < m
    · have hS : Sgc (w.heap.size + 1) 9 A k z wx.drew := hP.out.cur.c9
      have cc : ∀ W, Sgc (w.heap.size + 1) 9 A k z W → W.cell? ⟨w.heap.size + 1, 9, none⟩ = some (.slice A k z) := fun W h => h
      have HP0 : Hid (TS w wx.drew ⟨205, nb xs 0 4, 0, 0, 0, 0, none, 0, 0, none, 0, 0, nb xs 4 4, A, k, z⟩) := ⟨hP.out.below.drew, hP.out.res, hP.out.cur⟩
      have HO0 : Hid (RowOwn pairL wx.drew (w.heap.size + 2) A k z (pairsAt xs 8 k)) := hO.out
      have HY := Lib.hid (pairsAt_snoc xs k 8)
      have HAT : Hid (8 + 4 * (k + 1) = 8 + 4 * k + 4) := by show 8 + 4 * (k + 1) = 8 + 4 * k + 4; omega
      have HLE := Lib.hid (show 8 + 4 * k + 4 ≤ n from by have := HNN.out; omega)
      have hat : 8 + 4 * k ≤ 1000 := by have := HNN.out; omega
      generalize 8 + 4 * k = p at *
      have C0 : Hid (∀ W, Below w.heap.size w W → Calls Try.prog 56 #[.slice a n c, .int .i64 (p : Int), .int .i64 2] W fun e w' => e = .returned (.int .u64 (nb xs p 2)) ∧ W = w') := fun W hW => CR.out W p 2 _ _ hW (by omega) (by omega) (by have := HLE.out; omega) (by omega) rfl
      have q0' := Q16.out p
      have C1 : Hid (∀ W, Below w.heap.size w W → Calls Try.prog 56 #[.slice a n c, .int .i64 ((p : Int) + 2), .int .i64 2] W fun e w' => e = .returned (.int .u64 (nb xs (p + 2) 2)) ∧ W = w') := fun W hW => CR.out W (p + 2) 2 _ _ hW (by omega) (by omega) (by have := HLE.out; omega) (by omega) rfl
      have q1' := Q16.out (p + 2)
      have r1 : IntKind.i64.wrap ((p : Int) + 2) = p + 2 := IntWalk.i64_in _ (by omega)
      generalize nb xs p 2 = y0 at *
      generalize nb xs (p + 2) 2 = y1 at *
      clear hP hO CR
      go_wp2_with fail
      refine region_seqX (Sgc (w.heap.size + 1) 9 A k z) 15 [(0, false), (1, false), (2, false), (3, false), (6, false), (7, false), (8, false), (4, true), (5, false), (9, true), (10, false), (11, false), (12, true), (13, true), (14, false), (15, true)] (by kernel_rfl) (by kernel_rfl) rfl (by kernel_rfl) ?_
      generalize wx.drew = u0 at *
      iterate 7 (refine seqX_read (v := _) rfl (fun _ _ _ h => h) hS (Or.inl ⟨by rfl, fun W hW => by go_simp <;> with_reducible rfl⟩) ?_; simp only [Act.put, List.setIfInBounds_toArray, List.set_cons_zero, List.set_cons_succ])
      clear cc
      refine seqX_do rfl (fun K hK => ?_)
      go_simp
      refine (C0.out _ HP0.out.below).mono ?_
      rintro e w' ⟨rfl, rfl⟩
      refine hK.out _ _ _ (fun W h => h) hS ?_
      clear hK K C0
      iterate 1 (refine seqX_read (v := _) rfl (fun _ _ _ h => h) hS (Or.inl ⟨by rfl, fun W hW => by go_simp <;> with_reducible rfl⟩) ?_; simp only [Act.put, List.setIfInBounds_toArray, List.set_cons_zero, List.set_cons_succ])
      refine seqX_do rfl (fun K hK => ?_)
      go_simp
      refine (C1.out _ HP0.out.below).mono ?_
      rintro e w' ⟨rfl, rfl⟩
      refine hK.out _ _ _ (fun W h => h) hS ?_
      clear hK K C1
      iterate 2 (refine seqX_read (v := _) rfl (fun _ _ _ h => h) hS (Or.inl ⟨by rfl, fun W hW => by go_simp <;> with_reducible rfl⟩) ?_; simp only [Act.put, List.setIfInBounds_toArray, List.set_cons_zero, List.set_cons_succ])
      clear hS
      refine seqX_do rfl (fun K hK => ?_)
      have hbA := (Below.refl u0.heap.size u0).alloc (Nat.le_refl _) (.cells #[.int .u16 y0, .int .u16 y1] 66)
      have HWB : Hid (RowRd pairL (u0.alloc (.cells #[.int .u16 y0, .int .u16 y1] 66)) (u0.alloc (.cells #[.int .u16 y0, .int .u16 y1] 66)).heap.size (some ⟨u0.heap.size, 0, none⟩) 1 [(y0, y1)]) := rowRd_blk (L := pairL) (xs := [(y0, y1)]) (PrBlk.new u0 (y0, y1)) rfl
      have HP2 : Hid (TS w (u0.alloc (.cells #[.int .u16 y0, .int .u16 y1] 66)) ⟨205, nb xs 0 4, 0, 0, 0, 0, none, 0, 0, none, 0, 0, nb xs 4 4, A, k, z⟩) := HP0.out.bel hbA
      have HO2 : Hid (RowOwn pairL (u0.alloc (.cells #[.int .u16 y0, .int .u16 y1] 66)) (w.heap.size + 2) A k z (pairsAt xs 8 k)) := HO0.out.bel hbA
      clear HP0 HO0 hbA
      go_simp
      refine hK.out _ _ _ (fun W h => h) HP2.out.cur.c9 ?_
      clear hK K
      generalize u0.alloc (.cells #[.int .u16 y0, .int .u16 y1] 66) = u2 at *
      generalize u0.heap.size = qb at *
      refine seqX_do rfl (fun K hK => ?_)
      rw [if_pos (by rfl)]
      refine oper_append_rows (L := pairL) (N := k + 1) (.tmp 109) (.tmp 120) rfl Try.underlying32 HI.out.1 HI.out.2.1 HI.out.2.2.1 HI.out.2.2.2 rfl (pairsAt xs 8 (k + 1)) rfl HY.out.symm rfl rfl HO2.out HWB.out HP2.out.cur.lt (by unfold maxLen; omega) (by omega) (fun A2 c2 u3 ho3 hb3 => hK.out _ _ _ (fun W h => h) (HP2.out.belq hb3).cur.c9 ?_)
      have Pc := HP2.out.belq hb3
      have hS : Sgc (w.heap.size + 1) 9 A k z u3 := Pc.cur.c9
      have x6 := Pc.cur.c9
      have y6' := Pc.cur.frozen 9
      have HPd : Hid (TS w (u3.setCell ⟨w.heap.size + 1, 9, none⟩ (.slice A2 (k + 1) c2)) ⟨205, nb xs 0 4, 0, 0, 0, 0, none, 0, 0, none, 0, 0, nb xs 4 4, A2, (k + 1), c2⟩) := Pc.set (Pc.cur.set9 A2 (k + 1) c2)
      have HOd : Hid (RowOwn pairL (u3.setCell ⟨w.heap.size + 1, 9, none⟩ (.slice A2 (k + 1) c2)) (w.heap.size + 2) A2 (k + 1) c2 (pairsAt xs 8 (k + 1))) := ho3.setOff (by omega) _
      clear hK K HP2 HO2 HWB Pc ho3 hb3
      simp only [Act.put, List.setIfInBounds_toArray, List.set_cons_zero, List.set_cons_succ]
      iterate 1 (refine seqX_read (v := _) rfl (fun _ _ _ h => h) hS (Or.inl ⟨by rfl, fun W hW => by go_simp <;> with_reducible rfl⟩) ?_; simp only [Act.put, List.setIfInBounds_toArray, List.set_cons_zero, List.set_cons_succ])
      refine seqX_last rfl (fun K hK => ?_)
      go_simp
      refine hK.out _ _ ?_
      clear hK K x6 y6' hS
      go_wp2
      go_roundw
      case rel => exact ⟨k + 1, A2, c2, by omega, by go_num, by rw [HAT.out]; go_num, HPd.out, HOd.out⟩
      case measure => simp [intOf]; omega
    · obtain rfl : k = m := by omega
      obtain ⟨v, hv⟩ : ∃ v : IV, v = ⟨205, nb xs 0 4, 0, 0, 0, 0, none, 0, 0, none, 0, 0, nb xs 4 4, A, k, z⟩ := ⟨_, rfl⟩
      have hP' := hP.out
      rw [← hv] at hP'
      have D := hP'.cur
      have E := hP'.res
      have x0 := D.c0
      have z0 := E.c0
      have f0 := E.frozen 0
      have x1 := D.c1
      have z1 := E.c1
      have f1 := E.frozen 1
      have x2 := D.c2
      have z2 := E.c2
      have f2 := E.frozen 2
      have x3 := D.c3
      have z3 := E.c3
      have f3 := E.frozen 3
      have x4 := D.c4
      have z4 := E.c4
      have f4 := E.frozen 4
      have x5 := D.c5
      have z5 := E.c5
      have f5 := E.frozen 5
      have x6 := D.c6
      have z6 := E.c6
      have f6 := E.frozen 6
      have x7 := D.c7
      have z7 := E.c7
      have f7 := E.frozen 7
      have x8 := D.c8
      have z8 := E.c8
      have f8 := E.frozen 8
      have x9 := D.c9
      have z9 := E.c9
      have f9 := E.frozen 9
      have HW := Lib.hid (show IBlk ((((((((((wx.setCell ⟨w.heap.size, 0, none⟩ (.int .i64 v.kind)).setCell ⟨w.heap.size, 1, none⟩ (.int .u32 v.ssrc)).setCell ⟨w.heap.size, 2, none⟩ (.int .u64 v.ntp)).setCell ⟨w.heap.size, 3, none⟩ (.int .u32 v.time)).setCell ⟨w.heap.size, 4, none⟩ (.int .u32 v.pks)).setCell ⟨w.heap.size, 5, none⟩ (.int .u32 v.ocs)).setCell ⟨w.heap.size, 6, none⟩ (.slice v.ba v.bn v.bc)).setCell ⟨w.heap.size, 7, none⟩ (.slice v.ga v.gn v.gc)).setCell ⟨w.heap.size, 8, none⟩ (.int .u32 v.media)).setCell ⟨w.heap.size, 9, none⟩ (.slice v.pa v.pn v.pc)) w.heap.size v ∧ Below w.heap.size w ((((((((((wx.setCell ⟨w.heap.size, 0, none⟩ (.int .i64 v.kind)).setCell ⟨w.heap.size, 1, none⟩ (.int .u32 v.ssrc)).setCell ⟨w.heap.size, 2, none⟩ (.int .u64 v.ntp)).setCell ⟨w.heap.size, 3, none⟩ (.int .u32 v.time)).setCell ⟨w.heap.size, 4, none⟩ (.int .u32 v.pks)).setCell ⟨w.heap.size, 5, none⟩ (.int .u32 v.ocs)).setCell ⟨w.heap.size, 6, none⟩ (.slice v.ba v.bn v.bc)).setCell ⟨w.heap.size, 7, none⟩ (.slice v.ga v.gn v.gc)).setCell ⟨w.heap.size, 8, none⟩ (.int .u32 v.media)).setCell ⟨w.heap.size, 9, none⟩ (.slice v.pa v.pn v.pc)) ∧ RowOwn pairL ((((((((((wx.setCell ⟨w.heap.size, 0, none⟩ (.int .i64 v.kind)).setCell ⟨w.heap.size, 1, none⟩ (.int .u32 v.ssrc)).setCell ⟨w.heap.size, 2, none⟩ (.int .u64 v.ntp)).setCell ⟨w.heap.size, 3, none⟩ (.int .u32 v.time)).setCell ⟨w.heap.size, 4, none⟩ (.int .u32 v.pks)).setCell ⟨w.heap.size, 5, none⟩ (.int .u32 v.ocs)).setCell ⟨w.heap.size, 6, none⟩ (.slice v.ba v.bn v.bc)).setCell ⟨w.heap.size, 7, none⟩ (.slice v.ga v.gn v.gc)).setCell ⟨w.heap.size, 8, none⟩ (.int .u32 v.media)).setCell ⟨w.heap.size, 9, none⟩ (.slice v.pa v.pn v.pc)) w.heap.size A k z (pairsAt xs 8 k) from
        ⟨E.store v, below_istore hP'.below (Nat.le_refl _) _ _ _ _ _ _ _ _ _ _, (RowOwn.ist hO.out (by omega) v).lower (by omega)⟩)
      have HV := Lib.hid hv
      clear hP hO hP' D E hv CR
      go_wp2
      generalize ((((((((((wx.setCell ⟨w.heap.size, 0, none⟩ (.int .i64 v.kind)).setCell ⟨w.heap.size, 1, none⟩ (.int .u32 v.ssrc)).setCell ⟨w.heap.size, 2, none⟩ (.int .u64 v.ntp)).setCell ⟨w.heap.size, 3, none⟩ (.int .u32 v.time)).setCell ⟨w.heap.size, 4, none⟩ (.int .u32 v.pks)).setCell ⟨w.heap.size, 5, none⟩ (.int .u32 v.ocs)).setCell ⟨w.heap.size, 6, none⟩ (.slice v.ba v.bn v.bc)).setCell ⟨w.heap.size, 7, none⟩ (.slice v.ga v.gn v.gc)).setCell ⟨w.heap.size, 8, none⟩ (.int .u32 v.media)).setCell ⟨w.heap.size, 9, none⟩ (.slice v.pa v.pn v.pc)) = u1 at *
      refine retT_at HW.out.1 ?_
      rw [HV.out]
      exact ⟨A, z, rfl, HW.out.2.2, HW.out.2.1⟩

set_option maxRecDepth 100000 in
set_option maxHeartbeats 16000000 in
theorem item_get206 (a : Option Addr) (n c m : Nat) (xs : List Int) (w : World) (hr : Rd w w.heap.size a n xs) (hl : n ≤ 1000) (hlc : n ≤ c) (hm : m ≤ 0) (hn : 8 + 4 * m = n) :
    Calls Try.prog 42 #[.int .i64 206, .int .i64 m, .slice a n c] w fun e w' => ∃ A k, e = .returned (itm ⟨206, nb xs 0 4, 0, 0, 0, 0, none, 0, 0, none, 0, 0, nb xs 4 4, A, m, k⟩) ∧ RowOwn pairL w' w.heap.size A m k (pairsAt xs 8 m) ∧ Below w.heap.size w w' := by
  obtain ⟨i0, hi0, hz0, hz1, hz2⟩ := info_parts info_pair
  have HI := Lib.hid (show Try.prog.info? 66 = some i0 ∧ i0.zero = some (.agg #[.int .u16 0, .int .u16 0]) ∧ i0.size = 2 ∧ i0.bytes = 4 from ⟨hi0, hz0, hz1, hz2⟩)
  have CR : Hid (∀ W (i s : Nat) (j t : Int), Below w.heap.size w W → 1 ≤ s → s ≤ 8 → i + s ≤ n → j = i → t = s → Calls Try.prog 56 #[.slice a n c, .int .i64 j, .int .i64 t] W fun e w' => e = .returned (.int .u64 (nb xs i s)) ∧ W = w') := fun W i s j t hW h1 h2 h3 hj ht =>
    read_nb a n c w.heap.size i s xs W (by unfold maxLen; omega) hlc (hr.below hW) h1 h2 h3 j hj t ht
  have Q32 := Lib.hid (fun i => wrap_u32 _ (nb32 xs hr.2.1 i))
  have Q16 := Lib.hid (fun i => wrap_u16' _ (nb16 xs hr.2.1 i))
  have HNN := Lib.hid hn
  have HLL := Lib.hid hl
  have q1 := Q32.out 0
  have q8 := Q32.out 4
  clear hr hl hlc hn hi0 hz0 hz1 hz2
  go_enter Try.func42, Try.ntmps42
  go_wp2_with fail
  refine (CR.out _ 0 4 0 4 (TS.new w ⟨206, 0, 0, 0, 0, 0, none, 0, 0, none, 0, 0, 0, none, 0, 0⟩).below (by omega) (by omega) (by have := HNN.out; omega) rfl rfl).mono ?_
  rintro e w' ⟨rfl, rfl⟩
  go_wp2_with fail
  refine (CR.out _ 4 4 4 4 (TS.new w ⟨206, nb xs 0 4, 0, 0, 0, 0, none, 0, 0, none, 0, 0, 0, none, 0, 0⟩).below (by omega) (by omega) (by have := HNN.out; omega) rfl rfl).mono ?_
  rintro e w' ⟨rfl, rfl⟩
  go_wp2_with fail
  go_loopw [8, 9] (fun sa sk wx => ∃ (k : Nat) (A : Option Addr) (z : Nat), k ≤ m ∧ sk = .int .i64 k ∧ sa = .int .i64 (8 + 4 * k : Nat) ∧ Hid (TS w wx ⟨206, nb xs 0 4, 0, 0, 0, 0, none, 0, 0, none, 0, 0, nb xs 4 4, A, k, z⟩) ∧ Hid (RowOwn pairL wx (w.heap.size + 2) A k z (pairsAt xs 8 k))) (fun _ sk _ => m - (intOf sk).toNat)
  case atStart => exact ⟨0, none, 0, by omega, rfl, rfl, TS.new w ⟨206, nb xs 0 4, 0, 0, 0, 0, none, 0, 0, none, 0, 0, nb xs 4 4, none, 0, 0⟩, RowOwn.nil _ _⟩
  case round =>
    obtain ⟨k, A, z, hk, rfl, rfl, hP, hO⟩ := hrel
    rename World => wx
    by_cases hlt : k < m
    · omega
    · obtain rfl : k = m := by omega
      obtain ⟨v, hv⟩ : ∃ v : IV, v = ⟨206, nb xs 0 4, 0, 0, 0, 0, none, 0, 0, none, 0, 0, nb xs 4 4, A, k, z⟩ := ⟨_, rfl⟩
      have hP' := hP.out
      rw [← hv] at hP'
      have D := hP'.cur
      have E := hP'.res
      have x0 := D.c0
      have z0 := E.c0
      have f0 := E.frozen 0
      have x1 := D.c1
      have z1 := E.c1
      have f1 := E.frozen 1
      have x2 := D.c2
      have z2 := E.c2
      have f2 := E.frozen 2
      have x3 := D.c3
      have z3 := E.c3
      have f3 := E.frozen 3
      have x4 := D.c4
      have z4 := E.c4
      have f4 := E.frozen 4
      have x5 := D.c5
      have z5 := E.c5
      have f5 := E.frozen 5
      have x6 := D.c6
      have z6 := E.c6
      have f6 := E.frozen 6
      have x7 := D.c7
      have z7 := E.c7
      have f7 := E.frozen 7
      have x8 := D.c8
      have z8 := E.c8
      have f8 := E.frozen 8
      have x9 := D.c9
      have z9 := E.c9
      have f9 := E.frozen 9
      have HW := Lib.hid (show IBlk ((((((((((wx.setCell ⟨w.heap.size, 0, none⟩ (.int .i64 v.kind)).setCell ⟨w.heap.size, 1, none⟩ (.int .u32 v.ssrc)).setCell ⟨w.heap.size, 2, none⟩ (.int .u64 v.ntp)).setCell ⟨w.heap.size, 3, none⟩ (.int .u32 v.time)).setCell ⟨w.heap.size, 4, none⟩ (.int .u32 v.pks)).setCell ⟨w.heap.size, 5, none⟩ (.int .u32 v.ocs)).setCell ⟨w.heap.size, 6, none⟩ (.slice v.ba v.bn v.bc)).setCell ⟨w.heap.size, 7, none⟩ (.slice v.ga v.gn v.gc)).setCell ⟨w.heap.size, 8, none⟩ (.int .u32 v.media)).setCell ⟨w.heap.size, 9, none⟩ (.slice v.pa v.pn v.pc)) w.heap.size v ∧ Below w.heap.size w ((((((((((wx.setCell ⟨w.heap.size, 0, none⟩ (.int .i64 v.kind)).setCell ⟨w.heap.size, 1, none⟩ (.int .u32 v.ssrc)).setCell ⟨w.heap.size, 2, none⟩ (.int .u64 v.ntp)).setCell ⟨w.heap.size, 3, none⟩ (.int .u32 v.time)).setCell ⟨w.heap.size, 4, none⟩ (.int .u32 v.pks)).setCell ⟨w.heap.size, 5, none⟩ (.int .u32 v.ocs)).setCell ⟨w.heap.size, 6, none⟩ (.slice v.ba v.bn v.bc)).setCell ⟨w.heap.size, 7, none⟩ (.slice v.ga v.gn v.gc)).setCell ⟨w.heap.size, 8, none⟩ (.int .u32 v.media)).setCell ⟨w.heap.size, 9, none⟩ (.slice v.pa v.pn v.pc)) ∧ RowOwn pairL ((((((((((wx.setCell ⟨w.heap.size, 0, none⟩ (.int .i64 v.kind)).setCell ⟨w.heap.size, 1, none⟩ (.int .u32 v.ssrc)).setCell ⟨w.heap.size, 2, none⟩ (.int .u64 v.ntp)).setCell ⟨w.heap.size, 3, none⟩ (.int .u32 v.time)).setCell ⟨w.heap.size, 4, none⟩ (.int .u32 v.pks)).setCell ⟨w.heap.size, 5, none⟩ (.int .u32 v.ocs)).setCell ⟨w.heap.size, 6, none⟩ (.slice v.ba v.bn v.bc)).setCell ⟨w.heap.size, 7, none⟩ (.slice v.ga v.gn v.gc)).setCell ⟨w.heap.size, 8, none⟩ (.int .u32 v.media)).setCell ⟨w.heap.size, 9, none⟩ (.slice v.pa v.pn v.pc)) w.heap.size A k z (pairsAt xs 8 k) from
        ⟨E.store v, below_istore hP'.below (Nat.le_refl _) _ _ _ _ _ _ _ _ _ _, (RowOwn.ist hO.out (by omega) v).lower (by omega)⟩)
      have HV := Lib.hid hv
      clear hP hO hP' D E hv CR
      go_wp2
      generalize ((((((((((wx.setCell ⟨w.heap.size, 0, none⟩ (.int .i64 v.kind)).setCell ⟨w.heap.size, 1, none⟩ (.int .u32 v.ssrc)).setCell ⟨w.heap.size, 2, none⟩ (.int .u64 v.ntp)).setCell ⟨w.heap.size, 3, none⟩ (.int .u32 v.time)).setCell ⟨w.heap.size, 4, none⟩ (.int .u32 v.pks)).setCell ⟨w.heap.size, 5, none⟩ (.int .u32 v.ocs)).setCell ⟨w.heap.size, 6, none⟩ (.slice v.ba v.bn v.bc)).setCell ⟨w.heap.size, 7, none⟩ (.slice v.ga v.gn v.gc)).setCell ⟨w.heap.size, 8, none⟩ (.int .u32 v.media)).setCell ⟨w.heap.size, 9, none⟩ (.slice v.pa v.pn v.pc)) = u1 at *
      refine retT_at HW.out.1 ?_
      rw [HV.out]
      exact ⟨A, z, rfl, HW.out.2.2, HW.out.2.1⟩

end Go.Proofs.Ytjbgfaoancmknaa.Fbk
