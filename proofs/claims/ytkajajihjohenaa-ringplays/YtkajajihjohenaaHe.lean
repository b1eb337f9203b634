/- The contract of ring's All; of all its methods at a nil ring. -/
import Derived.Test.YtkajajihjohenaaHd
set_option maxRecDepth 100000
namespace Go.Proofs.Ytkajajihjohenaa.Rng
open Go.RowKit
open Go.Proofs.Ytkajajihjohenaa.Arn
set_option linter.unusedVariables false

/-- A row of cells of the call's own, as a new one. -/
def RetC (w : World) (L : List Cl) (e : Ending) (w' : World) : Prop := ∃ A c, e = .returned (.slice A L.length c) ∧ RowOwn celL w' w.heap.size A L.length c L ∧ Below w.heap.size w w'
def fillC (L : List Cl) (k : Nat) : List Cl := L.take k ++ List.replicate (L.length - k) cl0
theorem fillC_len {L : List Cl} {k : Nat} (h : k ≤ L.length) : (fillC L k).length = L.length := by simp [fillC]; omega
theorem fillC_set {L : List Cl} {k : Nat} {x : Cl} (hx : L[k]? = some x) : (fillC L k).set k x = fillC L (k + 1) := by
  have hk := (List.getElem?_eq_some_iff.1 hx).1
  have ht : L.take (k + 1) = L.take k ++ [x] := by rw [List.take_add_one, hx]; rfl
  unfold fillC
  rw [List.set_append_right _ _ (by rw [List.length_take]; omega), List.length_take, Nat.min_eq_left (by omega), Nat.sub_self, ht, show L.length - k = (L.length - (k + 1)) + 1 from by omega, List.replicate_succ, List.set_cons_zero, List.append_assoc]
  rfl
theorem fillC_all (L : List Cl) : fillC L L.length = L := by simp [fillC]
set_option maxHeartbeats 4000000 in
theorem all_any (w : World) (b g C : Nat) (L : List Cl) (hA : RIn w b g C L) :
    Calls Try.prog 18 #[.pointer (some ⟨b, 0, none⟩)] w (RetC w L) := by
  obtain ⟨f, P, hA⟩ := hA
  have hmost := hA.most
  have hfit := hA.fit
  have CL : Hid (∀ W, Below w.heap.size w W → Calls Try.prog 15 #[.pointer (some ⟨b, 0, none⟩)] W fun e w' => e = .returned (.int .i64 L.length) ∧ Below W.heap.size W w') := fun W hW => len_any W b g C f P L (hA.bel hW)
  have CP : Hid (∀ W i, Below w.heap.size w W → i < L.length → Calls Try.prog 19 #[.pointer (some ⟨b, 0, none⟩), .int .i64 (i : Nat)] W fun e w' => e = .returned (.pointer (some ⟨g, (f + i) % C * 4, none⟩)) ∧ Below W.heap.size W w') := fun W i hW hi => place_any W b g C f P L i (hA.bel hW) (by omega)
  have HA := Lib.hid hA
  clear hA
  have fin : Hid (∀ q w1, Whole celL w1 q (fillC L L.length) → w.heap.size ≤ q → Below w.heap.size w w1 → RetC w L (.returned (.slice (some ⟨q, 0, none⟩) L.length L.length)) w1) := by
    intro q w1 h1 h2 h3
    rw [fillC_all] at h1
    exact ⟨_, _, rfl, ⟨rfl, Nat.le_refl _, by unfold maxLen; omega, .inr ⟨q, [], rfl, h2, by rw [List.append_nil]; exact h1, by rw [flat_len]; rfl⟩⟩, h3⟩
  obtain ⟨n, hn⟩ : ∃ n, L.length = n := ⟨_, rfl⟩
  rw [hn] at CL CP fin hfit
  have HM := Lib.hid (make_cells n (by omega))
  have HN := Lib.hid hn
  have hn256 : n ≤ 256 := by omega
  clear hn hfit hmost
  go_enter Try.func18, Try.ntmps18
  go_wp2_with fail
  refine (CL.out _ (Below.refl _ _)).mono ?_
  rintro e w2 ⟨rfl, hb2⟩
  have hM := HM.out w2
  have H3 := Lib.hid (hb2.alloc hb2.size (.cells (flat celL (List.replicate n cl0)).toArray 32 (0, 0)))
  have HW : Hid (Whole celL (w2.alloc (.cells (flat celL (List.replicate n cl0)).toArray 32 (0, 0))) w2.heap.size (fillC L 0)) := by
    rw [show fillC L 0 = List.replicate n cl0 from by simp [fillC, HN.out]]
    exact heap_alloc_new w2 _
  have HQ := Lib.hid (show w.heap.size ≤ w2.heap.size from hb2.size)
  generalize w2.alloc (.cells (flat celL (List.replicate n cl0)).toArray 32 (0, 0)) = w3 at *
  obtain ⟨q, hq⟩ : ∃ q, w2.heap.size = q := ⟨_, rfl⟩
  rw [hq] at HW HQ hM
  clear hb2 CL HM hq
  go_wp2
  go_loopw [10] (fun si wx => ∃ k : Nat, k ≤ n ∧ si = .int .i64 k ∧ Hid (Whole celL wx q (fillC L k)) ∧ Hid (Below w.heap.size w wx)) (fun si _ => n - (intOf si).toNat)
  case atStart => exact ⟨0, by omega, rfl, HW, H3⟩
  case round =>
    obtain ⟨k, hk, rfl, hr, hb⟩ := hrel
    rename World => wx
    by_cases hlt : k < n
    · obtain ⟨x, hx⟩ : ∃ x, L[k]? = some x := ⟨_, List.getElem?_eq_getElem (by rw [HN.out]; exact hlt)⟩
      obtain ⟨j, hj⟩ : ∃ j, (f + k) % C = j := ⟨_, rfl⟩
      have HX : Hid (P[j]? = some x) := by rw [← hj]; exact HA.out.at_ k x hx
      have CP1 := Lib.hid (CP.out wx k hb.out hlt)
      rw [hj] at CP1
      clear hj
      go_wp2_with fail
      refine CP1.out.mono ?_
      rintro e w4 ⟨rfl, hb4⟩
      have H4 := Lib.hid (hb.out.trans (hb4.mono hb.out.size))
      have hr4 := Whole_bel hr.out hb4
      have A4 := HA.out.bel H4.out
      have e0 : w4.cell? ⟨g, j * 4, none⟩ = some (.int .i64 x.1) := Whole_cell (L := celL) (j := 0) A4.row HX.out rfl
      have e1 : w4.cell? ⟨g, j * 4 + 1, none⟩ = some (.int .i64 x.2.1) := Whole_cell (L := celL) (j := 1) A4.row HX.out rfl
      have e2 : w4.cell? ⟨g, j * 4 + 2, none⟩ = some (.int .i64 x.2.2.1) := Whole_cell (L := celL) (j := 2) A4.row HX.out rfl
      have e3 : w4.cell? ⟨g, j * 4 + 3, none⟩ = some (.int .u32 x.2.2.2) := Whole_cell (L := celL) (j := 3) A4.row HX.out rfl
      have hkl : k < (fillC L k).length := by rw [fillC_len (by rw [HN.out]; exact hk), HN.out]; exact hlt
      obtain ⟨y, hy⟩ : ∃ y, (fillC L k)[k]? = some y := ⟨_, List.getElem?_eq_getElem hkl⟩
      have u0 : w4.cell? ⟨q, k * 4, none⟩ = some (.int .i64 y.1) := Whole_cell (L := celL) (j := 0) hr4 hy rfl
      have z0 := Whole_frozen hr4 (k * 4)
      have u1 : w4.cell? ⟨q, k * 4 + 1, none⟩ = some (.int .i64 y.2.1) := Whole_cell (L := celL) (j := 1) hr4 hy rfl
      have z1 := Whole_frozen hr4 (k * 4 + 1)
      have u2 : w4.cell? ⟨q, k * 4 + 2, none⟩ = some (.int .i64 y.2.2.1) := Whole_cell (L := celL) (j := 2) hr4 hy rfl
      have z2 := Whole_frozen hr4 (k * 4 + 2)
      have u3 : w4.cell? ⟨q, k * 4 + 3, none⟩ = some (.int .u32 y.2.2.2) := Whole_cell (L := celL) (j := 3) hr4 hy rfl
      have z3 := Whole_frozen hr4 (k * 4 + 3)
      have HR : Hid (Whole celL ((((w4.setCell ⟨q, k * 4, none⟩ (.int .i64 x.1)).setCell ⟨q, k * 4 + 1, none⟩ (.int .i64 x.2.1)).setCell ⟨q, k * 4 + 2, none⟩ (.int .i64 x.2.2.1)).setCell ⟨q, k * 4 + 3, none⟩ (.int .u32 x.2.2.2)) q (fillC L (k + 1))) := by
        have := Whole_put hr4 hkl x
        rw [fillC_set hx] at this
        exact this
      have HB : Hid (Below w.heap.size w ((((w4.setCell ⟨q, k * 4, none⟩ (.int .i64 x.1)).setCell ⟨q, k * 4 + 1, none⟩ (.int .i64 x.2.1)).setCell ⟨q, k * 4 + 2, none⟩ (.int .i64 x.2.2.1)).setCell ⟨q, k * 4 + 3, none⟩ (.int .u32 x.2.2.2))) := bel_put4 H4.out HQ.out x
      clear hb4 A4 hr4 CP1 hr hb hkl hy hx
      go_wp2_with fail
      go_roundw
      case rel => exact ⟨k + 1, by omega, by go_num, HR, HB⟩
      case measure => simp [intOf]; omega
    · obtain rfl : k = n := by omega
      have hr := Lib.hid (fin.out q wx hr.out HQ.out hb.out)
      clear CP HA fin HN
      go_wp2
      go_ret
      exact hr.out
theorem len_nil (w : World) : Calls Try.prog 15 #[.pointer none] w fun e w' => e = .returned (.int .i64 0) ∧ w = w' := by
  go_enter Try.func15, Try.ntmps15
  go_wp2
  go_ret
  exact ⟨rfl, rfl⟩
theorem room_nil (w : World) : Calls Try.prog 16 #[.pointer none] w fun e w' => e = .returned (.int .i64 0) ∧ w = w' := by
  go_enter Try.func16, Try.ntmps16
  go_wp2
  go_ret
  exact ⟨rfl, rfl⟩
set_option maxHeartbeats 4000000 in
theorem push_nil (w : World) (x : Cl) : Calls Try.prog 12 #[.pointer none, clV x] w fun e w' => e = .returned (.bool false) ∧ Below w.heap.size w w' := by
  have HB := Lib.hid ((Below.refl w.heap.size w).alloc (Nat.le_refl _) (clO x))
  go_enter Try.func12, Try.ntmps12
  go_wp2_with fail
  refine (room_nil _).mono ?_
  rintro e w1 ⟨rfl, rfl⟩
  go_wp2
  go_ret
  exact ⟨rfl, HB.out⟩
set_option maxHeartbeats 4000000 in
theorem head_nil (w : World) : Calls Try.prog 14 #[.pointer none] w fun e w' => e = .returned (.tuple #[clV cl0, .bool false]) ∧ Below w.heap.size w w' := by
  have HB := Lib.hid ((Below.refl w.heap.size w).alloc (Nat.le_refl _) (clO cl0))
  have D := CBlk.new w cl0
  have d0 := D.c0
  have d1 := D.c1
  have d2 := D.c2
  have d3 := D.c3
  have f0 := D.frozen 0
  have f1 := D.frozen 1
  have f2 := D.frozen 2
  have f3 := D.frozen 3
  go_enter Try.func14, Try.ntmps14
  go_wp2_with fail
  refine (len_nil _).mono ?_
  rintro e w1 ⟨rfl, rfl⟩
  go_wp2_with fail
  first
  | exact retC_at Try.results14 D ⟨rfl, HB.out⟩
  | skip
set_option maxHeartbeats 4000000 in
theorem pop_nil (w : World) : Calls Try.prog 10 #[.pointer none] w fun e w' => e = .returned (.tuple #[clV cl0, .bool false]) ∧ Below w.heap.size w w' := by
  have HB := Lib.hid ((Below.refl w.heap.size w).alloc (Nat.le_refl _) (clO cl0))
  have D := Lib.hid (CBlk.new w cl0)
  go_enter Try.func10, Try.ntmps10
  go_wp2_with fail
  refine (head_nil _).mono ?_
  rintro e w2 ⟨rfl, hb2⟩
  have H2 := Lib.hid ((HB.out.trans (hb2.mono HB.out.size)).alloc (HB.out.trans (hb2.mono HB.out.size)).size (clO cl0))
  have D2 := (D.out.bel hb2 D.out.lt).bel ((Below.refl w2.heap.size w2).alloc (Nat.le_refl _) (clO cl0)) (D.out.bel hb2 D.out.lt).lt
  clear hb2 HB D
  have d0 := D2.c0
  have d1 := D2.c1
  have d2 := D2.c2
  have d3 := D2.c3
  have f0 := D2.frozen 0
  have f1 := D2.frozen 1
  have f2 := D2.frozen 2
  have f3 := D2.frozen 3
  go_wp2_with fail
  have hbb : Below w.heap.size w (((((w2.alloc (clO cl0)).setCell ⟨w.heap.size, 0, none⟩ (.int .i64 0)).setCell ⟨w.heap.size, 1, none⟩ (.int .i64 0)).setCell ⟨w.heap.size, 2, none⟩ (.int .i64 0)).setCell ⟨w.heap.size, 3, none⟩ (.int .u32 0)) := bel_put4 H2.out (Nat.le_refl _) cl0
  have D3 : CBlk (((((w2.alloc (clO cl0)).setCell ⟨w.heap.size, 0, none⟩ (.int .i64 0)).setCell ⟨w.heap.size, 1, none⟩ (.int .i64 0)).setCell ⟨w.heap.size, 2, none⟩ (.int .i64 0)).setCell ⟨w.heap.size, 3, none⟩ (.int .u32 0)) w.heap.size cl0 := D2.store cl0
  generalize ((((w2.alloc (clO cl0)).setCell ⟨w.heap.size, 0, none⟩ (.int .i64 0)).setCell ⟨w.heap.size, 1, none⟩ (.int .i64 0)).setCell ⟨w.heap.size, 2, none⟩ (.int .i64 0)).setCell ⟨w.heap.size, 3, none⟩ (.int .u32 0) = w3 at *
  exact retC_at Try.results10 D3 ⟨rfl, hbb⟩
theorem all_nil (w : World) : Calls Try.prog 18 #[.pointer none] w (RetC w []) := by
  have hM := make_cells 0 (by omega) w
  rw [show ((0 : Nat) : Int) = 0 from rfl] at hM
  have hB := (Below.refl w.heap.size w).alloc (Nat.le_refl _) (.cells (flat celL (List.replicate 0 cl0)).toArray 32 (0, 0))
  have hW : Whole celL (w.alloc (.cells (flat celL (List.replicate 0 cl0)).toArray 32 (0, 0))) w.heap.size [] := heap_alloc_new w _
  generalize w.alloc (.cells (flat celL (List.replicate 0 cl0)).toArray 32 (0, 0)) = w1 at *
  go_enter Try.func18, Try.ntmps18
  go_wp2_with fail
  refine (len_nil _).mono ?_
  rintro e w2 ⟨rfl, rfl⟩
  go_wp2
  go_loopw [10] (fun si wx => si = .int .i64 0 ∧ wx = w1) (fun _ _ => 0)
  case atStart => exact ⟨rfl, rfl⟩
  case round =>
    obtain ⟨rfl, rfl⟩ := hrel
    go_wp2
    go_ret
    exact ⟨_, _, rfl, ⟨rfl, Nat.le_refl _, Nat.zero_le _, .inr ⟨_, [], rfl, Nat.le_refl _, hW, rfl⟩⟩, hB⟩
end Go.Proofs.Ytkajajihjohenaa.Rng
