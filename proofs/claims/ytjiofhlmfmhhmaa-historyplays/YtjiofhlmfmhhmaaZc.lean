/- The contracts of history's All, Clear; of them at a nil history. -/
import Derived.Test.YtjiofhlmfmhhmaaZa
set_option maxRecDepth 100000
namespace Go.Proofs.Ytjiofhlmfmhhmaa.Hst
open Go.RowKit
open Go.Proofs.Ytjiofhlmfmhhmaa.Arn
set_option linter.unusedVariables false

/-- A row of entries of the call's own, as a new one. -/
def RetE (w : World) (L : List En) (e : Ending) (w' : World) : Prop := ∃ A c, e = .returned (.slice A L.length c) ∧ RowOwn enL w' w.heap.size A L.length c L ∧ Below w.heap.size w w'
def fillE (L : List En) (k : Nat) : List En := L.take k ++ List.replicate (L.length - k) en0
theorem fillE_len {L : List En} {k : Nat} (h : k ≤ L.length) : (fillE L k).length = L.length := by simp [fillE]; omega
theorem fillE_set {L : List En} {k : Nat} {x : En} (hx : L[k]? = some x) : (fillE L k).set k x = fillE L (k + 1) := by
  have hk := (List.getElem?_eq_some_iff.1 hx).1
  have ht : L.take (k + 1) = L.take k ++ [x] := by rw [List.take_add_one, hx]; rfl
  unfold fillE
  rw [List.set_append_right _ _ (by rw [List.length_take]; omega), List.length_take, Nat.min_eq_left (by omega), Nat.sub_self, ht, show L.length - k = (L.length - (k + 1)) + 1 from by omega, List.replicate_succ, List.set_cons_zero, List.append_assoc]
  rfl
theorem fillE_all (L : List En) : fillE L L.length = L := by simp [fillE]

set_option maxHeartbeats 4000000 in
theorem all_any (w : World) (b g C : Nat) (R : List En) (hA : HIn w b g C R) :
    Calls Try.prog 15 #[.pointer (some ⟨b, 0, none⟩)] w (RetE w R.reverse) := by
  have hfit := hA.fit
  have CL : Hid (∀ W, Below w.heap.size w W → Calls Try.prog 16 #[.pointer (some ⟨b, 0, none⟩)] W fun e w' => e = .returned (.int .i64 R.length) ∧ Below W.heap.size W w') := fun W hW => kept_any W b g C R (hA.bel hW)
  have CP : Hid (∀ W k x, Below w.heap.size w W → R[k]? = some x → Calls Try.prog 17 #[.pointer (some ⟨b, 0, none⟩), .int .i64 (k : Nat)] W fun e w' => e = .returned (enV x) ∧ Below W.heap.size W w') := fun W k x hW hx => back_any W b g C R k x (hA.bel hW) hx
  clear hA
  obtain ⟨L, hL⟩ : ∃ L, R.reverse = L := ⟨_, rfl⟩
  have hRL : R = L.reverse := by rw [← hL, List.reverse_reverse]
  rw [hL]
  clear hL
  subst hRL
  rw [List.length_reverse] at CL hfit
  have fin : Hid (∀ q w1, Whole enL w1 q (fillE L L.length) → w.heap.size ≤ q → Below w.heap.size w w1 → RetE w L (.returned (.slice (some ⟨q, 0, none⟩) L.length L.length)) w1) := by
    intro q w1 h1 h2 h3
    rw [fillE_all] at h1
    exact ⟨_, _, rfl, ⟨rfl, Nat.le_refl _, by unfold maxLen; omega, .inr ⟨q, [], rfl, h2, by rw [List.append_nil]; exact h1, by rw [flat_len]; rfl⟩⟩, h3⟩
  obtain ⟨n, hn⟩ : ∃ n, L.length = n := ⟨_, rfl⟩
  rw [hn] at CL fin hfit
  have HM := Lib.hid (make_ens n (by omega))
  have HN := Lib.hid hn
  have hn256 : n ≤ 64 := by omega
  clear hn hfit
  go_enter Try.func15, Try.ntmps15
  go_wp2_with fail
  refine (CL.out _ (Below.refl _ _)).mono ?_
  rintro e w2 ⟨rfl, hb2⟩
  have hM := HM.out w2
  have H3 := Lib.hid (hb2.alloc hb2.size (.cells (flat enL (List.replicate n en0)).toArray 34 (0, 0)))
  have HW : Hid (Whole enL (w2.alloc (.cells (flat enL (List.replicate n en0)).toArray 34 (0, 0))) w2.heap.size (fillE L 0)) := by
    rw [show fillE L 0 = List.replicate n en0 from by simp [fillE, HN.out]]
    exact heap_alloc_new w2 _
  have HQ := Lib.hid (show w.heap.size ≤ w2.heap.size from hb2.size)
  generalize w2.alloc (.cells (flat enL (List.replicate n en0)).toArray 34 (0, 0)) = w3 at *
  obtain ⟨q, hq⟩ : ∃ q, w2.heap.size = q := ⟨_, rfl⟩
  rw [hq] at HW HQ hM
  clear hb2 CL HM hq
  go_wp2
  go_loopw [10] (fun si wx => ∃ k : Nat, k ≤ n ∧ si = .int .i64 k ∧ Hid (Whole enL wx q (fillE L k)) ∧ Hid (Below w.heap.size w wx)) (fun si _ => n - (intOf si).toNat)
  case atStart => exact ⟨0, by omega, rfl, HW, H3⟩
  case round =>
    obtain ⟨k, hk, rfl, hr, hb⟩ := hrel
    rename World => wx
    by_cases hlt : k < n
    · obtain ⟨x, hx⟩ : ∃ x, L[k]? = some x := ⟨_, List.getElem?_eq_getElem (by rw [HN.out]; exact hlt)⟩
      obtain ⟨j, hj⟩ : ∃ j, n - 1 - k = j := ⟨_, rfl⟩
      have HX : L.reverse[j]? = some x := by
        rw [List.getElem?_reverse (by rw [HN.out]; omega), HN.out, show n - 1 - j = k from by omega]
        exact hx
      have CP1 := Lib.hid (CP.out wx j x hb.out HX)
      have q1 : IntKind.i64.wrap ((n : Int) - 1) = (n : Int) - 1 := IntWalk.i64_in _ (by omega)
      have q2 : IntKind.i64.wrap ((n : Int) - 1 - k) = (j : Int) := by rw [IntWalk.i64_in _ (by omega)]; omega
      clear hj HX
      go_wp2_with fail
      refine CP1.out.mono ?_
      rintro e w4 ⟨rfl, hb4⟩
      have H4 := Lib.hid (hb.out.trans (hb4.mono hb.out.size))
      have hr4 := Whole_bel hr.out hb4
      have hkl : k < (fillE L k).length := by rw [fillE_len (by rw [HN.out]; exact hk), HN.out]; exact hlt
      obtain ⟨y, hy⟩ : ∃ y, (fillE L k)[k]? = some y := ⟨_, List.getElem?_eq_getElem hkl⟩
      have u0 : w4.cell? ⟨q, k * 7, none⟩ = some (.int .u16 y.sq) := Whole_cell (L := enL) (j := 0) hr4 hy rfl; have u1 : w4.cell? ⟨q, k * 7 + 1, none⟩ = some (.int .i64 y.sl) := Whole_cell (L := enL) (j := 1) hr4 hy rfl; have u2 : w4.cell? ⟨q, k * 7 + 2, none⟩ = some (.int .u32 y.gn) := Whole_cell (L := enL) (j := 2) hr4 hy rfl; have u3 : w4.cell? ⟨q, k * 7 + 3, none⟩ = some (.int .u16 y.ps) := Whole_cell (L := enL) (j := 3) hr4 hy rfl; have u4 : w4.cell? ⟨q, k * 7 + 4, none⟩ = some (.int .u32 y.pt) := Whole_cell (L := enL) (j := 4) hr4 hy rfl; have u5 : w4.cell? ⟨q, k * 7 + 5, none⟩ = some (.int .u32 y.pc) := Whole_cell (L := enL) (j := 5) hr4 hy rfl; have u6 : w4.cell? ⟨q, k * 7 + 6, none⟩ = some (.int .u16 y.pf) := Whole_cell (L := enL) (j := 6) hr4 hy rfl
      have z0 := Whole_frozen hr4 (k * 7); have z1 := Whole_frozen hr4 (k * 7 + 1); have z2 := Whole_frozen hr4 (k * 7 + 2); have z3 := Whole_frozen hr4 (k * 7 + 3); have z4 := Whole_frozen hr4 (k * 7 + 4); have z5 := Whole_frozen hr4 (k * 7 + 5); have z6 := Whole_frozen hr4 (k * 7 + 6)
      obtain ⟨w5, hw5⟩ : ∃ w5, ((((((w4.setCell ⟨q, k * 7, none⟩ (.int .u16 x.sq)).setCell ⟨q, k * 7 + 1, none⟩ (.int .i64 x.sl)).setCell ⟨q, k * 7 + 2, none⟩ (.int .u32 x.gn)).setCell ⟨q, k * 7 + 3, none⟩ (.int .u16 x.ps)).setCell ⟨q, k * 7 + 4, none⟩ (.int .u32 x.pt)).setCell ⟨q, k * 7 + 5, none⟩ (.int .u32 x.pc)).setCell ⟨q, k * 7 + 6, none⟩ (.int .u16 x.pf) = w5 := ⟨_, rfl⟩
      have HR : Hid (Whole enL w5 q (fillE L (k + 1))) := by
        have := Whole_put hr4 hkl x
        rw [fillE_set hx] at this
        rw [← hw5]
        exact this
      have HB : Hid (Below w.heap.size w w5) := by rw [← hw5]; exact bel_putE H4.out HQ.out x
      clear hb4 hr4 CP1 hr hb hkl hy hx
      go_wp2_with fail
      go_roundw
      case rel => exact ⟨k + 1, by omega, by go_num, HR, HB⟩
      case measure => simp [intOf]; omega
    · obtain rfl : k = n := by omega
      have hr := Lib.hid (fin.out q wx hr.out HQ.out hb.out)
      clear CP fin HN
      go_wp2
      go_ret
      exact hr.out

set_option maxHeartbeats 4000000 in
theorem all_nil (w : World) : Calls Try.prog 15 #[.pointer none] w (RetE w []) := by
  have HM := Lib.hid (make_ens 0 (by omega))
  rw [show ((0 : Nat) : Int) = 0 from rfl] at HM
  go_enter Try.func15, Try.ntmps15
  go_wp2_with fail
  refine (kept_nil _).mono ?_
  rintro e w2 ⟨rfl, hb2⟩
  have hM := HM.out w2
  have H3 := Lib.hid (hb2.alloc hb2.size (.cells (flat enL (List.replicate 0 en0)).toArray 34 (0, 0)))
  have HW : Hid (Whole enL (w2.alloc (.cells (flat enL (List.replicate 0 en0)).toArray 34 (0, 0))) w2.heap.size []) := heap_alloc_new w2 _
  have HQ := Lib.hid (show w.heap.size ≤ w2.heap.size from hb2.size)
  generalize w2.alloc (.cells (flat enL (List.replicate 0 en0)).toArray 34 (0, 0)) = w3 at *
  obtain ⟨q, hq⟩ : ∃ q, w2.heap.size = q := ⟨_, rfl⟩
  rw [hq] at HW HQ hM
  clear hb2 HM hq
  go_wp2
  go_loopw [10] (fun si wx => si = .int .i64 0 ∧ wx = w3) (fun _ _ => 0)
  case atStart => exact ⟨rfl, rfl⟩
  case round =>
    obtain ⟨rfl, rfl⟩ := hrel
    go_wp2
    go_ret
    exact ⟨_, _, rfl, ⟨rfl, Nat.le_refl _, Nat.zero_le _, .inr ⟨q, [], rfl, HQ.out, HW.out, rfl⟩⟩, H3.out⟩

theorem clear_run (w : World) (g C : Nat) (P : List En) (h : Whole enL w g P) (hl : P.length = C) (hC : C ≤ 64) :
    ∃ w', (∀ ty, (Builtin.clear_ #[26] ty #[.slice (some ⟨g, 0, none⟩) C C]).run Try.prog w = .ok (.tuple #[]) w') ∧ Whole enL w' g (List.replicate C en0) ∧ Upd (fun k => k = g) w w' := by
  rcases Nat.eq_zero_or_pos C with rfl | hp
  · obtain rfl : P = [] := List.eq_nil_of_length_eq_zero hl
    exact ⟨w, fun ty => by simp [Builtin.clear_, run_underlying Try.underlying26], h, Upd.refl _ _⟩
  · obtain ⟨c, rfl⟩ : ∃ c, C = c + 1 := ⟨C - 1, by omega⟩
    obtain ⟨i0, hi0, hz0, hz1, hz2⟩ := info_parts info_en
    have hzc : Builtin.zeroCells (enV en0).cells (c + 1) = (flat enL (List.replicate (c + 1) en0)).toArray := made_ens (c + 1)
    have hlen : (flat enL (List.replicate (c + 1) en0)).length = (flat enL P).length := by rw [flat_len, flat_len, List.length_replicate, hl]
    have hst := run_storeCells_at (P := Try.prog) g 0 enL.e (flat enL (List.replicate (c + 1) en0)) 0 _ w h (by rw [List.size_toArray, hlen]; omega) (flat_one enL _)
    refine ⟨w.setRow g (flat enL (List.replicate (c + 1) en0)).toArray, fun ty => ?_, ?_, ?_⟩
    · have e1 : ((flat enL P).toArray.toList.take (0 + 0) ++ flat enL (List.replicate (c + 1) en0) ++ (flat enL P).toArray.toList.drop (0 + 0 + (flat enL (List.replicate (c + 1) en0)).length)) = flat enL (List.replicate (c + 1) en0) := by
        rw [hlen]; simp
      rw [e1] at hst
      simp [Builtin.clear_, zeroValue, typeInfo, run_underlying Try.underlying26, hi0, hz0, hzc, hst]
    · exact setRow_heap w g _ _ enL.e _ h
    · exact ⟨⟨rfl, rfl, rfl, by simp, fun i hi => absurd hi (Nat.not_lt_zero i)⟩, fun i _ hi => setRow_other w g i _ hi⟩

set_option maxHeartbeats 4000000 in
theorem clear_any (w : World) (b g C : Nat) (R : List En) (hA : HIn w b g C R) :
    Calls Try.prog 14 #[.pointer (some ⟨b, 0, none⟩)] w fun e w' => ∃ A c, e = .returned (.slice A R.length c) ∧ RowOwn enL w' w.heap.size A R.length c R.reverse ∧ HIn w' b g C [] ∧ Upd (fun k => k = b ∨ k = g) w w' := by
  have CA := Lib.hid (all_any w b g C R hA)
  obtain ⟨m, P, hA⟩ := hA
  have HA := Lib.hid hA
  clear hA
  go_enter Try.func14, Try.ntmps14
  go_wp2_with fail
  refine CA.out.mono ?_
  rintro e w2 ⟨A, c, rfl, hr, hb⟩
  rw [List.length_reverse] at hr ⊢
  have HR := Lib.hid hr
  have HB := Lib.hid hb
  have A2 := HA.out.bel hb
  have HL := Lib.hid HA.out.lt
  have HE := Lib.hid A2.ne
  obtain ⟨w3, hcl, hW, hU⟩ := clear_run w2 g C P A2.row A2.len A2.most
  have c0 := A2.c0
  have HW := Lib.hid hW
  have HU := Lib.hid hU
  have K3 := hU.keep A2.blk A2.ne
  have c2 : w3.cell? ⟨b, 2, none⟩ = some (.int .i64 R.length) := by rw [cell_of_row w3 b 2 _ _ _ K3]; rfl
  have y2 : w3.frozen? ⟨b, 2, none⟩ = false := frozen_of_row w3 b 2 _ _ K3
  obtain ⟨w4, hw4⟩ : ∃ w4, w3.setCell ⟨b, 2, none⟩ (.int .i64 0) = w4 := ⟨_, rfl⟩
  have K4 : Hid (w4.heap[b]? = some (.cells #[.slice (some ⟨g, 0, none⟩) C C, .int .i64 m, .int .i64 0] 49 (0, 0))) := by rw [← hw4]; exact heap_setCell_same w3 b 2 _ _ _ K3
  have U4 : Hid (Upd (fun k => k = b) w3 w4) := by rw [← hw4]; exact (Upd.refl (fun k => k = b) w3).setCell (b := b) (i := 2) (.inl rfl) _
  obtain ⟨n, hn⟩ : ∃ n, R.length = n := ⟨_, rfl⟩
  rw [hn] at c2
  clear hr hb A2 hW hU K3 CA
  go_wp2
  go_ret
  subst hn
  have UU : Upd (fun k => k = b ∨ k = g) w2 w4 := (HU.out.mono fun k h => .inr h).trans (U4.out.mono fun k h => .inl h)
  refine ⟨A, c, rfl, HR.out.upd UU fun k hk => ?_, ⟨m, List.replicate C en0, ⟨K4.out, Whole_upd HW.out U4.out (Ne.symm HE.out), List.length_replicate, HA.out.nx, HA.out.most, Nat.zero_le _, fun k x h => by simp at h⟩⟩, (Upd.of HB.out).trans UU⟩
  have h1 := HR.out.lt_at hk
  have h2 := HL.out
  rintro (h | h) <;> omega
set_option maxHeartbeats 4000000 in
theorem clear_nil (w : World) : Calls Try.prog 14 #[.pointer none] w (RetE w []) := by
  have CA := Lib.hid (all_nil w)
  go_enter Try.func14, Try.ntmps14
  go_wp2_with fail
  refine CA.out.mono ?_
  rintro e w2 ⟨A, c, rfl, hr, hb⟩
  have HR := Lib.hid hr
  have HB := Lib.hid hb
  clear hr hb CA
  go_wp2
  go_ret
  exact ⟨A, c, rfl, HR.out, HB.out⟩
end Go.Proofs.Ytjiofhlmfmhhmaa.Hst
