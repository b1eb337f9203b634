/- The walk of FieldRow. -/
import Derived.Test.YtklodmbccmomoaaLo
import Derived.Deep.RegionWith
import Derived.Deep.RegionHeld3
namespace Go.Proofs.Ytklodmbccmomoaa
open Go.RowKit
set_option linter.unusedVariables false

/-- The bytes of the numbers l in the sizes z, one behind the other, those that go. -/
def rowV : List Int → List Int → List Int
  | n :: l, s :: z => (if sizeB s && fitsB s n then be s.toNat n else []) ++ rowV l z
  | _, _ => []
/-- Cells of a slice of integers that came in. -/
def Cs (w : World) (k : IntKind) (a : Option Addr) (n : Nat) (xs : List Int) : Prop :=
  0 < n → ∃ b off, a = some ⟨b, off, none⟩ ∧ b < w.heap.size ∧ ∀ i, i < n → w.cell? ⟨b, off + i, none⟩ = some (.int k (xs.getD i 0))
theorem rowV_snoc : ∀ (l z : List Int) (k : Nat), k < l.length → k < z.length →
    rowV (l.take (k + 1)) (z.take (k + 1)) = rowV (l.take k) (z.take k) ++ (if sizeB (z.getD k 0) && fitsB (z.getD k 0) (l.getD k 0) then be (z.getD k 0).toNat (l.getD k 0) else [])
  | [], _, _, h, _ => by simp at h
  | _ :: _, [], _, _, h => by simp at h
  | n :: l, s :: z, 0, _, _ => by simp [rowV]
  | n :: l, s :: z, k + 1, h, h' => by
    have := rowV_snoc l z k (by simpa using h) (by simpa using h')
    simp only [List.take_succ_cons, rowV, List.getD_cons_succ] at this ⊢
    rw [this, List.append_assoc]
theorem appV_row (xs : List Int) (s n : Int) : appV xs s n = xs ++ (if sizeB s && fitsB s n then be s.toNat n else []) := by
  unfold appV; split <;> simp

theorem rowV_le : ∀ (l z : List Int), (rowV l z).length ≤ 8 * l.length
  | [], _ => by simp [rowV]
  | _ :: _, [] => by simp [rowV]
  | n :: l, s :: z => by
    have h := rowV_le l z
    simp only [rowV, List.length_append, List.length_cons]
    split
    · rename_i hs
      rw [Bool.and_eq_true] at hs
      have := hs.1
      simp only [sizeB, decide_eq_true_eq] at this
      rw [be_length]
      omega
    · simp only [List.length_nil]; omega
theorem rowV_more (l z : List Int) (j : Nat) : ∀ (d : Nat), j + d ≤ l.length → j + d ≤ z.length → ∃ rest, rowV (l.take (j + d)) (z.take (j + d)) = rowV (l.take j) (z.take j) ++ rest
  | 0, _, _ => ⟨[], by simp⟩
  | d + 1, h, h' => by
    obtain ⟨rest, e⟩ := rowV_more l z j d (by omega) (by omega)
    rw [← Nat.add_assoc, rowV_snoc l z (j + d) (by omega) (by omega), e, List.append_assoc]
    exact ⟨_, rfl⟩
/-- Where the number of place j stands in the row of the first k. -/
theorem row_at (l z : List Int) (j k : Nat) (hj : j < k) (hl : k ≤ l.length) (hz : k ≤ z.length) (hx : 0 ≤ l.getD j 0) (hf : (sizeB (z.getD j 0) && fitsB (z.getD j 0) (l.getD j 0)) = true) :
    withinB (rowV (l.take k) (z.take k)).length ((rowV (l.take j) (z.take j)).length : Int) (z.getD j 0) = true ∧
    getV (rowV (l.take k) (z.take k)) ((rowV (l.take j) (z.take j)).length : Int) (z.getD j 0) = l.getD j 0 ∧
    ((rowV (l.take (j + 1)) (z.take (j + 1))).length : Int) = ((rowV (l.take j) (z.take j)).length : Int) + z.getD j 0 := by
  obtain ⟨rest, e⟩ := rowV_more l z (j + 1) (k - (j + 1)) (by omega) (by omega)
  rw [show j + 1 + (k - (j + 1)) = k from by omega, rowV_snoc l z j (by omega) (by omega), hf, if_pos rfl] at e
  have e1 := rowV_snoc l z j (by omega) (by omega)
  rw [hf, if_pos rfl] at e1
  rw [Bool.and_eq_true] at hf
  have hs := hf.1
  simp only [sizeB, decide_eq_true_eq] at hs
  obtain ⟨s, hs'⟩ := Int.eq_ofNat_of_zero_le (show 0 ≤ z.getD j 0 from by omega)
  have hw : withinB (rowV (l.take k) (z.take k)).length ((rowV (l.take j) (z.take j)).length : Int) (z.getD j 0) = true := by
    rw [e]
    simp only [withinB, decide_eq_true_eq, List.length_append, be_length]
    omega
  refine ⟨hw, ?_, ?_⟩
  · unfold getV
    rw [hw, if_pos rfl, e, Int.toNat_natCast, List.append_assoc, List.drop_append_of_le_length (Nat.le_refl _), List.drop_length, List.nil_append,
      List.take_append_of_le_length (by rw [be_length]; omega), List.take_of_length_le (by rw [be_length]; omega)]
    exact num_be _ _ hx (by simpa [fitsB] using hf.2)
  · rw [e1, List.length_append, be_length]; omega
theorem row_skip (l z : List Int) (j : Nat) (hl : j < l.length) (hz : j < z.length) (hf : (sizeB (z.getD j 0) && fitsB (z.getD j 0) (l.getD j 0)) = false) :
    rowV (l.take (j + 1)) (z.take (j + 1)) = rowV (l.take j) (z.take j) := by
  rw [rowV_snoc l z j hl hz, hf]; simp
theorem Own.low {w : World} {b b' n c : Nat} {A : Option Addr} {xs : List Int} (h : Own w b A n c xs) (hb : b' ≤ b) : Own w b' A n c xs := by
  obtain ⟨h1, h2, h3, h4, h5⟩ := h
  refine ⟨h1, h2, h3, h4, ?_⟩
  rcases h5 with h5 | ⟨g, T, e, hg, hk⟩
  · exact .inl h5
  · exact .inr ⟨g, T, e, Nat.le_trans hb hg, hk⟩

set_option maxHeartbeats 1000000 in
theorem row_first (a b : Option Addr) (n m c d : Nat) (l z : List Int) (w : World) (hl : l.length = n) (hz : z.length = m) (hn : n ≤ 140737488351232) (hm : m ≤ 140737488351232)
    (hla : Cs w .u64 a n l) (hzb : Cs w .i64 b m z) (hlw : ∀ x ∈ l, 0 ≤ x ∧ x ≤ 18446744073709551615) :
    Calls Try.prog 7 #[.slice a n c, .slice b m d] w fun e w' => e = .returned (.bool true) ∧ Below w.heap.size w w' := by
  have HL := Lib.hid hl
  have HZ := Lib.hid hz
  have HA := Lib.hid hla
  have HB := Lib.hid hzb
  have HW := Lib.hid hlw
  clear hl hz hla hzb hlw
  go_enter Try.func7, Try.ntmps7
  go_wp2_with fail
  refine (shown_any _).mono ?_
  rintro e w1 ⟨rfl, hb1⟩
  go_wp2_with fail
  go_loopw [5, 6] (fun sb si wx => ∃ (k : Nat) (A : Option Addr) (cc : Nat), k ≤ 50 ∧ k ≤ n ∧ k ≤ m ∧ si = .int .i64 k ∧ sb = .slice A (rowV (l.take k) (z.take k)).length cc ∧
      Own wx w.heap.size A (rowV (l.take k) (z.take k)).length cc (rowV (l.take k) (z.take k)) ∧ Below w.heap.size w wx)
    (fun _ si _ => 50 - (intOf si).toNat)
  case atStart => exact ⟨0, none, 0, by omega, by omega, by omega, rfl, rfl, Own.nil _ _, hb1⟩
  case round =>
    obtain ⟨k, A, cc, hk, hkn, hkm, rfl, rfl, ho, hb⟩ := hrel
    by_cases hlt : k < n ∧ k < m ∧ k < 50
    · obtain ⟨h1, h2, h3⟩ := hlt
      obtain ⟨ba, oa, rfl, hba, hca⟩ := HA.out (by omega)
      obtain ⟨bb, ob, rfl, hbb, hcb⟩ := HB.out (by omega)
      obtain ⟨x, hx⟩ : ∃ x, x = l.getD k 0 := ⟨_, rfl⟩
      obtain ⟨y, hy⟩ : ∃ y, y = z.getD k 0 := ⟨_, rfl⟩
      have hx0 : 0 ≤ x ∧ x ≤ 18446744073709551615 := by
        rw [hx, List.getD_eq_getElem?_getD, List.getElem?_eq_getElem (by rw [HL.out]; omega)]; exact HW.out _ (List.getElem_mem _)
      have hcx : wr.cell? ⟨ba, oa + k, none⟩ = some (.int .u64 x) := by rw [hx]; exact (hb.cell (p := ⟨ba, oa + k, none⟩) hba).trans (hca k h1)
      have hcy : wr.cell? ⟨bb, ob + k, none⟩ = some (.int .i64 y) := by rw [hy]; exact (hb.cell (p := ⟨bb, ob + k, none⟩) hbb).trans (hcb k h2)
      have HR : Hid (rowV (l.take (k + 1)) (z.take (k + 1)) = appV (rowV (l.take k) (z.take k)) y x) := by
        show _ = _
        rw [appV_row, hx, hy]; exact rowV_snoc l z k (by rw [HL.out]; omega) (by rw [HZ.out]; omega)
      obtain ⟨r, hr⟩ : ∃ r, r = rowV (l.take k) (z.take k) := ⟨_, rfl⟩
      rw [← hr] at ho HR ⊢
      have hrl : r.length ≤ 400 := by
        rw [hr]
        have h5 := rowV_le (l.take k) (z.take k)
        have h6 := List.length_take_le k l
        omega
      clear hx hy hca hcb hr
      have hk50 : decide ((k : Int) < 50) = true := by simp; omega
      have ca := append_any A r.length cc wr.heap.size y x r wr.drew (by omega) ho.rd (Nat.le_refl _) hx0.1 hx0.2
      have CA := Lib.hid ca
      clear ca
      go_wp2_with fail
      go_region_with (go_at_call 13; refine CA.out.mono ?_; rintro e w2 ⟨A2, c2, rfl, ho2, hb2⟩)
      all_goals
        go_wp2
        go_roundw
        case rel =>
          refine ⟨k + 1, A2, c2, by omega, by omega, by omega, by go_num, ?_, ?_, hb.trans (((Below.refl _ wr).drew.trans hb2).mono hb.size)⟩
          · rw [HR.out]
          · rw [HR.out]; exact ho2.low hb.size
        case measure => simp [intOf]; omega
    · have hcase : n ≤ k ∨ (k < n ∧ m ≤ k) ∨ (k < n ∧ k < m ∧ 50 ≤ k) := by omega
      obtain ⟨R, hR⟩ : ∃ R, R = rowV (l.take k) (z.take k) := ⟨_, rfl⟩
      rw [← hR] at ho ⊢
      have hRl : R.length ≤ 400 := by
        rw [hR]
        have h5 := rowV_le (l.take k) (z.take k)
        have h6 := List.length_take_le k l
        omega
      have HO := Lib.hid ho
      have HRR := Lib.hid hR
      clear ho hR hlt
      rcases hcase with hk1 | ⟨hkn', hk1⟩ | ⟨hkn', hkm', hk1⟩
      all_goals
        go_wp2_with fail
        go_loop [7, 8] (fun sa si => ∃ j : Nat, j ≤ k ∧ si = .int .i64 j ∧ sa = .int .i64 ((rowV (l.take j) (z.take j)).length : Int)) (fun _ si => k - (intOf si).toNat)
        case atStart => exact ⟨0, by omega, rfl, rfl⟩
        case round =>
          obtain ⟨j, hj, rfl, rfl⟩ := hrel
          by_cases hlt : j < k
          · have h1 : j < n := by omega
            have h2 : j < m := by omega
            have h3 : (j : Int) < 50 := by omega
            obtain ⟨ba, oa, rfl, hba, hca⟩ := HA.out (by omega)
            obtain ⟨bb, ob, rfl, hbb, hcb⟩ := HB.out (by omega)
            have hca := hca j h1
            have hcb := hcb j h2
            have hx0 : 0 ≤ l.getD j 0 ∧ l.getD j 0 ≤ 18446744073709551615 := by
              rw [List.getD_eq_getElem?_getD, List.getElem?_eq_getElem (by rw [HL.out]; omega)]; exact HW.out _ (List.getElem_mem _)
            have HT := Lib.hid (row_at l z j k hlt (by rw [HL.out]; omega) (by rw [HZ.out]; omega) hx0.1)
            have HS := Lib.hid (row_skip l z j (by rw [HL.out]; omega) (by rw [HZ.out]; omega))
            rw [← HRR.out] at HT
            generalize l.getD j 0 = x at hca hx0 HT HS
            generalize z.getD j 0 = y at hcb HT HS
            have hcx : wr.cell? ⟨ba, oa + j, none⟩ = some (.int .u64 x) := (hb.cell (p := ⟨ba, oa + j, none⟩) hba).trans hca
            have hcy : wr.cell? ⟨bb, ob + j, none⟩ = some (.int .i64 y) := (hb.cell (p := ⟨bb, ob + j, none⟩) hbb).trans hcb
            clear hca hcb
            have C15 := Lib.hid (fun W => lfits_any x y W hx0.1 hx0.2)
            rcases hf : (sizeB y && fitsB y x) with _ | _
            · have HS := Lib.hid (HS.out hf)
              rw [hf] at C15
              have C15' : Hid (∀ W, Calls Try.prog 15 #[.int .u64 x, .int .i64 y] W fun e w' => e = .returned (.bool false) ∧ W = w') := C15
              clear hf HT C15
              go_wp2_with (go_at_call 15; refine (C15'.out _).mono ?_; rintro e w' ⟨rfl, rfl⟩)
              go_round
              case rel => exact ⟨j + 1, by omega, by go_num, by rw [HS.out]⟩
              case measure => simp [intOf]; omega
            · obtain ⟨t1, t2, t3⟩ := HT.out hf
              have C9 := Lib.hid (get_any A R.length cc _ ((rowV (l.take j) (z.take j)).length : Int) y R wr (by unfold maxLen; omega) HO.out.2.2.1 HO.out.rd)
              rw [t1, t2] at C9
              have T3 := Lib.hid t3
              have hy : 1 ≤ y ∧ y ≤ 8 := by simp [sizeB] at hf; omega
              have hq : (rowV (l.take j) (z.take j)).length ≤ 400 := by
                have h5 := rowV_le (l.take j) (z.take j)
                have h6 := List.length_take_le j l
                omega
              rw [hf] at C15
              have C15' : Hid (∀ W, Calls Try.prog 15 #[.int .u64 x, .int .i64 y] W fun e w' => e = .returned (.bool true) ∧ W = w') := C15
              clear hf HT C15 t1 t2 t3 HS
              generalize (rowV (l.take j) (z.take j)).length = q at C9 T3 hq ⊢
              go_wp2_with (first
                | (go_at_call 15; refine (C15'.out _).mono ?_; rintro e w' ⟨rfl, rfl⟩)
                | (go_at_call 9; refine C9.out.mono ?_; rintro e w' ⟨rfl, rfl⟩))
              go_round
              case rel => exact ⟨j + 1, by omega, by go_num, by rw [T3.out]⟩
              case measure => simp [intOf]; omega
          · obtain rfl : j = k := by omega
            rw [← HRR.out]
            go_wp2
            go_ret
            exact ⟨rfl, hb⟩
theorem row_law (a : Option Addr) (n c : Nat) (l : List Int) (b : Option Addr) (m d : Nat) (z : List Int) (w : World) (hl : IsRow .u64 8 w a n c l) (hz : IsRow .i64 8 w b m d z) :
    Calls Try.prog 7 #[.slice a n c, .slice b m d] w fun e w' => e = .returned (.bool true) ∧ Below w.heap.size w w' := by
  obtain ⟨l1, l2, l3, l4, l5⟩ := hl.cells
  obtain ⟨z1, z2, z3, z4, z5⟩ := hz.cells
  exact row_first a b n m c d _ _ w l3 z3 (by omega) (by omega) l5 z5 (fun x hx => wf_u64 (l4 x hx))
end Go.Proofs.Ytklodmbccmomoaa
