/- The walk of PatchOnly: written by wip/gen/nm.py. -/
import Derived.Test.YtjmlimfheiogcaaNj
namespace Go.Proofs.Ytjmlimfheiogcaa.Pat
open Go.RowKit
open Rtp (PV pkt pobj PBlk pvOf PRd zpv Off)
set_option linter.unusedVariables false

def fld (fm i : Nat) : Bool := decide (2 ≤ i) && decide (i < 12) || decide (i = fm) || decide (i = fm + 2) || decide (i = fm + 3)

set_option maxHeartbeats 20000000 in
theorem only_no (a : Option Addr) (len cap fm : Nat) (q t r f n to : Int) (xs cs : List Int) (w : World) (hl : len ≤ 140737488351232) (hfm : fm ≤ 140737488351232)
    (HR : Hid (∀ W, Below w.heap.size w W → Rd W w.heap.size a len xs)) (HF : Hid (∀ i, i < len → xs.getD i 0 ≠ cs.getD i 0 → False))
    (CC : Hid (∀ W, Below w.heap.size w W → Calls Try.prog 9 #[.slice a len cap] W (CopyRow W len xs)))
    (CA : Hid (∀ W base A c, Own W base A len c xs → Calls Try.prog 10 #[.slice A len c, pch q t r f] W (Wrote W base A len c cs false)))
    (CO : Hid (∀ W, Below w.heap.size w W → Calls Try.prog 22 #[.slice a len cap] W (Rtp.RetO W fm to n))) :
    Calls Try.prog 7 #[.slice a len cap, pch q t r f] w (Rtp.RetB w true) := by
  go_enter Try.func7, Try.ntmps7
  go_wp2_with fail
  have hb0 := (Below.refl w.heap.size w).alloc (Nat.le_refl _) (.cells #[.int .u16 q, .int .u32 t, .int .u32 r, .int .u16 f] 26)
  have D0 := QBlk.new w q t r f
  refine (shown_any _).mono ?_
  rintro e w1 ⟨rfl, hb1⟩
  have D1 := D0.below hb1 D0.lt
  have B1 := hb0.trans (hb1.mono hb0.size)
  clear hb0 hb1 D0
  go_wp2_with fail
  refine (CC.out _ B1).mono ?_
  rintro e w2 ⟨A, c, rfl, ho2, hb2⟩
  have D2 := D1.below hb2 D1.lt
  have B2 := B1.trans (hb2.mono B1.size)
  have hz := hb2.size
  clear hb2 D1
  have c0 := D2.c0
  have c1 := D2.c1
  have c2 := D2.c2
  have c3 := D2.c3
  have HO := Lib.hid ho2
  clear D2 ho2
  go_wp2_with fail
  refine (CA.out w2 _ A c HO.out).mono ?_
  rintro e w3 ⟨rfl, ho3, ha3⟩
  have hb3 := ha3.below HO.out hz
  have B3 := B2.trans (hb3.mono B1.size)
  have HO3 := Lib.hid ho3
  clear c0 c1 c2 c3 ho3 ha3 hb3 HO CA
  go_wp2_with fail
  refine (CO.out w3 B3).mono ?_
  rintro e w4 ⟨rfl, hb4⟩
  have B4 := B3.trans (hb4.mono B3.size)
  have RA : Hid (Rd w4 w4.heap.size A len cs) := (HO3.out.below hb4 (Nat.le_refl _)).rd
  clear hb4 HO3 CO CC
  have RX := Lib.hid (HR.out w4 B4)
  have B5 := Lib.hid B4
  clear B1 B2 B3 B4 hz HR
  go_wp2_with fail
  go_loopw [39] (fun j wx => ∃ i : Nat, i ≤ len ∧ j = .int .i64 i ∧ Below w4.heap.size w4 wx) (fun j _ => len - (intOf j).toNat)
  case atStart => exact ⟨0, by omega, rfl, Below.refl _ _⟩
  case round =>
    obtain ⟨i, hi, rfl, hbx⟩ := hrel
    rename World => wx
    have HBX := Lib.hid hbx
    clear hbx
    by_cases hlt : i < len
    · have hlti : (i : Int) < len := by omega
      have RX2 := (RX.out.below (HBX.out.mono B5.out.size))
      have RA2 := RA.out.below HBX.out
      obtain ⟨g, o, rfl, hgl, hcx⟩ := RX2.2.2 (by omega)
      obtain ⟨g2, o2, rfl, hgl2, hcy⟩ := RA2.2.2 (by omega)
      have hx := hcx i hlt
      have hy := hcy i hlt
      have hf := HF.out i hlt
      clear hcx hcy RX2 RA2
      generalize xs.getD i 0 = x at *
      generalize cs.getD i 0 = y at *
      have hS : wx.cell? ⟨g, o + i, none⟩ = some (.int .u8 x) ∧ wx.cell? ⟨g2, o2 + i, none⟩ = some (.int .u8 y) := ⟨hx, hy⟩
      clear hx hy hgl hgl2
      have hi8 : (i : Int) ≤ 140737488351232 := by omega
      have hS1 : ∀ W : World, (W.cell? ⟨g, o + i, none⟩ = some (.int .u8 x) ∧ W.cell? ⟨g2, o2 + i, none⟩ = some (.int .u8 y)) → W.cell? ⟨g, o + i, none⟩ = some (.int .u8 x) := fun W h => h.1
      have hS2 : ∀ W : World, (W.cell? ⟨g, o + i, none⟩ = some (.int .u8 x) ∧ W.cell? ⟨g2, o2 + i, none⟩ = some (.int .u8 y)) → W.cell? ⟨g2, o2 + i, none⟩ = some (.int .u8 y) := fun W h => h.2
      have hways : ((2 : Int) ≤ i ∧ (i : Int) < 12) ∨ ((¬ (2 : Int) ≤ i ∨ (2 : Int) ≤ i ∧ ¬ (i : Int) < 12) ∧ ((i : Int) = fm ∨ ¬ (i : Int) = fm ∧ (i : Int) = fm + 2 ∨ ¬ (i : Int) = fm ∧ ¬ (i : Int) = fm + 2 ∧ (i : Int) = fm + 3 ∨ ¬ (i : Int) = fm ∧ ¬ (i : Int) = fm + 2 ∧ ¬ (i : Int) = fm + 3)) := by omega
      have hnone : ¬ (2 ≤ i ∧ i < 12) → ¬ (i : Int) = fm → ¬ (i : Int) = fm + 2 → ¬ (i : Int) = fm + 3 → fld fm i = false := by
        intro a1 a2 a3 a4
        unfold fld
        rw [decide_eq_false (show ¬ i = fm by omega), decide_eq_false (show ¬ i = fm + 2 by omega), decide_eq_false (show ¬ i = fm + 3 by omega), ← Bool.decide_and, decide_eq_false a1]
        rfl
      have HNN := Lib.hid hnone
      have HFF := Lib.hid hf
      clear hnone hf
      rcases hways with ⟨h1, h2⟩ | ⟨h1 | ⟨h1, h2⟩, w0 | ⟨v0, w2⟩ | ⟨v0, v2, w3⟩ | ⟨v0, v2, v3⟩⟩
      · skip
        have hxy : (x != y) = false := by
          by_cases hxy : x = y
          · simpa using hxy
          · exact (HFF.out hxy).elim
        go_wp2_with fail
        have hS : wx.drew.cell? ⟨g, o + i, none⟩ = some (.int .u8 x) ∧ wx.drew.cell? ⟨g2, o2 + i, none⟩ = some (.int .u8 y) := hS
        refine region_seq (fun W => W.cell? ⟨g, o + i, none⟩ = some (.int .u8 x) ∧ W.cell? ⟨g2, o2 + i, none⟩ = some (.int .u8 y)) [(0, false), (1, false), (2, false), (3, false), (4, false), (5, false), (6, false), (7, false), (8, false), (9, false), (10, false), (11, false), (12, false), (13, false), (14, false), (15, false), (16, false)] (by kernel_rfl) (by kernel_rfl) rfl (by kernel_rfl) ?_
        iterate 10 (refine seq_read (v := _) rfl (fun _ _ _ h => h) hS (Or.inl ⟨by rfl, fun W hW => by go_simp <;> with_reducible rfl⟩) ?_; simp only [Act.put, List.setIfInBounds_toArray, List.set_cons_zero, List.set_cons_succ])
        iterate 6 (refine seq_read (v := undef) rfl (fun _ _ _ h => h) hS (Or.inr ⟨by rfl, rfl⟩) ?_; simp only [Act.put, List.setIfInBounds_toArray, List.set_cons_zero, List.set_cons_succ])
        iterate 1 (refine seq_read (v := _) rfl (fun _ _ _ h => h) hS (Or.inl ⟨by rfl, fun W hW => by go_simp <;> with_reducible rfl⟩) ?_; simp only [Act.put, List.setIfInBounds_toArray, List.set_cons_zero, List.set_cons_succ])
        refine seq_end ?_
        clear hS hS1 hS2
        go_wp2
        go_roundw
        case rel => exact ⟨i + 1, by omega, by go_num, HBX.out.drew⟩
        case measure => simp [intOf]; omega
      · skip
        have e0 : (i = fm) = True := by simp; omega
        have f0 : ((i : Int) = (fm : Int)) = True := by simp; omega
        have b0 : ((i : Int) == (fm : Int)) = true := by simp; omega
        have hxy : (x != y) = false := by
          by_cases hxy : x = y
          · simpa using hxy
          · exact (HFF.out hxy).elim
        clear w0
        go_wp2_with fail
        have hS : wx.drew.cell? ⟨g, o + i, none⟩ = some (.int .u8 x) ∧ wx.drew.cell? ⟨g2, o2 + i, none⟩ = some (.int .u8 y) := hS
        refine region_seq (fun W => W.cell? ⟨g, o + i, none⟩ = some (.int .u8 x) ∧ W.cell? ⟨g2, o2 + i, none⟩ = some (.int .u8 y)) [(0, false), (1, false), (2, false), (3, false), (4, false), (5, false), (6, false), (7, false), (8, false), (9, false), (10, false), (11, false), (12, false), (13, false), (14, false), (15, false), (16, false)] (by kernel_rfl) (by kernel_rfl) rfl (by kernel_rfl) ?_
        iterate 10 (refine seq_read (v := _) rfl (fun _ _ _ h => h) hS (Or.inl ⟨by rfl, fun W hW => by go_simp <;> with_reducible rfl⟩) ?_; simp only [Act.put, List.setIfInBounds_toArray, List.set_cons_zero, List.set_cons_succ])
        iterate 6 (refine seq_read (v := undef) rfl (fun _ _ _ h => h) hS (Or.inr ⟨by rfl, rfl⟩) ?_; simp only [Act.put, List.setIfInBounds_toArray, List.set_cons_zero, List.set_cons_succ])
        iterate 1 (refine seq_read (v := _) rfl (fun _ _ _ h => h) hS (Or.inl ⟨by rfl, fun W hW => by go_simp <;> with_reducible rfl⟩) ?_; simp only [Act.put, List.setIfInBounds_toArray, List.set_cons_zero, List.set_cons_succ])
        refine seq_end ?_
        clear hS hS1 hS2
        go_wp2
        go_roundw
        case rel => exact ⟨i + 1, by omega, by go_num, HBX.out.drew⟩
        case measure => simp [intOf]; omega
      · exact absurd h1 (by omega)
      · exact absurd h1 (by omega)
      · skip
        have e0 : (i = fm) = False := by simp; omega
        have f0 : ((i : Int) = (fm : Int)) = False := by simp; omega
        have b0 : ((i : Int) == (fm : Int)) = false := by simp; omega
        have e2 : (i = fm + 2) = False := by simp; omega
        have f2 : ((i : Int) = (fm : Int) + 2) = False := by simp; omega
        have b2 : ((i : Int) == (fm : Int) + 2) = false := by simp; omega
        have e3 : (i = fm + 3) = False := by simp; omega
        have f3 : ((i : Int) = (fm : Int) + 3) = False := by simp; omega
        have b3 : ((i : Int) == (fm : Int) + 3) = false := by simp; omega
        have hxy : (x != y) = false := by
          by_cases hxy : x = y
          · simpa using hxy
          · exact (HFF.out hxy).elim
        clear v0 v2 v3
        go_wp2_with fail
        have hS : wx.drew.cell? ⟨g, o + i, none⟩ = some (.int .u8 x) ∧ wx.drew.cell? ⟨g2, o2 + i, none⟩ = some (.int .u8 y) := hS
        refine region_seq (fun W => W.cell? ⟨g, o + i, none⟩ = some (.int .u8 x) ∧ W.cell? ⟨g2, o2 + i, none⟩ = some (.int .u8 y)) [(0, false), (1, false), (2, false), (3, false), (4, false), (5, false), (6, false), (7, false), (8, false), (9, false), (10, false), (11, false), (12, false), (13, false), (14, false), (15, false), (16, false)] (by kernel_rfl) (by kernel_rfl) rfl (by kernel_rfl) ?_
        iterate 10 (refine seq_read (v := _) rfl (fun _ _ _ h => h) hS (Or.inl ⟨by rfl, fun W hW => by go_simp <;> with_reducible rfl⟩) ?_; simp only [Act.put, List.setIfInBounds_toArray, List.set_cons_zero, List.set_cons_succ])
        iterate 6 (refine seq_read (v := undef) rfl (fun _ _ _ h => h) hS (Or.inr ⟨by rfl, rfl⟩) ?_; simp only [Act.put, List.setIfInBounds_toArray, List.set_cons_zero, List.set_cons_succ])
        iterate 1 (refine seq_read (v := _) rfl (fun _ _ _ h => h) hS (Or.inl ⟨by rfl, fun W hW => by go_simp <;> with_reducible rfl⟩) ?_; simp only [Act.put, List.setIfInBounds_toArray, List.set_cons_zero, List.set_cons_succ])
        refine seq_end ?_
        clear hS hS1 hS2
        go_wp2
        go_roundw
        case rel => exact ⟨i + 1, by omega, by go_num, HBX.out.drew⟩
        case measure => simp [intOf]; omega
      · skip
        have e0 : (i = fm) = True := by simp; omega
        have f0 : ((i : Int) = (fm : Int)) = True := by simp; omega
        have b0 : ((i : Int) == (fm : Int)) = true := by simp; omega
        have hxy : (x != y) = false := by
          by_cases hxy : x = y
          · simpa using hxy
          · exact (HFF.out hxy).elim
        clear w0
        go_wp2_with fail
        have hS : wx.drew.cell? ⟨g, o + i, none⟩ = some (.int .u8 x) ∧ wx.drew.cell? ⟨g2, o2 + i, none⟩ = some (.int .u8 y) := hS
        refine region_seq (fun W => W.cell? ⟨g, o + i, none⟩ = some (.int .u8 x) ∧ W.cell? ⟨g2, o2 + i, none⟩ = some (.int .u8 y)) [(0, false), (1, false), (2, false), (3, false), (4, false), (5, false), (6, false), (7, false), (8, false), (9, false), (10, false), (11, false), (12, false), (13, false), (14, false), (15, false), (16, false)] (by kernel_rfl) (by kernel_rfl) rfl (by kernel_rfl) ?_
        iterate 10 (refine seq_read (v := _) rfl (fun _ _ _ h => h) hS (Or.inl ⟨by rfl, fun W hW => by go_simp <;> with_reducible rfl⟩) ?_; simp only [Act.put, List.setIfInBounds_toArray, List.set_cons_zero, List.set_cons_succ])
        iterate 6 (refine seq_read (v := undef) rfl (fun _ _ _ h => h) hS (Or.inr ⟨by rfl, rfl⟩) ?_; simp only [Act.put, List.setIfInBounds_toArray, List.set_cons_zero, List.set_cons_succ])
        iterate 1 (refine seq_read (v := _) rfl (fun _ _ _ h => h) hS (Or.inl ⟨by rfl, fun W hW => by go_simp <;> with_reducible rfl⟩) ?_; simp only [Act.put, List.setIfInBounds_toArray, List.set_cons_zero, List.set_cons_succ])
        refine seq_end ?_
        clear hS hS1 hS2
        go_wp2
        go_roundw
        case rel => exact ⟨i + 1, by omega, by go_num, HBX.out.drew⟩
        case measure => simp [intOf]; omega
      · skip
        have e0 : (i = fm) = False := by simp; omega
        have f0 : ((i : Int) = (fm : Int)) = False := by simp; omega
        have b0 : ((i : Int) == (fm : Int)) = false := by simp; omega
        have e2 : (i = fm + 2) = True := by simp; omega
        have f2 : ((i : Int) = (fm : Int) + 2) = True := by simp; omega
        have b2 : ((i : Int) == (fm : Int) + 2) = true := by simp; omega
        have hxy : (x != y) = false := by
          by_cases hxy : x = y
          · simpa using hxy
          · exact (HFF.out hxy).elim
        clear v0 w2
        go_wp2_with fail
        have hS : wx.drew.cell? ⟨g, o + i, none⟩ = some (.int .u8 x) ∧ wx.drew.cell? ⟨g2, o2 + i, none⟩ = some (.int .u8 y) := hS
        refine region_seq (fun W => W.cell? ⟨g, o + i, none⟩ = some (.int .u8 x) ∧ W.cell? ⟨g2, o2 + i, none⟩ = some (.int .u8 y)) [(0, false), (1, false), (2, false), (3, false), (4, false), (5, false), (6, false), (7, false), (8, false), (9, false), (10, false), (11, false), (12, false), (13, false), (14, false), (15, false), (16, false)] (by kernel_rfl) (by kernel_rfl) rfl (by kernel_rfl) ?_
        iterate 10 (refine seq_read (v := _) rfl (fun _ _ _ h => h) hS (Or.inl ⟨by rfl, fun W hW => by go_simp <;> with_reducible rfl⟩) ?_; simp only [Act.put, List.setIfInBounds_toArray, List.set_cons_zero, List.set_cons_succ])
        iterate 6 (refine seq_read (v := undef) rfl (fun _ _ _ h => h) hS (Or.inr ⟨by rfl, rfl⟩) ?_; simp only [Act.put, List.setIfInBounds_toArray, List.set_cons_zero, List.set_cons_succ])
        iterate 1 (refine seq_read (v := _) rfl (fun _ _ _ h => h) hS (Or.inl ⟨by rfl, fun W hW => by go_simp <;> with_reducible rfl⟩) ?_; simp only [Act.put, List.setIfInBounds_toArray, List.set_cons_zero, List.set_cons_succ])
        refine seq_end ?_
        clear hS hS1 hS2
        go_wp2
        go_roundw
        case rel => exact ⟨i + 1, by omega, by go_num, HBX.out.drew⟩
        case measure => simp [intOf]; omega
      · skip
        have e0 : (i = fm) = False := by simp; omega
        have f0 : ((i : Int) = (fm : Int)) = False := by simp; omega
        have b0 : ((i : Int) == (fm : Int)) = false := by simp; omega
        have e2 : (i = fm + 2) = False := by simp; omega
        have f2 : ((i : Int) = (fm : Int) + 2) = False := by simp; omega
        have b2 : ((i : Int) == (fm : Int) + 2) = false := by simp; omega
        have e3 : (i = fm + 3) = True := by simp; omega
        have f3 : ((i : Int) = (fm : Int) + 3) = True := by simp; omega
        have b3 : ((i : Int) == (fm : Int) + 3) = true := by simp; omega
        have hxy : (x != y) = false := by
          by_cases hxy : x = y
          · simpa using hxy
          · exact (HFF.out hxy).elim
        clear v0 v2 w3
        go_wp2_with fail
        have hS : wx.drew.cell? ⟨g, o + i, none⟩ = some (.int .u8 x) ∧ wx.drew.cell? ⟨g2, o2 + i, none⟩ = some (.int .u8 y) := hS
        refine region_seq (fun W => W.cell? ⟨g, o + i, none⟩ = some (.int .u8 x) ∧ W.cell? ⟨g2, o2 + i, none⟩ = some (.int .u8 y)) [(0, false), (1, false), (2, false), (3, false), (4, false), (5, false), (6, false), (7, false), (8, false), (9, false), (10, false), (11, false), (12, false), (13, false), (14, false), (15, false), (16, false)] (by kernel_rfl) (by kernel_rfl) rfl (by kernel_rfl) ?_
        iterate 10 (refine seq_read (v := _) rfl (fun _ _ _ h => h) hS (Or.inl ⟨by rfl, fun W hW => by go_simp <;> with_reducible rfl⟩) ?_; simp only [Act.put, List.setIfInBounds_toArray, List.set_cons_zero, List.set_cons_succ])
        iterate 6 (refine seq_read (v := undef) rfl (fun _ _ _ h => h) hS (Or.inr ⟨by rfl, rfl⟩) ?_; simp only [Act.put, List.setIfInBounds_toArray, List.set_cons_zero, List.set_cons_succ])
        iterate 1 (refine seq_read (v := _) rfl (fun _ _ _ h => h) hS (Or.inl ⟨by rfl, fun W hW => by go_simp <;> with_reducible rfl⟩) ?_; simp only [Act.put, List.setIfInBounds_toArray, List.set_cons_zero, List.set_cons_succ])
        refine seq_end ?_
        clear hS hS1 hS2
        go_wp2
        go_roundw
        case rel => exact ⟨i + 1, by omega, by go_num, HBX.out.drew⟩
        case measure => simp [intOf]; omega
      · skip
        have e0 : (i = fm) = False := by simp; omega
        have f0 : ((i : Int) = (fm : Int)) = False := by simp; omega
        have b0 : ((i : Int) == (fm : Int)) = false := by simp; omega
        have e2 : (i = fm + 2) = False := by simp; omega
        have f2 : ((i : Int) = (fm : Int) + 2) = False := by simp; omega
        have b2 : ((i : Int) == (fm : Int) + 2) = false := by simp; omega
        have e3 : (i = fm + 3) = False := by simp; omega
        have f3 : ((i : Int) = (fm : Int) + 3) = False := by simp; omega
        have b3 : ((i : Int) == (fm : Int) + 3) = false := by simp; omega
        have hxy : (x != y) = false := by
          by_cases hxy : x = y
          · simpa using hxy
          · exact (HFF.out hxy).elim
        clear v0 v2 v3
        go_wp2_with fail
        have hS : wx.drew.cell? ⟨g, o + i, none⟩ = some (.int .u8 x) ∧ wx.drew.cell? ⟨g2, o2 + i, none⟩ = some (.int .u8 y) := hS
        refine region_seq (fun W => W.cell? ⟨g, o + i, none⟩ = some (.int .u8 x) ∧ W.cell? ⟨g2, o2 + i, none⟩ = some (.int .u8 y)) [(0, false), (1, false), (2, false), (3, false), (4, false), (5, false), (6, false), (7, false), (8, false), (9, false), (10, false), (11, false), (12, false), (13, false), (14, false), (15, false), (16, false)] (by kernel_rfl) (by kernel_rfl) rfl (by kernel_rfl) ?_
        iterate 10 (refine seq_read (v := _) rfl (fun _ _ _ h => h) hS (Or.inl ⟨by rfl, fun W hW => by go_simp <;> with_reducible rfl⟩) ?_; simp only [Act.put, List.setIfInBounds_toArray, List.set_cons_zero, List.set_cons_succ])
        iterate 6 (refine seq_read (v := undef) rfl (fun _ _ _ h => h) hS (Or.inr ⟨by rfl, rfl⟩) ?_; simp only [Act.put, List.setIfInBounds_toArray, List.set_cons_zero, List.set_cons_succ])
        iterate 1 (refine seq_read (v := _) rfl (fun _ _ _ h => h) hS (Or.inl ⟨by rfl, fun W hW => by go_simp <;> with_reducible rfl⟩) ?_; simp only [Act.put, List.setIfInBounds_toArray, List.set_cons_zero, List.set_cons_succ])
        refine seq_end ?_
        clear hS hS1 hS2
        go_wp2
        go_roundw
        case rel => exact ⟨i + 1, by omega, by go_num, HBX.out.drew⟩
        case measure => simp [intOf]; omega
    · obtain rfl : i = len := by omega
      go_wp2
      go_ret
      exact ⟨rfl, B5.out.trans (HBX.out.mono B5.out.size)⟩

set_option maxHeartbeats 20000000 in
theorem only_yes (a : Option Addr) (len cap fm : Nat) (q t r f to : Int) (xs cs : List Int) (w : World) (hl : len ≤ 140737488351232) (hfm : fm ≤ 140737488351232)
    (HR : Hid (∀ W, Below w.heap.size w W → Rd W w.heap.size a len xs)) (HF : Hid (∀ i, i < len → xs.getD i 0 ≠ cs.getD i 0 → fld fm i = true))
    (CC : Hid (∀ W, Below w.heap.size w W → Calls Try.prog 9 #[.slice a len cap] W (CopyRow W len xs)))
    (CA : Hid (∀ W base A c, Own W base A len c xs → Calls Try.prog 10 #[.slice A len c, pch q t r f] W (Wrote W base A len c cs true)))
    (CO : Hid (∀ W, Below w.heap.size w W → Calls Try.prog 22 #[.slice a len cap] W (Rtp.RetO W fm to 0))) :
    Calls Try.prog 7 #[.slice a len cap, pch q t r f] w (Rtp.RetB w true) := by
  go_enter Try.func7, Try.ntmps7
  go_wp2_with fail
  have hb0 := (Below.refl w.heap.size w).alloc (Nat.le_refl _) (.cells #[.int .u16 q, .int .u32 t, .int .u32 r, .int .u16 f] 26)
  have D0 := QBlk.new w q t r f
  refine (shown_any _).mono ?_
  rintro e w1 ⟨rfl, hb1⟩
  have D1 := D0.below hb1 D0.lt
  have B1 := hb0.trans (hb1.mono hb0.size)
  clear hb0 hb1 D0
  go_wp2_with fail
  refine (CC.out _ B1).mono ?_
  rintro e w2 ⟨A, c, rfl, ho2, hb2⟩
  have D2 := D1.below hb2 D1.lt
  have B2 := B1.trans (hb2.mono B1.size)
  have hz := hb2.size
  clear hb2 D1
  have c0 := D2.c0
  have c1 := D2.c1
  have c2 := D2.c2
  have c3 := D2.c3
  have HO := Lib.hid ho2
  clear D2 ho2
  go_wp2_with fail
  refine (CA.out w2 _ A c HO.out).mono ?_
  rintro e w3 ⟨rfl, ho3, ha3⟩
  have hb3 := ha3.below HO.out hz
  have B3 := B2.trans (hb3.mono B1.size)
  have HO3 := Lib.hid ho3
  clear c0 c1 c2 c3 ho3 ha3 hb3 HO CA
  go_wp2_with fail
  refine (CO.out w3 B3).mono ?_
  rintro e w4 ⟨rfl, hb4⟩
  have B4 := B3.trans (hb4.mono B3.size)
  have RA : Hid (Rd w4 w4.heap.size A len cs) := (HO3.out.below hb4 (Nat.le_refl _)).rd
  clear hb4 HO3 CO CC
  have RX := Lib.hid (HR.out w4 B4)
  have B5 := Lib.hid B4
  clear B1 B2 B3 B4 hz HR
  go_wp2_with fail
  go_loopw [39] (fun j wx => ∃ i : Nat, i ≤ len ∧ j = .int .i64 i ∧ Below w4.heap.size w4 wx) (fun j _ => len - (intOf j).toNat)
  case atStart => exact ⟨0, by omega, rfl, Below.refl _ _⟩
  case round =>
    obtain ⟨i, hi, rfl, hbx⟩ := hrel
    rename World => wx
    have HBX := Lib.hid hbx
    clear hbx
    by_cases hlt : i < len
    · have hlti : (i : Int) < len := by omega
      have RX2 := (RX.out.below (HBX.out.mono B5.out.size))
      have RA2 := RA.out.below HBX.out
      obtain ⟨g, o, rfl, hgl, hcx⟩ := RX2.2.2 (by omega)
      obtain ⟨g2, o2, rfl, hgl2, hcy⟩ := RA2.2.2 (by omega)
      have hx := hcx i hlt
      have hy := hcy i hlt
      have hf := HF.out i hlt
      clear hcx hcy RX2 RA2
      generalize xs.getD i 0 = x at *
      generalize cs.getD i 0 = y at *
      have hS : wx.cell? ⟨g, o + i, none⟩ = some (.int .u8 x) ∧ wx.cell? ⟨g2, o2 + i, none⟩ = some (.int .u8 y) := ⟨hx, hy⟩
      clear hx hy hgl hgl2
      have hi8 : (i : Int) ≤ 140737488351232 := by omega
      have hS1 : ∀ W : World, (W.cell? ⟨g, o + i, none⟩ = some (.int .u8 x) ∧ W.cell? ⟨g2, o2 + i, none⟩ = some (.int .u8 y)) → W.cell? ⟨g, o + i, none⟩ = some (.int .u8 x) := fun W h => h.1
      have hS2 : ∀ W : World, (W.cell? ⟨g, o + i, none⟩ = some (.int .u8 x) ∧ W.cell? ⟨g2, o2 + i, none⟩ = some (.int .u8 y)) → W.cell? ⟨g2, o2 + i, none⟩ = some (.int .u8 y) := fun W h => h.2
      have hways : ((2 : Int) ≤ i ∧ (i : Int) < 12) ∨ ((¬ (2 : Int) ≤ i ∨ (2 : Int) ≤ i ∧ ¬ (i : Int) < 12) ∧ ((i : Int) = fm ∨ ¬ (i : Int) = fm ∧ (i : Int) = fm + 2 ∨ ¬ (i : Int) = fm ∧ ¬ (i : Int) = fm + 2 ∧ (i : Int) = fm + 3 ∨ ¬ (i : Int) = fm ∧ ¬ (i : Int) = fm + 2 ∧ ¬ (i : Int) = fm + 3)) := by omega
      have hnone : ¬ (2 ≤ i ∧ i < 12) → ¬ (i : Int) = fm → ¬ (i : Int) = fm + 2 → ¬ (i : Int) = fm + 3 → fld fm i = false := by
        intro a1 a2 a3 a4
        unfold fld
        rw [decide_eq_false (show ¬ i = fm by omega), decide_eq_false (show ¬ i = fm + 2 by omega), decide_eq_false (show ¬ i = fm + 3 by omega), ← Bool.decide_and, decide_eq_false a1]
        rfl
      have HNN := Lib.hid hnone
      have HFF := Lib.hid hf
      clear hnone hf
      rcases hways with ⟨h1, h2⟩ | ⟨h1 | ⟨h1, h2⟩, w0 | ⟨v0, w2⟩ | ⟨v0, v2, w3⟩ | ⟨v0, v2, v3⟩⟩
      · skip
        by_cases hxy : x = y
        · have hxy : (x != y) = false := by simpa using hxy
          go_wp2_with fail
          have hS : wx.drew.cell? ⟨g, o + i, none⟩ = some (.int .u8 x) ∧ wx.drew.cell? ⟨g2, o2 + i, none⟩ = some (.int .u8 y) := hS
          refine region_seq (fun W => W.cell? ⟨g, o + i, none⟩ = some (.int .u8 x) ∧ W.cell? ⟨g2, o2 + i, none⟩ = some (.int .u8 y)) [(0, false), (1, false), (2, false), (3, false), (4, false), (5, false), (6, false), (7, false), (8, false), (9, false), (10, false), (11, false), (12, false), (13, false), (14, false), (15, false), (16, false)] (by kernel_rfl) (by kernel_rfl) rfl (by kernel_rfl) ?_
          iterate 10 (refine seq_read (v := _) rfl (fun _ _ _ h => h) hS (Or.inl ⟨by rfl, fun W hW => by go_simp <;> with_reducible rfl⟩) ?_; simp only [Act.put, List.setIfInBounds_toArray, List.set_cons_zero, List.set_cons_succ])
          iterate 6 (refine seq_read (v := undef) rfl (fun _ _ _ h => h) hS (Or.inr ⟨by rfl, rfl⟩) ?_; simp only [Act.put, List.setIfInBounds_toArray, List.set_cons_zero, List.set_cons_succ])
          iterate 1 (refine seq_read (v := _) rfl (fun _ _ _ h => h) hS (Or.inl ⟨by rfl, fun W hW => by go_simp <;> with_reducible rfl⟩) ?_; simp only [Act.put, List.setIfInBounds_toArray, List.set_cons_zero, List.set_cons_succ])
          refine seq_end ?_
          clear hS hS1 hS2
          go_wp2
          go_roundw
          case rel => exact ⟨i + 1, by omega, by go_num, HBX.out.drew⟩
          case measure => simp [intOf]; omega
        · have hxy : (x != y) = true := by simpa using hxy
          go_wp2_with fail
          have hS : wx.drew.cell? ⟨g, o + i, none⟩ = some (.int .u8 x) ∧ wx.drew.cell? ⟨g2, o2 + i, none⟩ = some (.int .u8 y) := hS
          refine region_seq (fun W => W.cell? ⟨g, o + i, none⟩ = some (.int .u8 x) ∧ W.cell? ⟨g2, o2 + i, none⟩ = some (.int .u8 y)) [(0, false), (1, false), (2, false), (3, false), (4, false), (5, false), (6, false), (7, false), (8, false), (9, false), (10, false), (11, false), (12, false), (13, false), (14, false), (15, false), (16, false)] (by kernel_rfl) (by kernel_rfl) rfl (by kernel_rfl) ?_
          iterate 10 (refine seq_read (v := _) rfl (fun _ _ _ h => h) hS (Or.inl ⟨by rfl, fun W hW => by go_simp <;> with_reducible rfl⟩) ?_; simp only [Act.put, List.setIfInBounds_toArray, List.set_cons_zero, List.set_cons_succ])
          iterate 7 (refine seq_read (v := _) rfl (fun _ _ _ h => h) hS (Or.inl ⟨by rfl, fun W hW => by go_simp <;> with_reducible rfl⟩) ?_; simp only [Act.put, List.setIfInBounds_toArray, List.set_cons_zero, List.set_cons_succ])
          refine seq_end ?_
          clear hS hS1 hS2
          go_wp2
          go_roundw
          case rel => exact ⟨i + 1, by omega, by go_num, HBX.out.drew⟩
          case measure => simp [intOf]; omega
      · skip
        have e0 : (i = fm) = True := by simp; omega
        have f0 : ((i : Int) = (fm : Int)) = True := by simp; omega
        have b0 : ((i : Int) == (fm : Int)) = true := by simp; omega
        by_cases hxy : x = y
        · have hxy : (x != y) = false := by simpa using hxy
          clear w0
          go_wp2_with fail
          have hS : wx.drew.cell? ⟨g, o + i, none⟩ = some (.int .u8 x) ∧ wx.drew.cell? ⟨g2, o2 + i, none⟩ = some (.int .u8 y) := hS
          refine region_seq (fun W => W.cell? ⟨g, o + i, none⟩ = some (.int .u8 x) ∧ W.cell? ⟨g2, o2 + i, none⟩ = some (.int .u8 y)) [(0, false), (1, false), (2, false), (3, false), (4, false), (5, false), (6, false), (7, false), (8, false), (9, false), (10, false), (11, false), (12, false), (13, false), (14, false), (15, false), (16, false)] (by kernel_rfl) (by kernel_rfl) rfl (by kernel_rfl) ?_
          iterate 10 (refine seq_read (v := _) rfl (fun _ _ _ h => h) hS (Or.inl ⟨by rfl, fun W hW => by go_simp <;> with_reducible rfl⟩) ?_; simp only [Act.put, List.setIfInBounds_toArray, List.set_cons_zero, List.set_cons_succ])
          iterate 6 (refine seq_read (v := undef) rfl (fun _ _ _ h => h) hS (Or.inr ⟨by rfl, rfl⟩) ?_; simp only [Act.put, List.setIfInBounds_toArray, List.set_cons_zero, List.set_cons_succ])
          iterate 1 (refine seq_read (v := _) rfl (fun _ _ _ h => h) hS (Or.inl ⟨by rfl, fun W hW => by go_simp <;> with_reducible rfl⟩) ?_; simp only [Act.put, List.setIfInBounds_toArray, List.set_cons_zero, List.set_cons_succ])
          refine seq_end ?_
          clear hS hS1 hS2
          go_wp2
          go_roundw
          case rel => exact ⟨i + 1, by omega, by go_num, HBX.out.drew⟩
          case measure => simp [intOf]; omega
        · have hxy : (x != y) = true := by simpa using hxy
          clear w0
          go_wp2_with fail
          have hS : wx.drew.cell? ⟨g, o + i, none⟩ = some (.int .u8 x) ∧ wx.drew.cell? ⟨g2, o2 + i, none⟩ = some (.int .u8 y) := hS
          refine region_seq (fun W => W.cell? ⟨g, o + i, none⟩ = some (.int .u8 x) ∧ W.cell? ⟨g2, o2 + i, none⟩ = some (.int .u8 y)) [(0, false), (1, false), (2, false), (3, false), (4, false), (5, false), (6, false), (7, false), (8, false), (9, false), (10, false), (11, false), (12, false), (13, false), (14, false), (15, false), (16, false)] (by kernel_rfl) (by kernel_rfl) rfl (by kernel_rfl) ?_
          iterate 10 (refine seq_read (v := _) rfl (fun _ _ _ h => h) hS (Or.inl ⟨by rfl, fun W hW => by go_simp <;> with_reducible rfl⟩) ?_; simp only [Act.put, List.setIfInBounds_toArray, List.set_cons_zero, List.set_cons_succ])
          iterate 7 (refine seq_read (v := _) rfl (fun _ _ _ h => h) hS (Or.inl ⟨by rfl, fun W hW => by go_simp <;> with_reducible rfl⟩) ?_; simp only [Act.put, List.setIfInBounds_toArray, List.set_cons_zero, List.set_cons_succ])
          refine seq_end ?_
          clear hS hS1 hS2
          go_wp2
          go_roundw
          case rel => exact ⟨i + 1, by omega, by go_num, HBX.out.drew⟩
          case measure => simp [intOf]; omega
      · exact absurd h1 (by omega)
      · exact absurd h1 (by omega)
      · skip
        have e0 : (i = fm) = False := by simp; omega
        have f0 : ((i : Int) = (fm : Int)) = False := by simp; omega
        have b0 : ((i : Int) == (fm : Int)) = false := by simp; omega
        have e2 : (i = fm + 2) = False := by simp; omega
        have f2 : ((i : Int) = (fm : Int) + 2) = False := by simp; omega
        have b2 : ((i : Int) == (fm : Int) + 2) = false := by simp; omega
        have e3 : (i = fm + 3) = False := by simp; omega
        have f3 : ((i : Int) = (fm : Int) + 3) = False := by simp; omega
        have b3 : ((i : Int) == (fm : Int) + 3) = false := by simp; omega
        by_cases hxy : x = y
        · have hxy : (x != y) = false := by simpa using hxy
          clear v0 v2 v3
          go_wp2_with fail
          have hS : wx.drew.cell? ⟨g, o + i, none⟩ = some (.int .u8 x) ∧ wx.drew.cell? ⟨g2, o2 + i, none⟩ = some (.int .u8 y) := hS
          refine region_seq (fun W => W.cell? ⟨g, o + i, none⟩ = some (.int .u8 x) ∧ W.cell? ⟨g2, o2 + i, none⟩ = some (.int .u8 y)) [(0, false), (1, false), (2, false), (3, false), (4, false), (5, false), (6, false), (7, false), (8, false), (9, false), (10, false), (11, false), (12, false), (13, false), (14, false), (15, false), (16, false)] (by kernel_rfl) (by kernel_rfl) rfl (by kernel_rfl) ?_
          iterate 10 (refine seq_read (v := _) rfl (fun _ _ _ h => h) hS (Or.inl ⟨by rfl, fun W hW => by go_simp <;> with_reducible rfl⟩) ?_; simp only [Act.put, List.setIfInBounds_toArray, List.set_cons_zero, List.set_cons_succ])
          iterate 6 (refine seq_read (v := undef) rfl (fun _ _ _ h => h) hS (Or.inr ⟨by rfl, rfl⟩) ?_; simp only [Act.put, List.setIfInBounds_toArray, List.set_cons_zero, List.set_cons_succ])
          iterate 1 (refine seq_read (v := _) rfl (fun _ _ _ h => h) hS (Or.inl ⟨by rfl, fun W hW => by go_simp <;> with_reducible rfl⟩) ?_; simp only [Act.put, List.setIfInBounds_toArray, List.set_cons_zero, List.set_cons_succ])
          refine seq_end ?_
          clear hS hS1 hS2
          go_wp2
          go_roundw
          case rel => exact ⟨i + 1, by omega, by go_num, HBX.out.drew⟩
          case measure => simp [intOf]; omega
        · have := HFF.out hxy
          rw [HNN.out (by omega) v0 v2 v3] at this
          cases this
      · skip
        have e0 : (i = fm) = True := by simp; omega
        have f0 : ((i : Int) = (fm : Int)) = True := by simp; omega
        have b0 : ((i : Int) == (fm : Int)) = true := by simp; omega
        by_cases hxy : x = y
        · have hxy : (x != y) = false := by simpa using hxy
          clear w0
          go_wp2_with fail
          have hS : wx.drew.cell? ⟨g, o + i, none⟩ = some (.int .u8 x) ∧ wx.drew.cell? ⟨g2, o2 + i, none⟩ = some (.int .u8 y) := hS
          refine region_seq (fun W => W.cell? ⟨g, o + i, none⟩ = some (.int .u8 x) ∧ W.cell? ⟨g2, o2 + i, none⟩ = some (.int .u8 y)) [(0, false), (1, false), (2, false), (3, false), (4, false), (5, false), (6, false), (7, false), (8, false), (9, false), (10, false), (11, false), (12, false), (13, false), (14, false), (15, false), (16, false)] (by kernel_rfl) (by kernel_rfl) rfl (by kernel_rfl) ?_
          iterate 10 (refine seq_read (v := _) rfl (fun _ _ _ h => h) hS (Or.inl ⟨by rfl, fun W hW => by go_simp <;> with_reducible rfl⟩) ?_; simp only [Act.put, List.setIfInBounds_toArray, List.set_cons_zero, List.set_cons_succ])
          iterate 6 (refine seq_read (v := undef) rfl (fun _ _ _ h => h) hS (Or.inr ⟨by rfl, rfl⟩) ?_; simp only [Act.put, List.setIfInBounds_toArray, List.set_cons_zero, List.set_cons_succ])
          iterate 1 (refine seq_read (v := _) rfl (fun _ _ _ h => h) hS (Or.inl ⟨by rfl, fun W hW => by go_simp <;> with_reducible rfl⟩) ?_; simp only [Act.put, List.setIfInBounds_toArray, List.set_cons_zero, List.set_cons_succ])
          refine seq_end ?_
          clear hS hS1 hS2
          go_wp2
          go_roundw
          case rel => exact ⟨i + 1, by omega, by go_num, HBX.out.drew⟩
          case measure => simp [intOf]; omega
        · have hxy : (x != y) = true := by simpa using hxy
          clear w0
          go_wp2_with fail
          have hS : wx.drew.cell? ⟨g, o + i, none⟩ = some (.int .u8 x) ∧ wx.drew.cell? ⟨g2, o2 + i, none⟩ = some (.int .u8 y) := hS
          refine region_seq (fun W => W.cell? ⟨g, o + i, none⟩ = some (.int .u8 x) ∧ W.cell? ⟨g2, o2 + i, none⟩ = some (.int .u8 y)) [(0, false), (1, false), (2, false), (3, false), (4, false), (5, false), (6, false), (7, false), (8, false), (9, false), (10, false), (11, false), (12, false), (13, false), (14, false), (15, false), (16, false)] (by kernel_rfl) (by kernel_rfl) rfl (by kernel_rfl) ?_
          iterate 10 (refine seq_read (v := _) rfl (fun _ _ _ h => h) hS (Or.inl ⟨by rfl, fun W hW => by go_simp <;> with_reducible rfl⟩) ?_; simp only [Act.put, List.setIfInBounds_toArray, List.set_cons_zero, List.set_cons_succ])
          iterate 7 (refine seq_read (v := _) rfl (fun _ _ _ h => h) hS (Or.inl ⟨by rfl, fun W hW => by go_simp <;> with_reducible rfl⟩) ?_; simp only [Act.put, List.setIfInBounds_toArray, List.set_cons_zero, List.set_cons_succ])
          refine seq_end ?_
          clear hS hS1 hS2
          go_wp2
          go_roundw
          case rel => exact ⟨i + 1, by omega, by go_num, HBX.out.drew⟩
          case measure => simp [intOf]; omega
      · skip
        have e0 : (i = fm) = False := by simp; omega
        have f0 : ((i : Int) = (fm : Int)) = False := by simp; omega
        have b0 : ((i : Int) == (fm : Int)) = false := by simp; omega
        have e2 : (i = fm + 2) = True := by simp; omega
        have f2 : ((i : Int) = (fm : Int) + 2) = True := by simp; omega
        have b2 : ((i : Int) == (fm : Int) + 2) = true := by simp; omega
        by_cases hxy : x = y
        · have hxy : (x != y) = false := by simpa using hxy
          clear v0 w2
          go_wp2_with fail
          have hS : wx.drew.cell? ⟨g, o + i, none⟩ = some (.int .u8 x) ∧ wx.drew.cell? ⟨g2, o2 + i, none⟩ = some (.int .u8 y) := hS
          refine region_seq (fun W => W.cell? ⟨g, o + i, none⟩ = some (.int .u8 x) ∧ W.cell? ⟨g2, o2 + i, none⟩ = some (.int .u8 y)) [(0, false), (1, false), (2, false), (3, false), (4, false), (5, false), (6, false), (7, false), (8, false), (9, false), (10, false), (11, false), (12, false), (13, false), (14, false), (15, false), (16, false)] (by kernel_rfl) (by kernel_rfl) rfl (by kernel_rfl) ?_
          iterate 10 (refine seq_read (v := _) rfl (fun _ _ _ h => h) hS (Or.inl ⟨by rfl, fun W hW => by go_simp <;> with_reducible rfl⟩) ?_; simp only [Act.put, List.setIfInBounds_toArray, List.set_cons_zero, List.set_cons_succ])
          iterate 6 (refine seq_read (v := undef) rfl (fun _ _ _ h => h) hS (Or.inr ⟨by rfl, rfl⟩) ?_; simp only [Act.put, List.setIfInBounds_toArray, List.set_cons_zero, List.set_cons_succ])
          iterate 1 (refine seq_read (v := _) rfl (fun _ _ _ h => h) hS (Or.inl ⟨by rfl, fun W hW => by go_simp <;> with_reducible rfl⟩) ?_; simp only [Act.put, List.setIfInBounds_toArray, List.set_cons_zero, List.set_cons_succ])
          refine seq_end ?_
          clear hS hS1 hS2
          go_wp2
          go_roundw
          case rel => exact ⟨i + 1, by omega, by go_num, HBX.out.drew⟩
          case measure => simp [intOf]; omega
        · have hxy : (x != y) = true := by simpa using hxy
          clear v0 w2
          go_wp2_with fail
          have hS : wx.drew.cell? ⟨g, o + i, none⟩ = some (.int .u8 x) ∧ wx.drew.cell? ⟨g2, o2 + i, none⟩ = some (.int .u8 y) := hS
          refine region_seq (fun W => W.cell? ⟨g, o + i, none⟩ = some (.int .u8 x) ∧ W.cell? ⟨g2, o2 + i, none⟩ = some (.int .u8 y)) [(0, false), (1, false), (2, false), (3, false), (4, false), (5, false), (6, false), (7, false), (8, false), (9, false), (10, false), (11, false), (12, false), (13, false), (14, false), (15, false), (16, false)] (by kernel_rfl) (by kernel_rfl) rfl (by kernel_rfl) ?_
          iterate 10 (refine seq_read (v := _) rfl (fun _ _ _ h => h) hS (Or.inl ⟨by rfl, fun W hW => by go_simp <;> with_reducible rfl⟩) ?_; simp only [Act.put, List.setIfInBounds_toArray, List.set_cons_zero, List.set_cons_succ])
          iterate 7 (refine seq_read (v := _) rfl (fun _ _ _ h => h) hS (Or.inl ⟨by rfl, fun W hW => by go_simp <;> with_reducible rfl⟩) ?_; simp only [Act.put, List.setIfInBounds_toArray, List.set_cons_zero, List.set_cons_succ])
          refine seq_end ?_
          clear hS hS1 hS2
          go_wp2
          go_roundw
          case rel => exact ⟨i + 1, by omega, by go_num, HBX.out.drew⟩
          case measure => simp [intOf]; omega
      · skip
        have e0 : (i = fm) = False := by simp; omega
        have f0 : ((i : Int) = (fm : Int)) = False := by simp; omega
        have b0 : ((i : Int) == (fm : Int)) = false := by simp; omega
        have e2 : (i = fm + 2) = False := by simp; omega
        have f2 : ((i : Int) = (fm : Int) + 2) = False := by simp; omega
        have b2 : ((i : Int) == (fm : Int) + 2) = false := by simp; omega
        have e3 : (i = fm + 3) = True := by simp; omega
        have f3 : ((i : Int) = (fm : Int) + 3) = True := by simp; omega
        have b3 : ((i : Int) == (fm : Int) + 3) = true := by simp; omega
        by_cases hxy : x = y
        · have hxy : (x != y) = false := by simpa using hxy
          clear v0 v2 w3
          go_wp2_with fail
          have hS : wx.drew.cell? ⟨g, o + i, none⟩ = some (.int .u8 x) ∧ wx.drew.cell? ⟨g2, o2 + i, none⟩ = some (.int .u8 y) := hS
          refine region_seq (fun W => W.cell? ⟨g, o + i, none⟩ = some (.int .u8 x) ∧ W.cell? ⟨g2, o2 + i, none⟩ = some (.int .u8 y)) [(0, false), (1, false), (2, false), (3, false), (4, false), (5, false), (6, false), (7, false), (8, false), (9, false), (10, false), (11, false), (12, false), (13, false), (14, false), (15, false), (16, false)] (by kernel_rfl) (by kernel_rfl) rfl (by kernel_rfl) ?_
          iterate 10 (refine seq_read (v := _) rfl (fun _ _ _ h => h) hS (Or.inl ⟨by rfl, fun W hW => by go_simp <;> with_reducible rfl⟩) ?_; simp only [Act.put, List.setIfInBounds_toArray, List.set_cons_zero, List.set_cons_succ])
          iterate 6 (refine seq_read (v := undef) rfl (fun _ _ _ h => h) hS (Or.inr ⟨by rfl, rfl⟩) ?_; simp only [Act.put, List.setIfInBounds_toArray, List.set_cons_zero, List.set_cons_succ])
          iterate 1 (refine seq_read (v := _) rfl (fun _ _ _ h => h) hS (Or.inl ⟨by rfl, fun W hW => by go_simp <;> with_reducible rfl⟩) ?_; simp only [Act.put, List.setIfInBounds_toArray, List.set_cons_zero, List.set_cons_succ])
          refine seq_end ?_
          clear hS hS1 hS2
          go_wp2
          go_roundw
          case rel => exact ⟨i + 1, by omega, by go_num, HBX.out.drew⟩
          case measure => simp [intOf]; omega
        · have hxy : (x != y) = true := by simpa using hxy
          clear v0 v2 w3
          go_wp2_with fail
          have hS : wx.drew.cell? ⟨g, o + i, none⟩ = some (.int .u8 x) ∧ wx.drew.cell? ⟨g2, o2 + i, none⟩ = some (.int .u8 y) := hS
          refine region_seq (fun W => W.cell? ⟨g, o + i, none⟩ = some (.int .u8 x) ∧ W.cell? ⟨g2, o2 + i, none⟩ = some (.int .u8 y)) [(0, false), (1, false), (2, false), (3, false), (4, false), (5, false), (6, false), (7, false), (8, false), (9, false), (10, false), (11, false), (12, false), (13, false), (14, false), (15, false), (16, false)] (by kernel_rfl) (by kernel_rfl) rfl (by kernel_rfl) ?_
          iterate 10 (refine seq_read (v := _) rfl (fun _ _ _ h => h) hS (Or.inl ⟨by rfl, fun W hW => by go_simp <;> with_reducible rfl⟩) ?_; simp only [Act.put, List.setIfInBounds_toArray, List.set_cons_zero, List.set_cons_succ])
          iterate 7 (refine seq_read (v := _) rfl (fun _ _ _ h => h) hS (Or.inl ⟨by rfl, fun W hW => by go_simp <;> with_reducible rfl⟩) ?_; simp only [Act.put, List.setIfInBounds_toArray, List.set_cons_zero, List.set_cons_succ])
          refine seq_end ?_
          clear hS hS1 hS2
          go_wp2
          go_roundw
          case rel => exact ⟨i + 1, by omega, by go_num, HBX.out.drew⟩
          case measure => simp [intOf]; omega
      · skip
        have e0 : (i = fm) = False := by simp; omega
        have f0 : ((i : Int) = (fm : Int)) = False := by simp; omega
        have b0 : ((i : Int) == (fm : Int)) = false := by simp; omega
        have e2 : (i = fm + 2) = False := by simp; omega
        have f2 : ((i : Int) = (fm : Int) + 2) = False := by simp; omega
        have b2 : ((i : Int) == (fm : Int) + 2) = false := by simp; omega
        have e3 : (i = fm + 3) = False := by simp; omega
        have f3 : ((i : Int) = (fm : Int) + 3) = False := by simp; omega
        have b3 : ((i : Int) == (fm : Int) + 3) = false := by simp; omega
        by_cases hxy : x = y
        · have hxy : (x != y) = false := by simpa using hxy
          clear v0 v2 v3
          go_wp2_with fail
          have hS : wx.drew.cell? ⟨g, o + i, none⟩ = some (.int .u8 x) ∧ wx.drew.cell? ⟨g2, o2 + i, none⟩ = some (.int .u8 y) := hS
          refine region_seq (fun W => W.cell? ⟨g, o + i, none⟩ = some (.int .u8 x) ∧ W.cell? ⟨g2, o2 + i, none⟩ = some (.int .u8 y)) [(0, false), (1, false), (2, false), (3, false), (4, false), (5, false), (6, false), (7, false), (8, false), (9, false), (10, false), (11, false), (12, false), (13, false), (14, false), (15, false), (16, false)] (by kernel_rfl) (by kernel_rfl) rfl (by kernel_rfl) ?_
          iterate 10 (refine seq_read (v := _) rfl (fun _ _ _ h => h) hS (Or.inl ⟨by rfl, fun W hW => by go_simp <;> with_reducible rfl⟩) ?_; simp only [Act.put, List.setIfInBounds_toArray, List.set_cons_zero, List.set_cons_succ])
          iterate 6 (refine seq_read (v := undef) rfl (fun _ _ _ h => h) hS (Or.inr ⟨by rfl, rfl⟩) ?_; simp only [Act.put, List.setIfInBounds_toArray, List.set_cons_zero, List.set_cons_succ])
          iterate 1 (refine seq_read (v := _) rfl (fun _ _ _ h => h) hS (Or.inl ⟨by rfl, fun W hW => by go_simp <;> with_reducible rfl⟩) ?_; simp only [Act.put, List.setIfInBounds_toArray, List.set_cons_zero, List.set_cons_succ])
          refine seq_end ?_
          clear hS hS1 hS2
          go_wp2
          go_roundw
          case rel => exact ⟨i + 1, by omega, by go_num, HBX.out.drew⟩
          case measure => simp [intOf]; omega
        · have := HFF.out hxy
          rw [HNN.out (by omega) v0 v2 v3] at this
          cases this
    · obtain rfl : i = len := by omega
      go_wp2
      go_ret
      exact ⟨rfl, B5.out.trans (HBX.out.mono B5.out.size)⟩

theorem only_law (a : Option Addr) (len cap : Nat) (q t r f : Int) (xs : List Int) (w : World) (hp : PF q t r f) (hl : len ≤ 140737488351232) (hlc : len ≤ cap) (hr : Rd w w.heap.size a len xs) :
    Calls Try.prog 7 #[.slice a len cap, pch q t r f] w (Rtp.RetB w true) := by
  have hl' : len ≤ maxLen := by unfold maxLen; omega
  have CC := fun W (hW : Below w.heap.size w W) => copy_any a len cap _ xs W hl (hr.below hW)
  have CO := fun W (hW : Below w.heap.size w W) => Rtp.offset_any a len cap _ xs W hl' hlc (hr.below hW) hW.size
  have HR : Hid (∀ W, Below w.heap.size w W → Rd W w.heap.size a len xs) := fun W hW => hr.below hW
  obtain ⟨fm, hfm, hfl⟩ : ∃ fm : Nat, Rtp.gF xs = fm ∧ fm ≤ 140737488351232 := by
    unfold Rtp.gF
    by_cases h : pE xs = 0
    · have := (pE_ok h).2.2.2.2.2.2.1
      have hx := hr.1
      exact ⟨at2 xs, if_pos h, by omega⟩
    · exact ⟨0, if_neg h, by decide⟩
  rw [hfm] at CO
  by_cases h : hasD xs = true
  · obtain ⟨p1, p2⟩ := hasD_iff.1 h
    have hfa : fm = at2 xs := by
      rw [Rtp.gF, if_pos p1] at hfm
      omega
    rw [p1] at CO
    refine only_yes a len cap fm q t r f _ xs (applyL xs q t r f) w hl hfl HR ?_ CC (fun W base A c ho => ?_) CO
    · intro i hi hne
      by_cases hf : fld fm i = true
      · exact hf
      · refine absurd (apply_only hr.2.1 h ⟨hp.q0, hp.q1⟩ ⟨hp.t0, hp.t1⟩ ⟨hp.s0, hp.s1⟩ ⟨hp.f0, hp.f1⟩ i ?_ ?_ ?_ ?_) (Ne.symm hne)
        all_goals
          intro q
          apply hf
          subst hfa
          unfold fld
          simp [q]
    · have := apply_own A len c base q t r f xs W ho hp
      rw [h] at this
      exact this
  · have h' : hasD xs = false := Bool.eq_false_iff.2 h
    refine only_no a len cap fm q t r f _ _ xs xs w hl hfl HR ?_ CC (fun W base A c ho => ?_) CO
    · intro i hi hne
      exact hne rfl
    · have := apply_own A len c base q t r f xs W ho hp
      rw [h', applyL, h', if_neg (by decide)] at this
      exact this
end Go.Proofs.Ytjmlimfheiogcaa.Pat
