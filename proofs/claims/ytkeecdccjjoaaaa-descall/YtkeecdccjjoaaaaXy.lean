/- The contract of the reference's Bytes. -/
import Derived.Test.YtkeecdccjjoaaaaXr
namespace Go.Proofs.Ytkeecdccjjoaaaa
open Go.RowKit
set_option linter.unusedVariables false

set_option maxHeartbeats 400000 in
theorem bytes_any (s : Nat) (v : Int) (w : World) (h1 : 1 ≤ s) (h2 : s ≤ 8) (hv : 0 ≤ v) (hv2 : v ≤ 18446744073709551615) :
    Calls Try.prog 16 #[.int .i64 s, .int .u64 v] w fun e w' => e = .returned (.slice (some ⟨w.heap.size, 0, none⟩) s s) ∧ Blk w' w.heap.size (be s v) [] ∧ Below w.heap.size w w' := by
  obtain ⟨i0, hi0, hz0, hz1, hz2⟩ := info_parts info5
  go_enter Try.func16, Try.ntmps16
  go_wp2_with (at_make; refine wpList_make_full _ rfl _ _ 25 rfl w.heap.size 5 i0 _ 1 Try.underlying25 hi0 hz0 hz1 .i64 .i64 _ _ s rfl rfl ?c1 ?c2 ?c3 ?c4 ?c5 ?_
               case c1 => omega
               case c2 => omega
               case c3 => rw [hz2]; omega
               case c4 => unfold maxLen; omega
               case c5 => exact Nat.le_refl _
               intro w1 hown1 hg1
               rw [bcells_zeros] at hown1
               have HO := Lib.hid (own_blk hown1 rfl)
               have hb1 : Below w.heap.size w w1 := (Below.refl _ _).grown hg1 (Nat.le_refl _) (by simp)
               clear hown1 hg1)
  go_loopw [1, 6] (fun sv si wx => ∃ i : Int, -1 ≤ i ∧ i < s ∧ si = .int .i64 i ∧ sv = .int .u64 (v / 256 ^ (s - (i + 1).toNat)) ∧ Blk wx w.heap.size (written (List.replicate s 0) 0 s (i + 1).toNat v) [] ∧ Below w.heap.size w wx)
    (fun _ si _ => (intOf si + 1).toNat)
  case atStart =>
    refine ⟨(s : Int) - 1, by omega, by omega, rfl, ?_, ?_, hb1⟩
    · rw [show ((s : Int) - 1 + 1).toNat = s from by omega]; simp
    · rw [show ((s : Int) - 1 + 1).toNat = s from by omega, written_full]; exact HO.out
  case round =>
    obtain ⟨i, hi1, hi2, rfl, rfl, hb, hgr⟩ := hrel
    have hfit : 0 + s ≤ (List.replicate s (0 : Int)).length := by simp
    by_cases hlt : 0 ≤ i
    · obtain ⟨j, rfl⟩ := Int.eq_ofNat_of_zero_le hlt
      rw [show ((j : Int) + 1).toNat = j + 1 from by omega] at hb ⊢
      have hc := hb.cell j (by rw [written_length _ _ _ _ _ hfit (by omega)]; simp; omega)
      have hf := hb.frozen j
      obtain ⟨q, hq⟩ : ∃ q, q = v / 256 ^ (s - (j + 1)) := ⟨_, rfl⟩
      have hq0 : 0 ≤ q := by rw [hq]; exact Int.ediv_nonneg hv (Int.le_of_lt (pow_pos _))
      have hq1 : q ≤ 18446744073709551615 := by
        have h5 : q ≤ v := by rw [hq]; exact Int.ediv_le_self _ hv
        omega
      rw [← hq]
      have HQ := Lib.hid hq
      clear hq
      go_wp2
      go_roundw
      case rel =>
        refine ⟨(j : Int) - 1, by omega, by omega, rfl, ?_, ?_, hgr.setCell (Nat.le_refl _) _⟩
        · rw [show ((j : Int) - 1 + 1).toNat = j from by omega, HQ.out, div_pow, show s - (j + 1) + 1 = s - j from by omega]
        · rw [show ((j : Int) - 1 + 1).toNat = j from by omega, ← written_step _ 0 s j v hfit (by omega), Nat.zero_add, HQ.out]
          exact hb.set_ _ (by rw [written_length _ _ _ _ _ hfit (by omega)]; simp; omega) _
      case measure => simp [intOf]
    · obtain rfl : i = -1 := by omega
      go_wp2
      go_ret
      refine ⟨rfl, ?_, hgr⟩
      simpa [written] using hb
end Go.Proofs.Ytkeecdccjjoaaaa
