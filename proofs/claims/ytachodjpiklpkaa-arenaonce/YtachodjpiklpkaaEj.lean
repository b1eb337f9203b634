/- The contracts of bits.Mul, slices.Repeat over slots, arena.New. -/
import Derived.Test.YtachodjpiklpkaaEi
import Derived.Test.YtachodjpiklpkaaEk
import Derived.Lib.EndianBits
import Derived.Laws.MakeOwn
set_option maxRecDepth 100000
namespace Go.Proofs.Ytachodjpiklpkaa.Arn
open Go.RowKit
set_option linter.unusedVariables false

set_option maxHeartbeats 4000000 in
theorem mul64_any (n : Nat) (w : World) (hn : n ≤ 1024) : Calls Try.prog 31 #[.int .u64 1, .int .u64 n] w fun e w' => e = .returned (.tuple #[.int .u64 0, .int .u64 n]) ∧ w = w' := by
  have b1 : bits BinOp.and IntKind.u64 1 4294967295 = 1 := by decide +kernel
  have b3 : bits BinOp.and IntKind.u64 0 4294967295 = 0 := by decide +kernel
  have b2 : bits BinOp.and IntKind.u64 n 4294967295 = n := by
    have := bits_mask .u64 64 (by decide) wraps_u64 32 (by decide) (n : Int) (by omega) (by omega)
    rw [show (2 : Int) ^ 32 - 1 = 4294967295 from by decide] at this
    rw [this]; omega
  have qd : (n : Int) / 4294967296 = 0 := by omega
  have qw : IntKind.u64.wrap (n : Int) = n := by rw [IntKind.wrap_u64]; omega
  go_enter Try.func31, Try.ntmps31
  go_wp2
  go_ret2
  exact ⟨rfl, rfl⟩
theorem mul_any (n : Nat) (w : World) (hn : n ≤ 1024) : Calls Try.prog 29 #[.int .u64 1, .int .u64 n] w fun e w' => e = .returned (.tuple #[.int .u64 0, .int .u64 n]) ∧ w = w' := by
  go_enter Try.func29, Try.ntmps29
  go_wp2_with fail
  refine (mul64_any n _ hn).mono ?_
  rintro e w1 ⟨rfl, rfl⟩
  go_wp2
  go_ret2
  exact ⟨rfl, rfl⟩

theorem made_slots (n : Nat) : madeCells #[.int .u32 0, .int .i64 0] (n * 2) = (flat slotL (List.replicate n (0, 0))).toArray := by
  apply Array.ext
  · rw [size_madeCells, List.size_toArray, flat_len, List.length_replicate]; rfl
  · intro j h1 h2
    rw [size_madeCells] at h1
    have hq : j / 2 < n := by omega
    have hy : (List.replicate n ((0, 0) : Slt))[j / 2]? = some (0, 0) := by rw [List.getElem?_replicate, if_pos hq]
    have he : j / 2 * 2 + j % 2 = j := by omega
    rcases Nat.mod_two_eq_zero_or_one j with h0 | h0
    · have hg := flat_get slotL (List.replicate n (0, 0)) (j / 2) 0 _ _ hy rfl
      rw [show slotL.s = 2 from rfl, show j / 2 * 2 + 0 = j from by omega] at hg
      have hg2 := (List.getElem?_eq_some_iff.1 hg).2
      simp [madeCells, h0, hg2]
    · have hg := flat_get slotL (List.replicate n (0, 0)) (j / 2) 1 _ _ hy rfl
      rw [show slotL.s = 2 from rfl, show j / 2 * 2 + 1 = j from by omega] at hg
      have hg2 := (List.getElem?_eq_some_iff.1 hg).2
      simp [madeCells, h0, hg2]
theorem make_slots (n : Nat) (hn : n ≤ 1024) (W : World) : (Instr.makeSlice 42 (.int .i64 n) (.int .i64 n)).run Try.prog W = .ok (.slice (some ⟨W.heap.size, 0, none⟩) n n) (W.alloc (rowO (List.replicate n (0, 0)))) := by
  obtain ⟨i0, hi0, hz0, hz1, hz2⟩ := info_parts info_slot
  have := run_make (P := Try.prog) W 42 53 i0 _ Try.underlying42 hi0 hz0 .i64 .i64 n n (by omega) (Int.le_refl _) (by rw [hz2]; omega) (by omega)
  rw [this, hz1]
  simp only [Int.toNat_natCast]
  have hm := made_slots n
  simp only [Value.cells] at *
  rw [hm]; rfl
def fillL (k n : Nat) : List Slt := List.replicate k (1, 0) ++ List.replicate (n - k) (0, 0)
theorem fillL_len {k n : Nat} (h : k ≤ n) : (fillL k n).length = n := by simp [fillL]; omega
theorem fillL_step {k m n : Nat} (h : k + m ≤ n) (hm : m ≤ k) : (fillL k n).take k ++ (fillL k n).take m ++ (fillL k n).drop (k + m) = fillL (k + m) n := by
  unfold fillL
  rw [List.take_append_of_le_length (by simp), List.take_append_of_le_length (by simp; omega), List.take_of_length_le (by simp), List.take_replicate, Nat.min_eq_left hm, List.drop_append, List.drop_of_length_le (by simp), List.drop_replicate, List.length_replicate, List.nil_append, List.replicate_append_replicate]
  congr 2
  omega
theorem size_slot : (Try.prog.info? 53).map (·.size) = some 2 := by kernel_rfl
set_option maxHeartbeats 4000000 in
theorem repeat_any (w : World) (q n : Nat) (h1 : 1 ≤ n) (hn : n ≤ 1024) (hq : Whole slotL w q [(1, 0)]) :
    Calls Try.prog 23 #[.slice (some ⟨q, 0, none⟩) 1 1, .int .i64 n] w fun e w' => e = .returned (.slice (some ⟨w.heap.size, 0, none⟩) n n) ∧ SRow w' w.heap.size (List.replicate n (1, 0)) ∧ Below w.heap.size w w' := by
  have hd : decide ((n : Int) < 0) = false := by simp
  have hqq : q < w.heap.size := lt_of_some hq
  have CM : Hid (∀ W, Calls Try.prog 29 #[.int .u64 1, .int .u64 n] W fun e w' => e = .returned (.tuple #[.int .u64 0, .int .u64 n]) ∧ W = w') := fun W => mul_any n W hn
  have qw : IntKind.u64.wrap (n : Int) = n := by rw [IntKind.wrap_u64]; omega
  have qi : IntKind.i64.wrap (n : Int) = n := IntWalk.i64_in _ (by omega)
  have hmk := make_slots n hn w
  have hB := (Below.refl w.heap.size w).alloc (Nat.le_refl _) (rowO (List.replicate n (0, 0)))
  have hg : Whole slotL (w.alloc (rowO (List.replicate n (0, 0)))) w.heap.size (List.replicate n (0, 0)) := heap_alloc_new w _
  have hq1 : Whole slotL (w.alloc (rowO (List.replicate n (0, 0)))) q [(1, 0)] := (hB.block q hqq).trans hq
  generalize w.alloc (rowO (List.replicate n (0, 0))) = w1 at *
  obtain ⟨w2, hcp, hw2, hu2⟩ := copy_recs (P := Try.prog) (L := slotL) (dT := 42) (ty := 3) (w := w1) (g := w.heap.size) (k := 0) (n := n) (dc := n) (sl := 1) (sc := 1) (a := some ⟨q, 0, none⟩) (ys := [(1, 0)]) (xs := List.replicate n (0, 0)) Try.underlying42 size_slot hg (rowRd_blk hq1 rfl) (by have : Nat.min 1 n = 1 := Nat.min_eq_left h1; omega) (by simp)
  rw [show Nat.min 1 n = 1 from Nat.min_eq_left h1, Nat.zero_mul] at hcp
  rw [show Nat.min 1 n = 1 from Nat.min_eq_left h1] at hw2
  have H2 : Hid (Whole slotL w2 w.heap.size (fillL 1 n)) := by
    have : (List.replicate n ((0, 0) : Slt)).take 0 ++ [((1, 0) : Slt)].take 1 ++ (List.replicate n ((0, 0) : Slt)).drop (0 + 1) = fillL 1 n := by simp [fillL]
    rw [this] at hw2; exact hw2
  have HB2 := Lib.hid (hB.trans ((hu2.below (B := w.heap.size) hB.size (fun k hk => by rw [hk]; exact Nat.le_refl _))))
  clear hg hq1 hu2 hw2 hB hq
  go_enter Try.func23, Try.ntmps23
  go_wp2_with fail
  refine (CM.out w).mono ?_
  rintro e w' ⟨rfl, rfl⟩
  go_wp2
  go_loopw [8] (fun sn wx => ∃ k : Nat, 1 ≤ k ∧ k ≤ n ∧ sn = .int .i64 k ∧ Hid (Whole slotL wx w.heap.size (fillL k n)) ∧ Hid (Below w.heap.size w wx)) (fun sn _ => n - (intOf sn).toNat)
  case atStart => exact ⟨1, by omega, by omega, rfl, H2, HB2⟩
  case round =>
    obtain ⟨k, hk1, hkn, rfl, hw, hb⟩ := hrel
    rename World => wx
    by_cases hlt : k < n
    · obtain ⟨wd, hwd⟩ : ∃ wd, wx.drew = wd := ⟨_, rfl⟩
      have hw : Hid (Whole slotL wd w.heap.size (fillL k n)) := hwd ▸ hw
      have hb : Hid (Below w.heap.size w wd) := hwd ▸ hb.out.drew
      have HR : RowRd slotL wd wd.heap.size (some ⟨w.heap.size, 0, none⟩) k ((fillL k n).take k) := row_take (by have := rowRd_blk hw.out (fillL_len hkn); exact this) hkn
      obtain ⟨m, hm⟩ : ∃ m, Nat.min k (n - k) = m := ⟨_, rfl⟩
      have hmk : m ≤ k := hm ▸ Nat.min_le_left _ _
      have hmn : m ≤ n - k := hm ▸ Nat.min_le_right _ _
      have hm0 : 0 < m := by rw [← hm]; exact Nat.lt_min.2 ⟨by omega, by omega⟩
      obtain ⟨w3, hcp3, hw3, hu3⟩ := copy_recs (P := Try.prog) (L := slotL) (dT := 42) (ty := 3) (w := wd) (g := w.heap.size) (k := k) (n := n - k) (dc := n - k) (sl := k) (sc := n) (a := some ⟨w.heap.size, 0, none⟩) (ys := (fillL k n).take k) (xs := fillL k n) Try.underlying42 size_slot hw.out HR (by omega) (by rw [fillL_len hkn]; omega)
      rw [hm, show slotL.s = 2 from rfl] at hcp3
      rw [hm] at hw3
      have H3 : Hid (Whole slotL w3 w.heap.size (fillL (k + m) n)) := by
        rw [List.take_take, Nat.min_eq_left hmk, fillL_step (by omega) hmk] at hw3; exact hw3
      have HB3 := Lib.hid (hb.out.trans (hu3.below (B := w.heap.size) hb.out.size (fun k hk => by rw [hk]; exact Nat.le_refl _)))
      obtain ⟨i0, hi0, hz0, hz1, hz2⟩ := info_parts info_slot
      have ht := rec_to (P := Try.prog) (t := 42) (e := 53) Try.underlying42 (by kernel_rfl) hi0 hz1 (some ⟨w.heap.size, 0, none⟩) n n k k rfl hkn
      obtain ⟨X, hX, hf⟩ := rec_from (P := Try.prog) (t := 42) (e := 53) Try.underlying42 (by kernel_rfl) hi0 hz1 (some ⟨w.heap.size, 0, none⟩) n n k k rfl hkn
      obtain rfl := hX _ _ rfl (by omega)
      rw [Nat.zero_add] at hf
      clear hi0 hz0 hz1 hz2 hX HR hu3 hw3 hw hb hm
      have hS : True := trivial
      have qs : IntKind.i64.wrap ((k : Int) + m) = ((k + m : Nat) : Int) := IntWalk.i64_in _ (by omega)
      go_wp2_with fail
      refine region_seq (fun _ => True) [(0, false), (1, false), (2, false), (3, false), (4, false), (5, false), (6, false), (7, true), (8, false), (9, false)] (by kernel_rfl) (by kernel_rfl) rfl (by kernel_rfl) ?_
      rw [hwd]
      iterate 7 (refine seq_read (v := _) rfl (fun _ _ _ h => h) hS (Or.inl ⟨by rfl, fun W hW => by go_simp <;> with_reducible rfl⟩) ?_; simp only [Act.put, List.setIfInBounds_toArray, List.set_cons_zero, List.set_cons_succ])
      refine seq_do rfl (fun K hK => ?_)
      go_simp
      refine hK.out _ _ _ (fun W h => h) hS ?_
      clear hK K
      iterate 2 (refine seq_read (v := _) rfl (fun _ _ _ h => h) hS (Or.inl ⟨by rfl, fun W hW => by go_simp <;> with_reducible rfl⟩) ?_; simp only [Act.put, List.setIfInBounds_toArray, List.set_cons_zero, List.set_cons_succ])
      refine seq_end ?_
      go_wp2_with fail
      go_roundw
      case rel => exact ⟨k + m, by omega, by omega, by go_num, H3, HB3⟩
      case measure => simp [intOf]; omega
    · obtain rfl : k = n := by omega
      have hf : fillL k k = List.replicate k (1, 0) := by simp [fillL]
      have HR : Hid (SRow wx w.heap.size (List.replicate k (1, 0))) := by rw [← hf]; exact hw
      clear hw hf
      go_wp2
      go_ret
      exact ⟨rfl, HR.out, hb.out⟩

/-- A new arena. -/
def RetA (w : World) (n : Int) (e : Ending) (w' : World) : Prop := ∃ b g, e = .returned (.pointer (some ⟨b, 0, none⟩)) ∧ Ar w' b g (newL n) ∧ w.heap.size ≤ b ∧ w.heap.size ≤ g ∧ Below w.heap.size w w'
set_option maxHeartbeats 4000000 in
theorem new_any (w : World) (n : Int) (hw1 : -9223372036854775808 ≤ n) (hw2 : n ≤ 9223372036854775807) : Calls Try.prog 8 #[.int .i64 n] w (RetA w n) := by
  obtain ⟨N, hN⟩ : ∃ N, (min (max n 1) 1024).toNat = N := ⟨_, rfl⟩
  have hN1 : 1 ≤ N := by omega
  have hN2 : N ≤ 1024 := by omega
  have hL : newL n = List.replicate N (1, 0) := by unfold newL; rw [hN]
  have hB := (Below.refl w.heap.size w).alloc (Nat.le_refl _) (slO (1, 0))
  have hq : Whole slotL (w.alloc (slO (1, 0))) w.heap.size [(1, 0)] := heap_alloc_new w _
  have hsz : (w.alloc (slO (1, 0))).heap.size = w.heap.size + 1 := by simp
  have CR : Hid (Calls Try.prog 23 #[.slice (some ⟨w.heap.size, 0, none⟩) 1 1, .int .i64 N] (w.alloc (slO (1, 0))) fun e w' => e = .returned (.slice (some ⟨w.heap.size + 1, 0, none⟩) N N) ∧ SRow w' (w.heap.size + 1) (List.replicate N (1, 0)) ∧ Below w.heap.size w w') := by
    have := repeat_any _ w.heap.size N hN1 hN2 hq
    rw [hsz] at this
    refine this.mono ?_
    rintro e w' ⟨rfl, h1, h2⟩
    exact ⟨rfl, h1, hB.trans (h2.mono (by omega))⟩
  have fin : Hid (∀ w1, SRow w1 (w.heap.size + 1) (List.replicate N (1, 0)) → Below w.heap.size w w1 → RetA w n (.returned (.pointer (some ⟨w1.heap.size, 0, none⟩))) (w1.alloc (.cells #[.slice (some ⟨w.heap.size + 1, 0, none⟩) N N] 57 (0, 0)))) := by
    intro w1 h1 h2
    refine ⟨w1.heap.size, w.heap.size + 1, rfl, ⟨?_, ?_⟩, h2.size, by omega, h2.alloc h2.size _⟩
    · rw [hL, List.length_replicate]; exact heap_alloc_new w1 _
    · rw [hL]
      exact ((Below.refl w1.heap.size w1).alloc (Nat.le_refl _) _).block _ (lt_of_some h1) |>.trans h1
  clear hB hq hsz hL
  have h3 : n < 1 ∨ (1 ≤ n ∧ n ≤ 1024) ∨ 1024 < n := by omega
  rcases h3 with h | ⟨h, h'⟩ | h
  · obtain rfl : 1 = N := by omega
    go_enter Try.func8, Try.ntmps8
    go_wp2_with fail
    refine CR.out.mono ?_
    rintro e w1 ⟨rfl, h1, h2⟩
    have F := Lib.hid (fin.out w1 h1 h2)
    clear h1 h2 fin CR
    go_wp2
    go_ret
    exact F.out
  · obtain rfl : n = (N : Int) := by omega
    go_enter Try.func8, Try.ntmps8
    go_wp2_with fail
    refine CR.out.mono ?_
    rintro e w1 ⟨rfl, h1, h2⟩
    have F := Lib.hid (fin.out w1 h1 h2)
    clear h1 h2 fin CR
    go_wp2
    go_ret
    exact F.out
  · obtain rfl : 1024 = N := by omega
    go_enter Try.func8, Try.ntmps8
    go_wp2_with fail
    refine CR.out.mono ?_
    rintro e w1 ⟨rfl, h1, h2⟩
    have F := Lib.hid (fin.out w1 h1 h2)
    clear h1 h2 fin CR
    go_wp2
    go_ret
    exact F.out
end Go.Proofs.Ytachodjpiklpkaa.Arn
