/- The walk of FieldAll. -/
import Derived.Test.YtklodmbccmomoaaLt
import Derived.Deep.RegionWith
import Derived.Test.YtklodmbccmomoaaSeq
namespace Go.Proofs.Ytklodmbccmomoaa
open Go.RowKit
set_option linter.unusedVariables false

set_option maxHeartbeats 4000000 in
theorem all_any (a : Option Addr) (len cap : Nat) (i s n : Int) (xs : List Int) (w : World) (hl : len ≤ 140737488351232) (hlc : len ≤ cap) (hr : Rd w w.heap.size a len xs) (hn : 0 ≤ n) (hn2 : n ≤ 18446744073709551615) :
    Calls Try.prog 3 #[.slice a len cap, .int .i64 i, .int .i64 s, .int .u64 n] w fun e w' => e = .returned (.bool true) ∧ Below w.heap.size w w' := by
  have hlm : len ≤ maxLen := by unfold maxLen; omega
  have HR := Lib.hid hr
  obtain ⟨ys, HY, hyl⟩ : ∃ ys, Hid (putV xs i s n = ys) ∧ Hid (ys.length = len) := ⟨_, rfl, by
    show _ = _
    unfold putV
    split
    · rename_i h
      rw [Bool.and_eq_true] at h
      have hw := h.1
      simp only [withinB, decide_eq_true_eq, hr.1] at hw
      rw [written_length _ _ _ _ _ (by rw [hr.1]; omega) (by omega), hr.1]
    · exact hr.1⟩
  obtain ⟨zs, hz⟩ : ∃ zs, appV xs s n = zs := ⟨_, rfl⟩
  have HZ := Lib.hid hz
  have C13 : Hid (∀ (W : World), Below w.heap.size w W → Calls Try.prog 13 #[.slice a len cap, .int .i64 s, .int .u64 n] W (NewRow W zs)) := by
    intro W hb; rw [← hz]; exact append_any a len cap w.heap.size s n xs W hl (hr.below hb) hb.size hn hn2
  have C14 : Hid (∀ (W : World), Below w.heap.size w W → Calls Try.prog 14 #[.slice a len cap, .int .i64 s, .int .u64 n] W (NewRow W zs)) := by
    intro W hb; rw [← hz]; exact rappend_any a len cap w.heap.size s n xs W hl (hr.below hb) hb.size hn hn2
  clear hr hz
  go_enter Try.func3, Try.ntmps3
  go_wp2_with fail
  refine (shown_any _).mono ?_
  rintro e w4 ⟨rfl, hb4⟩
  go_wp2_with fail
  refine (get_any _ _ _ _ _ _ xs _ hlm hlc (HR.out.below hb4)).mono ?_
  rintro e w' ⟨rfl, rfl⟩
  go_wp2_with fail
  refine (rget_any _ _ _ _ _ _ xs _ hlm hlc (HR.out.below hb4)).mono ?_
  rintro e w' ⟨rfl, rfl⟩
  generalize getV xs i s = gv
  generalize withinB len i s = wb
  go_wp2_with (at_builtin; refine wpList_append_bytes rfl (.const (.slice none 0 0)) (.tmp 33) rfl w4.heap.size w.heap.size 0 0 len cap len none a [] xs xs (Nat.zero_add _) rfl rfl rfl (Own.nil _ _) (HR.out.below hb4) (Nat.le_refl _) (by omega) ?_; intro A c w5 ho hb5)
  refine (put_own _ _ _ _ _ _ _ xs _ ho hn hn2).mono ?_
  rintro e w6 ⟨rfl, ho6, hb6⟩
  rw [HY.out] at ho6
  have hb46 : Below w.heap.size w w6 := hb4.trans ((hb5.trans hb6).mono hb4.size)
  clear ho hb5 hb6 hb4
  go_wp2_with fail
  refine (rput_any a len cap w.heap.size i s n xs w6 hl (HR.out.below hb46) hb46.size hn hn2).mono ?_
  rw [HY.out]
  rintro e w7 ⟨A7, c7, rfl, ho7, hb7⟩
  rw [hyl.out] at ho7 ⊢
  generalize (withinB len i s && fitsB s n) = pb
  have hb47 : Below w.heap.size w w7 := hb46.trans (hb7.mono hb46.size)
  have s1 : ∀ W, Below w7.heap.size w7 W → (convert 22 9 (.slice A len c)).run Try.prog W = .ok (.string (strOfNums ys)) W := fun W hW => str_run (c := c) (ho6.rd.below (hb7.trans (hW.mono hb7.size)))
  have s2 : ∀ W, Below w7.heap.size w7 W → (convert 22 9 (.slice A7 len c7)).run Try.prog W = .ok (.string (strOfNums ys)) W := fun W hW => str_run (c := c7) (ho7.rd.below hW)
  have H47 := Lib.hid hb47
  clear ho6 ho7 hb7 hb46 hb47
  go_wp2_with fail
  have hS : Below w7.heap.size w7 w7.drew := (Below.refl _ w7).drew
  refine region_seq (fun W => Below w7.heap.size w7 W) [(0, false), (1, false), (2, false), (3, false), (4, false), (5, false), (6, false), (7, false), (8, false), (9, false), (10, false), (11, false), (12, false), (13, false), (14, false), (15, false), (16, false), (17, false), (18, false), (19, false), (20, false), (21, false), (22, false), (23, false), (26, false), (27, false), (28, false), (24, true), (25, false), (29, true), (30, false), (31, false), (32, false), (33, false)] (by kernel_rfl) (by kernel_rfl) rfl (by kernel_rfl) ?_
  iterate 27 (refine seq_read (v := _) rfl (fun _ _ _ h => h) hS (Or.inl ⟨by rfl, fun W hW => by go_simp <;> with_reducible rfl⟩) ?_; simp only [Act.put, List.setIfInBounds_toArray, List.set_cons_zero, List.set_cons_succ])
  refine seq_do rfl (fun K hK => ?_)
  go_simp
  refine (C13.out _ H47.out.drew).mono ?_
  rintro e w8 ⟨A8, c8, rfl, ho8, hb8⟩
  have hb78 : Below w7.heap.size w7 w8 := (Below.refl _ w7).drew.trans hb8
  have s3 : ∀ W, Below w8.heap.size w8 W → (convert 22 9 (.slice A8 zs.length c8)).run Try.prog W = .ok (.string (strOfNums zs)) W := fun W hW => str_run (c := c8) (ho8.rd.below hW)
  refine hK.out _ _ (fun W => Below w8.heap.size w8 W) (fun W hW => hb78.trans (hW.mono hb78.size)) (Below.refl _ _) ?_
  clear hK K s1 s2 hS ho8 hb8
  have hS : Below w8.heap.size w8 w8 := Below.refl _ _
  iterate 1 (refine seq_read (v := _) rfl (fun _ _ _ h => h) hS (Or.inl ⟨by rfl, fun W hW => by go_simp <;> with_reducible rfl⟩) ?_; simp only [Act.put, List.setIfInBounds_toArray, List.set_cons_zero, List.set_cons_succ])
  refine seq_do rfl (fun K hK => ?_)
  go_simp
  refine (C14.out _ (H47.out.trans (hb78.mono H47.out.size))).mono ?_
  rintro e w9 ⟨A9, c9, rfl, ho9, hb9⟩
  have hb79 : Below w7.heap.size w7 w9 := hb78.trans (hb9.mono hb78.size)
  have s4 : ∀ W, Below w9.heap.size w9 W → (convert 22 9 (.slice A9 zs.length c9)).run Try.prog W = .ok (.string (strOfNums zs)) W := fun W hW => str_run (c := c9) (ho9.rd.below hW)
  refine hK.out _ _ (fun W => Below w9.heap.size w9 W) (fun W hW => hb9.trans (hW.mono hb9.size)) (Below.refl _ _) ?_
  clear hK K s3 hS ho9 hb9
  have hS : Below w9.heap.size w9 w9 := Below.refl _ _
  iterate 4 (refine seq_read (v := _) rfl (fun _ _ _ h => h) hS (Or.inl ⟨by rfl, fun W hW => by go_simp <;> with_reducible rfl⟩) ?_; simp only [Act.put, List.setIfInBounds_toArray, List.set_cons_zero, List.set_cons_succ])
  refine seq_end ?_
  go_wp2
  go_ret
  exact ⟨rfl, H47.out.trans (hb79.mono H47.out.size)⟩
theorem all_law (a : Option Addr) (len cap : Nat) (z : List Int) (i s n : Int) (w : World) (h : IsRow .u8 1 w a len cap z) (hn : (Lit.int .u64 n).wf = true) :
    Calls Try.prog 3 #[.slice a len cap, .int .i64 i, .int .i64 s, .int .u64 n] w fun e w' => e = .returned (.bool true) ∧ Below w.heap.size w w' :=
  all_any a len cap i s n _ w h.rd.1 h.rd.2.1 h.rd.2.2 (wf_u64 hn).1 (wf_u64 hn).2
end Go.Proofs.Ytklodmbccmomoaa
