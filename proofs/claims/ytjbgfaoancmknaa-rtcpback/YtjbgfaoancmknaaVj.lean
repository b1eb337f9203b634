/- The contracts of rtcp's reader: take, word, pair; of rtcp.ours, listed. -/
import Derived.Test.YtjbgfaoancmknaaQlb
import Derived.Test.YtjbgfaoancmknaaQh
import Derived.Test.YtjbgfaoancmknaaVc
import Derived.Handy
namespace Go.Proofs.Ytjbgfaoancmknaa.Fbk
open Go.RowKit
set_option linter.unusedVariables false

/-- A reader at q that stands at i. -/
abbrev CRB (w : World) (q : Nat) (A : Option Addr) (n c i : Nat) : Prop := RWBlk 60 w q A n c i
set_option maxHeartbeats 1000000 in
theorem ctake_any (w : World) (q n c B i s : Nat) (A : Option Addr) (xs : List Int) (R : CRB w q A n c i) (hr : Rd w B A n xs) (hl : n ≤ maxLen) (hlc : n ≤ c) (h1 : 1 ≤ s) (h2 : s ≤ 8) (h3 : i + s ≤ n) :
    Calls Try.prog 61 #[.pointer (some ⟨q, 0, none⟩), .int .i64 s] w fun e w' => e = .returned (.int .u64 (nb xs i s)) ∧ CRB w' q A n c (i + s) ∧ Kp q q w w' := by
  have CG : Hid (∀ W, (∀ k : Nat, W.heap[k]? = w.heap[k]?) → Calls Try.prog 38 #[.slice A n c, .int .i64 i, .int .i64 s] W fun e w' => e = .returned (.tuple #[.int .u64 (nb xs i s), .bool true]) ∧ W = w') := fun W hW => by
    have hr' : Rd W B A n xs := ⟨hr.1, hr.2.1, fun hn => by
      obtain ⟨b, off, e, hlt, hc⟩ := hr.2.2 hn
      exact ⟨b, off, e, hlt, fun j hj => by rw [← hc j hj]; simp only [World.cell?, hW]⟩⟩
    have := Fld.get_any A n c B i s xs W hl hlc hr'
    rwa [numGet_nb xs i s h1 h2 (by rw [hr.1]; exact h3), show withinB n i s = true from by simp [withinB]; omega] at this
  have HR := Lib.hid R
  have hle : (i : Int) + s ≤ 9223372036854775807 := by unfold maxLen at hl; omega
  have hS : Srw 60 q A n c i w.drew := R
  have c0 : ∀ W, Srw 60 q A n c i W → W.cell? ⟨q, 0, none⟩ = some (.slice A n c) := fun W h => h.c0
  have c1 : ∀ W, Srw 60 q A n c i W → W.cell? ⟨q, 1, none⟩ = some (.int .i64 i) := fun W h => h.c1
  generalize nb xs i s = x at CG ⊢
  clear R hr hl
  go_enter Try.func61, Try.ntmps61
  go_wp2_with fail
  refine region_seq (Srw 60 q A n c i) [(0, false), (1, false), (2, false), (3, false), (4, false), (5, false), (6, false), (7, false), (8, false), (9, true), (10, false), (11, false), (12, false), (13, false), (14, false)] (by kernel_rfl) (by kernel_rfl) rfl (by kernel_rfl) ?_
  iterate 9 (refine seq_read (v := _) rfl (fun _ _ _ h => h) hS (Or.inl ⟨by rfl, fun W hW => by go_simp <;> with_reducible rfl⟩) ?_; simp only [Act.put, List.setIfInBounds_toArray, List.set_cons_zero, List.set_cons_succ])
  clear c0 c1
  refine seq_do rfl (fun K hK => ?_)
  go_simp
  refine (CG.out w.drew (fun _ => rfl)).mono ?_
  rintro e w' ⟨rfl, rfl⟩
  refine hK.out _ _ _ (fun W h => h) hS ?_
  clear hK K
  iterate 5 (refine seq_read (v := _) rfl (fun _ _ _ h => h) hS (Or.inl ⟨by rfl, fun W hW => by go_simp <;> with_reducible rfl⟩) ?_; simp only [Act.put, List.setIfInBounds_toArray, List.set_cons_zero, List.set_cons_succ])
  refine seq_end ?_
  have hw1 : CRB w.drew q A n c i := HR.out
  have d1 := hw1.c1
  have d2 := hw1.frozen 1
  clear hw1 hS
  go_wp2
  go_ret
  refine ⟨rfl, HR.out.set1 (w := w.drew) _, ?_, ?_⟩
  · intro B h1 h2
    exact (Below.refl B w).drew.setCell (p := ⟨q, 1, none⟩) h2 _
  · intro k hi hg hq
    exact Below.heap_setCell w.drew ⟨q, 1, none⟩ _ k hq
set_option maxHeartbeats 1000000 in
theorem cword_any (w : World) (q n c B i : Nat) (A : Option Addr) (xs : List Int) (R : CRB w q A n c i) (hr : Rd w B A n xs) (hl : n ≤ maxLen) (hlc : n ≤ c) (h3 : i + 4 ≤ n) :
    Calls Try.prog 54 #[.pointer (some ⟨q, 0, none⟩)] w fun e w' => e = .returned (.int .u32 (nb xs i 4)) ∧ CRB w' q A n c (i + 4) ∧ Kp q q w w' := by
  have CT := Lib.hid (ctake_any w q n c B i 4 A xs R hr hl hlc (by omega) (by omega) h3)
  have q1 := wrap_u32 _ (nb32 xs hr.2.1 i)
  generalize nb xs i 4 = x at CT q1 ⊢
  clear R hr
  go_enter Try.func54, Try.ntmps54
  go_wp2_with fail
  refine CT.out.mono ?_
  rintro e w' ⟨rfl, R', K'⟩
  have HR := Lib.hid R'
  have HK := Lib.hid K'
  clear R' K'
  go_wp2
  go_ret
  exact ⟨rfl, HR.out, HK.out⟩

section
variable {w w' : World} {b B : Nat} {x : Int × Int}
theorem PrBlk.frozen (h : PrBlk w b x) (i : Nat) : w.frozen? ⟨b, i, none⟩ = false := frozen_of_row w b i _ 66 h
theorem PrBlk.off (h : PrBlk w b x) {p : Addr} (hp : p.block ≠ b) (u : Value) : PrBlk (w.setCell p u) b x := (Below.heap_setCell w p u b (fun e => hp e.symm)).trans h
theorem PrBlk.set0 (h : PrBlk w b x) (y : Int) : PrBlk (w.setCell ⟨b, 0, none⟩ (.int .u16 y)) b (y, x.2) := heap_setCell_same w b 0 _ 66 (.int .u16 y) h
theorem PrBlk.set1 (h : PrBlk w b x) (y : Int) : PrBlk (w.setCell ⟨b, 1, none⟩ (.int .u16 y)) b (x.1, y) := heap_setCell_same w b 1 _ 66 (.int .u16 y) h
theorem Kp.prb {g q : Nat} (h : Kp g q w w') (k : PrBlk w b x) (hg : b ≠ g) (hq : b ≠ q) : PrBlk w' b x := (h.keep b (lt_of_some k) hg hq).trans k
end
theorem retP_at {W : World} {b : Nat} {x : Int × Int} {tmps : Array Value} {R : Ending → World → Prop} (D : PrBlk W b x) (hR : R (.returned (.agg #[.int .u16 x.1, .int .u16 x.2])) W) (h2 : tmps[2]?.getD undef = .pointer (some ⟨b, 0, none⟩) := by rfl) :
    bodyPost Try.prog Try.f55 R .ret ⟨tmps, []⟩ W := by
  have c0 := D.c0
  have c1 := D.c1
  exact bodyPost_ret (v := .agg #[.int .u16 x.1, .int .u16 x.2]) (by simp [results, Try.results55, go_sem, h2, c0, c1]) rfl hR
set_option maxRecDepth 100000 in
set_option maxHeartbeats 4000000 in
theorem cpair_any (w : World) (q n c B i : Nat) (A : Option Addr) (xs : List Int) (R : CRB w q A n c i) (hr : Rd w B A n xs) (hB : B ≤ q) (hl : n ≤ maxLen) (hlc : n ≤ c) (h3 : i + 4 ≤ n) :
    Calls Try.prog 55 #[.pointer (some ⟨q, 0, none⟩)] w fun e w' => e = .returned (.agg #[.int .u16 (nb xs i 2), .int .u16 (nb xs (i + 2) 2)]) ∧ CRB w' q A n c (i + 4) ∧ Kp q q w w' := by
  have hqw := R.lt
  have HQ := Lib.hid hqw
  have C0 : Hid (∀ W, Kp q q w W → CRB W q A n c i → Calls Try.prog 61 #[.pointer (some ⟨q, 0, none⟩), .int .i64 2] W fun e w' => e = .returned (.int .u64 (nb xs i 2)) ∧ CRB w' q A n c (i + 2) ∧ Kp q q W w') := fun W hW hR => ctake_any W q n c B i 2 A xs hR (hr.below (hW.below B hB hB)) hl hlc (by omega) (by omega) (by omega)
  have C1 : Hid (∀ W, Kp q q w W → CRB W q A n c (i + 2) → Calls Try.prog 61 #[.pointer (some ⟨q, 0, none⟩), .int .i64 2] W fun e w' => e = .returned (.int .u64 (nb xs (i + 2) 2)) ∧ CRB w' q A n c (i + 2 + 2) ∧ Kp q q W w') := fun W hW hR => ctake_any W q n c B (i + 2) 2 A xs hR (hr.below (hW.below B hB hB)) hl hlc (by omega) (by omega) (by omega)
  have q1 := wrap_u16' (nb xs i 2) ⟨(nb_bd xs hr.2.1 i 2).1, by have := nb_bd xs hr.2.1 i 2; omega⟩
  have q2 := wrap_u16' (nb xs (i + 2) 2) ⟨(nb_bd xs hr.2.1 (i + 2) 2).1, by have := nb_bd xs hr.2.1 (i + 2) 2; omega⟩
  generalize nb xs i 2 = y0 at *
  generalize nb xs (i + 2) 2 = y1 at *
  have A1 := (Below.refl w.heap.size w).alloc (Nat.le_refl _) (pairO (0, 0))
  have A2 := A1.alloc A1.size (pairO (0, 0))
  have HK0 : Hid (Kp q q w ((w.alloc (pairO (0, 0))).alloc (pairO (0, 0)))) := (Kp.refl q q w).bel A2 hqw hqw
  have HR0 : Hid (CRB ((w.alloc (pairO (0, 0))).alloc (pairO (0, 0))) q A n c i) := R.bel A2
  have HZ0 : Hid (PrBlk ((w.alloc (pairO (0, 0))).alloc (pairO (0, 0))) w.heap.size (0, 0)) := (PrBlk.new w (0, 0)).bel ((Below.refl _ _).alloc (Nat.le_refl _) (pairO (0, 0)))
  have HD0 : Hid (PrBlk ((w.alloc (pairO (0, 0))).alloc (pairO (0, 0))) (w.heap.size + 1) (0, 0)) := by
    have := PrBlk.new (w.alloc (pairO (0, 0))) (0, 0)
    exact (by simpa using this : PrBlk ((w.alloc (pairO (0, 0))).alloc (pairO (0, 0))) (w.heap.size + 1) (0, 0))
  have hn1 : w.heap.size ≠ q := by omega
  have hn2 : w.heap.size + 1 ≠ q := by omega
  clear R hr hqw A1 A2 hl
  go_enter Try.func55, Try.ntmps55
  go_wp2_with fail
  refine (C0.out _ HK0.out HR0.out).mono ?_
  rintro e w1 ⟨rfl, R1, K1⟩
  have Z1 := K1.prb HZ0.out hn1 hn1
  have D1 := K1.prb HD0.out hn2 hn2
  have d0 := D1.c0
  have f0 := D1.frozen 0
  have HK1 : Hid (Kp q q w (w1.setCell ⟨w.heap.size + 1, 0, none⟩ (.int .u16 y0))) := (HK0.out.trans K1).setNew (by omega) HQ.out _
  have HR1 : Hid (CRB (w1.setCell ⟨w.heap.size + 1, 0, none⟩ (.int .u16 y0)) q A n c (i + 2)) := R1.off (p := ⟨w.heap.size + 1, 0, none⟩) hn2 _
  have HZ1 : Hid (PrBlk (w1.setCell ⟨w.heap.size + 1, 0, none⟩ (.int .u16 y0)) w.heap.size (0, 0)) := Z1.off (p := ⟨w.heap.size + 1, 0, none⟩) (by simp) _
  have HD1 : Hid (PrBlk (w1.setCell ⟨w.heap.size + 1, 0, none⟩ (.int .u16 y0)) (w.heap.size + 1) (y0, 0)) := D1.set0 y0
  clear R1 K1 Z1 D1 HK0 HR0 HZ0 HD0 C0
  go_wp2_with fail
  refine (C1.out _ HK1.out HR1.out).mono ?_
  rintro e w2 ⟨rfl, R2, K2⟩
  have Z2 := K2.prb HZ1.out hn1 hn1
  have D2 := K2.prb HD1.out hn2 hn2
  clear f0 d0
  have d0 := D2.c0
  have d1 := D2.c1
  have f1 := D2.frozen 1
  have HK2 : Hid (Kp q q w (((w2.setCell ⟨w.heap.size + 1, 1, none⟩ (.int .u16 y1)).setCell ⟨w.heap.size, 0, none⟩ (.int .u16 y0)).setCell ⟨w.heap.size, 1, none⟩ (.int .u16 y1))) := (((HK1.out.trans K2).setNew (by omega) HQ.out _).setNew (Nat.le_refl _) HQ.out _).setNew (Nat.le_refl _) HQ.out _
  have HR2 : Hid (CRB (((w2.setCell ⟨w.heap.size + 1, 1, none⟩ (.int .u16 y1)).setCell ⟨w.heap.size, 0, none⟩ (.int .u16 y0)).setCell ⟨w.heap.size, 1, none⟩ (.int .u16 y1)) q A n c (i + 4)) := ((R2.off (p := ⟨w.heap.size + 1, 1, none⟩) hn2 _).off (p := ⟨w.heap.size, 0, none⟩) hn1 _).off (p := ⟨w.heap.size, 1, none⟩) hn1 _
  have HZ2 : Hid (PrBlk (((w2.setCell ⟨w.heap.size + 1, 1, none⟩ (.int .u16 y1)).setCell ⟨w.heap.size, 0, none⟩ (.int .u16 y0)).setCell ⟨w.heap.size, 1, none⟩ (.int .u16 y1)) w.heap.size (y0, y1)) := ((Z2.off (p := ⟨w.heap.size + 1, 1, none⟩) (by simp) _).set0 y0).set1 y1
  have z0 := Z2.c0
  have z1 := Z2.c1
  have g0 := Z2.frozen 0
  have g1 := Z2.frozen 1
  clear R2 K2 Z2 D2 HK1 HR1 HZ1 HD1 C1
  go_wp2
  exact retP_at HZ2.out ⟨rfl, HR2.out, HK2.out⟩
set_option maxHeartbeats 400000 in
theorem ours_any (k : Int) (w : World) : Calls Try.prog 36 #[.int .i64 k] w fun e w' => e = .returned (.bool (decide (k = 203) || decide (k = 205) || decide (k = 206))) ∧ w = w' := by
  by_cases h : k = 203
  · subst h
    go_enter Try.func36, Try.ntmps36
    go_wp2
    go_ret
    exact ⟨ret_bool (by simp), rfl⟩
  · by_cases h5 : k = 205
    · subst h5
      go_enter Try.func36, Try.ntmps36
      go_wp2
      go_ret
      exact ⟨ret_bool (by simp), rfl⟩
    · go_enter Try.func36, Try.ntmps36
      go_wp2
      go_ret
      exact ⟨ret_bool (by rw [Bool.eq_iff_iff]; simp [h, h5]), rfl⟩
/-- What listed tells: how many, whether it can be. -/
def RetL (n : Int) (b : Bool) (w : World) (e : Ending) (w' : World) : Prop := e = .returned (.tuple #[.int .i64 n, .bool b]) ∧ w = w'
set_option maxHeartbeats 400000 in
theorem listed_203 (low words : Int) (w : World) : Calls Try.prog 39 #[.int .i64 203, .int .i64 low, .int .i64 words] w (RetL low ((decide (1 ≤ low) && decide (low ≤ 15)) && decide (words = low)) w) := by
  have CW : Hid (∀ W, Calls Try.prog 19 #[.int .i64 low, .int .i64 15] W fun e w' => e = .returned (.bool (decide (1 ≤ low) && decide (low ≤ 15))) ∧ W = w') := fun W => within_any low 15 W
  generalize (decide (1 ≤ low) && decide (low ≤ 15)) = x at CW ⊢
  rcases x with _ | _
  all_goals
    go_enter Try.func39, Try.ntmps39
    go_wp2_with fail
    refine (CW.out _).mono ?_
    rintro e w' ⟨rfl, rfl⟩
    go_wp2
    go_ret2
    exact ⟨rfl, rfl⟩
set_option maxHeartbeats 400000 in
theorem listed_205 (low words : Int) (w : World) (h0 : 0 ≤ words) (h1 : words ≤ 65535) : Calls Try.prog 39 #[.int .i64 205, .int .i64 low, .int .i64 words] w (RetL (words - 2) (decide (1 ≤ words - 2) && decide (words - 2 ≤ 16)) w) := by
  have CW : Hid (∀ W, Calls Try.prog 19 #[.int .i64 (words - 2), .int .i64 16] W fun e w' => e = .returned (.bool (decide (1 ≤ words - 2) && decide (words - 2 ≤ 16))) ∧ W = w') := fun W => within_any (words - 2) 16 W
  generalize (decide (1 ≤ words - 2) && decide (words - 2 ≤ 16)) = x at CW ⊢
  go_enter Try.func39, Try.ntmps39
  go_wp2_with fail
  refine (CW.out _).mono ?_
  rintro e w' ⟨rfl, rfl⟩
  go_wp2
  go_ret2
  exact ⟨rfl, rfl⟩
set_option maxHeartbeats 400000 in
theorem listed_206 (low words : Int) (w : World) : Calls Try.prog 39 #[.int .i64 206, .int .i64 low, .int .i64 words] w (RetL 0 (decide (words = 2)) w) := by
  go_enter Try.func39, Try.ntmps39
  go_wp2
  go_ret2
  exact ⟨rfl, rfl⟩
end Go.Proofs.Ytjbgfaoancmknaa.Fbk
