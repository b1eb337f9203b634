/- The contracts of rtcp's reader: take, word, pair; of rtcp.ours, listed. · The contract of rtcp's reader.item. -/
import Derived.Test.YthmmafpmpnhleaaQh
import Derived.Test.YthmmafpmpnhleaaVd
import Derived.Handy
set_option maxRecDepth 100000
namespace Go.Proofs.Ythmmafpmpnhleaa.Fbk
open Go.RowKit
set_option linter.unusedVariables false

/-- A reader at q that stands at i. -/
abbrev CRB (w : World) (q : Nat) (A : Option Addr) (n c i : Nat) : Prop := RWBlk 121 w q A n c i
set_option maxHeartbeats 1000000 in
theorem ctake_any (w : World) (q n c B i s : Nat) (A : Option Addr) (xs : List Int) (R : CRB w q A n c i) (hr : Rd w B A n xs) (hl : n ≤ maxLen) (hlc : n ≤ c) (h1 : 1 ≤ s) (h2 : s ≤ 8) (h3 : i + s ≤ n) :
    Calls Try.prog 105 #[.pointer (some ⟨q, 0, none⟩), .int .i64 s] w fun e w' => e = .returned (.int .u64 (nb xs i s)) ∧ CRB w' q A n c (i + s) ∧ Kp q q w w' := by
  have CG : Hid (∀ W, (∀ k : Nat, W.heap[k]? = w.heap[k]?) → Calls Try.prog 69 #[.slice A n c, .int .i64 i, .int .i64 s] W fun e w' => e = .returned (.tuple #[.int .u64 (nb xs i s), .bool true]) ∧ W = w') := fun W hW => by
    have hr' : Rd W B A n xs := ⟨hr.1, hr.2.1, fun hn => by
      obtain ⟨b, off, e, hlt, hc⟩ := hr.2.2 hn
      exact ⟨b, off, e, hlt, fun j hj => by rw [← hc j hj]; simp only [World.cell?, hW]⟩⟩
    have := Fld.get_any A n c B i s xs W hl hlc hr'
    rwa [numGet_nb xs i s h1 h2 (by rw [hr.1]; exact h3), show withinB n i s = true from by simp [withinB]; omega] at this
  have HR := Lib.hid R
  have hle : (i : Int) + s ≤ 9223372036854775807 := by unfold maxLen at hl; omega
  have hS : Srw 121 q A n c i w.drew := R
  have c0 : ∀ W, Srw 121 q A n c i W → W.cell? ⟨q, 0, none⟩ = some (.slice A n c) := fun W h => h.c0
  have c1 : ∀ W, Srw 121 q A n c i W → W.cell? ⟨q, 1, none⟩ = some (.int .i64 i) := fun W h => h.c1
  generalize nb xs i s = x at CG ⊢
  clear R hr hl
  go_enter Try.func105, Try.ntmps105
  go_wp2_with fail
  refine region_seq (Srw 121 q A n c i) [(0, false), (1, false), (2, false), (3, false), (4, false), (5, false), (6, false), (7, false), (8, false), (9, true), (10, false), (11, false), (12, false), (13, false), (14, false)] (by kernel_rfl) (by kernel_rfl) rfl (by kernel_rfl) ?_
  iterate 9 (refine seq_read (v := _) rfl (fun _ _ _ h => h) hS (Or.inl ⟨by rfl, fun W hW => by go_simp <;> with_reducible rfl⟩) ?_; simp only [Act.put, List.setIfInBounds_toArray, List.set_cons_zero, List.set_cons_succ])
  clear c0 c1
  refine seq_do rfl (fun K hK => ?_)
  go_simp
  refine (CG.out w.drew (fun _ => rfl)).mono ?_
  rintro e w' ⟨rfl, rfl⟩
  refine hK.out _ _ _ (fun W h => h) hS ?_
  clear hK K
  iterate 5 (refine seq_read (v := _) rfl (fun _ _ _ h => h) hS (Or.inl ⟨by rfl, fun W hW => by go_simp <;> with_reducible rfl⟩) ?_; simp only [Act.put, List.setIfInBounds_toArray, List.set_cons_zero, List.set_cons_succ])
  refine seq_end ?_
  have hw1 : CRB w.drew q A n c i := HR.out
  have d1 := hw1.c1
  have d2 := hw1.frozen 1
  clear hw1 hS
  go_wp2
  go_ret
  refine ⟨rfl, HR.out.set1 (w := w.drew) _, ?_, ?_⟩
  · intro B h1 h2
    exact (Below.refl B w).drew.setCell (p := ⟨q, 1, none⟩) h2 _
  · intro k hi hg hq
    exact Below.heap_setCell w.drew ⟨q, 1, none⟩ _ k hq
set_option maxHeartbeats 1000000 in
theorem cword_any (w : World) (q n c B i : Nat) (A : Option Addr) (xs : List Int) (R : CRB w q A n c i) (hr : Rd w B A n xs) (hl : n ≤ maxLen) (hlc : n ≤ c) (h3 : i + 4 ≤ n) :
    Calls Try.prog 90 #[.pointer (some ⟨q, 0, none⟩)] w fun e w' => e = .returned (.int .u32 (nb xs i 4)) ∧ CRB w' q A n c (i + 4) ∧ Kp q q w w' := by
  have CT := Lib.hid (ctake_any w q n c B i 4 A xs R hr hl hlc (by omega) (by omega) h3)
  have q1 := wrap_u32 _ (nb32 xs hr.2.1 i)
  generalize nb xs i 4 = x at CT q1 ⊢
  clear R hr
  go_enter Try.func90, Try.ntmps90
  go_wp2_with fail
  refine CT.out.mono ?_
  rintro e w' ⟨rfl, R', K'⟩
  have HR := Lib.hid R'
  have HK := Lib.hid K'
  clear R' K'
  go_wp2
  go_ret
  exact ⟨rfl, HR.out, HK.out⟩

section
variable {w w' : World} {b B : Nat} {x : Int × Int}
theorem PrBlk.frozen (h : PrBlk w b x) (i : Nat) : w.frozen? ⟨b, i, none⟩ = false := frozen_of_row w b i _ 108 h
theorem PrBlk.off (h : PrBlk w b x) {p : Addr} (hp : p.block ≠ b) (u : Value) : PrBlk (w.setCell p u) b x := (Below.heap_setCell w p u b (fun e => hp e.symm)).trans h
theorem PrBlk.set0 (h : PrBlk w b x) (y : Int) : PrBlk (w.setCell ⟨b, 0, none⟩ (.int .u16 y)) b (y, x.2) := heap_setCell_same w b 0 _ 108 (.int .u16 y) h
theorem PrBlk.set1 (h : PrBlk w b x) (y : Int) : PrBlk (w.setCell ⟨b, 1, none⟩ (.int .u16 y)) b (x.1, y) := heap_setCell_same w b 1 _ 108 (.int .u16 y) h
theorem Kp.prb {g q : Nat} (h : Kp g q w w') (k : PrBlk w b x) (hg : b ≠ g) (hq : b ≠ q) : PrBlk w' b x := (h.keep b (lt_of_some k) hg hq).trans k
end
theorem retP_at {W : World} {b : Nat} {x : Int × Int} {tmps : Array Value} {R : Ending → World → Prop} (D : PrBlk W b x) (hR : R (.returned (.agg #[.int .u16 x.1, .int .u16 x.2])) W) (h2 : tmps[2]?.getD undef = .pointer (some ⟨b, 0, none⟩) := by rfl) :
    bodyPost Try.prog Try.f91 R .ret ⟨tmps, []⟩ W := by
  have c0 := D.c0
  have c1 := D.c1
  exact bodyPost_ret (v := .agg #[.int .u16 x.1, .int .u16 x.2]) (by simp [results, Try.results91, go_sem, h2, c0, c1]) rfl hR
set_option maxRecDepth 100000 in
set_option maxHeartbeats 4000000 in
theorem cpair_any (w : World) (q n c B i : Nat) (A : Option Addr) (xs : List Int) (R : CRB w q A n c i) (hr : Rd w B A n xs) (hB : B ≤ q) (hl : n ≤ maxLen) (hlc : n ≤ c) (h3 : i + 4 ≤ n) :
    Calls Try.prog 91 #[.pointer (some ⟨q, 0, none⟩)] w fun e w' => e = .returned (.agg #[.int .u16 (nb xs i 2), .int .u16 (nb xs (i + 2) 2)]) ∧ CRB w' q A n c (i + 4) ∧ Kp q q w w' := by
  have hqw := R.lt
  have HQ := Lib.hid hqw
  have C0 : Hid (∀ W, Kp q q w W → CRB W q A n c i → Calls Try.prog 105 #[.pointer (some ⟨q, 0, none⟩), .int .i64 2] W fun e w' => e = .returned (.int .u64 (nb xs i 2)) ∧ CRB w' q A n c (i + 2) ∧ Kp q q W w') := fun W hW hR => ctake_any W q n c B i 2 A xs hR (hr.below (hW.below B hB hB)) hl hlc (by omega) (by omega) (by omega)
  have C1 : Hid (∀ W, Kp q q w W → CRB W q A n c (i + 2) → Calls Try.prog 105 #[.pointer (some ⟨q, 0, none⟩), .int .i64 2] W fun e w' => e = .returned (.int .u64 (nb xs (i + 2) 2)) ∧ CRB w' q A n c (i + 2 + 2) ∧ Kp q q W w') := fun W hW hR => ctake_any W q n c B (i + 2) 2 A xs hR (hr.below (hW.below B hB hB)) hl hlc (by omega) (by omega) (by omega)
  have q1 := wrap_u16' (nb xs i 2) ⟨(nb_bd xs hr.2.1 i 2).1, by have := nb_bd xs hr.2.1 i 2; omega⟩
  have q2 := wrap_u16' (nb xs (i + 2) 2) ⟨(nb_bd xs hr.2.1 (i + 2) 2).1, by have := nb_bd xs hr.2.1 (i + 2) 2; omega⟩
  generalize nb xs i 2 = y0 at *
  generalize nb xs (i + 2) 2 = y1 at *
  have A1 := (Below.refl w.heap.size w).alloc (Nat.le_refl _) (pairO (0, 0))
  have A2 := A1.alloc A1.size (pairO (0, 0))
  have HK0 : Hid (Kp q q w ((w.alloc (pairO (0, 0))).alloc (pairO (0, 0)))) := (Kp.refl q q w).bel A2 hqw hqw
  have HR0 : Hid (CRB ((w.alloc (pairO (0, 0))).alloc (pairO (0, 0))) q A n c i) := R.bel A2
  have HZ0 : Hid (PrBlk ((w.alloc (pairO (0, 0))).alloc (pairO (0, 0))) w.heap.size (0, 0)) := (PrBlk.new w (0, 0)).bel ((Below.refl _ _).alloc (Nat.le_refl _) (pairO (0, 0)))
  have HD0 : Hid (PrBlk ((w.alloc (pairO (0, 0))).alloc (pairO (0, 0))) (w.heap.size + 1) (0, 0)) := by
    have := PrBlk.new (w.alloc (pairO (0, 0))) (0, 0)
    exact (by simpa using this : PrBlk ((w.alloc (pairO (0, 0))).alloc (pairO (0, 0))) (w.heap.size + 1) (0, 0))
  have hn1 : w.heap.size ≠ q := by omega
  have hn2 : w.heap.size + 1 ≠ q := by omega
  clear R hr hqw A1 A2 hl
  go_enter Try.func91, Try.ntmps91
  go_wp2_with fail
  refine (C0.out _ HK0.out HR0.out).mono ?_
  rintro e w1 ⟨rfl, R1, K1⟩
  have Z1 := K1.prb HZ0.out hn1 hn1
  have D1 := K1.prb HD0.out hn2 hn2
  have d0 := D1.c0
  have f0 := D1.frozen 0
  have HK1 : Hid (Kp q q w (w1.setCell ⟨w.heap.size + 1, 0, none⟩ (.int .u16 y0))) := (HK0.out.trans K1).setNew (by omega) HQ.out _
  have HR1 : Hid (CRB (w1.setCell ⟨w.heap.size + 1, 0, none⟩ (.int .u16 y0)) q A n c (i + 2)) := R1.off (p := ⟨w.heap.size + 1, 0, none⟩) hn2 _
  have HZ1 : Hid (PrBlk (w1.setCell ⟨w.heap.size + 1, 0, none⟩ (.int .u16 y0)) w.heap.size (0, 0)) := Z1.off (p := ⟨w.heap.size + 1, 0, none⟩) (by simp) _
  have HD1 : Hid (PrBlk (w1.setCell ⟨w.heap.size + 1, 0, none⟩ (.int .u16 y0)) (w.heap.size + 1) (y0, 0)) := D1.set0 y0
  clear R1 K1 Z1 D1 HK0 HR0 HZ0 HD0 C0
  go_wp2_with fail
  refine (C1.out _ HK1.out HR1.out).mono ?_
  rintro e w2 ⟨rfl, R2, K2⟩
  have Z2 := K2.prb HZ1.out hn1 hn1
  have D2 := K2.prb HD1.out hn2 hn2
  clear f0 d0
  have d0 := D2.c0
  have d1 := D2.c1
  have f1 := D2.frozen 1
  have HK2 : Hid (Kp q q w (((w2.setCell ⟨w.heap.size + 1, 1, none⟩ (.int .u16 y1)).setCell ⟨w.heap.size, 0, none⟩ (.int .u16 y0)).setCell ⟨w.heap.size, 1, none⟩ (.int .u16 y1))) := (((HK1.out.trans K2).setNew (by omega) HQ.out _).setNew (Nat.le_refl _) HQ.out _).setNew (Nat.le_refl _) HQ.out _
  have HR2 : Hid (CRB (((w2.setCell ⟨w.heap.size + 1, 1, none⟩ (.int .u16 y1)).setCell ⟨w.heap.size, 0, none⟩ (.int .u16 y0)).setCell ⟨w.heap.size, 1, none⟩ (.int .u16 y1)) q A n c (i + 4)) := ((R2.off (p := ⟨w.heap.size + 1, 1, none⟩) hn2 _).off (p := ⟨w.heap.size, 0, none⟩) hn1 _).off (p := ⟨w.heap.size, 1, none⟩) hn1 _
  have HZ2 : Hid (PrBlk (((w2.setCell ⟨w.heap.size + 1, 1, none⟩ (.int .u16 y1)).setCell ⟨w.heap.size, 0, none⟩ (.int .u16 y0)).setCell ⟨w.heap.size, 1, none⟩ (.int .u16 y1)) w.heap.size (y0, y1)) := ((Z2.off (p := ⟨w.heap.size + 1, 1, none⟩) (by simp) _).set0 y0).set1 y1
  have z0 := Z2.c0
  have z1 := Z2.c1
  have g0 := Z2.frozen 0
  have g1 := Z2.frozen 1
  clear R2 K2 Z2 D2 HK1 HR1 HZ1 HD1 C1
  go_wp2
  exact retP_at HZ2.out ⟨rfl, HR2.out, HK2.out⟩
set_option maxHeartbeats 400000 in
theorem ours_any (k : Int) (w : World) : Calls Try.prog 70 #[.int .i64 k] w fun e w' => e = .returned (.bool (decide (k = 203) || decide (k = 205) || decide (k = 206))) ∧ w = w' := by
  by_cases h : k = 203
  · subst h
    go_enter Try.func70, Try.ntmps70
    go_wp2
    go_ret
    exact ⟨ret_bool (by simp), rfl⟩
  · by_cases h5 : k = 205
    · subst h5
      go_enter Try.func70, Try.ntmps70
      go_wp2
      go_ret
      exact ⟨ret_bool (by simp), rfl⟩
    · go_enter Try.func70, Try.ntmps70
      go_wp2
      go_ret
      exact ⟨ret_bool (by rw [Bool.eq_iff_iff]; simp [h, h5]), rfl⟩
/-- What listed tells: how many, whether it can be. -/
def RetL (n : Int) (b : Bool) (w : World) (e : Ending) (w' : World) : Prop := e = .returned (.tuple #[.int .i64 n, .bool b]) ∧ w = w'
set_option maxHeartbeats 400000 in
theorem listed_203 (low words : Int) (w : World) : Calls Try.prog 72 #[.int .i64 203, .int .i64 low, .int .i64 words] w (RetL low ((decide (1 ≤ low) && decide (low ≤ 15)) && decide (words = low)) w) := by
  have CW : Hid (∀ W, Calls Try.prog 51 #[.int .i64 low, .int .i64 15] W fun e w' => e = .returned (.bool (decide (1 ≤ low) && decide (low ≤ 15))) ∧ W = w') := fun W => within_any low 15 W
  generalize (decide (1 ≤ low) && decide (low ≤ 15)) = x at CW ⊢
  rcases x with _ | _
  all_goals
    go_enter Try.func72, Try.ntmps72
    go_wp2_with fail
    refine (CW.out _).mono ?_
    rintro e w' ⟨rfl, rfl⟩
    go_wp2
    go_ret2
    exact ⟨rfl, rfl⟩
set_option maxHeartbeats 400000 in
theorem listed_205 (low words : Int) (w : World) (h0 : 0 ≤ words) (h1 : words ≤ 65535) : Calls Try.prog 72 #[.int .i64 205, .int .i64 low, .int .i64 words] w (RetL (words - 2) (decide (1 ≤ words - 2) && decide (words - 2 ≤ 16)) w) := by
  have CW : Hid (∀ W, Calls Try.prog 51 #[.int .i64 (words - 2), .int .i64 16] W fun e w' => e = .returned (.bool (decide (1 ≤ words - 2) && decide (words - 2 ≤ 16))) ∧ W = w') := fun W => within_any (words - 2) 16 W
  generalize (decide (1 ≤ words - 2) && decide (words - 2 ≤ 16)) = x at CW ⊢
  go_enter Try.func72, Try.ntmps72
  go_wp2_with fail
  refine (CW.out _).mono ?_
  rintro e w' ⟨rfl, rfl⟩
  go_wp2
  go_ret2
  exact ⟨rfl, rfl⟩
set_option maxHeartbeats 400000 in
theorem listed_206 (low words : Int) (w : World) : Calls Try.prog 72 #[.int .i64 206, .int .i64 low, .int .i64 words] w (RetL 0 (decide (words = 2)) w) := by
  go_enter Try.func72, Try.ntmps72
  go_wp2
  go_ret2
  exact ⟨rfl, rfl⟩
end Go.Proofs.Ythmmafpmpnhleaa.Fbk

namespace Go.Proofs.Ythmmafpmpnhleaa.Fbk
open Go.RowKit
set_option linter.unusedVariables false

/-- What stands while an item is read: the result at its block, the item at the next, the reader at q. -/
structure TC (w W : World) (v : IV) (q n c i : Nat) (A : Option Addr) : Prop where
  kp : Kp q q w W
  res : IBlk W w.heap.size ziv
  cur : IBlk W (w.heap.size + 1) v
  rd : CRB W q A n c i
  hq : q < w.heap.size
section
variable {w W W' : World} {v u : IV} {q n c i : Nat} {A : Option Addr} {xs : List Int}
theorem TC.size (p : TC w W v q n c i A) : w.heap.size + 2 ≤ W.heap.size := p.cur.lt
theorem TC.bel (p : TC w W v q n c i A) (hb : Below W.heap.size W W') : TC w W' v q n c i A := ⟨p.kp.bel hb (by have := p.hq; have := p.size; omega) (by have := p.hq; have := p.size; omega), p.res.bel hb, p.cur.bel hb, p.rd.bel hb, p.hq⟩
theorem TC.belq (p : TC w W v q n c i A) (hb : Below (w.heap.size + 2) W W') : TC w W' v q n c i A :=
  ⟨⟨fun B h1 h2 => (p.kp.below B h1 h2).trans (hb.mono (by have := p.hq; omega)), fun k hk h1 h2 => (hb.block k (by omega)).trans (p.kp.keep k hk h1 h2)⟩, p.res.below hb (by omega), p.cur.below hb (by omega), p.rd.below hb (by have := p.hq; omega), p.hq⟩
theorem TC.step {j : Nat} (p : TC w W v q n c i A) (r : CRB W' q A n c j) (k : Kp q q W W') : TC w W' v q n c j A :=
  ⟨p.kp.trans k, k.iblk p.res (by have := p.hq; omega) (by have := p.hq; omega), k.iblk p.cur (by have := p.hq; omega) (by have := p.hq; omega), r, p.hq⟩
theorem TC.set {j : Nat} {x : Value} (p : TC w W v q n c i A) (hu : IBlk (W.setCell ⟨w.heap.size + 1, j, none⟩ x) (w.heap.size + 1) u) : TC w (W.setCell ⟨w.heap.size + 1, j, none⟩ x) u q n c i A :=
  ⟨p.kp.setNew (by omega) p.hq x, p.res.off (p := ⟨w.heap.size + 1, j, none⟩) (by show w.heap.size + 1 ≠ w.heap.size; omega) x, hu, p.rd.off (p := ⟨w.heap.size + 1, j, none⟩) (by show w.heap.size + 1 ≠ q; have := p.hq; omega) x, p.hq⟩
theorem TC.drew (p : TC w W v q n c i A) : TC w W.drew v q n c i A := ⟨⟨fun B h1 h2 => (p.kp.below B h1 h2).drew, p.kp.keep⟩, p.res, p.cur, p.rd, p.hq⟩
theorem TC.word (p : TC w W v q n c i A) (hr : Rd w q A n xs) (hl : n ≤ maxLen) (hlc : n ≤ c) (h3 : i + 4 ≤ n) :
    Calls Try.prog 90 #[.pointer (some ⟨q, 0, none⟩)] W fun e W' => e = .returned (.int .u32 (nb xs i 4)) ∧ TC w W' v q n c (i + 4) A ∧ Kp q q W W' :=
  (cword_any W q n c q i A xs p.rd (hr.below (p.kp.below q (Nat.le_refl _) (Nat.le_refl _))) hl hlc h3).mono fun e W' ⟨he, h1, h2⟩ => ⟨he, p.step h1 h2, h2⟩
theorem TC.pair (p : TC w W v q n c i A) (hr : Rd w q A n xs) (hl : n ≤ maxLen) (hlc : n ≤ c) (h3 : i + 4 ≤ n) :
    Calls Try.prog 91 #[.pointer (some ⟨q, 0, none⟩)] W fun e W' => e = .returned (.agg #[.int .u16 (nb xs i 2), .int .u16 (nb xs (i + 2) 2)]) ∧ TC w W' v q n c (i + 4) A ∧ Kp q q W W' :=
  (cpair_any W q n c q i A xs p.rd (hr.below (p.kp.below q (Nat.le_refl _) (Nat.le_refl _))) (Nat.le_refl _) hl hlc h3).mono fun e W' ⟨he, h1, h2⟩ => ⟨he, p.step h1 h2, h2⟩
end
theorem TC.new {w : World} {q n c i : Nat} {A : Option Addr} (R : CRB w q A n c i) (v : IV) : TC w ((w.alloc (iobj ziv)).alloc (iobj v)) v q n c i A := by
  have hq := R.lt
  have h1 := (Below.refl w.heap.size w).alloc (Nat.le_refl _) (iobj ziv)
  have h2 := (Below.refl (w.alloc (iobj ziv)).heap.size (w.alloc (iobj ziv))).alloc (Nat.le_refl _) (iobj v)
  have h3 := h1.alloc h1.size (iobj v)
  refine ⟨(Kp.refl q q w).bel h3 hq hq, (IBlk.new w ziv).bel h2, ?_, R.bel h3, hq⟩
  have := IBlk.new (w.alloc (iobj ziv)) v
  simpa using this
theorem Kp.ist {q b : Nat} {w w' : World} (h : Kp q q w w') (hb : w.heap.size ≤ b) (hq : q < w.heap.size) (u : IV) : Kp q q w (ist w' b u) :=
  (((((((((h.setNew hb hq _).setNew hb hq _).setNew hb hq _).setNew hb hq _).setNew hb hq _).setNew hb hq _).setNew hb hq _).setNew hb hq _).setNew hb hq _).setNew hb hq _
set_option maxHeartbeats 1000000 in
theorem retU_at {W : World} {b : Nat} {v : IV} {tmps : Array Value} {R : Ending → World → Prop} (D : IBlk W b v) (hR : R (.returned (itm v)) W) (h2 : tmps[6]?.getD undef = .pointer (some ⟨b, 0, none⟩) := by rfl) :
    bodyPost Try.prog Try.f73 R .ret ⟨tmps, []⟩ W := by
  obtain ⟨c0, c1, c2, c3, c4, c5, c6, c7, c8, c9⟩ := D.cells
  exact bodyPost_ret (v := itm v) (by simp [results, Try.results73, go_sem, h2, c0, c1, c2, c3, c4, c5, c6, c7, c8, c9]) rfl hR

set_option maxRecDepth 100000 in
set_option maxHeartbeats 16000000 in
theorem citem_203 (a : Option Addr) (n c m q N : Nat) (xs : List Int) (w : World) (R : CRB w q a n c 4) (hr : Rd w q a n xs) (hl : n ≤ maxLen) (hlc : n ≤ c) (hm : m ≤ 15) (hn : 4 + 4 * m ≤ n) (hN : 4 + 4 * m = N) :
    Calls Try.prog 73 #[.pointer (some ⟨q, 0, none⟩), .int .i64 203, .int .i64 m] w fun e w' => ∃ A k, e = .returned (itm ⟨203, 0, 0, 0, 0, 0, none, 0, 0, A, m, k, 0, none, 0, 0⟩) ∧ RowOwn w32L w' w.heap.size A m k (wordsAt xs 4 m) ∧ CRB w' q a n c N ∧ Kp q q w w' := by
  obtain ⟨i0, hi0, hz0, hz1, hz2⟩ := info_parts info_w32
  have HI := Lib.hid (show Try.prog.info? 30 = some i0 ∧ i0.zero = some (.int .u32 0) ∧ i0.size = 1 ∧ i0.bytes = 4 from ⟨hi0, hz0, hz1, hz2⟩)
  have HRd := Lib.hid hr
  have HL := Lib.hid hl
  have HLC := Lib.hid hlc
  have HN := Lib.hid hn
  have HNN := Lib.hid hN
  have HP0 := Lib.hid (TC.new R ⟨203, 0, 0, 0, 0, 0, none, 0, 0, none, 0, 0, 0, none, 0, 0⟩)
  clear R hr hl hlc hn hN hi0 hz0 hz1 hz2
  go_enter Try.func73, Try.ntmps73
  go_wp2_with fail
  go_loopw [13] (fun sk wx => ∃ (k : Nat) (A : Option Addr) (z : Nat), k ≤ m ∧ sk = .int .i64 k ∧ Hid (TC w wx ⟨203, 0, 0, 0, 0, 0, none, 0, 0, A, k, z, 0, none, 0, 0⟩ q n c (4 + 4 * k) a) ∧ Hid (RowOwn w32L wx (w.heap.size + 2) A k z (wordsAt xs 4 k))) (fun sk _ => m - (intOf sk).toNat)
  case atStart => exact ⟨0, none, 0, by omega, rfl, HP0.out, RowOwn.nil _ _⟩
  case round =>
    obtain ⟨k, A, z, hk, rfl, hP, hO⟩ := hrel
    rename World => wx
    clear HP0
    by_cases hlt : k < m
    · have hS : Sgc (w.heap.size + 1) 7 A k z wx.drew := hP.out.cur.c7
      have cc : ∀ W, Sgc (w.heap.size + 1) 7 A k z W → W.cell? ⟨w.heap.size + 1, 7, none⟩ = some (.slice A k z) := fun W h => h
      have HP0 := Lib.hid hP.out.drew
      have HO0 : Hid (RowOwn w32L wx.drew (w.heap.size + 2) A k z (wordsAt xs 4 k)) := hO.out
      have HY := Lib.hid (wordsAt_snoc xs 4 k)
      clear hP hO
      go_wp2_with fail
      refine region_seqX (Sgc (w.heap.size + 1) 7 A k z) 7 [(0, false), (1, false), (2, false), (3, true), (4, true), (5, true), (6, false), (7, true)] (by kernel_rfl) (by kernel_rfl) rfl (by kernel_rfl) ?_
      generalize wx.drew = u0 at *
      iterate 3 (refine seqX_read (v := _) rfl (fun _ _ _ h => h) hS (Or.inl ⟨by rfl, fun W hW => by go_simp <;> with_reducible rfl⟩) ?_; simp only [Act.put, List.setIfInBounds_toArray, List.set_cons_zero, List.set_cons_succ])
      clear cc
      refine seqX_do rfl (fun K hK => ?_)
      go_simp
      refine (HP0.out.word HRd.out HL.out HLC.out (by have := HN.out; omega)).mono ?_
      rintro e u1 ⟨rfl, Pa, Ka⟩
      have Oa := Ka.rows HO0.out (by have := Pa.hq; omega)
      refine hK.out _ _ _ (fun W h => h) Pa.cur.c7 ?_
      clear hK K Ka HP0 HO0 hS
      refine seqX_do rfl (fun K hK => ?_)
      have HPa := Lib.hid Pa
      have HOa := Lib.hid Oa
      clear Pa Oa
      generalize nb xs (4 + 4 * k) 4 = y at *
      have hbA := (Below.refl u1.heap.size u1).alloc (Nat.le_refl _) (.cells #[.int .u32 y] 30)
      have HWB : Hid (RowRd w32L (u1.alloc (.cells #[.int .u32 y] 30)) (u1.alloc (.cells #[.int .u32 y] 30)).heap.size (some ⟨u1.heap.size, 0, none⟩) 1 [y]) := rowRd_blk (L := w32L) (xs := [y]) (heap_alloc_new u1 _) rfl
      have HP2 : Hid (TC w (u1.alloc (.cells #[.int .u32 y] 30)) ⟨203, 0, 0, 0, 0, 0, none, 0, 0, A, k, z, 0, none, 0, 0⟩ q n c (4 + 4 * k + 4) a) := HPa.out.bel hbA
      have HO2 : Hid (RowOwn w32L (u1.alloc (.cells #[.int .u32 y] 30)) (w.heap.size + 2) A k z (wordsAt xs 4 k)) := HOa.out.bel hbA
      clear HPa HOa hbA
      go_simp
      refine hK.out _ _ _ (fun W h => h) HP2.out.cur.c7 ?_
      clear hK K
      generalize u1.alloc (.cells #[.int .u32 y] 30) = u2 at *
      generalize u1.heap.size = qb at *
      refine seqX_do rfl (fun K hK => ?_)
      rw [if_pos (by rfl)]
      refine oper_append_rows (L := w32L) (N := k + 1) (.tmp 16) (.tmp 19) rfl Try.underlying31 HI.out.1 HI.out.2.1 HI.out.2.2.1 HI.out.2.2.2 rfl (wordsAt xs 4 (k + 1)) rfl HY.out.symm rfl rfl HO2.out HWB.out HP2.out.cur.lt (by unfold maxLen; omega) (by omega) (fun A2 c2 u3 ho3 hb3 => hK.out _ _ _ (fun W h => h) (HP2.out.belq hb3).cur.c7 ?_)
      have Pc := HP2.out.belq hb3
      have hS : Sgc (w.heap.size + 1) 7 A k z u3 := Pc.cur.c7
      have x6 := Pc.cur.c7
      have y6' := Pc.cur.frozen 7
      have HPd : Hid (TC w (u3.setCell ⟨w.heap.size + 1, 7, none⟩ (.slice A2 (k + 1) c2)) ⟨203, 0, 0, 0, 0, 0, none, 0, 0, A2, (k + 1), c2, 0, none, 0, 0⟩ q n c (4 + 4 * k + 4) a) := Pc.set (Pc.cur.set7 A2 (k + 1) c2)
      have HOd : Hid (RowOwn w32L (u3.setCell ⟨w.heap.size + 1, 7, none⟩ (.slice A2 (k + 1) c2)) (w.heap.size + 2) A2 (k + 1) c2 (wordsAt xs 4 (k + 1))) := ho3.setOff (by omega) _
      clear hK K HP2 HO2 HWB Pc ho3 hb3
      simp only [Act.put, List.setIfInBounds_toArray, List.set_cons_zero, List.set_cons_succ]
      iterate 1 (refine seqX_read (v := _) rfl (fun _ _ _ h => h) hS (Or.inl ⟨by rfl, fun W hW => by go_simp <;> with_reducible rfl⟩) ?_; simp only [Act.put, List.setIfInBounds_toArray, List.set_cons_zero, List.set_cons_succ])
      refine seqX_last rfl (fun K hK => ?_)
      go_simp
      refine hK.out _ _ ?_
      clear hK K x6 y6' hS
      go_wp2
      go_roundw
      case rel => exact ⟨k + 1, A2, c2, by omega, by go_num, (by rw [show 4 + 4 * (k + 1) = 4 + 4 * k + 4 from by omega]; exact HPd.out), HOd.out⟩
      case measure => simp [intOf]; omega
    · obtain rfl : k = m := by omega
      obtain ⟨v, hv⟩ : ∃ v : IV, v = ⟨203, 0, 0, 0, 0, 0, none, 0, 0, A, k, z, 0, none, 0, 0⟩ := ⟨_, rfl⟩
      have hP' := hP.out
      rw [← hv, HNN.out] at hP'
      have D := hP'.cur
      have E := hP'.res
      have x0 := D.c0
      have z0 := E.c0
      have f0 := E.frozen 0
      have x1 := D.c1
      have z1 := E.c1
      have f1 := E.frozen 1
      have x2 := D.c2
      have z2 := E.c2
      have f2 := E.frozen 2
      have x3 := D.c3
      have z3 := E.c3
      have f3 := E.frozen 3
      have x4 := D.c4
      have z4 := E.c4
      have f4 := E.frozen 4
      have x5 := D.c5
      have z5 := E.c5
      have f5 := E.frozen 5
      have x6 := D.c6
      have z6 := E.c6
      have f6 := E.frozen 6
      have x7 := D.c7
      have z7 := E.c7
      have f7 := E.frozen 7
      have x8 := D.c8
      have z8 := E.c8
      have f8 := E.frozen 8
      have x9 := D.c9
      have z9 := E.c9
      have f9 := E.frozen 9
      have HW := Lib.hid (show IBlk ((((((((((wx.setCell ⟨w.heap.size, 0, none⟩ (.int .i64 v.kind)).setCell ⟨w.heap.size, 1, none⟩ (.int .u32 v.ssrc)).setCell ⟨w.heap.size, 2, none⟩ (.int .u64 v.ntp)).setCell ⟨w.heap.size, 3, none⟩ (.int .u32 v.time)).setCell ⟨w.heap.size, 4, none⟩ (.int .u32 v.pks)).setCell ⟨w.heap.size, 5, none⟩ (.int .u32 v.ocs)).setCell ⟨w.heap.size, 6, none⟩ (.slice v.ba v.bn v.bc)).setCell ⟨w.heap.size, 7, none⟩ (.slice v.ga v.gn v.gc)).setCell ⟨w.heap.size, 8, none⟩ (.int .u32 v.media)).setCell ⟨w.heap.size, 9, none⟩ (.slice v.pa v.pn v.pc)) w.heap.size v ∧ Kp q q w ((((((((((wx.setCell ⟨w.heap.size, 0, none⟩ (.int .i64 v.kind)).setCell ⟨w.heap.size, 1, none⟩ (.int .u32 v.ssrc)).setCell ⟨w.heap.size, 2, none⟩ (.int .u64 v.ntp)).setCell ⟨w.heap.size, 3, none⟩ (.int .u32 v.time)).setCell ⟨w.heap.size, 4, none⟩ (.int .u32 v.pks)).setCell ⟨w.heap.size, 5, none⟩ (.int .u32 v.ocs)).setCell ⟨w.heap.size, 6, none⟩ (.slice v.ba v.bn v.bc)).setCell ⟨w.heap.size, 7, none⟩ (.slice v.ga v.gn v.gc)).setCell ⟨w.heap.size, 8, none⟩ (.int .u32 v.media)).setCell ⟨w.heap.size, 9, none⟩ (.slice v.pa v.pn v.pc)) ∧ RowOwn w32L ((((((((((wx.setCell ⟨w.heap.size, 0, none⟩ (.int .i64 v.kind)).setCell ⟨w.heap.size, 1, none⟩ (.int .u32 v.ssrc)).setCell ⟨w.heap.size, 2, none⟩ (.int .u64 v.ntp)).setCell ⟨w.heap.size, 3, none⟩ (.int .u32 v.time)).setCell ⟨w.heap.size, 4, none⟩ (.int .u32 v.pks)).setCell ⟨w.heap.size, 5, none⟩ (.int .u32 v.ocs)).setCell ⟨w.heap.size, 6, none⟩ (.slice v.ba v.bn v.bc)).setCell ⟨w.heap.size, 7, none⟩ (.slice v.ga v.gn v.gc)).setCell ⟨w.heap.size, 8, none⟩ (.int .u32 v.media)).setCell ⟨w.heap.size, 9, none⟩ (.slice v.pa v.pn v.pc)) w.heap.size A k z (wordsAt xs 4 k) ∧ CRB ((((((((((wx.setCell ⟨w.heap.size, 0, none⟩ (.int .i64 v.kind)).setCell ⟨w.heap.size, 1, none⟩ (.int .u32 v.ssrc)).setCell ⟨w.heap.size, 2, none⟩ (.int .u64 v.ntp)).setCell ⟨w.heap.size, 3, none⟩ (.int .u32 v.time)).setCell ⟨w.heap.size, 4, none⟩ (.int .u32 v.pks)).setCell ⟨w.heap.size, 5, none⟩ (.int .u32 v.ocs)).setCell ⟨w.heap.size, 6, none⟩ (.slice v.ba v.bn v.bc)).setCell ⟨w.heap.size, 7, none⟩ (.slice v.ga v.gn v.gc)).setCell ⟨w.heap.size, 8, none⟩ (.int .u32 v.media)).setCell ⟨w.heap.size, 9, none⟩ (.slice v.pa v.pn v.pc)) q a n c N from
        ⟨E.store v, hP'.kp.ist (Nat.le_refl _) hP'.hq v, (RowOwn.ist hO.out (by omega) v).lower (by omega), RWBlk.ist hP'.rd (by have := hP'.hq; omega) v⟩)
      have HV := Lib.hid hv
      clear hP hO hP' D E hv
      go_wp2
      generalize ((((((((((wx.setCell ⟨w.heap.size, 0, none⟩ (.int .i64 v.kind)).setCell ⟨w.heap.size, 1, none⟩ (.int .u32 v.ssrc)).setCell ⟨w.heap.size, 2, none⟩ (.int .u64 v.ntp)).setCell ⟨w.heap.size, 3, none⟩ (.int .u32 v.time)).setCell ⟨w.heap.size, 4, none⟩ (.int .u32 v.pks)).setCell ⟨w.heap.size, 5, none⟩ (.int .u32 v.ocs)).setCell ⟨w.heap.size, 6, none⟩ (.slice v.ba v.bn v.bc)).setCell ⟨w.heap.size, 7, none⟩ (.slice v.ga v.gn v.gc)).setCell ⟨w.heap.size, 8, none⟩ (.int .u32 v.media)).setCell ⟨w.heap.size, 9, none⟩ (.slice v.pa v.pn v.pc)) = u1 at *
      refine retU_at HW.out.1 ?_
      rw [HV.out]
      exact ⟨A, z, rfl, HW.out.2.2.1, HW.out.2.2.2, HW.out.2.1⟩

set_option maxRecDepth 100000 in
set_option maxHeartbeats 16000000 in
theorem citem_205 (X : Int) (hX : (X == 203) = false) (a : Option Addr) (n c m q N : Nat) (xs : List Int) (w : World) (R : CRB w q a n c 4) (hr : Rd w q a n xs) (hl : n ≤ maxLen) (hlc : n ≤ c) (hm : m ≤ 16) (hn : 12 + 4 * m ≤ n) (hN : 12 + 4 * m = N) :
    Calls Try.prog 73 #[.pointer (some ⟨q, 0, none⟩), .int .i64 X, .int .i64 m] w fun e w' => ∃ A k, e = .returned (itm ⟨X, nb xs 4 4, 0, 0, 0, 0, none, 0, 0, none, 0, 0, nb xs 8 4, A, m, k⟩) ∧ RowOwn pairL w' w.heap.size A m k (pairsAt xs 12 m) ∧ CRB w' q a n c N ∧ Kp q q w w' := by
  obtain ⟨i0, hi0, hz0, hz1, hz2⟩ := info_parts info_pair
  have HI := Lib.hid (show Try.prog.info? 108 = some i0 ∧ i0.zero = some (.agg #[.int .u16 0, .int .u16 0]) ∧ i0.size = 2 ∧ i0.bytes = 4 from ⟨hi0, hz0, hz1, hz2⟩)
  have HRd := Lib.hid hr
  have HL := Lib.hid hl
  have HLC := Lib.hid hlc
  have HN := Lib.hid hn
  have HNN := Lib.hid hN
  have HP0 := Lib.hid (TC.new R ⟨X, 0, 0, 0, 0, 0, none, 0, 0, none, 0, 0, 0, none, 0, 0⟩)
  clear R hr hl hlc hn hN hi0 hz0 hz1 hz2
  go_enter Try.func73, Try.ntmps73
  go_wp2_with fail
  refine (HP0.out.word HRd.out HL.out HLC.out (by have := HN.out; omega)).mono ?_
  rintro e w1 ⟨rfl, P1, -⟩
  have c1 := P1.cur.c1
  have f1 := P1.cur.frozen 1
  have HP1 : Hid (TC w (w1.setCell ⟨w.heap.size + 1, 1, none⟩ (.int .u32 (nb xs 4 4))) ⟨X, nb xs 4 4, 0, 0, 0, 0, none, 0, 0, none, 0, 0, 0, none, 0, 0⟩ q n c 8 a) := P1.set (P1.cur.set1 _)
  clear P1 HP0
  go_wp2_with fail
  refine (HP1.out.word HRd.out HL.out HLC.out (by have := HN.out; omega)).mono ?_
  rintro e w2 ⟨rfl, P2, -⟩
  clear c1 f1
  have c8 := P2.cur.c8
  have f8 := P2.cur.frozen 8
  have HP2 : Hid (TC w (w2.setCell ⟨w.heap.size + 1, 8, none⟩ (.int .u32 (nb xs 8 4))) ⟨X, nb xs 4 4, 0, 0, 0, 0, none, 0, 0, none, 0, 0, nb xs 8 4, none, 0, 0⟩ q n c 12 a) := P2.set (P2.cur.set8 _)
  clear P2 HP1
  go_wp2_with fail
  clear c8 f8
  generalize hs4 : nb xs 4 4 = s4 at *
  generalize hs8 : nb xs 8 4 = s8 at *
  have HS4 := Lib.hid hs4
  have HS8 := Lib.hid hs8
  clear hs4 hs8
  go_loopw [31] (fun sk wx => ∃ (k : Nat) (A : Option Addr) (z : Nat), k ≤ m ∧ sk = .int .i64 k ∧ Hid (TC w wx ⟨X, s4, 0, 0, 0, 0, none, 0, 0, none, 0, 0, s8, A, k, z⟩ q n c (12 + 4 * k) a) ∧ Hid (RowOwn pairL wx (w.heap.size + 2) A k z (pairsAt xs 12 k))) (fun sk _ => m - (intOf sk).toNat)
  case atStart => exact ⟨0, none, 0, by omega, rfl, HP2.out, RowOwn.nil _ _⟩
  case round =>
    obtain ⟨k, A, z, hk, rfl, hP, hO⟩ := hrel
    rename World => wx
    clear HP2
    by_cases hlt : k < m
    · have hS : Sgc (w.heap.size + 1) 9 A k z wx.drew := hP.out.cur.c9
      have cc : ∀ W, Sgc (w.heap.size + 1) 9 A k z W → W.cell? ⟨w.heap.size + 1, 9, none⟩ = some (.slice A k z) := fun W h => h
      have HP0 := Lib.hid hP.out.drew
      have HO0 : Hid (RowOwn pairL wx.drew (w.heap.size + 2) A k z (pairsAt xs 12 k)) := hO.out
      have HY := Lib.hid (pairsAt_snoc xs k 12)
      clear hP hO
      go_wp2_with fail
      refine region_seqX (Sgc (w.heap.size + 1) 9 A k z) 7 [(0, false), (1, false), (2, false), (3, true), (4, true), (5, true), (6, false), (7, true)] (by kernel_rfl) (by kernel_rfl) rfl (by kernel_rfl) ?_
      generalize wx.drew = u0 at *
      iterate 3 (refine seqX_read (v := _) rfl (fun _ _ _ h => h) hS (Or.inl ⟨by rfl, fun W hW => by go_simp <;> with_reducible rfl⟩) ?_; simp only [Act.put, List.setIfInBounds_toArray, List.set_cons_zero, List.set_cons_succ])
      clear cc
      refine seqX_do rfl (fun K hK => ?_)
      go_simp
      refine (HP0.out.pair HRd.out HL.out HLC.out (by have := HN.out; omega)).mono ?_
      rintro e u1 ⟨rfl, Pa, Ka⟩
      have Oa := Ka.rows HO0.out (by have := Pa.hq; omega)
      refine hK.out _ _ _ (fun W h => h) Pa.cur.c9 ?_
      clear hK K Ka HP0 HO0 hS
      refine seqX_do rfl (fun K hK => ?_)
      have HPa := Lib.hid Pa
      have HOa := Lib.hid Oa
      clear Pa Oa
      obtain ⟨y, hy⟩ : ∃ y : Int × Int, y = (nb xs (12 + 4 * k) 2, nb xs (12 + 4 * k + 2) 2) := ⟨_, rfl⟩
      have hy1 : nb xs (12 + 4 * k) 2 = y.1 := by rw [hy]
      have hy2 : nb xs (12 + 4 * k + 2) 2 = y.2 := by rw [hy]
      rw [← hy] at HY
      rw [hy1, hy2]
      clear hy hy1 hy2
      have hbA := (Below.refl u1.heap.size u1).alloc (Nat.le_refl _) (.cells #[.int .u16 y.1, .int .u16 y.2] 108)
      have HWB : Hid (RowRd pairL (u1.alloc (.cells #[.int .u16 y.1, .int .u16 y.2] 108)) (u1.alloc (.cells #[.int .u16 y.1, .int .u16 y.2] 108)).heap.size (some ⟨u1.heap.size, 0, none⟩) 1 [y]) := rowRd_blk (L := pairL) (xs := [y]) (heap_alloc_new u1 _) rfl
      have HP2 : Hid (TC w (u1.alloc (.cells #[.int .u16 y.1, .int .u16 y.2] 108)) ⟨X, s4, 0, 0, 0, 0, none, 0, 0, none, 0, 0, s8, A, k, z⟩ q n c (12 + 4 * k + 4) a) := HPa.out.bel hbA
      have HO2 : Hid (RowOwn pairL (u1.alloc (.cells #[.int .u16 y.1, .int .u16 y.2] 108)) (w.heap.size + 2) A k z (pairsAt xs 12 k)) := HOa.out.bel hbA
      clear HPa HOa hbA
      go_simp
      refine hK.out _ _ _ (fun W h => h) HP2.out.cur.c9 ?_
      clear hK K
      generalize u1.alloc (.cells #[.int .u16 y.1, .int .u16 y.2] 108) = u2 at *
      generalize u1.heap.size = qb at *
      refine seqX_do rfl (fun K hK => ?_)
      rw [if_pos (by rfl)]
      refine oper_append_rows (L := pairL) (N := k + 1) (.tmp 34) (.tmp 37) rfl Try.underlying66 HI.out.1 HI.out.2.1 HI.out.2.2.1 HI.out.2.2.2 rfl (pairsAt xs 12 (k + 1)) rfl HY.out.symm rfl rfl HO2.out HWB.out HP2.out.cur.lt (by unfold maxLen; omega) (by omega) (fun A2 c2 u3 ho3 hb3 => hK.out _ _ _ (fun W h => h) (HP2.out.belq hb3).cur.c9 ?_)
      have Pc := HP2.out.belq hb3
      have hS : Sgc (w.heap.size + 1) 9 A k z u3 := Pc.cur.c9
      have x6 := Pc.cur.c9
      have y6' := Pc.cur.frozen 9
      have HPd : Hid (TC w (u3.setCell ⟨w.heap.size + 1, 9, none⟩ (.slice A2 (k + 1) c2)) ⟨X, s4, 0, 0, 0, 0, none, 0, 0, none, 0, 0, s8, A2, (k + 1), c2⟩ q n c (12 + 4 * k + 4) a) := Pc.set (Pc.cur.set9 A2 (k + 1) c2)
      have HOd : Hid (RowOwn pairL (u3.setCell ⟨w.heap.size + 1, 9, none⟩ (.slice A2 (k + 1) c2)) (w.heap.size + 2) A2 (k + 1) c2 (pairsAt xs 12 (k + 1))) := ho3.setOff (by omega) _
      clear hK K HP2 HO2 HWB Pc ho3 hb3
      simp only [Act.put, List.setIfInBounds_toArray, List.set_cons_zero, List.set_cons_succ]
      iterate 1 (refine seqX_read (v := _) rfl (fun _ _ _ h => h) hS (Or.inl ⟨by rfl, fun W hW => by go_simp <;> with_reducible rfl⟩) ?_; simp only [Act.put, List.setIfInBounds_toArray, List.set_cons_zero, List.set_cons_succ])
      refine seqX_last rfl (fun K hK => ?_)
      go_simp
      refine hK.out _ _ ?_
      clear hK K x6 y6' hS
      go_wp2
      go_roundw
      case rel => exact ⟨k + 1, A2, c2, by omega, by go_num, (by rw [show 12 + 4 * (k + 1) = 12 + 4 * k + 4 from by omega]; exact HPd.out), HOd.out⟩
      case measure => simp [intOf]; omega
    · obtain rfl : k = m := by omega
      obtain ⟨v, hv⟩ : ∃ v : IV, v = ⟨X, s4, 0, 0, 0, 0, none, 0, 0, none, 0, 0, s8, A, k, z⟩ := ⟨_, rfl⟩
      have hP' := hP.out
      rw [← hv, HNN.out] at hP'
      have D := hP'.cur
      have E := hP'.res
      have x0 := D.c0
      have z0 := E.c0
      have f0 := E.frozen 0
      have x1 := D.c1
      have z1 := E.c1
      have f1 := E.frozen 1
      have x2 := D.c2
      have z2 := E.c2
      have f2 := E.frozen 2
      have x3 := D.c3
      have z3 := E.c3
      have f3 := E.frozen 3
      have x4 := D.c4
      have z4 := E.c4
      have f4 := E.frozen 4
      have x5 := D.c5
      have z5 := E.c5
      have f5 := E.frozen 5
      have x6 := D.c6
      have z6 := E.c6
      have f6 := E.frozen 6
      have x7 := D.c7
      have z7 := E.c7
      have f7 := E.frozen 7
      have x8 := D.c8
      have z8 := E.c8
      have f8 := E.frozen 8
      have x9 := D.c9
      have z9 := E.c9
      have f9 := E.frozen 9
      have HW := Lib.hid (show IBlk ((((((((((wx.setCell ⟨w.heap.size, 0, none⟩ (.int .i64 v.kind)).setCell ⟨w.heap.size, 1, none⟩ (.int .u32 v.ssrc)).setCell ⟨w.heap.size, 2, none⟩ (.int .u64 v.ntp)).setCell ⟨w.heap.size, 3, none⟩ (.int .u32 v.time)).setCell ⟨w.heap.size, 4, none⟩ (.int .u32 v.pks)).setCell ⟨w.heap.size, 5, none⟩ (.int .u32 v.ocs)).setCell ⟨w.heap.size, 6, none⟩ (.slice v.ba v.bn v.bc)).setCell ⟨w.heap.size, 7, none⟩ (.slice v.ga v.gn v.gc)).setCell ⟨w.heap.size, 8, none⟩ (.int .u32 v.media)).setCell ⟨w.heap.size, 9, none⟩ (.slice v.pa v.pn v.pc)) w.heap.size v ∧ Kp q q w ((((((((((wx.setCell ⟨w.heap.size, 0, none⟩ (.int .i64 v.kind)).setCell ⟨w.heap.size, 1, none⟩ (.int .u32 v.ssrc)).setCell ⟨w.heap.size, 2, none⟩ (.int .u64 v.ntp)).setCell ⟨w.heap.size, 3, none⟩ (.int .u32 v.time)).setCell ⟨w.heap.size, 4, none⟩ (.int .u32 v.pks)).setCell ⟨w.heap.size, 5, none⟩ (.int .u32 v.ocs)).setCell ⟨w.heap.size, 6, none⟩ (.slice v.ba v.bn v.bc)).setCell ⟨w.heap.size, 7, none⟩ (.slice v.ga v.gn v.gc)).setCell ⟨w.heap.size, 8, none⟩ (.int .u32 v.media)).setCell ⟨w.heap.size, 9, none⟩ (.slice v.pa v.pn v.pc)) ∧ RowOwn pairL ((((((((((wx.setCell ⟨w.heap.size, 0, none⟩ (.int .i64 v.kind)).setCell ⟨w.heap.size, 1, none⟩ (.int .u32 v.ssrc)).setCell ⟨w.heap.size, 2, none⟩ (.int .u64 v.ntp)).setCell ⟨w.heap.size, 3, none⟩ (.int .u32 v.time)).setCell ⟨w.heap.size, 4, none⟩ (.int .u32 v.pks)).setCell ⟨w.heap.size, 5, none⟩ (.int .u32 v.ocs)).setCell ⟨w.heap.size, 6, none⟩ (.slice v.ba v.bn v.bc)).setCell ⟨w.heap.size, 7, none⟩ (.slice v.ga v.gn v.gc)).setCell ⟨w.heap.size, 8, none⟩ (.int .u32 v.media)).setCell ⟨w.heap.size, 9, none⟩ (.slice v.pa v.pn v.pc)) w.heap.size A k z (pairsAt xs 12 k) ∧ CRB ((((((((((wx.setCell ⟨w.heap.size, 0, none⟩ (.int .i64 v.kind)).setCell ⟨w.heap.size, 1, none⟩ (.int .u32 v.ssrc)).setCell ⟨w.heap.size, 2, none⟩ (.int .u64 v.ntp)).setCell ⟨w.heap.size, 3, none⟩ (.int .u32 v.time)).setCell ⟨w.heap.size, 4, none⟩ (.int .u32 v.pks)).setCell ⟨w.heap.size, 5, none⟩ (.int .u32 v.ocs)).setCell ⟨w.heap.size, 6, none⟩ (.slice v.ba v.bn v.bc)).setCell ⟨w.heap.size, 7, none⟩ (.slice v.ga v.gn v.gc)).setCell ⟨w.heap.size, 8, none⟩ (.int .u32 v.media)).setCell ⟨w.heap.size, 9, none⟩ (.slice v.pa v.pn v.pc)) q a n c N from
        ⟨E.store v, hP'.kp.ist (Nat.le_refl _) hP'.hq v, (RowOwn.ist hO.out (by omega) v).lower (by omega), RWBlk.ist hP'.rd (by have := hP'.hq; omega) v⟩)
      have HV := Lib.hid hv
      clear hP hO hP' D E hv
      go_wp2
      generalize ((((((((((wx.setCell ⟨w.heap.size, 0, none⟩ (.int .i64 v.kind)).setCell ⟨w.heap.size, 1, none⟩ (.int .u32 v.ssrc)).setCell ⟨w.heap.size, 2, none⟩ (.int .u64 v.ntp)).setCell ⟨w.heap.size, 3, none⟩ (.int .u32 v.time)).setCell ⟨w.heap.size, 4, none⟩ (.int .u32 v.pks)).setCell ⟨w.heap.size, 5, none⟩ (.int .u32 v.ocs)).setCell ⟨w.heap.size, 6, none⟩ (.slice v.ba v.bn v.bc)).setCell ⟨w.heap.size, 7, none⟩ (.slice v.ga v.gn v.gc)).setCell ⟨w.heap.size, 8, none⟩ (.int .u32 v.media)).setCell ⟨w.heap.size, 9, none⟩ (.slice v.pa v.pn v.pc)) = u1 at *
      refine retU_at HW.out.1 ?_
      rw [HV.out, HS4.out, HS8.out]
      exact ⟨A, z, rfl, HW.out.2.2.1, HW.out.2.2.2, HW.out.2.1⟩

end Go.Proofs.Ythmmafpmpnhleaa.Fbk
