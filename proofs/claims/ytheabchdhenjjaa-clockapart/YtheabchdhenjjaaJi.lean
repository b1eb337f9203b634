/- The contract of the laws' shown; ClockAll walked. -/
import Derived.Test.YtheabchdhenjjaaJh
set_option maxRecDepth 100000
namespace Go.Proofs.Ytheabchdhenjjaa.Clk
open Go.RowKit
set_option linter.unusedVariables false

set_option maxHeartbeats 4000000 in
theorem shown_any (w : World) : Calls Try.prog 7 #[] w fun e w' => e = .returned (.bool true) ∧ Below w.heap.size w w' := by
  have C1 : Hid (∀ W, Calls Try.prog 10 #[.agg #[.bool false, .int .u32 0, .int .u32 0], .int .u32 500] W fun e w' => e = .returned (ckV (false, 4294966796, 0)) ∧ Below W.heap.size W w') := Lib.hid (fun W => strt_any W (false, 0, 0) 500)
  have C2 := Lib.hid (fun W => step_any W (false, 4294966796, 0) 500)
  have C3 := Lib.hid (fun W => step_any W (true, 4294966796, 0) 590)
  have C4 := Lib.hid (fun W => strt_any W (true, 4294966796, 90) 7)
  have C5 := Lib.hid (fun W => step_any W (true, 3083, 90) 7)
  have C6 := Lib.hid (fun W => out_any W (true, 3083, 3090) 8)
  rw [show stk (false, 4294966796, 0) 500 = (true, 4294966796, 0) from by decide, show tim (false, 4294966796, 0) 500 = 0 from by decide] at C2
  rw [show stk (true, 4294966796, 0) 590 = (true, 4294966796, 90) from by decide, show tim (true, 4294966796, 0) 590 = 90 from by decide] at C3
  rw [show strt (true, 4294966796, 90) 7 = (true, 3083, 90) from by decide] at C4
  rw [show stk (true, 3083, 90) 7 = (true, 3083, 3090) from by decide, show tim (true, 3083, 90) 7 = 3090 from by decide] at C5
  rw [show tim (true, 3083, 3090) 8 = 3091 from by decide] at C6
  go_enter Try.func7, Try.ntmps7
  go_wp2_with fail
  refine (C1.out _).mono ?_
  rintro e w1 ⟨rfl, hb⟩
  have H1 : Hid (Cur w (w1.alloc (ckO (false, 4294966796, 0))) w1.heap.size (false, 4294966796, 0)) := Lib.hid ⟨CBlk.new w1 _, hb.alloc hb.size _, hb.size⟩
  have c0 := H1.out.blk.c0
  have c1 := H1.out.blk.c1
  have c2 := H1.out.blk.c2
  clear hb C1
  go_wp2_with fail
  refine (C2.out _).mono ?_
  rintro e w2 ⟨rfl, hb⟩
  have h := H1.out.more hb
  have H2 : Hid (Cur w (w2.alloc (ckO (true, 4294966796, 0))) w2.heap.size (true, 4294966796, 0)) := Lib.hid ⟨CBlk.new w2 _, h.bel.alloc h.bel.size _, h.bel.size⟩
  clear c0 c1 c2 h
  have c0 := H2.out.blk.c0
  have c1 := H2.out.blk.c1
  have c2 := H2.out.blk.c2
  clear hb C2 H1
  go_wp2_with fail
  refine (C3.out _).mono ?_
  rintro e w3 ⟨rfl, hb⟩
  have h := H2.out.more hb
  have H3 : Hid (Cur w (w3.alloc (ckO (true, 4294966796, 90))) w3.heap.size (true, 4294966796, 90)) := Lib.hid ⟨CBlk.new w3 _, h.bel.alloc h.bel.size _, h.bel.size⟩
  clear c0 c1 c2 h
  have c0 := H3.out.blk.c0
  have c1 := H3.out.blk.c1
  have c2 := H3.out.blk.c2
  clear hb C3 H2
  go_wp2_with fail
  refine (C4.out _).mono ?_
  rintro e w4 ⟨rfl, hb⟩
  have H4 := Lib.hid (H3.out.more hb)
  clear c0 c1 c2 hb C4 H3
  go_wp2_with fail
  refine (C5.out _).mono ?_
  rintro e w5 ⟨rfl, hb⟩
  have h := H4.out.more hb
  have H5 : Hid (Cur w (w5.alloc (ckO (true, 3083, 3090))) w5.heap.size (true, 3083, 3090)) := Lib.hid ⟨CBlk.new w5 _, h.bel.alloc h.bel.size _, h.bel.size⟩
  have c0 := H5.out.blk.c0
  have c1 := H5.out.blk.c1
  have c2 := H5.out.blk.c2
  clear hb h C5 H4
  go_wp2_with fail
  refine (C6.out _).mono ?_
  rintro e w6 ⟨rfl, hb⟩
  have H6 := Lib.hid (H5.out.more hb)
  clear c0 c1 c2 hb C6 H5
  go_wp2
  go_ret
  exact ⟨rfl, H6.out.bel⟩

set_option maxHeartbeats 4000000 in
theorem all_any (w : World) (c : Ck) (i : Int) (hc : CkOk c) (h0 : 0 ≤ i) (h1 : i ≤ 4294967295) : Calls Try.prog 3 #[ckV c, .int .u32 i] w fun e w' => e = .returned (.bool true) ∧ Below w.heap.size w w' := by
  have CS := Lib.hid (fun W => shown_any W)
  have C1 := Lib.hid (fun W => step_any W c i)
  have C2 := Lib.hid (fun W => rstep_any W c hc i h0 h1)
  have C3 := Lib.hid (fun W => strt_any W c i)
  have C4 := Lib.hid (fun W => rstrt_any W c hc i h0 h1)
  have C5 := Lib.hid (fun W => out_any W c i)
  have C6 := Lib.hid (fun W => rout_any W c hc i h0 h1)
  obtain ⟨x, hx⟩ : ∃ x, stk c i = x := ⟨_, rfl⟩
  obtain ⟨n, hn⟩ : ∃ n, tim c i = n := ⟨_, rfl⟩
  obtain ⟨y, hy⟩ : ∃ y, strt c i = y := ⟨_, rfl⟩
  rw [hx, hn] at C1 C2
  rw [hy] at C3 C4
  rw [hn] at C5 C6
  have q1 := eq_same x
  have q2 := eq_same y
  have H0 : Hid (Cur w (w.alloc (ckO c)) w.heap.size c) := Lib.hid ⟨CBlk.new w c, (Below.refl _ _).alloc (Nat.le_refl _) _, Nat.le_refl _⟩
  clear hc h0 h1 hx hn hy
  go_enter Try.func3, Try.ntmps3
  go_wp2_with fail
  refine (CS.out _).mono ?_
  rintro e w1 ⟨rfl, hb⟩
  have H1 := Lib.hid (H0.out.more hb)
  have c0 := H1.out.blk.c0
  have c1 := H1.out.blk.c1
  have c2 := H1.out.blk.c2
  clear hb H0 CS
  go_wp2_with fail
  refine (C1.out _).mono ?_
  rintro e w2 ⟨rfl, hb⟩
  have H2 := Lib.hid ((H1.out.more hb).new x)
  have G2 : Hid (Cur w (w2.alloc (ckO x)) w2.heap.size x) := Lib.hid ⟨CBlk.new w2 x, H2.out.bel, (H1.out.more hb).bel.size⟩
  clear c0 c1 c2 hb H1 C1
  have c0 := H2.out.blk.c0
  have c1 := H2.out.blk.c1
  have c2 := H2.out.blk.c2
  go_wp2_with fail
  refine (C2.out _).mono ?_
  rintro e w3 ⟨rfl, hb⟩
  have H3 := (H2.out.more hb).new x
  have G3 := (G2.out.more hb).new x
  have F3 : Cur w (w3.alloc (ckO x)) w3.heap.size x := ⟨CBlk.new w3 x, H3.bel, (H2.out.more hb).bel.size⟩
  clear c0 c1 c2 hb H2 G2 C2
  have H3 := Lib.hid H3
  have G3 := Lib.hid G3
  have F3 := Lib.hid F3
  go_wp2_with fail
  obtain ⟨w4, hw4⟩ : ∃ w4, w3.alloc (ckO x) = w4 := ⟨_, rfl⟩
  rw [hw4] at H3 G3 F3
  rw [hw4]
  have f0 : ∀ W, Below w4.heap.size w4 W → W.cell? ⟨w.heap.size, 0, none⟩ = some (.bool c.1) := fun W hW => (H3.out.more hW).blk.c0
  have f1 : ∀ W, Below w4.heap.size w4 W → W.cell? ⟨w.heap.size, 1, none⟩ = some (.int .u32 c.2.1) := fun W hW => (H3.out.more hW).blk.c1
  have f2 : ∀ W, Below w4.heap.size w4 W → W.cell? ⟨w.heap.size, 2, none⟩ = some (.int .u32 c.2.2) := fun W hW => (H3.out.more hW).blk.c2
  have g0 : ∀ W, Below w4.heap.size w4 W → W.cell? ⟨w2.heap.size, 0, none⟩ = some (.bool x.1) := fun W hW => (G3.out.more hW).blk.c0
  have g1 : ∀ W, Below w4.heap.size w4 W → W.cell? ⟨w2.heap.size, 1, none⟩ = some (.int .u32 x.2.1) := fun W hW => (G3.out.more hW).blk.c1
  have g2 : ∀ W, Below w4.heap.size w4 W → W.cell? ⟨w2.heap.size, 2, none⟩ = some (.int .u32 x.2.2) := fun W hW => (G3.out.more hW).blk.c2
  have k0 : ∀ W, Below w4.heap.size w4 W → W.cell? ⟨w3.heap.size, 0, none⟩ = some (.bool x.1) := fun W hW => (F3.out.more hW).blk.c0
  have k1 : ∀ W, Below w4.heap.size w4 W → W.cell? ⟨w3.heap.size, 1, none⟩ = some (.int .u32 x.2.1) := fun W hW => (F3.out.more hW).blk.c1
  have k2 : ∀ W, Below w4.heap.size w4 W → W.cell? ⟨w3.heap.size, 2, none⟩ = some (.int .u32 x.2.2) := fun W hW => (F3.out.more hW).blk.c2
  have hS : Below w4.heap.size w4 w4.drew := (Below.refl _ _).drew
  clear hw4
  refine region_seq (Below w4.heap.size w4) [(0, false), (1, false), (2, false), (3, false), (4, false), (5, false), (6, false), (7, false), (8, false), (9, false), (10, false), (12, false), (13, false), (11, true), (14, true), (15, false), (16, false), (17, false), (18, false), (19, false), (21, false), (22, false), (20, true), (23, true), (24, false), (25, false), (26, false)] (by kernel_rfl) (by kernel_rfl) rfl (by kernel_rfl) ?_
  iterate 13 (refine seq_read (v := _) rfl (fun _ _ _ h => h) hS (Or.inl ⟨by rfl, fun W hW => by go_simp <;> with_reducible rfl⟩) ?_; simp only [Act.put, List.setIfInBounds_toArray, List.set_cons_zero, List.set_cons_succ])
  refine seq_do rfl (fun K hK => ?_)
  go_simp
  refine (C3.out _).mono ?_
  rintro e w5 ⟨rfl, hb⟩
  have hS : Below w4.heap.size w4 w5 := hS.trans (hb.mono hS.size)
  refine hK.out _ _ _ (fun W h => h) hS ?_
  clear hK K hb
  refine seq_do rfl (fun K hK => ?_)
  go_simp
  refine (C4.out _).mono ?_
  rintro e w6 ⟨rfl, hb⟩
  have hS : Below w4.heap.size w4 w6 := hS.trans (hb.mono hS.size)
  refine hK.out _ _ _ (fun W h => h) hS ?_
  clear hK K hb
  iterate 7 (refine seq_read (v := _) rfl (fun _ _ _ h => h) hS (Or.inl ⟨by rfl, fun W hW => by go_simp <;> with_reducible rfl⟩) ?_; simp only [Act.put, List.setIfInBounds_toArray, List.set_cons_zero, List.set_cons_succ])
  refine seq_do rfl (fun K hK => ?_)
  go_simp
  refine (C5.out _).mono ?_
  rintro e w7 ⟨rfl, hb⟩
  have hS : Below w4.heap.size w4 w7 := hS.trans (hb.mono hS.size)
  refine hK.out _ _ _ (fun W h => h) hS ?_
  clear hK K hb
  refine seq_do rfl (fun K hK => ?_)
  go_simp
  refine (C6.out _).mono ?_
  rintro e w8 ⟨rfl, hb⟩
  have hS : Below w4.heap.size w4 w8 := hS.trans (hb.mono hS.size)
  refine hK.out _ _ _ (fun W h => h) hS ?_
  clear hK K hb
  iterate 3 (refine seq_read (v := _) rfl (fun _ _ _ h => h) hS (Or.inl ⟨by rfl, fun W hW => by go_simp <;> with_reducible rfl⟩) ?_; simp only [Act.put, List.setIfInBounds_toArray, List.set_cons_zero, List.set_cons_succ])
  refine seq_end ?_
  have H7 := Lib.hid (H3.out.more hS)
  go_wp2
  go_ret
  exact ⟨rfl, H7.out.bel⟩
end Go.Proofs.Ytheabchdhenjjaa.Clk
