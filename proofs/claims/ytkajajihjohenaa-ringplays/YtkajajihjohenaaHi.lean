/- The contract of the laws' shown; RingNone walked. -/
import Derived.Test.YtkajajihjohenaaHe
import Derived.Test.YtkajajihjohenaaHg
set_option maxRecDepth 100000
namespace Go.Proofs.Ytkajajihjohenaa.Rng
open Go.RowKit
open Go.Proofs.Ytkajajihjohenaa.Arn
set_option linter.unusedVariables false

set_option maxHeartbeats 4000000 in
theorem shown_any (w : World) : Calls Try.prog 7 #[] w fun e w' => e = .returned (.bool true) ∧ Below w.heap.size w w' := by
  have CN : Hid (Calls Try.prog 8 #[.int .i64 2] w (RetN w 2)) := new_any w 2 (by decide) (by decide)
  have q2 : capN 2 = 2 := by decide
  have C1 : Hid (∀ W b g, RIn W b g 2 [] → Calls Try.prog 12 #[.pointer (some ⟨b, 0, none⟩), .agg #[.int .i64 1, .int .i64 0, .int .i64 0, .int .u32 0]] W fun e w' => e = .returned (.bool true) ∧ RIn w' b g 2 [(1, 0, 0, 0)] ∧ Upd (fun k => k = b ∨ k = g) W w') := fun W b g h => push_any W b g 2 [] (1, 0, 0, 0) h
  have C2 : Hid (∀ W b g, RIn W b g 2 [(1, 0, 0, 0)] → Calls Try.prog 12 #[.pointer (some ⟨b, 0, none⟩), .agg #[.int .i64 2, .int .i64 0, .int .i64 0, .int .u32 0]] W fun e w' => e = .returned (.bool true) ∧ RIn w' b g 2 [(1, 0, 0, 0), (2, 0, 0, 0)] ∧ Upd (fun k => k = b ∨ k = g) W w') := fun W b g h => push_any W b g 2 [(1, 0, 0, 0)] (2, 0, 0, 0) h
  have C3 : Hid (∀ W b g, RIn W b g 2 [(1, 0, 0, 0), (2, 0, 0, 0)] → Calls Try.prog 12 #[.pointer (some ⟨b, 0, none⟩), .agg #[.int .i64 3, .int .i64 0, .int .i64 0, .int .u32 0]] W fun e w' => e = .returned (.bool false) ∧ RIn w' b g 2 [(1, 0, 0, 0), (2, 0, 0, 0)] ∧ Upd (fun k => k = b ∨ k = g) W w') := fun W b g h => push_any W b g 2 [(1, 0, 0, 0), (2, 0, 0, 0)] (3, 0, 0, 0) h
  have C4 : Hid (∀ W b g, RIn W b g 2 [(1, 0, 0, 0), (2, 0, 0, 0)] → Calls Try.prog 10 #[.pointer (some ⟨b, 0, none⟩)] W fun e w' => e = .returned (.tuple #[clV (1, 0, 0, 0), .bool true]) ∧ RIn w' b g 2 [(2, 0, 0, 0)] ∧ Upd (fun k => k = b ∨ k = g) W w') := fun W b g h => pop_any W b g 2 _ h
  have C5 : Hid (∀ W b g, RIn W b g 2 [(2, 0, 0, 0)] → Calls Try.prog 14 #[.pointer (some ⟨b, 0, none⟩)] W fun e w' => e = .returned (.tuple #[clV (2, 0, 0, 0), .bool true]) ∧ Below W.heap.size W w') := fun W b g h => head_any W b g 2 _ h
  have C6 : Hid (∀ W b g, RIn W b g 2 [(2, 0, 0, 0)] → Calls Try.prog 15 #[.pointer (some ⟨b, 0, none⟩)] W fun e w' => e = .returned (.int .i64 1) ∧ Below W.heap.size W w') := fun W b g ⟨f, P, h⟩ => len_any W b g 2 f P _ h
  have C7 : Hid (∀ W b g, RIn W b g 2 [(2, 0, 0, 0)] → Calls Try.prog 16 #[.pointer (some ⟨b, 0, none⟩)] W fun e w' => e = .returned (.int .i64 1) ∧ Below W.heap.size W w') := fun W b g ⟨f, P, h⟩ => room_any W b g 2 f P _ h
  go_enter Try.func7, Try.ntmps7
  go_wp2_with fail
  refine CN.out.mono ?_
  rintro e w1 ⟨b, g, rfl, hA, hb, hg, hB⟩
  rw [q2] at hA
  have HA1 : Hid (RIn w1 b g 2 []) := Lib.hid ⟨_, _, hA⟩
  have HB1 := Lib.hid hB
  have HL := Lib.hid (And.intro hb hg)
  have HS : Hid (∀ k, k = b ∨ k = g → w.heap.size ≤ k) := Lib.hid (fun k hk => by rcases hk with rfl | rfl; exact hb; exact hg)
  clear hA hB hb hg CN
  go_wp2_with fail
  refine (C1.out _ b g HA1.out).mono ?_
  rintro e w2 ⟨rfl, hA, hU⟩
  have HB2 := Lib.hid (HB1.out.trans (hU.below HB1.out.size HS.out))
  have HA2 := Lib.hid hA
  clear hA hU HA1 HB1 C1
  go_wp2_with fail
  refine (C2.out _ b g HA2.out).mono ?_
  rintro e w3 ⟨rfl, hA, hU⟩
  have HB3 := Lib.hid (HB2.out.trans (hU.below HB2.out.size HS.out))
  have HA3 := Lib.hid hA
  clear hA hU HA2 HB2 C2
  go_wp2_with fail
  refine (C3.out _ b g HA3.out).mono ?_
  rintro e w4 ⟨rfl, hA, hU⟩
  have HB4 := Lib.hid (HB3.out.trans (hU.below HB3.out.size HS.out))
  have HA4 := Lib.hid hA
  clear hA hU HA3 HB3 C3
  go_wp2_with fail
  refine (C4.out _ b g HA4.out).mono ?_
  rintro e w5 ⟨rfl, hA, hU⟩
  have hbx : Below w5.heap.size w5 (w5.alloc (clO (1, 0, 0, 0))) := (Below.refl _ _).alloc (Nat.le_refl _) _
  have HB5 := Lib.hid ((HB4.out.trans (hU.below HB4.out.size HS.out)).alloc (HB4.out.trans (hU.below HB4.out.size HS.out)).size (clO (1, 0, 0, 0)))
  have HA5 := Lib.hid (hA.bel hbx)
  have D5 := Lib.hid (CBlk.new w5 (1, 0, 0, 0))
  clear hA hU HA4 HB4 C4 hbx
  go_wp2_with fail
  refine (C5.out _ b g HA5.out).mono ?_
  rintro e w6 ⟨rfl, hU⟩
  have hbx : Below w6.heap.size w6 (w6.alloc (clO (2, 0, 0, 0))) := (Below.refl _ _).alloc (Nat.le_refl _) _
  have HB6 := Lib.hid ((HB5.out.trans (hU.mono HB5.out.size)).alloc (HB5.out.trans (hU.mono HB5.out.size)).size (clO (2, 0, 0, 0)))
  have HA6 := Lib.hid ((HA5.out.bel hU).bel hbx)
  have D6 := (D5.out.bel hU D5.out.lt).bel hbx (D5.out.bel hU D5.out.lt).lt
  have E6 := CBlk.new w6 (2, 0, 0, 0)
  have d0 := D6.c0
  have e0 := E6.c0
  clear hU HA5 HB5 C5 hbx D5 D6 E6
  go_wp2_with fail
  refine (C6.out _ b g HA6.out).mono ?_
  rintro e w7 ⟨rfl, hU⟩
  have HB7 := Lib.hid (HB6.out.trans (hU.mono HB6.out.size))
  have HA7 := Lib.hid (HA6.out.bel hU)
  clear hU HA6 HB6 C6 d0 e0
  go_wp2_with fail
  refine (C7.out _ b g HA7.out).mono ?_
  rintro e w8 ⟨rfl, hU⟩
  have HB8 := Lib.hid (HB7.out.trans (hU.mono HB7.out.size))
  clear hU HA7 HB7 C7
  go_wp2
  go_ret
  exact ⟨rfl, HB8.out⟩

set_option maxHeartbeats 4000000 in
theorem none_any (w : World) (x : Cl) : Calls Try.prog 6 #[clV x] w fun e w' => e = .returned (.bool true) ∧ Below w.heap.size w w' := by
  have HB := Lib.hid ((Below.refl w.heap.size w).alloc (Nat.le_refl _) (clO x))
  have D := Lib.hid (CBlk.new w x)
  have CS := Lib.hid (fun W => shown_any W)
  obtain ⟨q, hq⟩ : ∃ q, w.heap.size = q := ⟨_, rfl⟩
  rw [hq] at D
  go_enter Try.func6, Try.ntmps6
  go_wp2_with fail
  refine (CS.out _).mono ?_
  rintro e w1 ⟨rfl, hb1⟩
  have H1 := Lib.hid (HB.out.trans (hb1.mono HB.out.size))
  have D1 := Lib.hid (D.out.bel hb1 D.out.lt)
  clear hb1 HB D CS
  go_wp2_with fail
  refine (pop_nil _).mono ?_
  rintro e w2 ⟨rfl, hb2⟩
  have hbx : Below w2.heap.size w2 (w2.alloc (clO cl0)) := (Below.refl _ _).alloc (Nat.le_refl _) _
  have H2 := Lib.hid ((H1.out.trans (hb2.mono H1.out.size)).alloc (H1.out.trans (hb2.mono H1.out.size)).size (clO cl0))
  have D2 := Lib.hid ((D1.out.bel hb2 D1.out.lt).bel hbx (D1.out.bel hb2 D1.out.lt).lt)
  have E2 := Lib.hid (CBlk.new w2 cl0)
  clear hb2 hbx H1 D1
  go_wp2_with fail
  refine (head_nil _).mono ?_
  rintro e w3 ⟨rfl, hb3⟩
  have hbx : Below w3.heap.size w3 (w3.alloc (clO cl0)) := (Below.refl _ _).alloc (Nat.le_refl _) _
  have H3 := Lib.hid ((H2.out.trans (hb3.mono H2.out.size)).alloc (H2.out.trans (hb3.mono H2.out.size)).size (clO cl0))
  have D3 := (D2.out.bel hb3 D2.out.lt).bel hbx (D2.out.bel hb3 D2.out.lt).lt
  have E3 := Lib.hid ((E2.out.bel hb3 E2.out.lt).bel hbx (E2.out.bel hb3 E2.out.lt).lt)
  have F3 := Lib.hid (CBlk.new w3 cl0)
  have d0 := D3.c0
  have d1 := D3.c1
  have d2 := D3.c2
  have d3 := D3.c3
  clear hb3 hbx H2 D2 E2 D3
  go_wp2_with fail
  refine (push_nil _ x).mono ?_
  rintro e w4 ⟨rfl, hb4⟩
  have H4 := Lib.hid (H3.out.trans (hb4.mono H3.out.size))
  have E4 := E3.out.bel hb4 E3.out.lt
  have F4 := F3.out.bel hb4 F3.out.lt
  have u0 := E4.c0
  have u1 := E4.c1
  have u2 := E4.c2
  have u3 := E4.c3
  have v0 := F4.c0
  have v1 := F4.c1
  have v2 := F4.c2
  have v3 := F4.c3
  have qe := eq_same cl0
  clear hb4 H3 E3 F3 E4 F4 d0 d1 d2 d3
  go_wp2_with fail
  refine (len_nil _).mono ?_
  rintro e w5 ⟨rfl, rfl⟩
  clear u0 u1 u2 u3 v0 v1 v2 v3
  go_wp2_with fail
  refine (room_nil _).mono ?_
  rintro e w5 ⟨rfl, rfl⟩
  go_wp2_with fail
  refine (all_nil _).mono ?_
  rintro e w5 ⟨A, c, rfl, -, hb5⟩
  have H5 := Lib.hid (H4.out.trans (hb5.mono H4.out.size))
  clear hb5 H4
  go_wp2
  go_ret
  exact ⟨rfl, H5.out⟩
end Go.Proofs.Ytkajajihjohenaa.Rng
