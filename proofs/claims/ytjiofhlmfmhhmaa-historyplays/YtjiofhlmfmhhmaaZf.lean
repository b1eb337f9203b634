/- The contract of the laws' shown; HistoryNone walked. -/
import Derived.Test.YtjiofhlmfmhhmaaZb
import Derived.Test.YtjiofhlmfmhhmaaZc
import Derived.Test.YtjiofhlmfmhhmaaZd
import Derived.Test.YtjiofhlmfmhhmaaZe
set_option maxRecDepth 100000
namespace Go.Proofs.Ytjiofhlmfmhhmaa.Hst
open Go.RowKit
open Go.Proofs.Ytjiofhlmfmhhmaa.Arn
set_option linter.unusedVariables false

abbrev enN (n : Int) : En := ⟨n, 0, 0, 0, 0, 0, 0⟩
set_option maxHeartbeats 4000000 in
theorem shown_any (w : World) : Calls Try.prog 7 #[] w fun e w' => e = .returned (.bool true) ∧ Below w.heap.size w w' := by
  have CN : Hid (Calls Try.prog 8 #[.int .i64 2] w (RetN w 2)) := new_any w 2 (by decide) (by decide)
  have q2 : capN 2 = 2 := by decide
  have C1 : Hid (∀ W b g, HIn W b g 2 [] → Calls Try.prog 10 #[.pointer (some ⟨b, 0, none⟩), .agg #[.int .u16 1, .int .i64 0, .int .u32 0, .int .u16 0, .int .u32 0, .int .u32 0, .int .u16 0]] W fun e w' => e = .returned (.tuple #[.agg #[.int .u16 0, .int .i64 0, .int .u32 0, .int .u16 0, .int .u32 0, .int .u32 0, .int .u16 0], .bool false]) ∧ HIn w' b g 2 [enN 1] ∧ Upd (fun k => k = b ∨ k = g) W w') := fun W b g h => push_any W b g 2 [] (enN 1) h
  have C2 : Hid (∀ W b g, HIn W b g 2 [enN 1] → Calls Try.prog 10 #[.pointer (some ⟨b, 0, none⟩), .agg #[.int .u16 2, .int .i64 0, .int .u32 0, .int .u16 0, .int .u32 0, .int .u32 0, .int .u16 0]] W fun e w' => e = .returned (.tuple #[.agg #[.int .u16 0, .int .i64 0, .int .u32 0, .int .u16 0, .int .u32 0, .int .u32 0, .int .u16 0], .bool false]) ∧ HIn w' b g 2 [enN 2, enN 1] ∧ Upd (fun k => k = b ∨ k = g) W w') := fun W b g h => push_any W b g 2 [enN 1] (enN 2) h
  have C3 : Hid (∀ W b g, HIn W b g 2 [enN 2, enN 1] → Calls Try.prog 10 #[.pointer (some ⟨b, 0, none⟩), .agg #[.int .u16 3, .int .i64 0, .int .u32 0, .int .u16 0, .int .u32 0, .int .u32 0, .int .u16 0]] W fun e w' => e = .returned (.tuple #[.agg #[.int .u16 1, .int .i64 0, .int .u32 0, .int .u16 0, .int .u32 0, .int .u32 0, .int .u16 0], .bool true]) ∧ HIn w' b g 2 [enN 3, enN 2] ∧ Upd (fun k => k = b ∨ k = g) W w') := fun W b g h => push_any W b g 2 [enN 2, enN 1] (enN 3) h
  have C4 : Hid (∀ W b g, HIn W b g 2 [enN 3, enN 2] → Calls Try.prog 11 #[.pointer (some ⟨b, 0, none⟩), .int .u16 2] W fun e w' => e = .returned (.tuple #[.agg #[.int .u16 2, .int .i64 0, .int .u32 0, .int .u16 0, .int .u32 0, .int .u32 0, .int .u16 0], .bool true]) ∧ Below W.heap.size W w') := fun W b g h => find_any W b g 2 _ 2 h
  have C5 : Hid (∀ W b g, HIn W b g 2 [enN 3, enN 2] → Calls Try.prog 11 #[.pointer (some ⟨b, 0, none⟩), .int .u16 1] W fun e w' => e = .returned (.tuple #[.agg #[.int .u16 0, .int .i64 0, .int .u32 0, .int .u16 0, .int .u32 0, .int .u32 0, .int .u16 0], .bool false]) ∧ Below W.heap.size W w') := fun W b g h => find_any W b g 2 _ 1 h
  have C6 : Hid (∀ W b g, HIn W b g 2 [enN 3, enN 2] → Calls Try.prog 15 #[.pointer (some ⟨b, 0, none⟩)] W fun e w' => ∃ A c, e = .returned (.slice A 2 c) ∧ Below W.heap.size W w') := fun W b g h => (all_any W b g 2 _ h).mono fun e w' ⟨A, c, h1, _, h2⟩ => ⟨A, c, h1, h2⟩
  have C7 : Hid (∀ W b g, HIn W b g 2 [enN 3, enN 2] → Calls Try.prog 14 #[.pointer (some ⟨b, 0, none⟩)] W fun e w' => ∃ A c, e = .returned (.slice A 2 c) ∧ HIn w' b g 2 [] ∧ Upd (fun k => k = b ∨ k = g) W w') := fun W b g h => (clear_any W b g 2 _ h).mono fun e w' ⟨A, c, h1, _, h2, h3⟩ => ⟨A, c, h1, h2, h3⟩
  have C8 : Hid (∀ W b g, HIn W b g 2 [] → Calls Try.prog 15 #[.pointer (some ⟨b, 0, none⟩)] W fun e w' => ∃ A c, e = .returned (.slice A 0 c) ∧ Below W.heap.size W w') := fun W b g h => (all_any W b g 2 _ h).mono fun e w' ⟨A, c, h1, _, h2⟩ => ⟨A, c, h1, h2⟩
  go_enter Try.func7, Try.ntmps7
  go_wp2_with fail
  refine CN.out.mono ?_
  rintro e w1 ⟨b, g, rfl, hA, hb, hg, hB⟩
  rw [q2] at hA
  have HA1 := Lib.hid hA
  have HB1 := Lib.hid hB
  have HS : Hid (∀ k, k = b ∨ k = g → w.heap.size ≤ k) := Lib.hid (fun k hk => by rcases hk with rfl | rfl; exact hb; exact hg)
  clear hA hB hb hg CN
  go_wp2_with fail
  refine (C1.out _ b g HA1.out).mono ?_
  rintro e w2 ⟨rfl, hA, hU⟩
  have hbx : Below w2.heap.size w2 (w2.alloc (enO en0)) := (Below.refl _ _).alloc (Nat.le_refl _) _
  have HB2 := Lib.hid ((HB1.out.trans (hU.below HB1.out.size HS.out)).trans (hbx.mono (HB1.out.trans (hU.below HB1.out.size HS.out)).size))
  have HA2 := Lib.hid (hA.bel hbx)
  clear hA hU hbx HA1 HB1 C1
  go_wp2_with fail
  refine (C2.out _ b g HA2.out).mono ?_
  rintro e w3 ⟨rfl, hA, hU⟩
  have hbx : Below w3.heap.size w3 (w3.alloc (enO en0)) := (Below.refl _ _).alloc (Nat.le_refl _) _
  have HB3 := Lib.hid ((HB2.out.trans (hU.below HB2.out.size HS.out)).trans (hbx.mono (HB2.out.trans (hU.below HB2.out.size HS.out)).size))
  have HA3 := Lib.hid (hA.bel hbx)
  clear hA hU hbx HA2 HB2 C2
  go_wp2_with fail
  refine (C3.out _ b g HA3.out).mono ?_
  rintro e w4 ⟨rfl, hA, hU⟩
  have hbx : Below w4.heap.size w4 (w4.alloc (enO (enN 1))) := (Below.refl _ _).alloc (Nat.le_refl _) _
  have HB4 := Lib.hid ((HB3.out.trans (hU.below HB3.out.size HS.out)).trans (hbx.mono (HB3.out.trans (hU.below HB3.out.size HS.out)).size))
  have HA4 := Lib.hid (hA.bel hbx)
  have D4 := Lib.hid (EBlk.new w4 (enN 1))
  clear hA hU hbx HA3 HB3 C3
  go_wp2_with fail
  refine (C4.out _ b g HA4.out).mono ?_
  rintro e w5 ⟨rfl, hU⟩
  have hbx : Below w5.heap.size w5 (w5.alloc (enO (enN 2))) := (Below.refl _ _).alloc (Nat.le_refl _) _
  have HB5 := Lib.hid ((HB4.out.trans (hU.mono HB4.out.size)).trans (hbx.mono (HB4.out.trans (hU.mono HB4.out.size)).size))
  have HA5 := Lib.hid ((HA4.out.bel hU).bel hbx)
  have D5 := Lib.hid ((D4.out.more hU).more hbx)
  have E5 := Lib.hid (EBlk.new w5 (enN 2))
  clear hU hbx HA4 HB4 C4 D4
  go_wp2_with fail
  refine (C5.out _ b g HA5.out).mono ?_
  rintro e w6 ⟨rfl, hU⟩
  have hbx : Below w6.heap.size w6 (w6.alloc (enO en0)) := (Below.refl _ _).alloc (Nat.le_refl _) _
  have HB6 := Lib.hid ((HB5.out.trans (hU.mono HB5.out.size)).trans (hbx.mono (HB5.out.trans (hU.mono HB5.out.size)).size))
  have HA6 := Lib.hid ((HA5.out.bel hU).bel hbx)
  have d0 := ((D5.out.more hU).more hbx).c0
  have e0 := ((E5.out.more hU).more hbx).c0
  clear hU hbx HA5 HB5 C5 D5 E5
  go_wp2_with fail
  refine (C6.out _ b g HA6.out).mono ?_
  rintro e w7 ⟨A, c, rfl, hU⟩
  have HB7 := Lib.hid (HB6.out.trans (hU.mono HB6.out.size))
  have HA7 := Lib.hid (HA6.out.bel hU)
  clear hU HA6 HB6 C6 d0 e0
  go_wp2_with fail
  refine (C7.out _ b g HA7.out).mono ?_
  rintro e w8 ⟨A, c, rfl, hA, hU⟩
  have HB8 := Lib.hid (HB7.out.trans (hU.below HB7.out.size HS.out))
  have HA8 := Lib.hid hA
  clear hA hU HA7 HB7 C7
  go_wp2_with fail
  refine (C8.out _ b g HA8.out).mono ?_
  rintro e w9 ⟨A, c, rfl, hU⟩
  have HB9 := Lib.hid (HB8.out.trans (hU.mono HB8.out.size))
  clear hU HA8 HB8 C8
  go_wp2
  go_ret
  exact ⟨rfl, HB9.out⟩

set_option maxHeartbeats 4000000 in
theorem none_any (w : World) (x : En) : Calls Try.prog 6 #[enV x] w fun e w' => e = .returned (.bool true) ∧ Below w.heap.size w w' := by
  have HB := Lib.hid ((Below.refl w.heap.size w).alloc (Nat.le_refl _) (enO x))
  have D := Lib.hid (EBlk.new w x)
  have CS := Lib.hid (fun W => shown_any W)
  obtain ⟨q, hq⟩ : ∃ q, w.heap.size = q := ⟨_, rfl⟩
  rw [hq] at D
  go_enter Try.func6, Try.ntmps6
  go_wp2_with fail
  refine (CS.out _).mono ?_
  rintro e w1 ⟨rfl, hb1⟩
  have H1 := Lib.hid (HB.out.trans (hb1.mono HB.out.size))
  have D1 := D.out.more hb1
  have d0 := D1.c0; have d1 := D1.c1; have d2 := D1.c2; have d3 := D1.c3; have d4 := D1.c4; have d5 := D1.c5; have d6 := D1.c6
  have D1 := Lib.hid D1
  clear hb1 HB D CS
  go_wp2_with fail
  refine (push_nil _ x).mono ?_
  rintro e w2 ⟨rfl, hb2⟩
  have hbx : Below w2.heap.size w2 (w2.alloc (enO x)) := (Below.refl _ _).alloc (Nat.le_refl _) _
  have H2 := Lib.hid ((H1.out.trans (hb2.mono H1.out.size)).trans (hbx.mono (H1.out.trans (hb2.mono H1.out.size)).size))
  have D2 := (D1.out.more hb2).more hbx
  have E2 := Lib.hid (EBlk.new w2 x)
  clear d0 d1 d2 d3 d4 d5 d6
  have d0 := D2.c0; have d1 := D2.c1; have d2 := D2.c2; have d3 := D2.c3; have d4 := D2.c4; have d5 := D2.c5; have d6 := D2.c6
  have D2 := Lib.hid D2
  clear hb2 hbx H1 D1
  go_wp2_with fail
  refine (find_nil _ _).mono ?_
  rintro e w3 ⟨rfl, hb3⟩
  have hbx : Below w3.heap.size w3 (w3.alloc (enO en0)) := (Below.refl _ _).alloc (Nat.le_refl _) _
  have H3 := Lib.hid ((H2.out.trans (hb3.mono H2.out.size)).trans (hbx.mono (H2.out.trans (hb3.mono H2.out.size)).size))
  have D3 := (D2.out.more hb3).more hbx
  have E3 := (E2.out.more hb3).more hbx
  have F3 := EBlk.new w3 en0
  clear d0 d1 d2 d3 d4 d5 d6
  have d0 := D3.c0; have d1 := D3.c1; have d2 := D3.c2; have d3 := D3.c3; have d4 := D3.c4; have d5 := D3.c5; have d6 := D3.c6
  have e0 := E3.c0; have e1 := E3.c1; have e2 := E3.c2; have e3 := E3.c3; have e4 := E3.c4; have e5 := E3.c5; have e6 := E3.c6
  have f0 := F3.c0; have f1 := F3.c1; have f2 := F3.c2; have f3 := F3.c3; have f4 := F3.c4; have f5 := F3.c5; have f6 := F3.c6
  have qe := eq_same x
  have qf := eq_same en0
  clear hb3 hbx H2 D2 E2 D3 E3 F3
  go_wp2_with fail
  refine (all_nil _).mono ?_
  rintro e w5 ⟨A, c, rfl, -, hb5⟩
  have H5 := Lib.hid (H3.out.trans (hb5.mono H3.out.size))
  clear hb5 H3 d0 d1 d2 d3 d4 d5 d6 e0 e1 e2 e3 e4 e5 e6 f0 f1 f2 f3 f4 f5 f6 qe qf
  go_wp2_with fail
  refine (clear_nil _).mono ?_
  rintro e w6 ⟨A, c, rfl, -, hb6⟩
  have H6 := Lib.hid (H5.out.trans (hb6.mono H5.out.size))
  clear hb6 H5
  go_wp2
  go_ret
  exact ⟨rfl, H6.out⟩
end Go.Proofs.Ytjiofhlmfmhhmaa.Hst
