/- The contract of the laws' 'shown'; ArenaNone walked. -/
import Derived.Test.YtachodjpiklpkaaEj
set_option maxRecDepth 100000
namespace Go.Proofs.Ytachodjpiklpkaa.Arn
open Go.RowKit
set_option linter.unusedVariables false

theorem okS_one (a b c d : Int) (h : (0 ≤ a ∧ a < 4294967296) ∧ (0 ≤ b ∧ b ≤ 9) ∧ (0 ≤ c ∧ c < 4294967296) ∧ (0 ≤ d ∧ d ≤ 9)) : OkS 9 [(a, b), (c, d)] := fun x hx => by
  simp only [List.mem_cons, List.not_mem_nil, or_false] at hx
  rcases hx with rfl | rfl
  · exact ⟨h.1, h.2.1.1, h.2.1.2⟩
  · exact ⟨h.2.2.1, h.2.2.2.1, h.2.2.2.2⟩
theorem eq_hnd (s g s' g' : Int) (W : World) : (binOp .eql 31 (hnV s g) (hnV s' g')).run Try.prog W = .ok (.bool (s == s' && g == g')) W := by
  by_cases h : s = s'
  · subst h
    by_cases h2 : g = g'
    · subst h2; simp [go_sem]
    · simp [go_sem, h2]
  · simp [go_sem, h]
theorem neq_hnd (s g s' g' : Int) (W : World) : (binOp .neq 31 (hnV s g) (hnV s' g')).run Try.prog W = .ok (.bool (!(s == s' && g == g'))) W := by
  by_cases h : s = s'
  · subst h
    by_cases h2 : g = g'
    · subst h2; simp [go_sem]
    · simp [go_sem, h2]
  · simp [go_sem, h]
set_option maxHeartbeats 4000000 in
theorem shown_any (w : World) : Calls Try.prog 7 #[] w fun e w' => e = .returned (.bool true) ∧ Below w.heap.size w w' := by
  have CN : Hid (Calls Try.prog 8 #[.int .i64 2] w (RetA w 2)) := new_any w 2 (by decide) (by decide)
  have q2 : newL 2 = [(1, 0), (1, 0)] := by decide
  have CT : Hid (∀ W b g, Ar W b g [(1, 0), (1, 0)] → Calls Try.prog 11 #[.pointer (some ⟨b, 0, none⟩)] W fun e w' => e = .returned (.tuple #[hnV 0 1, .int .i64 0]) ∧ Ar w' b g [(1, 1), (1, 0)] ∧ Upd (· = g) W w') := fun W b g h => take_any W b g _ h (by decide)
  have CK : Hid (∀ W b g, Ar W b g [(1, 1), (1, 0)] → Calls Try.prog 13 #[.pointer (some ⟨b, 0, none⟩), hnV 0 1] W fun e w' => e = .returned (.int .i64 0) ∧ Ar w' b g [(1, 2), (1, 0)] ∧ Upd (· = g) W w') := fun W b g h => keep_any W b g _ 0 1 9 h (by decide) (okS_one _ _ _ _ (by decide)) (by decide)
  have CR : Hid (∀ W b g, Ar W b g [(1, 2), (1, 0)] → Calls Try.prog 17 #[.pointer (some ⟨b, 0, none⟩), hnV 0 1] W fun e w' => e = .returned (.int .i64 2) ∧ Below W.heap.size W w') := fun W b g h => refs_any W b g _ 0 1 9 h (by decide) (okS_one _ _ _ _ (by decide))
  have CD1 : Hid (∀ W b g, Ar W b g [(1, 2), (1, 0)] → Calls Try.prog 15 #[.pointer (some ⟨b, 0, none⟩), hnV 0 1] W fun e w' => e = .returned (.int .i64 0) ∧ Ar w' b g [(1, 1), (1, 0)] ∧ Upd (· = g) W w') := fun W b g h => drop_any W b g _ 0 1 9 h (by decide) (okS_one _ _ _ _ (by decide)) (by decide)
  have CD2 : Hid (∀ W b g, Ar W b g [(1, 1), (1, 0)] → Calls Try.prog 15 #[.pointer (some ⟨b, 0, none⟩), hnV 0 1] W fun e w' => e = .returned (.int .i64 0) ∧ Ar w' b g [(2, 0), (1, 0)] ∧ Upd (· = g) W w') := fun W b g h => drop_any W b g _ 0 1 9 h (by decide) (okS_one _ _ _ _ (by decide)) (by decide)
  have CF : Hid (∀ W b g, Ar W b g [(2, 0), (1, 0)] → Calls Try.prog 19 #[.pointer (some ⟨b, 0, none⟩)] W fun e w' => e = .returned (.int .i64 2) ∧ Below W.heap.size W w') := fun W b g h => free_any W b g _ h (by decide)
  have CK2 : Hid (∀ W b g, Ar W b g [(2, 0), (1, 0)] → Calls Try.prog 13 #[.pointer (some ⟨b, 0, none⟩), hnV 0 1] W fun e w' => e = .returned (.int .i64 7) ∧ Ar w' b g [(2, 0), (1, 0)] ∧ Upd (· = g) W w') := fun W b g h => keep_any W b g _ 0 1 9 h (by decide) (okS_one _ _ _ _ (by decide)) (by decide)
  have CS : Hid (∀ W b g, Ar W b g [(2, 0), (1, 0)] → Calls Try.prog 22 #[.pointer (some ⟨b, 0, none⟩)] W (RetS W [(2, 0), (1, 0)])) := fun W b g h => slots_any W b g _ h (by decide)
  go_enter Try.func7, Try.ntmps7
  go_wp2_with fail
  refine CN.out.mono ?_
  rintro e w1 ⟨b, g, rfl, hA, hb, hg, hB⟩
  rw [q2] at hA
  have HA1 := Lib.hid hA
  have HB1 := Lib.hid hB
  have HL := Lib.hid (And.intro hb hg)
  clear hA hB hb hg CN
  go_wp2_with fail
  refine (CT.out _ b g HA1.out).mono ?_
  rintro e w2 ⟨rfl, hA, hU⟩
  have HB2 := Lib.hid (HB1.out.trans (hU.below HB1.out.size (fun k hk => hk ▸ HL.out.2)))
  have HA3 := Lib.hid (hA.bel ((Below.refl _ _).alloc (Nat.le_refl _) (hnO 0 1)))
  have HB3 := Lib.hid (HB2.out.alloc HB2.out.size (hnO 0 1))
  have HH := Lib.hid (HBlk.new w2 0 1)
  have HQ := Lib.hid (show g < w2.heap.size from hA.lt.2)
  have c0 := HH.out.c0
  have c1 := HH.out.c1
  clear hA hU HA1 HB1 HB2 CT
  go_wp2_with fail
  refine (CK.out _ b g HA3.out).mono ?_
  rintro e w4 ⟨rfl, hA, hU⟩
  have HB4 := Lib.hid (HB3.out.trans (hU.below HB3.out.size (fun k hk => hk ▸ HL.out.2)))
  have HH4 := Lib.hid (HH.out.upd hU (by show _ ≠ _; have := HQ.out; omega))
  have HA4 := Lib.hid hA
  obtain ⟨q, hq⟩ : ∃ q, w2.heap.size = q := ⟨_, rfl⟩
  rw [hq] at HH4 HQ ⊢
  clear hA hU HA3 HB3 CK c0 c1 HH hq
  have c0 := HH4.out.c0
  have c1 := HH4.out.c1
  go_wp2_with fail
  refine (CR.out _ b g HA4.out).mono ?_
  rintro e w5 ⟨rfl, hU⟩
  have HB5 := Lib.hid (HB4.out.trans (hU.mono HB4.out.size))
  have HH5 := Lib.hid (HH4.out.bel hU HH4.out.lt)
  have HA5 := Lib.hid (HA4.out.bel hU)
  clear hU HA4 HB4 CR c0 c1 HH4
  have c0 := HH5.out.c0
  have c1 := HH5.out.c1
  go_wp2_with fail
  refine (CD1.out _ b g HA5.out).mono ?_
  rintro e w6 ⟨rfl, hA, hU⟩
  have HB6 := Lib.hid (HB5.out.trans (hU.below HB5.out.size (fun k hk => hk ▸ HL.out.2)))
  have HH6 := Lib.hid (HH5.out.upd hU (by show _ ≠ _; have := HQ.out; omega))
  have HA6 := Lib.hid hA
  clear hA hU HA5 HB5 CD1 c0 c1 HH5
  have c0 := HH6.out.c0
  have c1 := HH6.out.c1
  go_wp2_with fail
  refine (CD2.out _ b g HA6.out).mono ?_
  rintro e w7 ⟨rfl, hA, hU⟩
  have HB7 := Lib.hid (HB6.out.trans (hU.below HB6.out.size (fun k hk => hk ▸ HL.out.2)))
  have HH7 := Lib.hid (HH6.out.upd hU (by show _ ≠ _; have := HQ.out; omega))
  have HA7 := Lib.hid hA
  clear hA hU HA6 HB6 CD2 c0 c1 HH6
  have c0 := HH7.out.c0
  have c1 := HH7.out.c1
  go_wp2_with fail
  refine (CF.out _ b g HA7.out).mono ?_
  rintro e w8 ⟨rfl, hU⟩
  have HB8 := Lib.hid (HB7.out.trans (hU.mono HB7.out.size))
  have HH8 := Lib.hid (HH7.out.bel hU HH7.out.lt)
  have HA8 := Lib.hid (HA7.out.bel hU)
  clear hU HA7 HB7 CF c0 c1 HH7
  have c0 := HH8.out.c0
  have c1 := HH8.out.c1
  go_wp2_with fail
  refine (CK2.out _ b g HA8.out).mono ?_
  rintro e w9 ⟨rfl, hA, hU⟩
  have HB9 := Lib.hid (HB8.out.trans (hU.below HB8.out.size (fun k hk => hk ▸ HL.out.2)))
  have HA9 := Lib.hid hA
  clear hA hU HA8 HB8 CK2 c0 c1 HH8
  go_wp2_with fail
  refine (CS.out _ b g HA9.out).mono ?_
  rintro e w10 ⟨A1, k1, rfl, -, hU⟩
  have HB10 := Lib.hid (HB9.out.trans (hU.mono HB9.out.size))
  have HA10 := Lib.hid (HA9.out.bel hU)
  clear hU HA9 HB9
  go_wp2_with fail
  refine (CS.out _ b g HA10.out).mono ?_
  rintro e w11 ⟨A2, k2, rfl, ho, hU⟩
  have HB11 := Lib.hid (HB10.out.trans (hU.mono HB10.out.size))
  obtain ⟨b', off, x, rfl, _, hx, d0, d1⟩ := slot_at ho.rd (show 0 < 2 by decide)
  obtain rfl : ((2, 0) : Slt) = x := Option.some.inj hx
  simp only [Nat.add_zero, Nat.zero_mul] at d0 d1
  clear hU HA10 HB10 ho
  go_wp2_with fail
  go_ret
  exact ⟨rfl, HB11.out⟩
end Go.Proofs.Ytachodjpiklpkaa.Arn
