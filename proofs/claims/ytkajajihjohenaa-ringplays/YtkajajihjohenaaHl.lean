/- RingFirst walked: the ring with the rows of what went in and what came out. -/
import Derived.Test.YtkajajihjohenaaHk
import Derived.Test.YtkajajihjohenaaHj
set_option maxRecDepth 100000
namespace Go.Proofs.Ytkajajihjohenaa.Rng
open Go.RowKit
open Go.Proofs.Ytkajajihjohenaa.Arn
set_option linter.unusedVariables false

theorem ract_at {w : World} {B n k : Nat} {a : Option Addr} {xs : List Ract} (h : RowRd ractL w B a n xs) (hk : k < n) : ∃ b off x, a = some ⟨b, off, none⟩ ∧ b < B ∧ xs[k]? = some x ∧ w.cell? ⟨b, off + k * 5, none⟩ = some (.bool x.1) ∧ w.cell? ⟨b, off + k * 5 + 1, none⟩ = some (.int .i64 x.2.1) ∧ w.cell? ⟨b, off + k * 5 + 2, none⟩ = some (.int .i64 x.2.2.1) ∧ w.cell? ⟨b, off + k * 5 + 3, none⟩ = some (.int .i64 x.2.2.2.1) ∧ w.cell? ⟨b, off + k * 5 + 4, none⟩ = some (.int .u32 x.2.2.2.2) := by
  obtain ⟨b, off, x, e, hlt, hx, hc⟩ := row_at h hk
  exact ⟨b, off, x, e, hlt, hx, hc 0 _ rfl, hc 1 _ rfl, hc 2 _ rfl, hc 3 _ rfl, hc 4 _ rfl⟩
/-- The ring, the row I of what went in, the row O of what came out. -/
structure Fst (w0 w : World) (base b g C : Nat) (AI : Option Addr) (cI : Nat) (I : List Cl) (AO : Option Addr) (cO : Nat) (O L : List Cl) : Prop where
  rg : RIn w b g C L
  bel : Below w0.heap.size w0 w
  ri : RowOwn celL w base AI I.length cI I
  ro : RowOwn celL w base AO O.length cO O
  sep : ∀ k, AI = some ⟨k, 0, none⟩ → AO ≠ some ⟨k, 0, none⟩
  lo : w0.heap.size ≤ b ∧ w0.heap.size ≤ g ∧ b < base ∧ g < base ∧ base ≤ w.heap.size
section
variable {w0 w w' : World} {base b g C cI cO c' : Nat} {AI AO A' : Option Addr} {I I' O O' L L' : List Cl}
theorem Fst.more (h : Fst w0 w base b g C AI cI I AO cO O L) (hb : Below w.heap.size w w') : Fst w0 w' base b g C AI cI I AO cO O L :=
  ⟨h.rg.bel hb, h.bel.trans (hb.mono h.bel.size), h.ri.bel hb, h.ro.bel hb, h.sep, ⟨h.lo.1, h.lo.2.1, h.lo.2.2.1, h.lo.2.2.2.1, Nat.le_trans h.lo.2.2.2.2 hb.size⟩⟩
theorem Fst.step (h : Fst w0 w base b g C AI cI I AO cO O L) (hr : RIn w' b g C L') (hu : Upd (fun k => k = b ∨ k = g) w w') : Fst w0 w' base b g C AI cI I AO cO O L' := by
  have hlo := h.lo
  refine ⟨hr, h.bel.trans (hu.below h.bel.size (fun k hk => by omega)), h.ri.upd hu (fun k hk => ?_), h.ro.upd hu (fun k hk => ?_), h.sep, ⟨hlo.1, hlo.2.1, hlo.2.2.1, hlo.2.2.2.1, Nat.le_trans hlo.2.2.2.2 hu.size⟩⟩
  · have := (h.ri.lt_at hk).1; omega
  · have := (h.ro.lt_at hk).1; omega
theorem Fst.addI (h : Fst w0 w base b g C AI cI I AO cO O L) (hr : RowOwn celL w' base A' I'.length c' I') (hu : Upd (fun k => AI = some ⟨k, 0, none⟩) w w') (hk : ∀ k, A' = some ⟨k, 0, none⟩ → AI = some ⟨k, 0, none⟩ ∨ k = w.heap.size) : Fst w0 w' base b g C A' c' I' AO cO O L := by
  have hlo := h.lo
  have hb : ∀ k, AI = some ⟨k, 0, none⟩ → base ≤ k := fun k e => (h.ri.lt_at e).1
  refine ⟨h.rg.upd hu (fun e => by have := hb _ e; omega) (fun e => by have := hb _ e; omega), h.bel.trans (hu.below h.bel.size (fun k e => by have := hb _ e; omega)), hr, h.ro.upd hu (fun k e e2 => h.sep k e2 e), fun k e e2 => ?_, ⟨hlo.1, hlo.2.1, hlo.2.2.1, hlo.2.2.2.1, Nat.le_trans hlo.2.2.2.2 hu.size⟩⟩
  rcases hk k e with e3 | e3
  · exact h.sep k e3 e2
  · have := (h.ro.lt_at e2).2; omega
theorem Fst.addO (h : Fst w0 w base b g C AI cI I AO cO O L) (hr : RowOwn celL w' base A' O'.length c' O') (hu : Upd (fun k => AO = some ⟨k, 0, none⟩) w w') (hk : ∀ k, A' = some ⟨k, 0, none⟩ → AO = some ⟨k, 0, none⟩ ∨ k = w.heap.size) : Fst w0 w' base b g C AI cI I A' c' O' L := by
  have hlo := h.lo
  have hb : ∀ k, AO = some ⟨k, 0, none⟩ → base ≤ k := fun k e => (h.ro.lt_at e).1
  refine ⟨h.rg.upd hu (fun e => by have := hb _ e; omega) (fun e => by have := hb _ e; omega), h.bel.trans (hu.below h.bel.size (fun k e => by have := hb _ e; omega)), h.ri.upd hu (fun k e e2 => h.sep k e e2), hr, fun k e e2 => ?_, ⟨hlo.1, hlo.2.1, hlo.2.2.1, hlo.2.2.2.1, Nat.le_trans hlo.2.2.2.2 hu.size⟩⟩
  rcases hk k e2 with e3 | e3
  · exact h.sep k e e3
  · have := (h.ri.lt_at e).2; omega
theorem Fst.push (h : Fst w0 w base b g C AI cI I AO cO O L) (y : Cl) : Calls Try.prog 12 #[.pointer (some ⟨b, 0, none⟩), clV y] w fun e w' => e = .returned (.bool (decide (L.length < C))) ∧ Fst w0 w' base b g C AI cI I AO cO O (pushL C L y) := by
  refine (push_any w b g C L y h.rg).mono ?_
  rintro e w' ⟨rfl, hr, hu⟩
  exact ⟨rfl, h.step hr hu⟩
theorem Fst.pop (h : Fst w0 w base b g C AI cI I AO cO O L) : Calls Try.prog 10 #[.pointer (some ⟨b, 0, none⟩)] w fun e w' => e = .returned (.tuple #[clV (headV L), .bool (decide (0 < L.length))]) ∧ Fst w0 w' base b g C AI cI I AO cO O L.tail := by
  refine (pop_any w b g C L h.rg).mono ?_
  rintro e w' ⟨rfl, hr, hu⟩
  exact ⟨rfl, h.step hr hu⟩
theorem Fst.all (h : Fst w0 w base b g C AI cI I AO cO O L) : Calls Try.prog 18 #[.pointer (some ⟨b, 0, none⟩)] w fun e w' => ∃ A c, e = .returned (.slice A L.length c) ∧ RowRd celL w' w'.heap.size A L.length L ∧ Fst w0 w' base b g C AI cI I AO cO O L := by
  refine (all_any w b g C L h.rg).mono ?_
  rintro e w' ⟨A, c, rfl, hr, hb⟩
  exact ⟨A, c, rfl, hr.rd, h.more hb⟩
end

set_option maxHeartbeats 8000000 in
theorem first_any (w : World) (n : Int) (a : Option Addr) (cap : Nat) (xs : List Ract) (hn1 : -9223372036854775808 ≤ n) (hn2 : n ≤ 9223372036854775807) (hr : RowRd ractL w w.heap.size a xs.length xs) (hc : xs.length ≤ cap) (hb : xs.length * 40 ≤ 140737488351232) :
    Calls Try.prog 4 #[.int .i64 n, .slice a xs.length cap] w fun e w' => e = .returned (.bool true) ∧ Below w.heap.size w w' := by
  have CS := Lib.hid (shown_any w)
  have CN := Lib.hid (fun W => new_any W n hn1 hn2)
  obtain ⟨C, hC⟩ : ∃ C, capN n = C := ⟨_, rfl⟩
  have hC1 : C ≤ 256 := by rw [← hC]; exact (capN_le n).2
  have HC := Lib.hid hC
  have HR := Lib.hid hr
  obtain ⟨m, hm⟩ : ∃ m, xs.length = m := ⟨_, rfl⟩
  rw [hm] at hc hb ⊢
  have HM := Lib.hid hm
  obtain ⟨i0, hi0, hz0, hz1, hz2⟩ := info_parts info_cel
  have HI := Lib.hid (And.intro hi0 (And.intro hz0 (And.intro hz1 hz2)))
  clear hC hr hm hn1 hn2 hc hi0 hz0 hz1 hz2
  go_enter Try.func4, Try.ntmps4
  go_wp2_with fail
  refine CS.out.mono ?_
  rintro e w1 ⟨rfl, hb1⟩
  have H1 := Lib.hid hb1
  clear hb1 CS
  go_wp2_with fail
  refine (CN.out _).mono ?_
  rintro e w2 ⟨b, g, rfl, hA, hbb, hg, hB⟩
  rw [HC.out] at hA
  have HF : Hid (Fst w w2 w2.heap.size b g C none 0 [] none 0 [] []) := Lib.hid ⟨⟨_, _, hA⟩, H1.out.trans (hB.mono H1.out.size), RowOwn.nil _ _, RowOwn.nil _ _, (fun k e => by cases e), ⟨Nat.le_trans H1.out.size hbb, Nat.le_trans H1.out.size hg, hA.lt.1, hA.lt.2, Nat.le_refl _⟩⟩
  clear hA hbb hg hB H1 CN
  obtain ⟨base, hbase⟩ : ∃ base, w2.heap.size = base := ⟨_, rfl⟩
  rw [hbase] at HF
  clear hbase
  go_wp2
  go_loopw [6, 7, 8] (fun s6 s7 s8 wx => ∃ (i : Nat) (AI : Option Addr) (cI : Nat) (I : List Cl) (AO : Option Addr) (cO : Nat) (O L : List Cl) (nI nO : Nat), i ≤ m ∧ i ≤ 400 ∧ nI ≤ i ∧ nO ≤ i ∧ s6 = .slice AI nI cI ∧ s7 = .slice AO nO cO ∧ s8 = .int .i64 i ∧ Hid (Fst w wx base b g C AI cI I AO cO O L) ∧ Hid (O ++ L = I) ∧ Hid (I.length = nI ∧ O.length = nO)) (fun _ _ s8 _ => m - (intOf s8).toNat)
  case atStart => exact ⟨0, none, 0, [], none, 0, [], [], 0, 0, by omega, by omega, by omega, by omega, rfl, rfl, rfl, HF, Lib.hid rfl, Lib.hid ⟨rfl, rfl⟩⟩
  case round =>
    obtain ⟨i, AI, cI, I, AO, cO, O, L, nI, nO, him, hi4, hnI, hnO, rfl, rfl, rfl, hF, hE, hN⟩ := hrel
    rename World => wx
    clear HF
    by_cases h1 : i < m
    · have hd1 : decide (i < m) = true := by simp; exact h1
      by_cases h2 : i < 400
      · have hd2 : decide ((i : Int) < 400) = true := by simp; omega
        obtain ⟨tb, toff, ⟨pb, x⟩, rfl, htb, hx, a0, a1, a2, a3, a4⟩ := ract_at (by have := HR.out; rw [HM.out] at this; exact this) h1
        have T0 := Lib.hid (fun (W : World) (hW : Below w.heap.size w W) => (hW.cell (p := ⟨tb, toff + i * 5, none⟩) htb).trans a0)
        have T1 := Lib.hid (fun (W : World) (hW : Below w.heap.size w W) => (hW.cell (p := ⟨tb, toff + i * 5 + 1, none⟩) htb).trans a1)
        have T2 := Lib.hid (fun (W : World) (hW : Below w.heap.size w W) => (hW.cell (p := ⟨tb, toff + i * 5 + 2, none⟩) htb).trans a2)
        have T3 := Lib.hid (fun (W : World) (hW : Below w.heap.size w W) => (hW.cell (p := ⟨tb, toff + i * 5 + 3, none⟩) htb).trans a3)
        have T4 := Lib.hid (fun (W : World) (hW : Below w.heap.size w W) => (hW.cell (p := ⟨tb, toff + i * 5 + 4, none⟩) htb).trans a4)
        have b0 := T0.out wx hF.out.bel
        clear a0 a1 a2 a3 a4 hx htb
        cases pb with
        | true =>
          have CP := Lib.hid hF.out.pop
          clear hF
          rcases L with _ | ⟨y, r⟩
          · rw [show headV [] = cl0 from rfl, show decide (0 < ([] : List Cl).length) = false from rfl, show ([] : List Cl).tail = [] from rfl] at CP
            go_wp2_with fail
            refine CP.out.mono ?_
            rintro e w3 ⟨rfl, hF⟩
            have HF := Lib.hid (hF.more ((Below.refl _ _).alloc (Nat.le_refl _) (clO cl0)))
            clear hF CP b0
            go_wp2_with fail
            go_roundw
            case rel => exact ⟨i + 1, AI, cI, I, AO, cO, O, [], nI, nO, by omega, by omega, by omega, by omega, rfl, rfl, by go_num, HF, hE, hN⟩
            case measure => simp [intOf]; omega
          · rw [show headV (y :: r) = y from rfl, show decide (0 < (y :: r).length) = true from by simp, List.tail_cons] at CP
            go_wp2_with fail
            refine CP.out.mono ?_
            rintro e w3 ⟨rfl, hF⟩
            have hF3 := hF.more ((Below.refl _ _).alloc (Nat.le_refl _) (clO y))
            have E3 := CBlk.new w3 y
            have v0 := E3.c0
            have v1 := E3.c1
            have v2 := E3.c2
            have v3 := E3.c3
            clear hF CP b0 E3
            have HF4 := Lib.hid (hF3.more ((Below.refl (w3.alloc (clO y)).heap.size (w3.alloc (clO y))).alloc (Nat.le_refl _) (clO y)))
            have X4 : Hid (RowRd celL ((w3.alloc (clO y)).alloc (clO y)) (w3.heap.size + 1 + 1) (some ⟨w3.heap.size + 1, 0, none⟩) 1 [y]) := by
              have := one_rec celL (w3.alloc (clO y)) y
              rw [show (w3.alloc (clO y)).heap.size = w3.heap.size + 1 from by simp] at this
              exact this
            have HO : Hid (RowOwn celL ((w3.alloc (clO y)).alloc (clO y)) base AO nO cO O) := by have := HF4.out.ro; rw [hN.out.2] at this; exact this
            have HS := Lib.hid HF4.out.lo.2.2.2.2
            have HE2 : Hid ((O ++ [y]) ++ r = I) := by rw [List.append_assoc]; exact hE
            have HL2 : Hid (I.length = nI ∧ (O ++ [y]).length = nO + 1) := Lib.hid ⟨hN.out.1, by rw [List.length_append, hN.out.2]; rfl⟩
            clear hF3
            go_wp2_with (at_builtin; refine wpList_append_upd (L := celL) (N := nO + 1) (by rfl) (.tmp 36) (.tmp 38) rfl Try.underlying38 HI.out.1 HI.out.2.1 HI.out.2.2.1 HI.out.2.2.2 rfl (O ++ [y]) rfl rfl rfl rfl HO.out X4.out HS.out (by unfold maxLen; omega) (by omega) ?_; intro A9 c9 w9 ho9 hu9 hk9)
            have HF9 : Hid (Fst w w9 base b g C AI cI I A9 c9 (O ++ [y]) r) := HF4.out.addO (by rw [HL2.out.2]; exact ho9) hu9 hk9
            clear ho9 hu9 hk9 HF4 X4 HO HS v0 v1 v2 v3
            go_roundw
            case rel => exact ⟨i + 1, AI, cI, I, A9, c9, O ++ [y], r, nI, nO + 1, by omega, by omega, by omega, by omega, rfl, rfl, by go_num, HF9, HE2, HL2⟩
            case measure => simp [intOf]; omega
        | false =>
          have CP := Lib.hid (hF.out.push x)
          have b1 := T1.out wx hF.out.bel
          have b2 := T2.out wx hF.out.bel
          have b3 := T3.out wx hF.out.bel
          have b4 := T4.out wx hF.out.bel
          clear hF
          by_cases hL : L.length < C
          · rw [decide_eq_true hL, pushL_yes hL] at CP
            clear hL
            go_wp2_with fail
            refine CP.out.mono ?_
            rintro e w3 ⟨rfl, hF⟩
            have c1 := T1.out w3 hF.bel
            have c2 := T2.out w3 hF.bel
            have c3 := T3.out w3 hF.bel
            have c4 := T4.out w3 hF.bel
            have HF4 := Lib.hid (hF.more ((Below.refl w3.heap.size w3).alloc (Nat.le_refl _) (clO x)))
            have X4 := Lib.hid (one_rec celL w3 x)
            have HO : Hid (RowOwn celL (w3.alloc (clO x)) base AI nI cI I) := by have := HF4.out.ri; rw [hN.out.1] at this; exact this
            have HS := Lib.hid HF4.out.lo.2.2.2.2
            have HE2 : Hid (O ++ (L ++ [x]) = I ++ [x]) := Lib.hid (by rw [← List.append_assoc, hE.out])
            have HL2 : Hid ((I ++ [x]).length = nI + 1 ∧ O.length = nO) := Lib.hid ⟨by rw [List.length_append, hN.out.1]; rfl, hN.out.2⟩
            clear hF CP b0 b1 b2 b3 b4
            go_wp2_with (at_builtin; refine wpList_append_upd (L := celL) (N := nI + 1) (by rfl) (.tmp 47) (.tmp 53) rfl Try.underlying38 HI.out.1 HI.out.2.1 HI.out.2.2.1 HI.out.2.2.2 rfl (I ++ [x]) rfl rfl rfl rfl HO.out X4.out HS.out (by unfold maxLen; omega) (by omega) ?_; intro A9 c9 w9 ho9 hu9 hk9)
            have HF9 : Hid (Fst w w9 base b g C A9 c9 (I ++ [x]) AO cO O (L ++ [x])) := HF4.out.addI (by rw [HL2.out.1]; exact ho9) hu9 hk9
            clear ho9 hu9 hk9 HF4 X4 HO HS c1 c2 c3 c4
            go_roundw
            case rel => exact ⟨i + 1, A9, c9, I ++ [x], AO, cO, O, L ++ [x], nI + 1, nO, by omega, by omega, by omega, by omega, rfl, rfl, by go_num, HF9, HE2, HL2⟩
            case measure => simp [intOf]; omega
          · rw [decide_eq_false hL, pushL_no hL] at CP
            clear hL
            go_wp2_with fail
            refine CP.out.mono ?_
            rintro e w3 ⟨rfl, hF⟩
            have HF := Lib.hid hF
            clear hF CP b0 b1 b2 b3 b4
            go_wp2_with fail
            go_roundw
            case rel => exact ⟨i + 1, AI, cI, I, AO, cO, O, L, nI, nO, by omega, by omega, by omega, by omega, rfl, rfl, by go_num, HF, hE, hN⟩
            case measure => simp [intOf]; omega
      · obtain rfl : i = 400 := by omega
        have CA := Lib.hid hF.out.all
        have HN2 : Hid (nO + L.length = nI) := Lib.hid (by rw [← hN.out.1, ← hN.out.2, ← hE.out, List.length_append])
        clear hF
        go_wp2_with fail
        refine CA.out.mono ?_
        rintro e w3 ⟨A, c, rfl, hr3, hF⟩
        have HO : Hid (RowOwn celL w3 base AO nO cO O) := by have := hF.ro; rw [hN.out.2] at this; exact this
        have HS := Lib.hid hF.lo.2.2.2.2
        have HF3 := Lib.hid hF
        have X3 := Lib.hid hr3
        obtain ⟨l, hl⟩ : ∃ l, L.length = l := ⟨_, rfl⟩
        have hn2 := HN2.out
        rw [hl] at X3 hn2 ⊢
        clear hF hr3 CA hl
        go_wp2_with (at_builtin; refine wpList_append_upd (L := celL) (N := nI) (by rfl) (.tmp 55) (.tmp 57) rfl Try.underlying38 HI.out.1 HI.out.2.1 HI.out.2.2.1 HI.out.2.2.2 rfl I hn2 hE.out rfl rfl HO.out X3.out HS.out (by unfold maxLen; omega) (by omega) ?_; intro A9 c9 w9 ho9 hu9 hk9)
        have HF9 : Fst w w9 base b g C AI cI I A9 c9 I L := HF3.out.addO (by rw [hN.out.1]; exact ho9) hu9 hk9
        have CC := Lib.hid (same_any w9 A9 AI nI c9 cI _ _ I ho9.rd (by have := HF9.ri.rd; rw [hN.out.1] at this; exact this) (by omega))
        have HB9 := Lib.hid HF9.bel
        clear ho9 hu9 hk9 HF3 X3 HO HS HF9
        go_wp2_with fail
        refine CC.out.mono ?_
        rintro e w10 ⟨rfl, hb10⟩
        have HB10 := Lib.hid (HB9.out.trans (hb10.mono HB9.out.size))
        clear hb10 CC HB9
        go_wp2
        go_ret
        exact ⟨rfl, HB10.out⟩
    · obtain rfl : i = m := by omega
      have hd1 : decide (i < i) = false := by simp
      have CA := Lib.hid hF.out.all
      have HN2 : Hid (nO + L.length = nI) := Lib.hid (by rw [← hN.out.1, ← hN.out.2, ← hE.out, List.length_append])
      clear hF
      go_wp2_with fail
      refine CA.out.mono ?_
      rintro e w3 ⟨A, c, rfl, hr3, hF⟩
      have HO : Hid (RowOwn celL w3 base AO nO cO O) := by have := hF.ro; rw [hN.out.2] at this; exact this
      have HS := Lib.hid hF.lo.2.2.2.2
      have HF3 := Lib.hid hF
      have X3 := Lib.hid hr3
      obtain ⟨l, hl⟩ : ∃ l, L.length = l := ⟨_, rfl⟩
      have hn2 := HN2.out
      rw [hl] at X3 hn2 ⊢
      clear hF hr3 CA hl
      go_wp2_with (at_builtin; refine wpList_append_upd (L := celL) (N := nI) (by rfl) (.tmp 55) (.tmp 57) rfl Try.underlying38 HI.out.1 HI.out.2.1 HI.out.2.2.1 HI.out.2.2.2 rfl I hn2 hE.out rfl rfl HO.out X3.out HS.out (by unfold maxLen; omega) (by omega) ?_; intro A9 c9 w9 ho9 hu9 hk9)
      have HF9 : Fst w w9 base b g C AI cI I A9 c9 I L := HF3.out.addO (by rw [hN.out.1]; exact ho9) hu9 hk9
      have CC := Lib.hid (same_any w9 A9 AI nI c9 cI _ _ I ho9.rd (by have := HF9.ri.rd; rw [hN.out.1] at this; exact this) (by omega))
      have HB9 := Lib.hid HF9.bel
      clear ho9 hu9 hk9 HF3 X3 HO HS HF9
      go_wp2_with fail
      refine CC.out.mono ?_
      rintro e w10 ⟨rfl, hb10⟩
      have HB10 := Lib.hid (HB9.out.trans (hb10.mono HB9.out.size))
      clear hb10 CC HB9
      go_wp2
      go_ret
      exact ⟨rfl, HB10.out⟩
end Go.Proofs.Ytkajajihjohenaa.Rng
