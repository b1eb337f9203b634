/- The contract of history's Find; of it at a nil history. -/
import Derived.Test.YtjiofhlmfmhhmaaZa
set_option maxRecDepth 100000
namespace Go.Proofs.Ytjiofhlmfmhhmaa.Hst
open Go.RowKit
open Go.Proofs.Ytjiofhlmfmhhmaa.Arn
set_option linter.unusedVariables false

/-- The first of R with that number. -/
def findO (R : List En) (q : Int) : Option En := R.find? fun x => x.sq == q
theorem findO_cons (x : En) (R : List En) (q : Int) : findO (x :: R) q = if x.sq = q then some x else findO R q := by
  unfold findO
  rw [List.find?_cons]
  by_cases h : x.sq = q
  · rw [if_pos h, show (x.sq == q) = true from by simp [h]]
  · rw [if_neg h, show (x.sq == q) = false from by simp [h]]
theorem findO_drop {R : List En} {k : Nat} {x : En} (q : Int) (hx : R[k]? = some x) : findO (R.drop k) q = if x.sq = q then some x else findO (R.drop (k + 1)) q := by
  obtain ⟨hk, rfl⟩ := List.getElem?_eq_some_iff.1 hx
  rw [List.drop_eq_getElem_cons hk, findO_cons]

set_option maxHeartbeats 4000000 in
theorem find_any (w : World) (b g C : Nat) (R : List En) (sq : Int) (hA : HIn w b g C R) :
    Calls Try.prog 11 #[.pointer (some ⟨b, 0, none⟩), .int .u16 sq] w fun e w' => e = .returned (.tuple #[enV ((findO R sq).getD en0), .bool (findO R sq).isSome]) ∧ Below w.heap.size w w' := by
  have hfit := hA.fit
  have CL : Hid (∀ W, Below w.heap.size w W → Calls Try.prog 16 #[.pointer (some ⟨b, 0, none⟩)] W fun e w' => e = .returned (.int .i64 R.length) ∧ Below W.heap.size W w') := fun W hW => kept_any W b g C R (hA.bel hW)
  have CP : Hid (∀ W k x, Below w.heap.size w W → R[k]? = some x → Calls Try.prog 17 #[.pointer (some ⟨b, 0, none⟩), .int .i64 (k : Nat)] W fun e w' => e = .returned (enV x) ∧ Below W.heap.size W w') := fun W k x hW hx => back_any W b g C R k x (hA.bel hW) hx
  have HB := Lib.hid ((Below.refl w.heap.size w).alloc (Nat.le_refl _) (enO en0))
  have D := Lib.hid (EBlk.new w en0)
  obtain ⟨F, hF⟩ : ∃ F, findO R sq = F := ⟨_, rfl⟩
  have HF : Hid (findO (R.drop 0) sq = F) := hF
  rw [hF]
  clear hA hF
  obtain ⟨n, hn⟩ : ∃ n, R.length = n := ⟨_, rfl⟩
  rw [hn] at CL hfit
  have HN := Lib.hid hn
  have hn64 : n ≤ 64 := by omega
  clear hn hfit
  obtain ⟨q, hq⟩ : ∃ q, w.heap.size = q := ⟨_, rfl⟩
  have HQ := Lib.hid hq
  rw [hq] at D
  go_enter Try.func11, Try.ntmps11
  go_wp2_with fail
  refine (CL.out _ HB.out).mono ?_
  rintro e w2 ⟨rfl, hb2⟩
  have H2 := Lib.hid (HB.out.trans (hb2.mono HB.out.size))
  have D2 := Lib.hid (D.out.more hb2)
  clear hb2 CL HB D hq
  go_wp2
  go_loopw [10] (fun si wx => ∃ k : Nat, k ≤ n ∧ si = .int .i64 k ∧ Hid (findO (R.drop k) sq = F) ∧ Hid (EBlk wx q en0) ∧ Hid (Below w.heap.size w wx)) (fun si _ => n - (intOf si).toNat)
  case atStart => exact ⟨0, by omega, rfl, HF, D2, H2⟩
  case round =>
    obtain ⟨k, hk, rfl, hf, hd, hb⟩ := hrel
    rename World => wx
    clear HF H2 D2
    by_cases hlt : k < n
    · obtain ⟨x, hx⟩ : ∃ x, R[k]? = some x := ⟨_, List.getElem?_eq_getElem (by rw [HN.out]; exact hlt)⟩
      have CP1 := Lib.hid (CP.out wx k x hb.out hx)
      have HFX := hf.out
      rw [findO_drop sq hx] at HFX
      have HFX := Lib.hid HFX
      clear hx hf CP
      go_wp2_with fail
      refine CP1.out.mono ?_
      rintro e w4 ⟨rfl, hb4⟩
      have hb5 : Below w4.heap.size w4 (w4.alloc (enO x)) := (Below.refl _ _).alloc (Nat.le_refl _) _
      have H5 := Lib.hid ((hb.out.trans (hb4.mono hb.out.size)).trans (hb5.mono (Nat.le_trans hb.out.size hb4.size)))
      have D5 := (hd.out.more hb4).more hb5
      have E5 := EBlk.new w4 x
      obtain ⟨p, hp⟩ : ∃ p, w4.heap.size = p := ⟨_, rfl⟩
      obtain ⟨w5, hw5⟩ : ∃ w5, w4.alloc (.cells #[.int .u16 x.sq, .int .i64 x.sl, .int .u32 x.gn, .int .u16 x.ps, .int .u32 x.pt, .int .u32 x.pc, .int .u16 x.pf] 34 (0, 0)) = w5 := ⟨_, rfl⟩
      rw [hp] at E5
      have D5 : EBlk w5 q en0 := hw5 ▸ D5
      have E5 : EBlk w5 p x := hw5 ▸ E5
      have H5 : Hid (Below w.heap.size w w5) := hw5 ▸ H5
      have e0 := E5.c0; have e1 := E5.c1; have e2 := E5.c2; have e3 := E5.c3; have e4 := E5.c4; have e5 := E5.c5; have e6 := E5.c6
      have HD5 := Lib.hid D5
      clear hb4 hb5 hd hb CP1
      by_cases hs : x.sq = sq
      · have hq1 : (x.sq == sq) = true := by simp [hs]
        have d0 := D5.c0; have d1 := D5.c1; have d2 := D5.c2; have d3 := D5.c3; have d4 := D5.c4; have d5 := D5.c5; have d6 := D5.c6
        have f0 := D5.frozen 0; have f1 := D5.frozen 1; have f2 := D5.frozen 2; have f3 := D5.frozen 3; have f4 := D5.frozen 4; have f5 := D5.frozen 5; have f6 := D5.frozen 6
        obtain ⟨w6, hw6⟩ : ∃ w6, ((((((w5.setCell ⟨q, 0, none⟩ (.int .u16 x.sq)).setCell ⟨q, 1, none⟩ (.int .i64 x.sl)).setCell ⟨q, 2, none⟩ (.int .u32 x.gn)).setCell ⟨q, 3, none⟩ (.int .u16 x.ps)).setCell ⟨q, 4, none⟩ (.int .u32 x.pt)).setCell ⟨q, 5, none⟩ (.int .u32 x.pc)).setCell ⟨q, 6, none⟩ (.int .u16 x.pf) = w6 := ⟨_, rfl⟩
        have D6 : Hid (EBlk w6 q x) := by rw [← hw6]; exact D5.store x
        have H6 : Hid (Below w.heap.size w w6) := by rw [← hw6]; exact bel_putE H5.out (Nat.le_of_eq HQ.out) x
        have HFX := HFX.out
        rw [if_pos hs] at HFX
        subst HFX
        have HE := Lib.hid hs
        clear hs D5 E5 HD5
        go_wp2_with fail
        exact retE_at Try.results11 D6.out ⟨rfl, H6.out⟩
      · have hq1 : (x.sq == sq) = false := by simp [hs]
        have HFX := HFX.out
        rw [if_neg hs] at HFX
        have HFX := Lib.hid HFX
        clear hs D5 E5
        go_wp2_with fail
        go_roundw
        case rel => exact ⟨k + 1, by omega, by go_num, HFX, HD5, H5⟩
        case measure => simp [intOf]; omega
    · obtain rfl : k = n := by omega
      have hf := hf.out
      rw [List.drop_of_length_le (by rw [HN.out]; exact Nat.le_refl _)] at hf
      subst hf
      have D5 := hd.out
      have d0 := D5.c0; have d1 := D5.c1; have d2 := D5.c2; have d3 := D5.c3; have d4 := D5.c4; have d5 := D5.c5; have d6 := D5.c6
      have f0 := D5.frozen 0; have f1 := D5.frozen 1; have f2 := D5.frozen 2; have f3 := D5.frozen 3; have f4 := D5.frozen 4; have f5 := D5.frozen 5; have f6 := D5.frozen 6
      obtain ⟨w6, hw6⟩ : ∃ w6, ((((((wx.setCell ⟨q, 0, none⟩ (.int .u16 0)).setCell ⟨q, 1, none⟩ (.int .i64 0)).setCell ⟨q, 2, none⟩ (.int .u32 0)).setCell ⟨q, 3, none⟩ (.int .u16 0)).setCell ⟨q, 4, none⟩ (.int .u32 0)).setCell ⟨q, 5, none⟩ (.int .u32 0)).setCell ⟨q, 6, none⟩ (.int .u16 0) = w6 := ⟨_, rfl⟩
      have D6 : Hid (EBlk w6 q en0) := by rw [← hw6]; exact D5.store en0
      have H6 : Hid (Below w.heap.size w w6) := by rw [← hw6]; exact bel_putE hb.out (Nat.le_of_eq HQ.out) en0
      clear CP HN D5 hd hb
      go_wp2_with fail
      exact retE_at Try.results11 D6.out ⟨rfl, H6.out⟩
set_option maxHeartbeats 4000000 in
theorem find_nil (w : World) (sq : Int) :
    Calls Try.prog 11 #[.pointer none, .int .u16 sq] w fun e w' => e = .returned (.tuple #[enV en0, .bool false]) ∧ Below w.heap.size w w' := by
  have HB := Lib.hid ((Below.refl w.heap.size w).alloc (Nat.le_refl _) (enO en0))
  have D := Lib.hid (EBlk.new w en0)
  obtain ⟨q, hq⟩ : ∃ q, w.heap.size = q := ⟨_, rfl⟩
  have HQ := Lib.hid hq
  rw [hq] at D
  go_enter Try.func11, Try.ntmps11
  go_wp2_with fail
  refine (kept_nil _).mono ?_
  rintro e w2 ⟨rfl, hb2⟩
  have H2 := Lib.hid (HB.out.trans (hb2.mono HB.out.size))
  have D2 := D.out.more hb2
  have d0 := D2.c0; have d1 := D2.c1; have d2 := D2.c2; have d3 := D2.c3; have d4 := D2.c4; have d5 := D2.c5; have d6 := D2.c6
  have f0 := D2.frozen 0; have f1 := D2.frozen 1; have f2 := D2.frozen 2; have f3 := D2.frozen 3; have f4 := D2.frozen 4; have f5 := D2.frozen 5; have f6 := D2.frozen 6
  obtain ⟨w6, hw6⟩ : ∃ w6, ((((((w2.setCell ⟨q, 0, none⟩ (.int .u16 0)).setCell ⟨q, 1, none⟩ (.int .i64 0)).setCell ⟨q, 2, none⟩ (.int .u32 0)).setCell ⟨q, 3, none⟩ (.int .u16 0)).setCell ⟨q, 4, none⟩ (.int .u32 0)).setCell ⟨q, 5, none⟩ (.int .u32 0)).setCell ⟨q, 6, none⟩ (.int .u16 0) = w6 := ⟨_, rfl⟩
  have D6 : Hid (EBlk w6 q en0) := by rw [← hw6]; exact D2.store en0
  have H6 : Hid (Below w.heap.size w w6) := by rw [← hw6]; exact bel_putE H2.out (Nat.le_of_eq HQ.out) en0
  clear hb2 HB D hq D2
  go_wp2
  go_loopw [10] (fun si wx => si = .int .i64 0 ∧ wx = w2) (fun _ _ => 0)
  case atStart => exact ⟨rfl, rfl⟩
  case round =>
    obtain ⟨rfl, rfl⟩ := hrel
    go_wp2_with fail
    exact retE_at Try.results11 D6.out ⟨rfl, H6.out⟩
end Go.Proofs.Ytjiofhlmfmhhmaa.Hst
