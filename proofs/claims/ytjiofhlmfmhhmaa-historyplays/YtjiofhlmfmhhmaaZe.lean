/- The reference's Last, Find, SameEntries; entries that are the same. -/
import Derived.Test.YtjiofhlmfmhhmaaZa
import Derived.Test.YtjiofhlmfmhhmaaZd
set_option maxRecDepth 100000
namespace Go.Proofs.Ytjiofhlmfmhhmaa.Hst
open Go.RowKit
open Go.Proofs.Ytjiofhlmfmhhmaa.Arn
set_option linter.unusedVariables false

theorem eq_same (x : En) (W : World) : (binOp .eql 34 (enV x) (enV x)).run Try.prog W = .ok (.bool true) W := by
  obtain ⟨a, b, c, d, e, f, g⟩ := x
  simp [go_sem]
theorem neq_same (x : En) (W : World) : (binOp .neq 34 (enV x) (enV x)).run Try.prog W = .ok (.bool false) W := by
  obtain ⟨a, b, c, d, e, f, g⟩ := x
  simp [go_sem]
theorem en_at {w : World} {B n k : Nat} {a : Option Addr} {xs : List En} (h : RowRd enL w B a n xs) (hk : k < n) : ∃ b off x, a = some ⟨b, off, none⟩ ∧ b < B ∧ xs[k]? = some x ∧ w.cell? ⟨b, off + k * 7, none⟩ = some (.int .u16 x.sq) ∧ w.cell? ⟨b, off + k * 7 + 1, none⟩ = some (.int .i64 x.sl) ∧ w.cell? ⟨b, off + k * 7 + 2, none⟩ = some (.int .u32 x.gn) ∧ w.cell? ⟨b, off + k * 7 + 3, none⟩ = some (.int .u16 x.ps) ∧ w.cell? ⟨b, off + k * 7 + 4, none⟩ = some (.int .u32 x.pt) ∧ w.cell? ⟨b, off + k * 7 + 5, none⟩ = some (.int .u32 x.pc) ∧ w.cell? ⟨b, off + k * 7 + 6, none⟩ = some (.int .u16 x.pf) := by
  obtain ⟨b, off, x, e, hlt, hx, hc⟩ := row_at h hk
  exact ⟨b, off, x, e, hlt, hx, hc 0 _ rfl, hc 1 _ rfl, hc 2 _ rfl, hc 3 _ rfl, hc 4 _ rfl, hc 5 _ rfl, hc 6 _ rfl⟩
theorem rd_drop {α : Type} {L : Lay α} {w : World} {B n k cap : Nat} {a X : Option Addr} {xs : List α} (h : RowRd L w B a n xs) (hk : k ≤ n) (hc : n ≤ cap) (hX : ∀ b off, a = some ⟨b, off, none⟩ → cap ≠ k → X = some ⟨b, off + k * L.s, none⟩) : RowRd L w B X (n - k) (xs.drop k) := by
  refine ⟨by rw [List.length_drop, h.1], fun hp => ?_⟩
  obtain ⟨b, off, e, hlt, hx⟩ := h.2 (by omega)
  refine ⟨b, off + k * L.s, hX b off e (by omega), hlt, fun i x hi j v hv => ?_⟩
  rw [List.getElem?_drop] at hi
  have := hx (k + i) x hi j v hv
  rw [← this, Nat.add_mul]
  congr 2
  omega

set_option maxHeartbeats 4000000 in
theorem rlast_any (w : World) (a : Option Addr) (n cap B : Nat) (xs : List En) (m : Int) (hr : RowRd enL w B a n xs) (hc : n ≤ cap) (hn : n ≤ 1000000) (hm1 : -9223372036854775808 ≤ m) (hm2 : m ≤ 9223372036854775807) :
    Calls Try.prog 9 #[.slice a n cap, .int .i64 m] w fun e w' => ∃ X c', e = .returned (.slice X (n - (n - capN m)) c') ∧ n - (n - capN m) ≤ c' ∧ RowRd enL w B X (n - (n - capN m)) (xs.drop (n - capN m)) ∧ (∀ b off, a = some ⟨b, off, none⟩ → 0 < n - (n - capN m) → X = some ⟨b, off + (n - capN m) * 7, none⟩) ∧ Below w.heap.size w w' := by
  obtain ⟨N, hN⟩ : ∃ N, capN m = N := ⟨_, rfl⟩
  have hN64 : N ≤ 64 := by rw [← hN]; exact capN_le m
  rw [hN]
  unfold capN at hN
  obtain ⟨k, hk⟩ : ∃ k, n - N = k := ⟨_, rfl⟩
  rw [hk]
  obtain ⟨m1, hm1'⟩ : ∃ m1 : Int, (if m < 0 then 0 else m) = m1 := ⟨_, rfl⟩
  have h1 : (if 64 < m1 then 64 else m1) = (N : Int) := by subst hm1'; split <;> split at * <;> omega
  have h2 : IntKind.i64.wrap ((n : Int) - N) = (n : Int) - N := IntWalk.i64_in _ (by omega)
  have h3 : (if (n : Int) - N < 0 then 0 else (n : Int) - N) = (k : Int) := by split <;> omega
  have hkn : k ≤ n := by omega
  obtain ⟨i0, hi0, hz0, hz1, hz2⟩ := info_parts info_en
  obtain ⟨X, hX, hf⟩ := rec_from (P := Try.prog) (t := 26) (e := 34) Try.underlying26 (by kernel_rfl) hi0 hz1 a n cap k (k : Int) rfl hkn
  have HD := Lib.hid (rd_drop hr hkn hc hX)
  have HC : Hid (n - k ≤ cap - k) := Nat.sub_le_sub_right hc k
  have HX : Hid (∀ b off, a = some ⟨b, off, none⟩ → 0 < n - k → X = some ⟨b, off + k * 7, none⟩) := fun b off e hp => hX b off e (by omega)
  clear hr hX hi0 hz0 hz1 hz2 hN hk hN64 hm1 hm2 hc
  go_enter Try.func9, Try.ntmps9
  go_wp2
  go_ret
  exact ⟨X, cap - k, rfl, HC.out, HD.out, HX.out, Below.refl _ _⟩

set_option maxHeartbeats 4000000 in
theorem rfind_any (w : World) (a : Option Addr) (n cap B : Nat) (xs : List En) (sq : Int) (hr : RowRd enL w B a n xs) (hB : B ≤ w.heap.size) (hn : n ≤ 1000000) :
    Calls Try.prog 12 #[.slice a n cap, .int .u16 sq] w fun e w' => e = .returned (.tuple #[enV ((findO xs.reverse sq).getD en0), .bool (findO xs.reverse sq).isSome]) ∧ Below w.heap.size w w' := by
  have HR := Lib.hid hr
  have HX := Lib.hid hr.1
  have HB := Lib.hid ((Below.refl w.heap.size w).alloc (Nat.le_refl _) (enO en0))
  have D := Lib.hid (EBlk.new w en0)
  obtain ⟨F, hF⟩ : ∃ F, findO xs.reverse sq = F := ⟨_, rfl⟩
  have HF : Hid (findO (xs.reverse.drop 0) sq = F) := hF
  rw [hF]
  clear hr hF
  obtain ⟨q, hq⟩ : ∃ q, w.heap.size = q := ⟨_, rfl⟩
  have HQ := Lib.hid hq
  have HBB := Lib.hid hB
  rw [hq] at D
  have q0 : IntKind.i64.wrap ((n : Int) - 1) = (n : Int) - 1 := IntWalk.i64_in _ (by omega)
  clear hB
  obtain ⟨w2, hw2⟩ : ∃ w2, w.alloc (enO en0) = w2 := ⟨_, rfl⟩
  have HB : Hid (Below w.heap.size w w2) := hw2 ▸ HB
  have D : Hid (EBlk w2 q en0) := hw2 ▸ D
  go_enter Try.func12, Try.ntmps12
  go_wp2
  clear hq hw2
  go_loopw [6] (fun si wx => ∃ (k : Nat) (i : Int), k ≤ n ∧ i = (n : Int) - 1 - k ∧ si = .int .i64 i ∧ Hid (findO (xs.reverse.drop k) sq = F) ∧ Hid (EBlk wx q en0) ∧ Hid (Below w.heap.size w wx)) (fun si _ => (intOf si + 1).toNat)
  case atStart => exact ⟨0, (n : Int) - 1, by omega, by omega, rfl, HF, D, HB⟩
  case round =>
    obtain ⟨k, i, hk, hi, rfl, hf, hd, hb⟩ := hrel
    rename World => wx
    clear HF D HB
    by_cases hlt : k < n
    · obtain ⟨j, hj⟩ : ∃ j, n - 1 - k = j := ⟨_, rfl⟩
      obtain rfl : i = (j : Int) := by omega
      have hjn : j < n := by omega
      obtain ⟨tb, toff, x, rfl, htb, hx, t0, t1, t2, t3, t4, t5, t6⟩ := en_at HR.out hjn
      have HTB : Hid (tb < w.heap.size) := Nat.lt_of_lt_of_le htb HBB.out
      have HX2 : xs.reverse[k]? = some x := by
        rw [List.getElem?_reverse (by rw [HX.out]; exact hlt), HX.out, hj]
        exact hx
      have HFX := hf.out
      rw [findO_drop sq HX2] at HFX
      have HFX := Lib.hid HFX
      have t0 : wx.cell? ⟨tb, toff + j * 7, none⟩ = some (.int .u16 x.sq) := (hb.out.cell (p := ⟨tb, toff + j * 7, none⟩) HTB.out).trans t0; have t1 : wx.cell? ⟨tb, toff + j * 7 + 1, none⟩ = some (.int .i64 x.sl) := (hb.out.cell (p := ⟨tb, toff + j * 7 + 1, none⟩) HTB.out).trans t1; have t2 : wx.cell? ⟨tb, toff + j * 7 + 2, none⟩ = some (.int .u32 x.gn) := (hb.out.cell (p := ⟨tb, toff + j * 7 + 2, none⟩) HTB.out).trans t2; have t3 : wx.cell? ⟨tb, toff + j * 7 + 3, none⟩ = some (.int .u16 x.ps) := (hb.out.cell (p := ⟨tb, toff + j * 7 + 3, none⟩) HTB.out).trans t3; have t4 : wx.cell? ⟨tb, toff + j * 7 + 4, none⟩ = some (.int .u32 x.pt) := (hb.out.cell (p := ⟨tb, toff + j * 7 + 4, none⟩) HTB.out).trans t4; have t5 : wx.cell? ⟨tb, toff + j * 7 + 5, none⟩ = some (.int .u32 x.pc) := (hb.out.cell (p := ⟨tb, toff + j * 7 + 5, none⟩) HTB.out).trans t5; have t6 : wx.cell? ⟨tb, toff + j * 7 + 6, none⟩ = some (.int .u16 x.pf) := (hb.out.cell (p := ⟨tb, toff + j * 7 + 6, none⟩) HTB.out).trans t6
      have hd0 : decide ((0 : Int) ≤ (j : Int)) = true := by simp
      have q1 : IntKind.i64.wrap ((j : Int) - 1) = (j : Int) - 1 := IntWalk.i64_in _ (by omega)
      have hj2 := Lib.hid hj
      have hi2 := Lib.hid hi
      clear hx HX2 hf htb hi hj
      by_cases hs : x.sq = sq
      · have hq1 : (x.sq == sq) = true := by simp [hs]
        have D5 := hd.out
        have d0 := D5.c0; have d1 := D5.c1; have d2 := D5.c2; have d3 := D5.c3; have d4 := D5.c4; have d5 := D5.c5; have d6 := D5.c6
        have f0 := D5.frozen 0; have f1 := D5.frozen 1; have f2 := D5.frozen 2; have f3 := D5.frozen 3; have f4 := D5.frozen 4; have f5 := D5.frozen 5; have f6 := D5.frozen 6
        obtain ⟨w6, hw6⟩ : ∃ w6, ((((((wx.setCell ⟨q, 0, none⟩ (.int .u16 x.sq)).setCell ⟨q, 1, none⟩ (.int .i64 x.sl)).setCell ⟨q, 2, none⟩ (.int .u32 x.gn)).setCell ⟨q, 3, none⟩ (.int .u16 x.ps)).setCell ⟨q, 4, none⟩ (.int .u32 x.pt)).setCell ⟨q, 5, none⟩ (.int .u32 x.pc)).setCell ⟨q, 6, none⟩ (.int .u16 x.pf) = w6 := ⟨_, rfl⟩
        have D6 : Hid (EBlk w6 q x) := by rw [← hw6]; exact D5.store x
        have H6 : Hid (Below w.heap.size w w6) := by rw [← hw6]; exact bel_putE hb.out (Nat.le_of_eq HQ.out) x
        have HFX := HFX.out
        rw [if_pos hs] at HFX
        subst HFX
        clear hs D5 hd hb
        go_wp2_with fail
        exact retE_at Try.results12 D6.out ⟨rfl, H6.out⟩
      · have hq1 : (x.sq == sq) = false := by simp [hs]
        have HFX := HFX.out
        rw [if_neg hs] at HFX
        have HFX := Lib.hid HFX
        clear hs t1 t2 t3 t4 t5 t6
        go_wp2_with fail
        go_roundw
        case rel => exact ⟨k + 1, (j : Int) - 1, by omega, by have := hj2.out; omega, by go_num, HFX, hd, hb⟩
        case measure => simp [intOf]
    · obtain rfl : k = n := by omega
      obtain rfl : i = -1 := by omega
      have hf := hf.out
      rw [List.drop_of_length_le (by rw [List.length_reverse, HX.out]; exact Nat.le_refl _)] at hf
      subst hf
      have D5 := hd.out
      have d0 := D5.c0; have d1 := D5.c1; have d2 := D5.c2; have d3 := D5.c3; have d4 := D5.c4; have d5 := D5.c5; have d6 := D5.c6
      have f0 := D5.frozen 0; have f1 := D5.frozen 1; have f2 := D5.frozen 2; have f3 := D5.frozen 3; have f4 := D5.frozen 4; have f5 := D5.frozen 5; have f6 := D5.frozen 6
      obtain ⟨w6, hw6⟩ : ∃ w6, ((((((wx.setCell ⟨q, 0, none⟩ (.int .u16 0)).setCell ⟨q, 1, none⟩ (.int .i64 0)).setCell ⟨q, 2, none⟩ (.int .u32 0)).setCell ⟨q, 3, none⟩ (.int .u16 0)).setCell ⟨q, 4, none⟩ (.int .u32 0)).setCell ⟨q, 5, none⟩ (.int .u32 0)).setCell ⟨q, 6, none⟩ (.int .u16 0) = w6 := ⟨_, rfl⟩
      have D6 : Hid (EBlk w6 q en0) := by rw [← hw6]; exact D5.store en0
      have H6 : Hid (Below w.heap.size w w6) := by rw [← hw6]; exact bel_putE hb.out (Nat.le_of_eq HQ.out) en0
      clear D5 hd hb
      go_wp2_with fail
      exact retE_at Try.results12 D6.out ⟨rfl, H6.out⟩

set_option maxHeartbeats 4000000 in
/-- Two rows of entries that read alike. -/
theorem same_any (w : World) (a a' : Option Addr) (n c c' B B' : Nat) (L : List En) (hr : RowRd enL w B a n L) (hr' : RowRd enL w B' a' n L) (hn : n ≤ 1024) :
    Calls Try.prog 13 #[.slice a n c, .slice a' n c'] w fun e w' => e = .returned (.bool true) ∧ Below w.heap.size w w' := by
  have HR := Lib.hid hr
  have HR' := Lib.hid hr'
  clear hr hr'
  go_enter Try.func13, Try.ntmps13
  go_wp2
  go_loopw [13] (fun si wx => ∃ k : Nat, k ≤ n ∧ si = .int .i64 k ∧ Hid (∀ p, wx.cell? p = w.cell? p) ∧ Hid (Below w.heap.size w wx)) (fun si _ => n - (intOf si).toNat)
  case atStart => exact ⟨0, by omega, rfl, fun p => rfl, Below.refl _ _⟩
  case round =>
    obtain ⟨k, hk, rfl, hc, hb⟩ := hrel
    rename World => wx
    by_cases hlt : k < n
    · have hd : decide (k < n) = true := by simp; exact hlt
      obtain ⟨b, off, x, rfl, _, hx, c0, c1, c2, c3, c4, c5, c6⟩ := en_at HR.out hlt
      obtain ⟨b', off', x', rfl, _, hx', e0, e1, e2, e3, e4, e5, e6⟩ := en_at HR'.out hlt
      rw [hx] at hx'
      obtain rfl := Option.some.inj hx'
      have hS : ∀ p, wx.drew.cell? p = w.cell? p := fun p => hc.out p
      have qn := neq_same x
      have f0 : ∀ W : World, (∀ p, W.cell? p = w.cell? p) → W.cell? ⟨b, off + k * 7, none⟩ = some (.int .u16 x.sq) := fun W h => (h _).trans c0; have g0 : ∀ W : World, (∀ p, W.cell? p = w.cell? p) → W.cell? ⟨b', off' + k * 7, none⟩ = some (.int .u16 x.sq) := fun W h => (h _).trans e0; have f1 : ∀ W : World, (∀ p, W.cell? p = w.cell? p) → W.cell? ⟨b, off + k * 7 + 1, none⟩ = some (.int .i64 x.sl) := fun W h => (h _).trans c1; have g1 : ∀ W : World, (∀ p, W.cell? p = w.cell? p) → W.cell? ⟨b', off' + k * 7 + 1, none⟩ = some (.int .i64 x.sl) := fun W h => (h _).trans e1; have f2 : ∀ W : World, (∀ p, W.cell? p = w.cell? p) → W.cell? ⟨b, off + k * 7 + 2, none⟩ = some (.int .u32 x.gn) := fun W h => (h _).trans c2; have g2 : ∀ W : World, (∀ p, W.cell? p = w.cell? p) → W.cell? ⟨b', off' + k * 7 + 2, none⟩ = some (.int .u32 x.gn) := fun W h => (h _).trans e2; have f3 : ∀ W : World, (∀ p, W.cell? p = w.cell? p) → W.cell? ⟨b, off + k * 7 + 3, none⟩ = some (.int .u16 x.ps) := fun W h => (h _).trans c3; have g3 : ∀ W : World, (∀ p, W.cell? p = w.cell? p) → W.cell? ⟨b', off' + k * 7 + 3, none⟩ = some (.int .u16 x.ps) := fun W h => (h _).trans e3; have f4 : ∀ W : World, (∀ p, W.cell? p = w.cell? p) → W.cell? ⟨b, off + k * 7 + 4, none⟩ = some (.int .u32 x.pt) := fun W h => (h _).trans c4; have g4 : ∀ W : World, (∀ p, W.cell? p = w.cell? p) → W.cell? ⟨b', off' + k * 7 + 4, none⟩ = some (.int .u32 x.pt) := fun W h => (h _).trans e4; have f5 : ∀ W : World, (∀ p, W.cell? p = w.cell? p) → W.cell? ⟨b, off + k * 7 + 5, none⟩ = some (.int .u32 x.pc) := fun W h => (h _).trans c5; have g5 : ∀ W : World, (∀ p, W.cell? p = w.cell? p) → W.cell? ⟨b', off' + k * 7 + 5, none⟩ = some (.int .u32 x.pc) := fun W h => (h _).trans e5; have f6 : ∀ W : World, (∀ p, W.cell? p = w.cell? p) → W.cell? ⟨b, off + k * 7 + 6, none⟩ = some (.int .u16 x.pf) := fun W h => (h _).trans c6; have g6 : ∀ W : World, (∀ p, W.cell? p = w.cell? p) → W.cell? ⟨b', off' + k * 7 + 6, none⟩ = some (.int .u16 x.pf) := fun W h => (h _).trans e6
      clear c0 c1 c2 c3 c4 c5 c6 e0 e1 e2 e3 e4 e5 e6
      go_wp2_with fail
      refine region_seq (fun W => ∀ p, W.cell? p = w.cell? p) [(0, false), (1, false), (2, false), (3, false), (4, false), (5, false), (6, false), (7, false), (8, false)] (by kernel_rfl) (by kernel_rfl) rfl (by kernel_rfl) ?_
      iterate 9 (refine seq_read (v := _) rfl (fun _ _ _ h => h) hS (Or.inl ⟨by rfl, fun W hW => by go_simp <;> with_reducible rfl⟩) ?_; simp only [Act.put, List.setIfInBounds_toArray, List.set_cons_zero, List.set_cons_succ])
      refine seq_end ?_
      go_wp2_with fail
      go_roundw
      case rel => exact ⟨k + 1, by omega, by go_num, hS, hb.out.drew⟩
      case measure => simp [intOf]; omega
    · obtain rfl : n = k := by omega
      have hd : decide (n < n) = false := by simp
      go_wp2
      go_ret
      exact ⟨rfl, hb.out⟩
end Go.Proofs.Ytjiofhlmfmhhmaa.Hst
