/- HistoryRow walked. -/
import Derived.Test.YtjiofhlmfmhhmaaZg
import Derived.Deep.CutRange
import Derived.Deep.CutBlock
import Derived.Deep.Cut
set_option maxRecDepth 100000
namespace Go.Proofs.Ytjiofhlmfmhhmaa.Hst
open Go.RowKit
open Go.Proofs.Ytjiofhlmfmhhmaa.Arn
set_option linter.unusedVariables false

theorem wrap16 (n : Int) : IntKind.u16.wrap n = n % 65536 := by
  simp only [IntKind.wrap, IntKind.bits, IntKind.signed]
  simp
theorem wrap32 (n : Int) : IntKind.u32.wrap n = n % 4294967296 := by
  simp only [IntKind.wrap, IntKind.bits, IntKind.signed]
  simp
/-- The k-th entry of the row. -/
def rowE (f : Int) (k : Nat) : En := ⟨(f + k) % 65536, 0, 0, 0, k, 0, 0⟩
/-- The first k of them, the last one first. -/
def rowT (f : Int) : Nat → List En
  | 0 => []
  | k + 1 => rowE f k :: rowT f k
theorem rowT_find (f q : Int) (a : Nat) (hq : 0 ≤ q ∧ q ≤ 65535) (ha : (q - f) % 65536 = a) : ∀ (k C : Nat), k ≤ 300 →
    findO ((rowT f k).take C) q = if a < k ∧ k ≤ a + C then some ⟨q, 0, 0, 0, a, 0, 0⟩ else none := by
  intro k
  induction k with
  | zero => intro C _; rw [if_neg (by omega)]; simp [rowT, findO]
  | succ k ih =>
    intro C hk
    cases C with
    | zero => rw [if_neg (by omega)]; rfl
    | succ c =>
      rw [rowT, List.take_succ_cons, findO_cons]
      by_cases h : (rowE f k).sq = q
      · have h1 : (f + k) % 65536 = q := h
        obtain rfl : a = k := by omega
        rw [if_pos h, if_pos (by omega)]
        unfold rowE
        rw [h1]
      · have h1 : ¬ (f + k) % 65536 = q := h
        rw [if_neg h, ih c (by omega)]
        have hne : a ≠ k := by rintro rfl; omega
        by_cases h2 : a < k ∧ k ≤ a + c
        · rw [if_pos h2, if_pos (by omega)]
        · rw [if_neg h2, if_neg (by omega)]

set_option maxHeartbeats 4000000 in
theorem row_any (w : World) (n f m q : Int) (hn1 : -9223372036854775808 ≤ n) (hn2 : n ≤ 9223372036854775807) (hf : 0 ≤ f ∧ f ≤ 65535) (hq : 0 ≤ q ∧ q ≤ 65535) :
    Calls Try.prog 5 #[.int .i64 n, .int .u16 f, .int .i64 m, .int .u16 q] w fun e w' => e = .returned (.bool true) ∧ Below w.heap.size w w' := by
  have CS := Lib.hid (fun W => shown_any W)
  by_cases hm : m < 0 ∨ 300 < m
  · have hd : decide (m < 0) = true ∨ (decide (m < 0) = false ∧ decide (300 < m) = true) := by
      rcases hm with h | h
      · exact .inl (by simp; exact h)
      · exact .inr ⟨by simp; omega, by simp; exact h⟩
    clear hm
    rcases hd with h | ⟨h, h'⟩
    · go_enter Try.func5, Try.ntmps5
      go_wp2_with fail
      refine (CS.out _).mono ?_
      rintro e w1 ⟨rfl, hb⟩
      go_wp2
      go_ret
      exact ⟨rfl, hb⟩
    · go_enter Try.func5, Try.ntmps5
      go_wp2_with fail
      refine (CS.out _).mono ?_
      rintro e w1 ⟨rfl, hb⟩
      go_wp2
      go_ret
      exact ⟨rfl, hb⟩
  obtain ⟨M, rfl⟩ : ∃ M : Nat, m = M := ⟨m.toNat, by omega⟩
  have hM : M ≤ 300 := by omega
  have hd1 : decide ((M : Int) < 0) = false := by simp
  have hd2 : decide (300 < (M : Int)) = false := by simp; omega
  clear hm
  have CN := Lib.hid (fun W => new_any W n hn1 hn2)
  obtain ⟨C, hC⟩ : ∃ C, capN n = C := ⟨_, rfl⟩
  have hC64 : C ≤ 64 := by rw [← hC]; exact capN_le n
  have HC3 : Hid (C = min (max n 0) 64) := by unfold capN at hC; show (C : Int) = min (max n 0) 64; omega
  have HC := Lib.hid hC
  obtain ⟨a, ha⟩ : ∃ a : Nat, (q - f) % 65536 = a := ⟨((q - f) % 65536).toNat, by omega⟩
  have ha6 : a < 65536 := by omega
  have HT := Lib.hid (rowT_find f q a hq ha M C hM)
  have qa : IntKind.u16.wrap (q - f) = (a : Int) := by rw [wrap16]; exact ha
  have qb : IntKind.i64.wrap (a : Int) = (a : Int) := IntWalk.i64_in _ (by omega)
  have qc : IntKind.u32.wrap (a : Int) = (a : Int) := by rw [wrap32]; omega
  clear hC ha hn1 hn2
  go_enter Try.func5, Try.ntmps5
  go_wp2_with fail
  refine (CS.out _).mono ?_
  rintro e w1 ⟨rfl, hb⟩
  have H1 := Lib.hid hb
  clear hb CS
  go_wp2_with fail
  refine (CN.out _).mono ?_
  rintro e w2 ⟨b, g, rfl, hA, hb, hg, hB⟩
  rw [HC.out] at hA
  have H2 : Hid (Hld w w2 b g C []) := Lib.hid ⟨hA, H1.out.trans (hB.mono H1.out.size), Nat.le_trans H1.out.size hb, Nat.le_trans H1.out.size hg⟩
  clear hA hb hg hB H1 CN
  go_wp2
  go_loopw [10] (fun si wx => ∃ k : Nat, k ≤ M ∧ si = .int .i64 k ∧ Hid (Hld w wx b g C ((rowT f k).take C))) (fun si _ => M - (intOf si).toNat)
  case atStart => exact ⟨0, by omega, rfl, by rw [show (rowT f 0).take C = [] from by simp [rowT]]; exact H2⟩
  case round =>
    obtain ⟨k, hk, rfl, hr⟩ := hrel
    rename World => wx
    clear H2
    by_cases hlt : k < M
    · have hdk : decide (k < M) = true := by simp; exact hlt
      have k1 : IntKind.u16.wrap (k : Int) = (k : Int) := by rw [wrap16]; omega
      have k2 : IntKind.u32.wrap (k : Int) = (k : Int) := by rw [wrap32]; omega
      have CP := Lib.hid (hr.out.push (rowE f k))
      rw [take_push C (rowE f k) (rowT f k)] at CP
      unfold rowE at CP
      obtain ⟨s, hs⟩ : ∃ s, (f + (k : Int)) % 65536 = s := ⟨_, rfl⟩
      have k3 : IntKind.u16.wrap (f + (k : Int)) = s := by rw [wrap16]; exact hs
      rw [hs] at CP
      have HS := Lib.hid hs
      clear hs hr
      go_wp2_with fail
      refine CP.out.mono ?_
      rintro e w3 ⟨rfl, hr, -⟩
      have H3 : Hid (Hld w w3 b g C ((rowT f (k + 1)).take C)) := by rw [rowT, rowE, HS.out]; exact hr
      clear hr CP
      go_wp2_with fail
      go_roundw
      case rel => exact ⟨k + 1, by omega, by go_num, H3⟩
      case measure => simp [intOf]; omega
    · obtain rfl : k = M := by omega
      have hdk : decide (k < k) = false := by simp
      have CF := Lib.hid (hr.out.find q)
      rw [HT.out] at CF
      obtain ⟨kp, hkp⟩ : ∃ kp : Nat, min k C = kp := ⟨_, rfl⟩
      have HKP := Lib.hid hkp
      obtain ⟨j, hj⟩ : ∃ j : Nat, k - kp = j := ⟨_, rfl⟩
      have hk2 : IntKind.i64.wrap ((k : Int) - kp) = (j : Int) := by rw [IntWalk.i64_in _ (by omega)]; omega
      clear hr HT
      by_cases h1 : a < k
      · have hda : decide (a < k) = true := by simp; exact h1
        by_cases h2 : k ≤ a + C
        · have hdb : decide (j ≤ a) = true := by simp; omega
          rw [if_pos ⟨h1, h2⟩] at CF
          clear hkp hj
          go_wp2_with fail
          refine CF.out.mono ?_
          rintro e w3 ⟨rfl, hr, -⟩
          have D := Lib.hid (EBlk.new w3 ⟨q, 0, 0, 0, a, 0, 0⟩)
          have H4 := Lib.hid (hr.alloc (enO ⟨q, 0, 0, 0, a, 0, 0⟩)).bel
          clear hr CF
          go_upto_region 12 with fail
          obtain ⟨w4, hw4⟩ : ∃ w4, w3.alloc (enO ⟨q, 0, 0, 0, a, 0, 0⟩) = w4 := ⟨_, rfl⟩
          obtain ⟨p, hp⟩ : ∃ p, w3.heap.size = p := ⟨_, rfl⟩
          rw [hw4, hp] at D
          rw [hw4] at H4
          rw [hw4, hp]
          clear hw4 hp
          have d0 := D.out.c0
          have d4 := D.out.c4
          clear D
          go_cut [14] from 51 to 55 (fun v wx => v = .int .i64 kp ∧ wx = w4)
          case first =>
            clear hk2
            go_wp2
            all_goals
              go_meet
              exact ⟨congrArg (Value.int .i64) (by have := HC3.out; have := HKP.out; omega), rfl⟩
          case rest =>
          obtain ⟨rfl, rfl⟩ := hcut
          go_wp2
          go_ret
          exact ⟨rfl, H4.out⟩
        · have hdb : decide (j ≤ a) = false := by simp; omega
          rw [if_neg (fun h => h2 h.2)] at CF
          clear hkp hj
          go_wp2_with fail
          refine CF.out.mono ?_
          rintro e w3 ⟨rfl, hr, -⟩
          have D := Lib.hid (EBlk.new w3 en0)
          have H4 := Lib.hid (hr.alloc (enO en0)).bel
          clear hr CF
          go_upto_region 12 with fail
          obtain ⟨w4, hw4⟩ : ∃ w4, w3.alloc (enO en0) = w4 := ⟨_, rfl⟩
          obtain ⟨p, hp⟩ : ∃ p, w3.heap.size = p := ⟨_, rfl⟩
          rw [hw4, hp] at D
          rw [hw4] at H4
          rw [hw4, hp]
          clear hw4 hp
          clear D
          go_cut [14] from 51 to 55 (fun v wx => v = .int .i64 kp ∧ wx = w4)
          case first =>
            clear hk2
            go_wp2
            all_goals
              go_meet
              exact ⟨congrArg (Value.int .i64) (by have := HC3.out; have := HKP.out; omega), rfl⟩
          case rest =>
          obtain ⟨rfl, rfl⟩ := hcut
          go_wp2
          go_ret
          exact ⟨rfl, H4.out⟩
      · have hda : decide (a < k) = false := by simp; omega
        rw [if_neg (fun h => h1 h.1)] at CF
        clear hkp hj
        go_wp2_with fail
        refine CF.out.mono ?_
        rintro e w3 ⟨rfl, hr, -⟩
        have D := Lib.hid (EBlk.new w3 en0)
        have H4 := Lib.hid (hr.alloc (enO en0)).bel
        clear hr CF
        go_upto_region 12 with fail
        obtain ⟨w4, hw4⟩ : ∃ w4, w3.alloc (enO en0) = w4 := ⟨_, rfl⟩
        obtain ⟨p, hp⟩ : ∃ p, w3.heap.size = p := ⟨_, rfl⟩
        rw [hw4, hp] at D
        rw [hw4] at H4
        rw [hw4, hp]
        clear hw4 hp
        clear D
        go_cut [14] from 51 to 55 (fun v wx => v = .int .i64 kp ∧ wx = w4)
        case first =>
          clear hk2
          go_wp2
          all_goals
            go_meet
            exact ⟨congrArg (Value.int .i64) (by have := HC3.out; have := HKP.out; omega), rfl⟩
        case rest =>
        obtain ⟨rfl, rfl⟩ := hcut
        go_wp2
        go_ret
        exact ⟨rfl, H4.out⟩
end Go.Proofs.Ytjiofhlmfmhhmaa.Hst
