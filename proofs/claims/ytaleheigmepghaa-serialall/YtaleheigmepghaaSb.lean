/- The reference's answers on numbers that go round. -/
import Derived.Test.YtaleheigmepghaaSa
import Derived.Deep.Cut
import Derived.Deep.DeepCutAuto
namespace Go.Proofs.Ytaleheigmepghaa
open Go.RowKit
set_option linter.unusedVariables false

set_option maxHeartbeats 400000 in
theorem rdiff16_any (a b : Int) (w : World) (ha : 0 ≤ a) (ha2 : a ≤ 65535) (hb : 0 ≤ b) (hb2 : b ≤ 65535) :
    Calls Try.prog 10 #[.int .u16 a, .int .u16 b] w fun e w' => e = .returned (.int .i64 (d16 a b)) ∧ w = w' := by
  go_enter Try.func10, Try.ntmps10
  go_wp2
  all_goals
    go_ret
    exact ⟨ret_int (by unfold d16; omega), rfl⟩
set_option maxHeartbeats 400000 in
theorem rdiff32_any (a b : Int) (w : World) (ha : 0 ≤ a) (ha2 : a ≤ 4294967295) (hb : 0 ≤ b) (hb2 : b ≤ 4294967295) :
    Calls Try.prog 11 #[.int .u32 a, .int .u32 b] w fun e w' => e = .returned (.int .i64 (d32 a b)) ∧ w = w' := by
  go_enter Try.func11, Try.ntmps11
  go_wp2
  all_goals
    go_ret
    exact ⟨ret_int (by unfold d32; omega), rfl⟩

def far (a b : Int) : Int := if a < b then b - a else a - b
set_option maxHeartbeats 400000 in
theorem far_any (a b : Int) (w : World) (ha : 0 ≤ a) (ha2 : a ≤ 4503599627370496) (hb : 0 ≤ b) (hb2 : b ≤ 4503599627370496) :
    Calls Try.prog 18 #[.int .i64 a, .int .i64 b] w fun e w' => e = .returned (.int .i64 (far a b)) ∧ w = w' := by
  by_cases h : a < b
  · go_enter Try.func18, Try.ntmps18
    go_wp2
    go_ret
    exact ⟨ret_int (by unfold far; rw [if_pos h]), rfl⟩
  · go_enter Try.func18, Try.ntmps18
    go_wp2
    go_ret
    exact ⟨ret_int (by unfold far; rw [if_neg (by omega)]), rfl⟩

/-- One round of the reference's search. -/
def near (l s k best : Int) : Int := if 0 ≤ k * 65536 + s ∧ (best < 0 ∨ far (k * 65536 + s) l ≤ far best l) then k * 65536 + s else best
def nears (l s : Int) : Nat → Int
  | 0 => -1
  | j + 1 => near l s (l / 65536 - 1 + j) (nears l s j)
theorem near_yes {l s k best : Int} (h : 0 ≤ k * 65536 + s) (h2 : best < 0 ∨ far (k * 65536 + s) l ≤ far best l) : near l s k best = k * 65536 + s := by unfold near; rw [if_pos ⟨h, h2⟩]
theorem near_no {l s k best : Int} (h : ¬ (0 ≤ k * 65536 + s ∧ (best < 0 ∨ far (k * 65536 + s) l ≤ far best l))) : near l s k best = best := by unfold near; rw [if_neg h]
theorem far_or (a b : Int) : a < b ∧ far a b = b - a ∨ ¬ a < b ∧ far a b = a - b := by
  unfold far
  by_cases h : a < b
  · exact .inl ⟨h, by rw [if_pos h]⟩
  · exact .inr ⟨h, by rw [if_neg h]⟩
theorem nears_bd (l s : Int) (h1 : l ≤ 1099511627776) (h4 : s ≤ 65535) (j : Nat) (hj : j ≤ 3) : -1 ≤ nears l s j ∧ nears l s j ≤ 1099600000000 := by
  induction j with
  | zero => exact ⟨by simp [nears], by simp [nears]⟩
  | succ j ih =>
    have := ih (by omega)
    unfold nears near
    split
    · omega
    · exact this
theorem nears_eq (l s : Int) (h0 : 0 ≤ l) (h1 : l ≤ 1099511627776) (h3 : 0 ≤ s) (h4 : s ≤ 65535) : nears l s 3 = extAt l s := by
  have a1 : nears l s 1 = -1 ∧ l / 65536 = 0 ∨ nears l s 1 = (l / 65536 - 1) * 65536 + s ∧ 1 ≤ l / 65536 := by
    by_cases h : l / 65536 = 0
    · exact .inl ⟨by rw [nears, near_no (by simp [h]; omega)]; rfl, h⟩
    · exact .inr ⟨by rw [nears, near_yes (by simp; omega) (by simp [nears])]; simp, by omega⟩
  have f1 := far_or ((l / 65536 - 1) * 65536 + s) l
  have f2 := far_or (l / 65536 * 65536 + s) l
  have f3 := far_or ((l / 65536 + 1) * 65536 + s) l
  have a2 : nears l s 2 = (l / 65536 - 1) * 65536 + s ∧ 1 ≤ l / 65536 ∧ far ((l / 65536 - 1) * 65536 + s) l < far (l / 65536 * 65536 + s) l ∨ nears l s 2 = l / 65536 * 65536 + s ∧ (l / 65536 = 0 ∨ far (l / 65536 * 65536 + s) l ≤ far ((l / 65536 - 1) * 65536 + s) l) := by
    have e : l / 65536 - 1 + ((1 : Nat) : Int) = l / 65536 := by omega
    rcases a1 with ⟨h, h'⟩ | ⟨h, h'⟩
    · exact .inr ⟨by rw [nears, e, near_yes (by omega) (by rw [h]; omega)], .inl h'⟩
    · by_cases hc : far (l / 65536 * 65536 + s) l ≤ far ((l / 65536 - 1) * 65536 + s) l
      · exact .inr ⟨by rw [nears, e, near_yes (by omega) (by rw [h]; exact .inr hc)], .inr hc⟩
      · exact .inl ⟨by rw [nears, e, near_no (by rw [h]; omega), h], h', by omega⟩
  have e : l / 65536 - 1 + ((2 : Nat) : Int) = l / 65536 + 1 := by omega
  have hx := extAt_or l s
  unfold d16 at hx
  rcases a2 with ⟨h, h', h''⟩ | ⟨h, h'⟩
  · by_cases hc : far ((l / 65536 + 1) * 65536 + s) l ≤ far ((l / 65536 - 1) * 65536 + s) l
    · rw [nears, e, near_yes (by omega) (by rw [h]; exact .inr hc)]; omega
    · rw [nears, e, near_no (by rw [h]; omega), h]; omega
  · by_cases hc : far ((l / 65536 + 1) * 65536 + s) l ≤ far (l / 65536 * 65536 + s) l
    · rw [nears, e, near_yes (by omega) (by rw [h]; exact .inr hc)]; omega
    · rw [nears, e, near_no (by rw [h]; omega), h]; omega

set_option maxHeartbeats 800000 in
theorem rext_walk (a l s : Int) (w : World) (h0 : 0 ≤ l) (h1 : l ≤ 1099511627776) (h3 : 0 ≤ s) (h4 : s ≤ 65535) (hm : (a < 0 ∧ l = 0) ∨ (1099511627776 < a ∧ l = 1099511627776) ∨ (0 ≤ a ∧ a ≤ 1099511627776 ∧ l = a)) :
    Calls Try.prog 17 #[.int .i64 a, .int .u16 s] w fun e w' => e = .returned (.int .i64 (extAt l s)) ∧ w = w' := by
  have HX := Lib.hid (nears_eq l s h0 h1 h3 h4)
  have HM := Lib.hid hm
  clear hm
  go_enter Try.func17, Try.ntmps17
  go_upto_region 1 with (fail)
  go_cut [0] from 9 (fun v wx => v = .int .i64 l ∧ w = wx)
  case first =>
    rcases HM.out with ⟨hm, hl⟩ | ⟨hm, hl⟩ | ⟨hm, hm2, hl⟩
    all_goals
      have HL := Lib.hid hl
      clear hl
      go_wp2
      go_meet
      exact ⟨by rw [HL.out], rfl⟩
  case rest =>
    obtain ⟨rfl, rfl⟩ := hcut
    go_wp2
    go_loop [6, 7, 8] (fun best k _ => ∃ j : Nat, j ≤ 3 ∧ k = .int .i64 (l / 65536 - 1 + j) ∧ best = .int .i64 (nears l s j)) (fun _ k _ => (l / 65536 + 2 - intOf k).toNat)
    case atStart => exact ⟨0, by omega, by simp, rfl⟩
    case round =>
      obtain ⟨j, hj, rfl, rfl⟩ := hrel
      have hb := nears_bd l s h1 h4 j hj
      by_cases hlt : j < 3
      · have HS := Lib.hid (show nears l s (j + 1) = near l s (l / 65536 - 1 + j) (nears l s j) from rfl)
        obtain ⟨k, hk⟩ : ∃ k : Int, k = l / 65536 - 1 + j := ⟨_, rfl⟩
        obtain ⟨b, hbe⟩ : ∃ b : Int, b = nears l s j := ⟨_, rfl⟩
        rw [← hk, ← hbe] at HS
        rw [← hbe] at hb
        rw [← hk, ← hbe]
        have hk1 : -1 ≤ k := by omega
        have hk2 : k ≤ l / 65536 + 1 := by omega
        have hk3 : k ≤ 16777300 := by omega
        have HK := Lib.hid hk
        clear hk hbe
        by_cases g1 : 0 ≤ k * 65536 + s
        · by_cases g2 : b < 0
          · go_wp2
            go_round
            case rel => exact ⟨j + 1, by omega, by rw [HK.out]; go_num, by rw [HS.out, near_yes g1 (.inl g2)]⟩
            case measure => simp [intOf]; omega
          · by_cases g3 : far (k * 65536 + s) l ≤ far b l
            · go_wp2_with (go_at_call 18; refine (far_any _ _ _ (by omega) (by omega) (by omega) (by omega)).mono ?_; rintro e w' ⟨rfl, rfl⟩)
              go_round
              case rel => exact ⟨j + 1, by omega, by rw [HK.out]; go_num, by rw [HS.out, near_yes g1 (.inr g3)]⟩
              case measure => simp [intOf]; omega
            · go_wp2_with (go_at_call 18; refine (far_any _ _ _ (by omega) (by omega) (by omega) (by omega)).mono ?_; rintro e w' ⟨rfl, rfl⟩)
              go_round
              case rel => exact ⟨j + 1, by omega, by rw [HK.out]; go_num, by rw [HS.out, near_no (by omega)]⟩
              case measure => simp [intOf]; omega
        · go_wp2
          go_round
          case rel => exact ⟨j + 1, by omega, by rw [HK.out]; go_num, by rw [HS.out, near_no (by omega)]⟩
          case measure => simp [intOf]; omega
      · obtain rfl : j = 3 := by omega
        go_wp2
        go_ret
        exact ⟨ret_int HX.out, rfl⟩
theorem rext_any (a s : Int) (w : World) (h3 : 0 ≤ s) (h4 : s ≤ 65535) :
    Calls Try.prog 17 #[.int .i64 a, .int .u16 s] w fun e w' => e = .returned (.int .i64 (ext a s)) ∧ w = w' := by
  have h := held_bd a
  refine rext_walk a (held a) s w h.1 h.2 h3 h4 ?_
  unfold held
  by_cases h0 : a < 0
  · rw [if_pos h0]; omega
  · rw [if_neg h0]
    by_cases h1 : 1099511627776 < a
    · rw [if_pos h1]; omega
    · rw [if_neg h1]; omega
end Go.Proofs.Ytaleheigmepghaa
