/- The law SerialNear, walked. -/
import Derived.Test.YtaleheigmepghaaSl
import Derived.Lib.EndianBits
namespace Go.Proofs.Ytaleheigmepghaa
open Go.RowKit
set_option linter.unusedVariables false

theorem two63 : (2 : Int) ^ 63 = 9223372036854775808 := by decide
/-- 'n & 65535' at an int that is not negative. -/
theorem and_low16 (n : Int) (h0 : 0 ≤ n) (h1 : n ≤ 9223372036854775807) : bits BinOp.and IntKind.i64 n 65535 = n % 65536 := by
  have h := bits_mask .i64 63 (by decide) (fun n h0 h1 => by rw [two63] at h1; rw [IntKind.wrap_i64]; omega) 16 (by decide) n h0 (by rw [two63]; omega)
  have e : ((2 : Int) ^ 16 - 1) = 65535 := by decide
  have e2 : ((2 : Int) ^ 16) = 65536 := by decide
  rw [e, e2] at h
  exact h
theorem low16_wrap (n : Int) (h0 : 0 ≤ n) (h1 : n ≤ 9223372036854775807) : IntKind.u16.wrap (bits BinOp.and IntKind.i64 n 65535) = n % 65536 := by
  rw [and_low16 n h0 h1, u16_wrap]; omega
theorem ext_follow (t d : Int) (h0 : 32767 ≤ t) (h1 : t ≤ 1099511627776) (h2 : -32767 ≤ d) (h3 : d ≤ 32768) : ext t ((t + d) % 65536) = t + d := by
  have e := ext_mid ((t + d) % 65536) (show 0 ≤ t by omega) h1
  have := extAt_or t ((t + d) % 65536)
  rw [e]
  unfold d16 at this
  omega
set_option maxHeartbeats 800000 in
theorem serialNear_law (f : Int) (a : Option Addr) (len cap : Nat) (zs : List Int) (w : World) (hl : len ≤ cap) (hm : len ≤ maxLen)
    (hc : 0 < len → ∃ b off, a = some ⟨b, off, none⟩ ∧ b < w.heap.size ∧ ∀ i, i < len → w.cell? ⟨b, off + i, none⟩ = some (.int .i64 (zs.getD i 0))) :
    Calls Try.prog 7 #[.int .i64 f, .slice a len cap] w fun e w' => e = .returned (.bool true) ∧ w = w' := by
  unfold maxLen at hm
  have HC := Lib.hid hc
  clear hc
  by_cases h0 : f < 16777216
  · go_enter Try.func7, Try.ntmps7
    go_wp2_with (go_at_call 9; refine (shown2_any _).mono ?_; rintro e w' ⟨rfl, rfl⟩)
    go_ret
    exact ⟨rfl, rfl⟩
  · by_cases h1 : 549755813888 < f
    · go_enter Try.func7, Try.ntmps7
      go_wp2_with (go_at_call 9; refine (shown2_any _).mono ?_; rintro e w' ⟨rfl, rfl⟩)
      go_ret
      exact ⟨rfl, rfl⟩
    · go_enter Try.func7, Try.ntmps7
      go_wp2_with (go_at_call 9; refine (shown2_any _).mono ?_; rintro e w' ⟨rfl, rfl⟩)
      go_loop [5, 6, 7, 8] (fun t i _ _ => ∃ k : Nat, ∃ u : Int, k ≤ len ∧ k ≤ 60 ∧ i = .int .i64 k ∧ t = .int .i64 u ∧ f - 32767 * k ≤ u ∧ u ≤ f + 32768 * k) (fun _ i _ _ => len - (intOf i).toNat)
      case atStart => exact ⟨0, f, by omega, by omega, rfl, rfl, by omega, by omega⟩
      case round =>
        obtain ⟨k, u, hk, hk2, rfl, rfl, hu, hu2⟩ := hrel
        by_cases hlt : k < len
        · by_cases h60 : k < 60
          · obtain ⟨b, off, rfl, -, hcell⟩ := HC.out (by omega)
            obtain ⟨x, hx⟩ : ∃ x : Int, w.cell? ⟨b, off + k, none⟩ = some (.int .i64 x) := ⟨_, hcell k hlt⟩
            clear hcell HC
            by_cases g1 : x < -32767
            · go_wp2
              go_round
              case rel => exact ⟨k + 1, u, by omega, by omega, by go_num, rfl, by omega, by omega⟩
              case measure => simp [intOf]; omega
            · by_cases g2 : 32768 < x
              · go_wp2
                go_round
                case rel => exact ⟨k + 1, u, by omega, by omega, by go_num, rfl, by omega, by omega⟩
                case measure => simp [intOf]; omega
              · have hf := ext_follow u x (by omega) (by omega) (by omega) (by omega)
                have hb := low16_wrap (u + x) (by omega) (by omega)
                rw [← hb] at hf
                clear hb
                go_wp2_with (go_at_call 16; refine (extend_any _ _ _).mono ?_; rintro e w' ⟨rfl, rfl⟩)
                clear hf
                go_round
                case rel => exact ⟨k + 1, u + x, by omega, by omega, by go_num, rfl, by omega, by omega⟩
                case measure => simp [intOf]; omega
          · go_wp2
            go_ret
            exact ⟨rfl, rfl⟩
        · go_wp2
          go_ret
          exact ⟨rfl, rfl⟩
end Go.Proofs.Ytaleheigmepghaa
