/- LabelKey, walked. -/
import Derived.Test.YtijacgnoljnlpaaBo
import Derived.Test.YtijacgnoljnlpaaBy
namespace Go.Proofs.Ytijacgnoljnlpaa
open Go.RowKit
set_option linter.unusedVariables false

/-- A slice of bools that came in. -/
def IsBools (w : World) (a : Option Addr) (len : Nat) (B : Nat → Bool) : Prop :=
  len = 0 ∨ ∃ b off, a = some ⟨b, off, none⟩ ∧ b < w.heap.size ∧ ∀ i, i < len → w.cell? ⟨b, off + i, none⟩ = some (.bool (B i))

/-- A letter's other case. -/
def flip (x : UInt8) : UInt8 := x ^^^ 32
theorem flip_low (x : UInt8) (h : (97 ≤ x.toNat ∧ x.toNat ≤ 122) ∨ (65 ≤ x.toNat ∧ x.toNat ≤ 90)) : lowB (flip x) = lowB x := by
  have all : ∀ n : Nat, n < 256 → ((97 ≤ n ∧ n ≤ 122) ∨ (65 ≤ n ∧ n ≤ 90)) → lowB (flip (UInt8.ofNat n)) = lowB (UInt8.ofNat n) := by decide +kernel
  have := all x.toNat x.toNat_lt h
  rwa [show UInt8.ofNat x.toNat = x by simp] at this
theorem flip_bits (x : UInt8) : bits BinOp.xor IntKind.u8 (x.toNat : Int) 32 = ((flip x).toNat : Int) := by
  have all : ∀ n : Nat, n < 256 → bits BinOp.xor IntKind.u8 (n : Int) 32 = ((flip (UInt8.ofNat n)).toNat : Int) := by decide +kernel
  have := all x.toNat x.toNat_lt
  rwa [show UInt8.ofNat x.toNat = x by simp] at this
theorem low_set (cl l : List UInt8) (k : Nat) (hk : k < cl.length) (y : UInt8) (h : cl.map lowB = l.map lowB) (hy : lowB y = lowB (cl.getD k 0)) : (cl.set k y).map lowB = l.map lowB := by
  rw [← h, List.map_set, hy]
  apply List.ext_getElem?
  intro i
  rw [List.getElem?_set]
  split
  · rename_i e
    subst e
    simp [hk]
  · rfl

set_option maxHeartbeats 4000000 in
set_option maxRecDepth 1000000 in
theorem keylaw_may (s : ByteArray) (t : Option Addr) (n c : Nat) (B : Nat → Bool) (w : World) (ht : IsBools w t n B) (hm : mayB s.data.toList = true) (hs : s.size ≤ 140737488355328) (hn : n ≤ 9223372036854775807) :
    Calls Try.prog 6 #[.string s, .slice t n c] w fun e w' => e = .returned (.bool true) ∧ Below w.heap.size w w' := by
  have ck := key_any s
  have cm := may_any s
  rw [hm] at cm
  obtain ⟨K, hK⟩ : ∃ K : ByteArray, ⟨(keyL s.data.toList).toArray⟩ = K := ⟨_, rfl⟩
  simp only [hK] at ck
  have hKd : K.data.toList = s.data.toList.map lowB := by rw [← hK, key_of_may hm]
  have hKs : K.size = s.size := by rw [← len_eq, hKd, List.length_map, len_eq]
  have hmK : mayB K.data.toList = true := by rw [hKd, mayB_low]; exact hm
  have cmK := may_any K
  rw [hmK] at cmK
  have ckK := key_any K
  rw [key_of_may hmK, hKd, List.map_map, show lowB ∘ lowB = lowB from funext lowB_lowB, ← key_of_may hm] at ckK
  simp only [hK] at ckK
  go_enter Try.func6, Try.ntmps6
  go_wp2_with (go_at_call 7; refine (shown_any _).mono ?_)
  rintro e w1 ⟨rfl, hb1⟩
  go_wp2_with (go_at_call 11; refine (ck _).mono ?_)
  rintro e w2 ⟨rfl, hb2⟩
  go_wp2_with (go_at_call 8; refine (cm _).mono ?_)
  rintro e w3 ⟨rfl, hb3⟩
  have hb123 := below_trans (below_trans hb1 hb2) hb3
  obtain ⟨C, T, M, W, hrun, hC, hrow, hbW⟩ := bytes_run w3 s
  go_wp2
  go_loopw [23] (fun i wr => ∃ (k : Nat) (cl : List UInt8), i = .int .i64 k ∧ k ≤ s.size ∧ Brow wr w3.heap.size cl T M ∧ cl.length = s.size ∧ cl.map lowB = s.data.toList.map lowB ∧ Below w3.heap.size w3 wr) (fun i _ => s.size - (Lib.intOf i).toNat)
  case atStart => exact ⟨0, _, rfl, Nat.zero_le _, hrow, len_eq s, rfl, hbW⟩
  case round =>
    obtain ⟨k, cl, rfl, hk, hr, hcl, hlow, hbr⟩ := hrel
    by_cases hlt : k < s.size
    · have c0 := hr.cell k (by omega)
      have f0 := hr.frozen k (by omega)
      have hput := fun y => hr.put k (by omega) y
      obtain ⟨x, hx⟩ : ∃ x, cl.getD k 0 = x := ⟨_, rfl⟩
      rw [hx] at c0
      have hxl := x.toNat_lt
      have hlt' : (k : Int) < (s.size : Int) := by omega
      by_cases hkn : k < n
      · obtain ⟨b, off, rfl, hbl, hcells⟩ := ht.resolve_left (by omega)
        have ct : wr.cell? ⟨b, off + k, none⟩ = some (.bool (B k)) := by
          rw [(below_trans hb123 hbr).cell (show (⟨b, off + k, none⟩ : Addr).block < w.heap.size from hbl)]
          exact hcells k hkn
        cases hB : B k with
        | false =>
          rw [hB] at ct
          go_wp2
          all_goals exact ⟨⟨k + 1, cl, by simp, by omega, hr, hcl, hlow, hbr⟩, by simp [Lib.intOf]; omega⟩
        | true =>
          rw [hB] at ct
          have hparts : (x.toNat : Int) < 65 ∨ (65 ≤ (x.toNat : Int) ∧ (x.toNat : Int) ≤ 90) ∨ (90 < (x.toNat : Int) ∧ (x.toNat : Int) < 97) ∨ (97 ≤ (x.toNat : Int) ∧ (x.toNat : Int) ≤ 122) ∨ 122 < (x.toNat : Int) := by omega
          rcases hparts with h | ⟨ha, hz⟩ | ⟨ha, hz⟩ | ⟨ha, hz⟩ | h
          · have h2 : ¬ 97 ≤ (x.toNat : Int) := by omega
            have h3 : ¬ 65 ≤ (x.toNat : Int) := by omega
            go_wp2
            exact ⟨⟨k + 1, cl, by simp, by omega, hr, hcl, hlow, hbr⟩, by simp [Lib.intOf]; omega⟩
          · have h2 : ¬ 97 ≤ (x.toNat : Int) := by omega
            go_wp2
            exact ⟨⟨k + 1, cl.set k (flip x), by simp, by omega, hput _ _ (flip_bits x), by rw [List.length_set]; exact hcl, low_set cl _ k (by omega) _ hlow (by rw [hx]; exact flip_low x (by omega)),
              hbr.setCell (p := ⟨w3.heap.size, k, none⟩) (Nat.le_refl _) _⟩, by simp [Lib.intOf]; omega⟩
          · have h2 : ¬ 97 ≤ (x.toNat : Int) := by omega
            have h3 : 65 ≤ (x.toNat : Int) := by omega
            have h4 : ¬ (x.toNat : Int) ≤ 90 := by omega
            go_wp2
            exact ⟨⟨k + 1, cl, by simp, by omega, hr, hcl, hlow, hbr⟩, by simp [Lib.intOf]; omega⟩
          · have h3 : 65 ≤ (x.toNat : Int) := by omega
            have h4 : ¬ (x.toNat : Int) ≤ 90 := by omega
            go_wp2
            exact ⟨⟨k + 1, cl.set k (flip x), by simp, by omega, hput _ _ (flip_bits x), by rw [List.length_set]; exact hcl, low_set cl _ k (by omega) _ hlow (by rw [hx]; exact flip_low x (by omega)),
              hbr.setCell (p := ⟨w3.heap.size, k, none⟩) (Nat.le_refl _) _⟩, by simp [Lib.intOf]; omega⟩
          · have h2 : 97 ≤ (x.toNat : Int) := by omega
            have h3 : 65 ≤ (x.toNat : Int) := by omega
            have h4 : ¬ (x.toNat : Int) ≤ 90 := by omega
            have h5 : ¬ (x.toNat : Int) ≤ 122 := by omega
            go_wp2
            exact ⟨⟨k + 1, cl, by simp, by omega, hr, hcl, hlow, hbr⟩, by simp [Lib.intOf]; omega⟩
      · have hkn' : ¬ (k : Int) < (n : Int) := by omega
        go_wp2
        all_goals exact ⟨⟨k + 1, cl, by simp, by omega, hr, hcl, hlow, hbr⟩, by simp [Lib.intOf]; omega⟩
    · have hke : k = s.size := by omega
      subst hke
      clear hlt hk
      have hcd : (ByteArray.mk cl.toArray).data.toList = cl := by simp
      have cc := key_any ⟨cl.toArray⟩
      rw [hcd, show keyL cl = keyL s.data.toList by rw [key_of_may hm, key_of_may ((mayB_alike _ _ hlow).trans hm), hlow]] at cc
      simp only [hK] at cc
      clear hcd
      go_wp2_with (go_at_call 8; refine (cmK _).mono ?_)
      rintro e w4 ⟨rfl, hb4⟩
      go_wp2_with (go_at_call 11; refine (ckK _).mono ?_)
      rintro e w5 ⟨rfl, hb5⟩
      have hr5 := (hr.below hb4 hr.lt).below hb5 (hr.below hb4 hr.lt).lt
      have hback := back_run w5 w3.heap.size cl T M C hr5
      rw [hcl] at hback
      go_wp2_with (go_at_call 11; refine (cc _).mono ?_)
      rintro e w6 ⟨rfl, hb6⟩
      go_wp2
      go_ret
      exact ⟨by simp, below_trans (below_trans (below_trans hb123 hbr) (below_trans hb4 hb5)) hb6⟩

end Go.Proofs.Ytijacgnoljnlpaa
