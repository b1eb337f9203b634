/- The contracts of package nack's small functions: bit, within, asks, take. -/
import Derived.Test.YtmgpphgiigppgaaQt
import Derived.Test.YtmgpphgiigppgaaXt
import Derived.Test.YtmgpphgiigppgaaXq
import Derived.Test.YtmgpphgiigppgaaSqx
import Derived.Test.YtmgpphgiigppgaaSb
import Derived.Lib.EndianBits
namespace Go.Proofs.Ytmgpphgiigppgaa.Nck
open Go.RowKit Go.Proofs.Ytmgpphgiigppgaa.Fbk
set_option linter.unusedVariables false

theorem wrap16 (n : Int) : IntKind.u16.wrap n = n % 65536 := by simp [IntKind.wrap, IntKind.bits, IntKind.signed]
theorem p2_cast (i : Nat) : ((2 ^ i : Nat) : Int) = (2 : Int) ^ i := by simp
theorem p2_16 {i : Nat} (h : i < 16) : (2 : Int) ^ i ≤ 32768 := p2_mono (show i ≤ 15 by omega)
theorem land_p2 (n i : Nat) : (n &&& 2 ^ i = 0) ↔ n.testBit i = false := by
  constructor
  · intro h
    have := congrArg (fun m => Nat.testBit m i) h
    simpa [Nat.testBit_and, Nat.testBit_two_pow] using this
  · intro h
    refine Nat.eq_of_testBit_eq fun j => ?_
    rw [Nat.testBit_and, Nat.testBit_two_pow, Nat.zero_testBit]
    by_cases hj : i = j
    · subst hj; rw [h]; rfl
    · simp [hj]
theorem and_bit (b : Int) (i : Nat) (h0 : 0 ≤ b) (h1 : b ≤ 65535) (hi : i < 16) : (bits BinOp.and IntKind.u16 b (2 ^ i) != 0) = bitB b i := by
  obtain ⟨n, rfl⟩ := Int.eq_ofNat_of_zero_le h0
  have hp : (2 : Nat) ^ i < 2 ^ 16 := Nat.pow_lt_pow_right (by omega) hi
  have e := (bits_nat .u16 16 (by decide) wraps_u16 n (2 ^ i) (by omega) hp).1
  rw [p2_cast] at e
  have e2 : ((n : Int) / 2 ^ i % 2) = ((n / 2 ^ i % 2 : Nat) : Int) := by rw [← p2_cast]; norm_cast
  have hl := land_p2 n i
  rw [Nat.testBit_eq_decide_div_mod_eq] at hl
  rw [e]
  unfold bitB
  rw [e2]
  generalize n &&& 2 ^ i = z at *
  generalize n / 2 ^ i % 2 = y at *
  rw [Bool.eq_iff_iff]
  simp only [bne_iff_ne, ne_eq, decide_eq_true_eq, decide_eq_false_iff_not] at *
  omega
theorem or_bit (b : Int) (i : Nat) (h0 : 0 ≤ b) (h1 : b < 2 ^ i) (hi : i < 16) : bits BinOp.or IntKind.u16 b (2 ^ i) = b + 2 ^ i := by
  have hp := p2_16 hi
  have hq := p2_pos i
  exact bits_join_low .u16 16 (by decide) wraps_u16 i b (2 ^ i) h0 h1 (by omega) (by omega) (Int.emod_self) (by omega)

set_option maxHeartbeats 400000 in
theorem bit_any (k : Nat) (w : World) (hk : k < 16) :
    Calls Try.prog 16 #[.int .u16 (k + 1 : Nat)] w fun e w' => e = .returned (.int .u16 (2 ^ k)) ∧ w = w' := by
  have h1 := p2_pos k
  have h2 := p2_16 hk
  have q1 : IntKind.u16.wrap (((k + 1 : Nat) : Int) - 1) = k := by rw [wrap16]; omega
  have q2 : IntKind.u16.wrap (1 * 2 ^ (min k 16)) = 2 ^ k := by rw [wrap16, Nat.min_eq_left (by omega)]; omega
  generalize hn : ((k + 1 : Nat) : Int) = n at q1 ⊢
  clear hn
  go_enter Try.func16, Try.ntmps16
  go_wp2
  go_ret
  exact ⟨rfl, rfl⟩
def withinP (b : Int) : Bool := decide (1 ≤ b) && decide (b ≤ 16)
set_option maxHeartbeats 400000 in
theorem within_any (b : Int) (w : World) :
    Calls Try.prog 21 #[.int .u16 b] w fun e w' => e = .returned (.bool (withinP b)) ∧ w = w' := by
  by_cases h1 : 1 ≤ b
  · by_cases h2 : b ≤ 16
    · have q : withinP b = true := by simp [withinP, h1, h2]
      rw [q]
      go_enter Try.func21, Try.ntmps21
      go_wp2
      go_ret
      exact ⟨rfl, rfl⟩
    · have q : withinP b = false := by simp [withinP, h2]
      rw [q]
      go_enter Try.func21, Try.ntmps21
      go_wp2
      go_ret
      exact ⟨rfl, rfl⟩
  · have q : withinP b = false := by simp [withinP, h1]
    rw [q]
    go_enter Try.func21, Try.ntmps21
    go_wp2
    go_ret
    exact ⟨rfl, rfl⟩
/-- Does the pair ask for s? -/
def asksB (x : Int × Int) (s : Int) : Bool := let d := (s - x.1) % 65536; decide (d = 0) || (withinP d && bitB x.2 (d - 1).toNat)
theorem upTo_mem (pid b s : Int) : ∀ n, s ∈ upTo pid b n ↔ ∃ i : Nat, i < n ∧ bitB b i = true ∧ (pid + i + 1) % 65536 = s
  | 0 => by simp [upTo]
  | n + 1 => by
    rw [upTo, List.mem_append, upTo_mem pid b s n]
    constructor
    · rintro (⟨i, h1, h2, h3⟩ | h)
      · exact ⟨i, by omega, h2, h3⟩
      · split at h
        · rename_i hb
          simp only [List.mem_cons, List.not_mem_nil, or_false] at h
          exact ⟨n, by omega, hb, h.symm⟩
        · simp at h
    · rintro ⟨i, h1, h2, h3⟩
      by_cases hi : i < n
      · exact .inl ⟨i, hi, h2, h3⟩
      · obtain rfl : i = n := by omega
        right
        rw [if_pos h2]
        simp [h3]
theorem asks_mem (x : Int × Int) (s : Int) (h1 : U16 x.1) (hs : U16 s) : asksB x s = decide (s ∈ exp1 x) := by
  have a1 := h1.1; have a2 := h1.2; have a3 := hs.1; have a4 := hs.2
  rw [Bool.eq_iff_iff, decide_eq_true_eq]
  unfold exp1 asksB withinP
  simp only [Bool.or_eq_true, Bool.and_eq_true, decide_eq_true_eq, List.mem_cons, upTo_mem]
  constructor
  · rintro (h | ⟨⟨h2, h3⟩, h4⟩)
    · left; omega
    · right; exact ⟨_, by omega, h4, by omega⟩
  · rintro (h | ⟨i, h2, h3, h4⟩)
    · left; omega
    · right
      have : (s - x.1) % 65536 = i + 1 := by omega
      rw [this, show ((i : Int) + 1 - 1).toNat = i from by omega]
      exact ⟨⟨by omega, by omega⟩, h3⟩
abbrev prV (x : Int × Int) : Value := .agg #[.int .u16 x.1, .int .u16 x.2]
def Sc (b k : Nat) (x : Int) (W : World) : Prop := W.cell? ⟨b, k, none⟩ = some (.int .u16 x)
set_option maxHeartbeats 4000000 in
theorem asks_any (x : Int × Int) (s : Int) (w : World) (h1 : U16 x.1) (h2 : U16 x.2) (hs : U16 s) :
    Calls Try.prog 19 #[prV x, .int .u16 s] w fun e w' => e = .returned (.bool (asksB x s)) ∧ Below w.heap.size w w' := by
  obtain ⟨x0, x1⟩ := x
  have q1 : IntKind.u16.wrap (s - x0) = (s - x0) % 65536 := wrap16 _
  have hA := (Below.refl w.heap.size w).alloc (Nat.le_refl _) (pairO (x0, x1))
  have hP := PrBlk.new w (x0, x1)
  have HQ : Hid (asksB (x0, x1) s = (decide ((s - x0) % 65536 = 0) || (withinP ((s - x0) % 65536) && bitB x1 ((s - x0) % 65536 - 1).toNat))) := rfl
  have hd0 : 0 ≤ (s - x0) % 65536 := by omega
  generalize (s - x0) % 65536 = d at *
  have hS : Sc w.heap.size 1 x1 (w.alloc (pairO (x0, x1))).drew := hP.c1
  have d0 := hP.c0
  have c1 : ∀ W, Sc w.heap.size 1 x1 W → W.cell? ⟨w.heap.size, 1, none⟩ = some (.int .u16 x1) := fun W h => h
  have HB : Hid (Below w.heap.size w (w.alloc (pairO (x0, x1))).drew) := hA.drew
  clear hP hA h1
  by_cases hz : d = 0
  · subst hz
    have q : asksB (x0, x1) s = true := HQ.out
    rw [q]
    clear q HQ
    go_enter Try.func19, Try.ntmps19
    go_wp2_with fail
    refine region_seq (Sc w.heap.size 1 x1) [(0, false), (1, false), (2, false), (3, false), (4, true), (5, false), (6, false), (7, false), (8, false), (9, true), (10, false), (11, false), (12, false), (13, false), (14, false)] (by kernel_rfl) (by kernel_rfl) rfl (by kernel_rfl) ?_
    iterate 3 (refine seq_read (v := _) rfl (fun _ _ _ h => h) hS (Or.inl ⟨by rfl, fun W hW => by go_simp <;> with_reducible rfl⟩) ?_; simp only [Act.put, List.setIfInBounds_toArray, List.set_cons_zero, List.set_cons_succ])
    iterate 1 (refine seq_read (v := undef) rfl (fun _ _ _ h => h) hS (Or.inr ⟨by rfl, rfl⟩) ?_; simp only [Act.put, List.setIfInBounds_toArray, List.set_cons_zero, List.set_cons_succ])
    refine seq_pass rfl (by rfl) hS ?_; simp only [Act.put, List.setIfInBounds_toArray, List.set_cons_zero, List.set_cons_succ]
    iterate 4 (refine seq_read (v := undef) rfl (fun _ _ _ h => h) hS (Or.inr ⟨by rfl, rfl⟩) ?_; simp only [Act.put, List.setIfInBounds_toArray, List.set_cons_zero, List.set_cons_succ])
    refine seq_pass rfl (by rfl) hS ?_; simp only [Act.put, List.setIfInBounds_toArray, List.set_cons_zero, List.set_cons_succ]
    iterate 3 (refine seq_read (v := undef) rfl (fun _ _ _ h => h) hS (Or.inr ⟨by rfl, rfl⟩) ?_; simp only [Act.put, List.setIfInBounds_toArray, List.set_cons_zero, List.set_cons_succ])
    iterate 2 (refine seq_read (v := _) rfl (fun _ _ _ h => h) hS (Or.inl ⟨by rfl, fun W hW => by go_simp <;> with_reducible rfl⟩) ?_; simp only [Act.put, List.setIfInBounds_toArray, List.set_cons_zero, List.set_cons_succ])
    refine seq_end ?_
    go_wp2
    go_ret
    exact ⟨rfl, HB.out⟩
  · have hzb : (d == 0) = false := by simp [hz]
    have CW : Hid (∀ W, Calls Try.prog 21 #[.int .u16 d] W fun e w' => e = .returned (.bool (withinP d)) ∧ W = w') := fun W => within_any d W
    by_cases hw : withinP d = true
    · have hw' := hw
      simp only [withinP, Bool.and_eq_true, decide_eq_true_eq] at hw'
      have HQ2 := Lib.hid (show asksB (x0, x1) s = bitB x1 (d - 1).toNat from by rw [HQ.out, hw]; simp [hz])
      rw [hw] at CW
      clear HQ hw
      obtain ⟨k, hk⟩ : ∃ k : Nat, d = ((k + 1 : Nat) : Int) := ⟨(d - 1).toNat, by omega⟩
      have hk16 : k < 16 := by omega
      rw [show (d - 1).toNat = k from by omega] at HQ2
      rw [HQ2.out]
      clear HQ2
      have CB : Hid (∀ W, Calls Try.prog 16 #[.int .u16 d] W fun e w' => e = .returned (.int .u16 (2 ^ k)) ∧ W = w') := fun W => by rw [hk]; exact bit_any k W hk16
      have qa := and_bit x1 k h2.1 h2.2 hk16
      generalize (2 : Int) ^ k = p at *
      generalize bitB x1 k = bb at *
      clear hk hw'
      go_enter Try.func19, Try.ntmps19
      go_wp2_with fail
      refine region_seq (Sc w.heap.size 1 x1) [(0, false), (1, false), (2, false), (3, false), (4, true), (5, false), (6, false), (7, false), (8, false), (9, true), (10, false), (11, false), (12, false), (13, false), (14, false)] (by kernel_rfl) (by kernel_rfl) rfl (by kernel_rfl) ?_
      iterate 4 (refine seq_read (v := _) rfl (fun _ _ _ h => h) hS (Or.inl ⟨by rfl, fun W hW => by go_simp <;> with_reducible rfl⟩) ?_; simp only [Act.put, List.setIfInBounds_toArray, List.set_cons_zero, List.set_cons_succ])
      refine seq_do rfl (fun K hK => ?_)
      go_simp
      refine (CW.out _).mono ?_
      rintro e wz ⟨rfl, rfl⟩
      refine hK.out _ _ _ (fun W h => h) hS ?_
      clear hK K
      iterate 4 (refine seq_read (v := _) rfl (fun _ _ _ h => h) hS (Or.inl ⟨by rfl, fun W hW => by go_simp <;> with_reducible rfl⟩) ?_; simp only [Act.put, List.setIfInBounds_toArray, List.set_cons_zero, List.set_cons_succ])
      refine seq_do rfl (fun K hK => ?_)
      go_simp
      refine (CB.out _).mono ?_
      rintro e wz ⟨rfl, rfl⟩
      refine hK.out _ _ _ (fun W h => h) hS ?_
      clear hK K
      iterate 5 (refine seq_read (v := _) rfl (fun _ _ _ h => h) hS (Or.inl ⟨by rfl, fun W hW => by go_simp <;> with_reducible rfl⟩) ?_; simp only [Act.put, List.setIfInBounds_toArray, List.set_cons_zero, List.set_cons_succ])
      refine seq_end ?_
      go_wp2
      go_ret
      exact ⟨rfl, HB.out⟩
    · have hw' : withinP d = false := by simpa using hw
      have HQ2 := Lib.hid (show asksB (x0, x1) s = false from by rw [HQ.out, hw']; simp [hz])
      rw [hw'] at CW
      rw [HQ2.out]
      clear HQ2 HQ hw hw'
      go_enter Try.func19, Try.ntmps19
      go_wp2_with fail
      refine region_seq (Sc w.heap.size 1 x1) [(0, false), (1, false), (2, false), (3, false), (4, true), (5, false), (6, false), (7, false), (8, false), (9, true), (10, false), (11, false), (12, false), (13, false), (14, false)] (by kernel_rfl) (by kernel_rfl) rfl (by kernel_rfl) ?_
      iterate 4 (refine seq_read (v := _) rfl (fun _ _ _ h => h) hS (Or.inl ⟨by rfl, fun W hW => by go_simp <;> with_reducible rfl⟩) ?_; simp only [Act.put, List.setIfInBounds_toArray, List.set_cons_zero, List.set_cons_succ])
      refine seq_do rfl (fun K hK => ?_)
      go_simp
      refine (CW.out _).mono ?_
      rintro e wz ⟨rfl, rfl⟩
      refine hK.out _ _ _ (fun W h => h) hS ?_
      clear hK K
      iterate 1 (refine seq_read (v := _) rfl (fun _ _ _ h => h) hS (Or.inl ⟨by rfl, fun W hW => by go_simp <;> with_reducible rfl⟩) ?_; simp only [Act.put, List.setIfInBounds_toArray, List.set_cons_zero, List.set_cons_succ])
      iterate 3 (refine seq_read (v := undef) rfl (fun _ _ _ h => h) hS (Or.inr ⟨by rfl, rfl⟩) ?_; simp only [Act.put, List.setIfInBounds_toArray, List.set_cons_zero, List.set_cons_succ])
      refine seq_pass rfl (by rfl) hS ?_; simp only [Act.put, List.setIfInBounds_toArray, List.set_cons_zero, List.set_cons_succ]
      iterate 2 (refine seq_read (v := undef) rfl (fun _ _ _ h => h) hS (Or.inr ⟨by rfl, rfl⟩) ?_; simp only [Act.put, List.setIfInBounds_toArray, List.set_cons_zero, List.set_cons_succ])
      iterate 3 (refine seq_read (v := _) rfl (fun _ _ _ h => h) hS (Or.inl ⟨by rfl, fun W hW => by go_simp <;> with_reducible rfl⟩) ?_; simp only [Act.put, List.setIfInBounds_toArray, List.set_cons_zero, List.set_cons_succ])
      refine seq_end ?_
      go_wp2
      go_ret
      exact ⟨rfl, HB.out⟩
set_option maxHeartbeats 4000000 in
theorem take_no (x : Int × Int) (g o : Nat) (last s : Int) (w : World) (hs : U16 s) (c0 : w.cell? ⟨g, o, none⟩ = some (.int .u16 x.1)) (hj : joins x last s = false) :
    Calls Try.prog 17 #[.pointer (some ⟨g, o, none⟩), .int .u16 last, .int .u16 s] w fun e w' => e = .returned (.bool false) ∧ w = w' := by
  obtain ⟨x0, x1⟩ := x
  have q1 : IntKind.u16.wrap (s - x0) = (s - x0) % 65536 := wrap16 _
  unfold joins at hj
  rw [show (decide (1 ≤ (s - (x0, x1).fst) % 65536) && decide ((s - (x0, x1).fst) % 65536 ≤ 16)) = withinP ((s - x0) % 65536) from rfl] at hj
  generalize (s - x0) % 65536 = d at *
  have CW : Hid (∀ W, Calls Try.prog 21 #[.int .u16 d] W fun e w' => e = .returned (.bool (withinP d)) ∧ W = w') := fun W => within_any d W
  have CA : Hid (∀ W, Calls Try.prog 15 #[.int .u16 s, .int .u16 last] W fun e w' => e = .returned (.bool (ah16 s last)) ∧ W = w') := fun W => ahead16_any s last W
  generalize withinP d = b1 at *
  generalize ah16 s last = b2 at *
  cases b1 with
  | false =>
    clear hj
    go_enter Try.func17, Try.ntmps17
    go_wp2_with fail
    refine (CW.out _).mono ?_
    rintro e w' ⟨rfl, rfl⟩
    go_wp2
    go_ret
    exact ⟨rfl, rfl⟩
  | true =>
    simp only [Bool.true_and] at hj
    subst hj
    go_enter Try.func17, Try.ntmps17
    go_wp2_with fail
    refine (CW.out _).mono ?_
    rintro e w' ⟨rfl, rfl⟩
    go_wp2_with fail
    refine (CA.out _).mono ?_
    rintro e w' ⟨rfl, rfl⟩
    go_wp2
    go_ret
    exact ⟨rfl, rfl⟩
set_option maxHeartbeats 4000000 in
theorem take_yes (x : Int × Int) (g o : Nat) (last s : Int) (w : World) (hs : U16 s) (hx : U16 x.1) (c0 : w.cell? ⟨g, o, none⟩ = some (.int .u16 x.1)) (c1 : w.cell? ⟨g, o + 1, none⟩ = some (.int .u16 x.2)) (fz : w.frozen? ⟨g, o + 1, none⟩ = false)
    (hj : joins x last s = true) (h0 : 0 ≤ x.2) (hlt : x.2 < bitAt x s) :
    Calls Try.prog 17 #[.pointer (some ⟨g, o, none⟩), .int .u16 last, .int .u16 s] w fun e w' => e = .returned (.bool true) ∧ w' = w.drew.setCell ⟨g, o + 1, none⟩ (.int .u16 (x.2 + bitAt x s)) := by
  obtain ⟨x0, x1⟩ := x
  have q1 : IntKind.u16.wrap (s - x0) = (s - x0) % 65536 := wrap16 _
  unfold joins at hj
  rw [show (decide (1 ≤ (s - (x0, x1).fst) % 65536) && decide ((s - (x0, x1).fst) % 65536 ≤ 16)) = withinP ((s - x0) % 65536) from rfl, Bool.and_eq_true] at hj
  unfold bitAt at hlt ⊢
  simp only at hlt h0 c0 c1 ⊢
  generalize (s - x0) % 65536 = d at *
  obtain ⟨hj1, hj2⟩ := hj
  have CW : Hid (∀ W, Calls Try.prog 21 #[.int .u16 d] W fun e w' => e = .returned (.bool (withinP d)) ∧ W = w') := fun W => within_any d W
  have CA : Hid (∀ W, Calls Try.prog 15 #[.int .u16 s, .int .u16 last] W fun e w' => e = .returned (.bool (ah16 s last)) ∧ W = w') := fun W => ahead16_any s last W
  rw [hj1] at CW
  rw [hj2] at CA
  simp only [withinP, Bool.and_eq_true, decide_eq_true_eq] at hj1
  obtain ⟨k, hk⟩ : ∃ k : Nat, d = ((k + 1 : Nat) : Int) := ⟨(d - 1).toNat, by omega⟩
  have hk16 : k < 16 := by omega
  rw [show d.toNat - 1 = k from by omega] at hlt ⊢
  have CB : Hid (∀ W, Calls Try.prog 16 #[.int .u16 d] W fun e w' => e = .returned (.int .u16 (2 ^ k)) ∧ W = w') := fun W => by rw [hk]; exact bit_any k W hk16
  have qo := or_bit x1 k h0 hlt hk16
  generalize (2 : Int) ^ k = p at *
  have hS : Sc g (o + 1) x1 w.drew := c1
  have c1' : ∀ W, Sc g (o + 1) x1 W → W.cell? ⟨g, o + 1, none⟩ = some (.int .u16 x1) := fun W h => h
  clear hk hj1 hj2 c1
  go_enter Try.func17, Try.ntmps17
  go_wp2_with fail
  refine (CW.out _).mono ?_
  rintro e w' ⟨rfl, rfl⟩
  go_wp2_with fail
  refine (CA.out _).mono ?_
  rintro e w' ⟨rfl, rfl⟩
  go_wp2_with fail
  refine region_seqX (Sc g (o + 1) x1) 9 [(0, false), (1, false), (2, false), (3, false), (4, false), (5, true), (6, false), (7, false), (8, false), (9, true)] (by kernel_rfl) (by kernel_rfl) rfl (by kernel_rfl) ?_
  iterate 5 (refine seqX_read (v := _) rfl (fun _ _ _ h => h) hS (Or.inl ⟨by rfl, fun W hW => by go_simp <;> with_reducible rfl⟩) ?_; simp only [Act.put, List.setIfInBounds_toArray, List.set_cons_zero, List.set_cons_succ])
  refine seqX_do rfl (fun K hK => ?_)
  go_simp
  refine (CB.out _).mono ?_
  rintro e wz ⟨rfl, rfl⟩
  refine hK.out _ _ _ (fun W h => h) hS ?_
  clear hK K
  iterate 3 (refine seqX_read (v := _) rfl (fun _ _ _ h => h) hS (Or.inl ⟨by rfl, fun W hW => by go_simp <;> with_reducible rfl⟩) ?_; simp only [Act.put, List.setIfInBounds_toArray, List.set_cons_zero, List.set_cons_succ])
  refine seqX_last rfl (fun K hK => ?_)
  have e1 : w.drew.cell? ⟨g, o + 1, none⟩ = some (.int .u16 x1) := hS
  have e2 : w.drew.frozen? ⟨g, o + 1, none⟩ = false := fz
  go_simp
  refine hK.out _ _ ?_
  clear hK K
  go_wp2
  go_ret
  exact ⟨rfl, rfl⟩
end Go.Proofs.Ytmgpphgiigppgaa.Nck
