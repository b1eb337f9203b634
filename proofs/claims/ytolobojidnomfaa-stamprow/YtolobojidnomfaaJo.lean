/- The reference's Quiet, NewGate, Take of a gate. -/
import Derived.Test.YtolobojidnomfaaJn
set_option maxRecDepth 100000
namespace Go.Proofs.Ytolobojidnomfaa.Gat
open Go.RowKit
set_option linter.unusedVariables false

set_option maxHeartbeats 4000000 in
theorem rquiet_any (w : World) (x : Gt) : Calls Try.prog 35 #[gtV x] w fun e w' => e = .returned (.bool (qui x)) ∧ Below w.heap.size w w' := by
  have HB := Lib.hid ((Below.refl w.heap.size w).alloc (Nat.le_refl _) (gtO x))
  obtain ⟨n, c, p, m⟩ := x
  cases p with
  | true =>
    go_enter Try.func35, Try.ntmps35
    go_wp2
    go_ret
    exact ⟨rfl, HB.out⟩
  | false =>
    go_enter Try.func35, Try.ntmps35
    go_wp2
    go_ret
    exact ⟨rfl, HB.out⟩
set_option maxHeartbeats 4000000 in
theorem rnew_any (w : World) (n : Int) : Calls Try.prog 38 #[.int .i64 n] w fun e w' => e = .returned (gtV (nw n)) ∧ Below w.heap.size w w' := by
  have HD : Hid (Cur w (w.alloc (gtO (nw n))) w.heap.size (nw n)) := Lib.hid ⟨CBlk.new w _, (Below.refl _ _).alloc (Nat.le_refl _) _, Nat.le_refl _⟩
  unfold nw hld at *
  obtain ⟨m, hm⟩ : ∃ m, (if n < 0 then 0 else n) = m := ⟨_, rfl⟩
  rw [hm] at HD ⊢
  obtain ⟨k, hk⟩ : ∃ k, (if 2 < m then 2 else m) = k := ⟨_, rfl⟩
  rw [hk] at HD ⊢
  go_enter Try.func38, Try.ntmps38
  go_wp2
  exact ret1_at Try.results38 HD.out.blk ⟨rfl, HD.out.bel⟩
set_option maxHeartbeats 4000000 in
theorem rtake_any (w : World) (x : Gt) (l : Int) (k : Bool) : Calls Try.prog 28 #[gtV x, .int .i64 l, .bool k] w fun e w' => e = .returned (tkV (tke x l k)) ∧ Below w.heap.size w w' := by
  have C1 := Lib.hid (fun W => rquiet_any W x)
  obtain ⟨n, c, p, m⟩ := x
  by_cases hq : qui (n, c, p, m) = true
  · rw [show tke (n, c, p, m) l k = ((n, c, p, m), 4) from by unfold tke; rw [if_pos hq]]
    rw [hq] at C1
    have HL := Lib.hid (fun W => lay2 (w' := W) w (n, c, p, m) (n, c, p, m))
    clear hq
    go_enter Try.func28, Try.ntmps28
    go_wp2_with fail
    refine (C1.out _).mono ?_
    rintro e w1 ⟨rfl, hb⟩
    obtain ⟨h0, h1, hb1, h2, hb2⟩ := HL.out w1 hb
    have c0 := h0.c0
    have c1 := h0.c1
    have c2 := h0.c2
    have c3 := h0.c3
    have d0 := h1.c0
    have d1 := h1.c1
    have d2 := h1.c2
    have d3 := h1.c3
    have e0 := h1.frozen 0
    have e1 := h1.frozen 1
    have e2 := h1.frozen 2
    have e3 := h1.frozen 3
    have HD := Lib.hid (And.intro h2 hb2)
    clear hb h0 h1 hb1 h2 hb2 C1 HL
    go_wp2
    exact ret2_at Try.results28 HD.out.1 ⟨rfl, HD.out.2⟩
  have hq : qui (n, c, p, m) = false := by simpa using hq
  have ht : tke (n, c, p, m) l k = (if k = true ∧ l = n ∧ c ≠ n then ((n, n, p, m), 2) else if l = c then ((n, c, p, m), 1) else ((n, c, p, m), 3)) := by unfold tke; rw [if_neg (by rw [hq]; decide)]
  rw [hq] at C1
  by_cases h1 : k = true ∧ l = n ∧ c ≠ n
  · obtain ⟨rfl, rfl, hc⟩ := h1
    have q1 : (l == l) = true := by simp
    have q2 : (c != l) = true := by simpa using hc
    have q3 : (l != c) = true := by simpa using fun h => hc h.symm
    rw [ht, if_pos ⟨rfl, rfl, hc⟩]
    have HL := Lib.hid (fun W => lay2 (w' := W) w (l, c, p, m) (l, l, p, m))
    clear ht
    obtain rfl : p = false := by cases p <;> simp_all [qui]
    obtain rfl : m = false := by cases m <;> simp_all [qui]
    clear hq
    go_enter Try.func28, Try.ntmps28
    go_wp2_with fail
    refine (C1.out _).mono ?_
    rintro e w1 ⟨rfl, hb⟩
    obtain ⟨h0, h1, hb1, h2, hb2⟩ := HL.out w1 hb
    have c0 := h0.c0
    have c1 := h0.c1
    have c2 := h0.c2
    have c3 := h0.c3
    have d0 := h1.c0
    have d1 := h1.c1
    have d2 := h1.c2
    have d3 := h1.c3
    have e0 := h1.frozen 0
    have e1 := h1.frozen 1
    have e2 := h1.frozen 2
    have e3 := h1.frozen 3
    have HD := Lib.hid (And.intro h2 hb2)
    clear hb h0 h1 hb1 h2 hb2 C1 HL
    go_wp2
    exact ret2_at Try.results28 HD.out.1 ⟨rfl, HD.out.2⟩
  rw [if_neg h1] at ht
  by_cases h2 : l = c
  · subst h2
    rw [if_pos rfl] at ht
    rw [ht]
    have HL := Lib.hid (fun W => lay2 (w' := W) w (n, l, p, m) (n, l, p, m))
    clear ht hq
    cases k with
    | false =>
      go_enter Try.func28, Try.ntmps28
      go_wp2_with fail
      refine (C1.out _).mono ?_
      rintro e w1 ⟨rfl, hb⟩
      obtain ⟨h0, h1, hb1, h2, hb2⟩ := HL.out w1 hb
      have c0 := h0.c0
      have c1 := h0.c1
      have c2 := h0.c2
      have c3 := h0.c3
      have d0 := h1.c0
      have d1 := h1.c1
      have d2 := h1.c2
      have d3 := h1.c3
      have e0 := h1.frozen 0
      have e1 := h1.frozen 1
      have e2 := h1.frozen 2
      have e3 := h1.frozen 3
      have HD := Lib.hid (And.intro h2 hb2)
      clear hb h0 h1 hb1 h2 hb2 C1 HL
      go_wp2
      exact ret2_at Try.results28 HD.out.1 ⟨rfl, HD.out.2⟩
    | true =>
      by_cases h3 : l = n
      · subst h3
        clear h1
        go_enter Try.func28, Try.ntmps28
        go_wp2_with fail
        refine (C1.out _).mono ?_
        rintro e w1 ⟨rfl, hb⟩
        obtain ⟨h0, h1, hb1, h2, hb2⟩ := HL.out w1 hb
        have c0 := h0.c0
        have c1 := h0.c1
        have c2 := h0.c2
        have c3 := h0.c3
        have d0 := h1.c0
        have d1 := h1.c1
        have d2 := h1.c2
        have d3 := h1.c3
        have e0 := h1.frozen 0
        have e1 := h1.frozen 1
        have e2 := h1.frozen 2
        have e3 := h1.frozen 3
        have HD := Lib.hid (And.intro h2 hb2)
        clear hb h0 h1 hb1 h2 hb2 C1 HL
        go_wp2
        exact ret2_at Try.results28 HD.out.1 ⟨rfl, HD.out.2⟩
      · have q1 : (l == n) = false := by simpa using h3
        have q2 : (l != n) = true := by simpa using h3
        clear h1 h3
        go_enter Try.func28, Try.ntmps28
        go_wp2_with fail
        refine (C1.out _).mono ?_
        rintro e w1 ⟨rfl, hb⟩
        obtain ⟨h0, h1, hb1, h2, hb2⟩ := HL.out w1 hb
        have c0 := h0.c0
        have c1 := h0.c1
        have c2 := h0.c2
        have c3 := h0.c3
        have d0 := h1.c0
        have d1 := h1.c1
        have d2 := h1.c2
        have d3 := h1.c3
        have e0 := h1.frozen 0
        have e1 := h1.frozen 1
        have e2 := h1.frozen 2
        have e3 := h1.frozen 3
        have HD := Lib.hid (And.intro h2 hb2)
        clear hb h0 h1 hb1 h2 hb2 C1 HL
        go_wp2
        exact ret2_at Try.results28 HD.out.1 ⟨rfl, HD.out.2⟩
  · rw [if_neg h2] at ht
    rw [ht]
    have p1 : (l == c) = false := by simpa using h2
    have HL := Lib.hid (fun W => lay2 (w' := W) w (n, c, p, m) (n, c, p, m))
    clear ht hq
    cases k with
    | false =>
      go_enter Try.func28, Try.ntmps28
      go_wp2_with fail
      refine (C1.out _).mono ?_
      rintro e w1 ⟨rfl, hb⟩
      obtain ⟨h0, h1, hb1, h2, hb2⟩ := HL.out w1 hb
      have c0 := h0.c0
      have c1 := h0.c1
      have c2 := h0.c2
      have c3 := h0.c3
      have d0 := h1.c0
      have d1 := h1.c1
      have d2 := h1.c2
      have d3 := h1.c3
      have e0 := h1.frozen 0
      have e1 := h1.frozen 1
      have e2 := h1.frozen 2
      have e3 := h1.frozen 3
      have HD := Lib.hid (And.intro h2 hb2)
      clear hb h0 h1 hb1 h2 hb2 C1 HL
      go_wp2
      exact ret2_at Try.results28 HD.out.1 ⟨rfl, HD.out.2⟩
    | true =>
      by_cases h3 : l = n
      · subst h3
        obtain rfl : c = l := by
          apply Decidable.byContradiction
          intro h
          exact h1 ⟨rfl, rfl, h⟩
        exact absurd rfl h2
      · have q1 : (l == n) = false := by simpa using h3
        clear h1 h3 h2
        go_enter Try.func28, Try.ntmps28
        go_wp2_with fail
        refine (C1.out _).mono ?_
        rintro e w1 ⟨rfl, hb⟩
        obtain ⟨h0, h1, hb1, h2, hb2⟩ := HL.out w1 hb
        have c0 := h0.c0
        have c1 := h0.c1
        have c2 := h0.c2
        have c3 := h0.c3
        have d0 := h1.c0
        have d1 := h1.c1
        have d2 := h1.c2
        have d3 := h1.c3
        have e0 := h1.frozen 0
        have e1 := h1.frozen 1
        have e2 := h1.frozen 2
        have e3 := h1.frozen 3
        have HD := Lib.hid (And.intro h2 hb2)
        clear hb h0 h1 hb1 h2 hb2 C1 HL
        go_wp2
        exact ret2_at Try.results28 HD.out.1 ⟨rfl, HD.out.2⟩
end Go.Proofs.Ytolobojidnomfaa.Gat
