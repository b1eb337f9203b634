/- New of the program and of the reference. -/
import Derived.Test.YtolobojidnomfaaYc
set_option maxRecDepth 100000
namespace Go.Proofs.Ytolobojidnomfaa.Stp
open Go.RowKit Go.Proofs.Ytolobojidnomfaa.Gat Go.Proofs.Ytolobojidnomfaa.Crs Go.Proofs.Ytolobojidnomfaa.Clk
set_option linter.unusedVariables false

/-- A track of which nothing has been sent. -/
def newT (p s n : Int) : TV := ⟨nw n, co0, ck0, outN p s, 65535, 0, 0⟩
set_option maxHeartbeats 4000000 in
theorem new_any (w : World) (p s n : Int) : Calls Try.prog 13 #[.int .i64 p, .int .i64 s, .int .i64 n] w fun e w' => e = .returned (trkV (newT p s n)) ∧ Below w.heap.size w w' := by
  have C1 := Lib.hid (fun W => Gat.new_any W n)
  have C2 := Lib.hid (fun W => out_any W p s)
  unfold newT
  obtain ⟨r, hr⟩ : ∃ r, nw n = r := ⟨_, rfl⟩
  obtain ⟨o, ho⟩ : ∃ o, outN p s = o := ⟨_, rfl⟩
  rw [hr] at C1 ⊢
  rw [ho] at C2 ⊢
  clear hr ho
  have H0 := Lib.hid (TBlk.new w tv0)
  have B0 := Lib.hid ((Below.refl w.heap.size w).alloc (Nat.le_refl _) (trkO tv0))
  go_enter Try.func13, Try.ntmps13
  go_wp2_with fail
  refine (C1.out _).mono ?_
  rintro e w1 ⟨rfl, hb⟩
  have h := H0.out.bel hb H0.out.lt
  have B1 := B0.out.trans (hb.mono B0.out.size)
  have c0 := h.c0
  have c1 := h.c1
  have c2 := h.c2
  have c3 := h.c3
  have c4 := h.c4
  have c5 := h.c5
  have c6 := h.c6
  have c7 := h.c7
  have c8 := h.c8
  have c9 := h.c9
  have c10 := h.c10
  have c11 := h.c11
  have c12 := h.c12
  have c13 := h.c13
  have c14 := h.c14
  have e0 := h.frozen 0
  have e1 := h.frozen 1
  have e2 := h.frozen 2
  have e3 := h.frozen 3
  have e4 := h.frozen 4
  have e5 := h.frozen 5
  have e6 := h.frozen 6
  have e7 := h.frozen 7
  have e8 := h.frozen 8
  have e9 := h.frozen 9
  have e10 := h.frozen 10
  have e11 := h.frozen 11
  have e12 := h.frozen 12
  have e13 := h.frozen 13
  have e14 := h.frozen 14
  have HD := Lib.hid (h.store ⟨r, co0, ck0, o, 65535, 0, 0⟩)
  have HB := Lib.hid (bel_putT B1 (Nat.le_refl _) ⟨r, co0, ck0, o, 65535, 0, 0⟩)
  clear hb h B1 H0 B0 C1
  go_wp2_with (go_at_call 17; refine (C2.out _).mono ?_; rintro e w' ⟨rfl, rfl⟩)
  exact retT_at Try.results13 HD.out ⟨rfl, HB.out⟩
set_option maxHeartbeats 4000000 in
theorem rnew_any (w : World) (p s n : Int) : Calls Try.prog 14 #[.int .i64 p, .int .i64 s, .int .i64 n] w fun e w' => e = .returned (trkV (newT p s n)) ∧ Below w.heap.size w w' := by
  have C1 := Lib.hid (fun W => Gat.rnew_any W n)
  have C2 := Lib.hid (fun W => rout_any W p s)
  unfold newT
  obtain ⟨r, hr⟩ : ∃ r, nw n = r := ⟨_, rfl⟩
  obtain ⟨o, ho⟩ : ∃ o, outN p s = o := ⟨_, rfl⟩
  rw [hr] at C1 ⊢
  rw [ho] at C2 ⊢
  clear hr ho
  have H0 := Lib.hid (TBlk.new w tv0)
  have B0 := Lib.hid ((Below.refl w.heap.size w).alloc (Nat.le_refl _) (trkO tv0))
  go_enter Try.func14, Try.ntmps14
  go_wp2_with fail
  refine (C1.out _).mono ?_
  rintro e w1 ⟨rfl, hb⟩
  have h := H0.out.bel hb H0.out.lt
  have B1 := B0.out.trans (hb.mono B0.out.size)
  have c0 := h.c0
  have c1 := h.c1
  have c2 := h.c2
  have c3 := h.c3
  have c4 := h.c4
  have c5 := h.c5
  have c6 := h.c6
  have c7 := h.c7
  have c8 := h.c8
  have c9 := h.c9
  have c10 := h.c10
  have c11 := h.c11
  have c12 := h.c12
  have c13 := h.c13
  have c14 := h.c14
  have e0 := h.frozen 0
  have e1 := h.frozen 1
  have e2 := h.frozen 2
  have e3 := h.frozen 3
  have e4 := h.frozen 4
  have e5 := h.frozen 5
  have e6 := h.frozen 6
  have e7 := h.frozen 7
  have e8 := h.frozen 8
  have e9 := h.frozen 9
  have e10 := h.frozen 10
  have e11 := h.frozen 11
  have e12 := h.frozen 12
  have e13 := h.frozen 13
  have e14 := h.frozen 14
  have HD := Lib.hid (h.store ⟨r, co0, ck0, o, 65535, 0, 0⟩)
  have HB := Lib.hid (bel_putT B1 (Nat.le_refl _) ⟨r, co0, ck0, o, 65535, 0, 0⟩)
  clear hb h B1 H0 B0 C1
  go_wp2_with (go_at_call 18; refine (C2.out _).mono ?_; rintro e w' ⟨rfl, rfl⟩)
  exact retT_at Try.results14 HD.out ⟨rfl, HB.out⟩
end Go.Proofs.Ytolobojidnomfaa.Stp
