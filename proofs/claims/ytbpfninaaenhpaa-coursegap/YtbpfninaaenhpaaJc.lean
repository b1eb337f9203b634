/- CourseRow walked. -/
import Derived.Test.YtbpfninaaenhpaaJb
import Derived.Deep.Cut
import Derived.Deep.DeepCutAuto
import Derived.Deep.CutRange
set_option maxRecDepth 100000
namespace Go.Proofs.Ytbpfninaaenhpaa.Crs
open Go.RowKit
set_option linter.unusedVariables false

theorem stp_brk (c : Co) (i : Int) : stp (brk c) i = ((true, i, (c.2.2.2 - i) % 65536, (c.2.2.2 + 1) % 65536), c.2.2.2, true) := stp_yes (by simp [refd, brk])
/-- The course at block q, carried through a walk that began at w0. -/
structure Cur (w0 w : World) (q : Nat) (c : Co) : Prop where
  blk : CBlk w q c
  bel : Below w0.heap.size w0 w
  lo : w0.heap.size ≤ q
section
variable {w0 w w' : World} {q : Nat} {c : Co}
theorem Cur.more (h : Cur w0 w q c) (hb : Below w.heap.size w w') : Cur w0 w' q c := ⟨h.blk.bel hb h.blk.lt, h.bel.trans (hb.mono h.bel.size), h.lo⟩
theorem Cur.drew (h : Cur w0 w q c) : Cur w0 w.drew q c := h.more (Below.refl _ _).drew
theorem Cur.new (h : Cur w0 w q c) (x : Co) : Cur w0 (w.alloc (coO x)) q c := h.more ((Below.refl _ _).alloc (Nat.le_refl _) _)
theorem Cur.put (h : Cur w0 w q c) (y : Co) : Cur w0 (put4 w q y) q y := ⟨h.blk.store y, bel_put4 h.bel h.lo y, h.lo⟩
theorem Cur.other {b : Nat} (h : Cur w0 w q c) (hq : q ≠ b) (hb : w0.heap.size ≤ b) (y : Co) : Cur w0 (put4 w b y) q c := ⟨h.blk.other hq y, bel_put4 h.bel hb y, h.lo⟩
end
set_option maxHeartbeats 4000000 in
theorem row_any (w : World) (c : Co) (i : Int) (ad : Option Addr) (m cap : Nat) (xs : List Int) (hr : RowRd w16L w w.heap.size ad m xs) (hx : ∀ x ∈ xs, 0 ≤ x ∧ x ≤ 65535) :
    Calls Try.prog 5 #[coV c, .int .u16 i, .slice ad m cap] w fun e w' => e = .returned (.bool true) ∧ Below w.heap.size w w' := by
  have CS := Lib.hid (fun W => shown_any W)
  have CB := Lib.hid (fun W => brk_any W c)
  have C1 := Lib.hid (fun W => step_any W (brk c) i)
  rw [stp_brk] at C1
  obtain ⟨b, hb⟩ : ∃ b, brk c = b := ⟨_, rfl⟩
  rw [hb] at CB C1
  obtain ⟨d, hd⟩ : ∃ d : Co, (true, i, (c.2.2.2 - i) % 65536, (c.2.2.2 + 1) % 65536) = d := ⟨_, rfl⟩
  rw [hd] at C1
  have HD : Hid (d.1 = true ∧ d.2.2.1 = (d.2.2.2 - 1 - d.2.1) % 65536) := by rw [← hd]; exact Lib.hid ⟨rfl, by show (c.2.2.2 - i) % 65536 = ((c.2.2.2 + 1) % 65536 - 1 - i) % 65536; omega⟩
  have HR := Lib.hid hr
  have HX := Lib.hid hx
  have H0 : Hid (Cur w (w.alloc (coO c)) w.heap.size c) := Lib.hid ⟨CBlk.new w c, (Below.refl _ _).alloc (Nat.le_refl _) _, Nat.le_refl _⟩
  clear hb hd hr hx
  go_enter Try.func5, Try.ntmps5
  go_wp2_with fail
  refine (CS.out _).mono ?_
  rintro e w1 ⟨rfl, hb⟩
  have H1 := H0.out.more hb
  have c0 := H1.blk.c0
  have c1 := H1.blk.c1
  have c2 := H1.blk.c2
  have c3 := H1.blk.c3
  have H1 := Lib.hid H1
  clear hb H0 CS
  go_wp2_with fail
  refine (CB.out _).mono ?_
  rintro e w2 ⟨rfl, hb⟩
  have H2 := Lib.hid (H1.out.more hb)
  clear hb H1 CB c0 c1 c2 c3
  go_wp2_with fail
  refine (C1.out _).mono ?_
  rintro e w3 ⟨rfl, hb⟩
  have H3 := H2.out.more hb
  have f0 := H3.blk.frozen 0
  have f1 := H3.blk.frozen 1
  have f2 := H3.blk.frozen 2
  have f3 := H3.blk.frozen 3
  have c0 := H3.blk.c0
  have c1 := H3.blk.c1
  have c2 := H3.blk.c2
  have c3 := H3.blk.c3
  have H4 := H3.put d
  dsimp only [put4] at H4
  have H4 := Lib.hid H4
  clear hb H2 C1 H3
  go_wp2_with fail
  generalize (((w3.setCell ⟨w.heap.size, 0, none⟩ (.bool d.1)).setCell ⟨w.heap.size, 1, none⟩ (.int .u16 d.2.1)).setCell ⟨w.heap.size, 2, none⟩ (.int .u16 d.2.2.1)).setCell ⟨w.heap.size, 3, none⟩ (.int .u16 d.2.2.2) = w4 at *
  clear f0 f1 f2 f3 c0 c1 c2 c3
  go_loopw [7] (fun s7 wx => ∃ (i : Nat) (d : Co), i ≤ m ∧ i ≤ 100 ∧ s7 = .int .i64 i ∧ Hid (Cur w wx w.heap.size d) ∧ Hid (d.1 = true ∧ d.2.2.1 = (d.2.2.2 - 1 - d.2.1) % 65536)) (fun s7 _ => m - (intOf s7).toNat)
  case atStart => exact ⟨0, d, by omega, by omega, rfl, H4, HD⟩
  case round =>
    obtain ⟨k, y, hkm, hk1, rfl, hy, he⟩ := hrel
    rename World => wx
    clear H4 HD
    obtain ⟨l, a, o, n⟩ := y
    obtain ⟨hl, ho⟩ := he.out
    obtain rfl : l = true := hl
    simp only at ho
    clear he
    by_cases h1 : k < m
    · have hd1 : decide (k < m) = true := by simp; exact h1
      by_cases h2 : k < 100
      · have hd2 : decide ((k : Int) < 100) = true := by simp; omega
        obtain ⟨tb, toff, g, rfl, htb, hg, t0⟩ := u16_at HR.out h1
        have T0 := (hy.out.bel.cell (p := ⟨tb, toff + k, none⟩) htb).trans t0
        obtain ⟨g0, g1⟩ := HX.out g (List.mem_of_getElem? hg)
        clear t0 hg htb
        by_cases h3 : 32000 < g
        · have HO := Lib.hid ho
          clear ho
          go_wp2
          go_roundw
          case rel => exact ⟨k + 1, (true, a, o, n), by omega, by omega, by go_num, hy, Lib.hid ⟨rfl, HO.out⟩⟩
          case measure => simp [intOf]; omega
        · obtain ⟨a1, ha1⟩ : ∃ a1, (a + 1) % 65536 = a1 := ⟨_, rfl⟩
          obtain ⟨j, hj⟩ : ∃ j, (a1 + g) % 65536 = j := ⟨_, rfl⟩
          obtain ⟨p, hp⟩ : ∃ p, (n - j) % 65536 = p := ⟨_, rfl⟩
          obtain ⟨r, hr⟩ : ∃ r, (n + 1) % 65536 = r := ⟨_, rfl⟩
          have q1 : IntKind.u16.wrap (a + 1) = a1 := by rw [u16_wrap]; exact ha1
          have q2 : IntKind.u16.wrap (a1 + g) = j := by rw [u16_wrap]; exact hj
          have q3 : IntKind.u16.wrap (o - g) = p := by rw [u16_wrap]; omega
          have HO : Hid (p = (r - 1 - j) % 65536) := Lib.hid (by omega)
          have C1 := Lib.hid (fun W => step_any W (true, a, o, n) j)
          rw [stp_yes (by simp [refd, ah16, d16]; omega), show (n - j) % 65536 = p from hp, show (n + 1) % 65536 = r from hr] at C1
          have hz := hy.out
          have C0 := hz.blk.c0
          have e1 := hz.blk.c1
          have e2 := hz.blk.c2
          have e3 := hz.blk.c3
          clear ha1 hj hp hr ho hz
          go_wp2_with fail
          refine (C1.out _).mono ?_
          rintro e w5 ⟨rfl, hb⟩
          have H5 := (hy.out.more hb).new (true, j, p, r)
          have D5 := CBlk.new w5 (true, j, p, r)
          clear C0 e1 e2 e3 T0 hy C1 hb
          go_upto_region 10 with fail
          obtain ⟨w6, hw6⟩ : ∃ w6, w5.alloc (coO (true, j, p, r)) = w6 := ⟨_, rfl⟩
          rw [hw6] at H5 D5
          rw [hw6]
          clear hw6
          have f0 := H5.blk.frozen 0
          have f1 := H5.blk.frozen 1
          have f2 := H5.blk.frozen 2
          have f3 := H5.blk.frozen 3
          have C0 := H5.blk.c0
          have e1 := H5.blk.c1
          have e2 := H5.blk.c2
          have e3 := H5.blk.c3
          have d0 := D5.c0
          have d1 := D5.c1
          have d2 := D5.c2
          have d3 := D5.c3
          have H6 := H5.put (true, j, p, r)
          dsimp only [put4] at H6
          have H6 := Lib.hid H6
          clear H5 D5
          go_wp2_with fail
          generalize (((w6.setCell ⟨w.heap.size, 0, none⟩ (.bool true)).setCell ⟨w.heap.size, 1, none⟩ (.int .u16 j)).setCell ⟨w.heap.size, 2, none⟩ (.int .u16 p)).setCell ⟨w.heap.size, 3, none⟩ (.int .u16 r) = w7 at *
          go_roundw
          case rel => exact ⟨k + 1, (true, j, p, r), by omega, by omega, by go_num, H6, Lib.hid ⟨rfl, HO.out⟩⟩
          case measure => simp [intOf]; omega
      · obtain rfl : k = 100 := by omega
        have C0 := hy.out.blk.c0
        clear ho
        go_wp2
        go_ret
        exact ⟨rfl, hy.out.bel⟩
    · obtain rfl : k = m := by omega
      have hd1 : decide (k < k) = false := by simp
      have C0 := hy.out.blk.c0
      clear ho
      go_wp2
      go_ret
      exact ⟨rfl, hy.out.bel⟩
end Go.Proofs.Ytbpfninaaenhpaa.Crs
