/- GateKeys walked. -/
import Derived.Test.YtmnkeogfklbjgaaJp
import Derived.Test.YtmnkeogfklbjgaaJq
set_option maxRecDepth 100000
namespace Go.Proofs.Ytmnkeogfklbjgaa.Gat
open Go.RowKit
set_option linter.unusedVariables false

/-- The cells of a row's k-th act. -/
theorem gact_at {w : World} {B n k : Nat} {a : Option Addr} {xs : List Gact} (h : RowRd gactL w B a n xs) (hk : k < n) : ∃ b off x, a = some ⟨b, off, none⟩ ∧ b < B ∧ xs[k]? = some x ∧
    w.cell? ⟨b, off + k * 3, none⟩ = some (.int .i64 x.1) ∧ w.cell? ⟨b, off + k * 3 + 1, none⟩ = some (.int .i64 x.2.1) ∧ w.cell? ⟨b, off + k * 3 + 2, none⟩ = some (.bool x.2.2) := by
  obtain ⟨b, off, x, e, hlt, hx, hc⟩ := Opn.row_cells h hk
  exact ⟨b, off, x, e, hlt, hx, hc 0 _ rfl, hc 1 _ rfl, hc 2 _ rfl⟩
abbrev actO (x : Gact) : Obj := .cells #[.int .i64 x.1, .int .i64 x.2.1, .bool x.2.2] 34 (0, 0)
/-- A round: the gate at its block, the act at its own. -/
structure Rnd (w0 w : World) (q : Nat) (d : Gt) (b : Nat) (x : Gact) : Prop where
  cur : Cur w0 w q d
  act : w.heap[b]? = some (actO x)
  ne : q ≠ b
section
variable {w0 w w' : World} {q b : Nat} {d : Gt} {x : Gact}
theorem Rnd.start (h : Cur w0 w q d) (x : Gact) : Rnd w0 (w.alloc (actO x)) q d w.heap.size x :=
  ⟨h.more ((Below.refl _ _).alloc (Nat.le_refl _) _), heap_alloc_new w _, Nat.ne_of_lt h.blk.lt⟩
theorem Rnd.more (h : Rnd w0 w q d b x) (hb : Below w.heap.size w w') : Rnd w0 w' q d b x := ⟨h.cur.more hb, (hb.block b (lt_of_some h.act)).trans h.act, h.ne⟩
theorem Rnd.new (h : Rnd w0 w q d b x) (y : Gt) : Rnd w0 (w.alloc (gtO y)) q d b x := h.more ((Below.refl _ _).alloc (Nat.le_refl _) _)
theorem Rnd.put (h : Rnd w0 w q d b x) (y : Gt) : Rnd w0 (put4 w q y) q y b x := ⟨h.cur.put y, by
  rw [Below.heap_setCell _ _ _ _ (Ne.symm h.ne), Below.heap_setCell _ _ _ _ (Ne.symm h.ne), Below.heap_setCell _ _ _ _ (Ne.symm h.ne), Below.heap_setCell _ _ _ _ (Ne.symm h.ne)]
  exact h.act, h.ne⟩
theorem Rnd.a0 (h : Rnd w0 w q d b x) : w.cell? ⟨b, 0, none⟩ = some (.int .i64 x.1) := by rw [cell_of_row w b 0 _ _ _ h.act]; rfl
theorem Rnd.a1 (h : Rnd w0 w q d b x) : w.cell? ⟨b, 1, none⟩ = some (.int .i64 x.2.1) := by rw [cell_of_row w b 1 _ _ _ h.act]; rfl
theorem Rnd.a2 (h : Rnd w0 w q d b x) : w.cell? ⟨b, 2, none⟩ = some (.bool x.2.2) := by rw [cell_of_row w b 2 _ _ _ h.act]; rfl
end
theorem tke_ways (n c : Int) (p m : Bool) (l : Int) (k : Bool) : tke (n, c, p, m) l k = ((n, c, p, m), 4) ∨ (qui (n, c, p, m) = false ∧ k = true ∧ l = n ∧ tke (n, c, p, m) l k = ((n, n, p, m), 2)) ∨ (l = c ∧ tke (n, c, p, m) l k = ((n, c, p, m), 1)) ∨ tke (n, c, p, m) l k = ((n, c, p, m), 3) := by
  unfold tke
  by_cases hq : qui (n, c, p, m) = true
  · exact .inl (if_pos hq)
  rw [if_neg hq]
  by_cases h1 : k = true ∧ l = n ∧ c ≠ n
  · exact .inr (.inl ⟨by simpa using hq, h1.1, h1.2.1, if_pos h1⟩)
  rw [if_neg h1]
  by_cases h2 : l = c
  · exact .inr (.inr (.inl ⟨h2, if_pos h2⟩))
  · exact .inr (.inr (.inr (if_neg h2)))
set_option maxHeartbeats 4000000 in
theorem keys_any (w : World) (want : Int) (ad : Option Addr) (m cap : Nat) (xs : List Gact) (hr : RowRd gactL w w.heap.size ad m xs) :
    Calls Try.prog 4 #[.int .i64 want, .slice ad m cap] w fun e w' => e = .returned (.bool true) ∧ Below w.heap.size w w' := by
  have CS := Lib.hid (fun W => shown_any W)
  have CN := Lib.hid (fun W => new_any W want)
  have HR := Lib.hid hr
  obtain ⟨d0, hd0⟩ : ∃ d, nw want = d := ⟨_, rfl⟩
  have HI : Hid (d0.2.1 = -1 ∨ d0.2.1 = -1) := Lib.hid (by rw [← hd0]; exact Or.inl rfl)
  rw [hd0] at CN
  clear hr hd0
  go_enter Try.func4, Try.ntmps4
  go_wp2_with fail
  refine (CS.out _).mono ?_
  rintro e w1 ⟨rfl, hb⟩
  have HB := Lib.hid hb
  clear hb CS
  go_wp2_with fail
  refine (CN.out _).mono ?_
  rintro e w2 ⟨rfl, hb⟩
  have h2 := HB.out.trans (hb.mono HB.out.size)
  have H2 : Hid (Cur w (w2.alloc (gtO d0)) w2.heap.size d0) := Lib.hid ⟨CBlk.new w2 _, h2.alloc h2.size _, h2.size⟩
  clear hb h2 HB CN
  go_wp2_with fail
  obtain ⟨bg, hbg⟩ : ∃ b, w2.heap.size = b := ⟨_, rfl⟩
  obtain ⟨w3, hw3⟩ : ∃ b, w2.alloc (gtO d0) = b := ⟨_, rfl⟩
  rw [hw3, hbg] at H2
  rw [hw3, hbg]
  clear hw3 hbg
  go_loopw [6, 7] (fun s6 s7 wx => ∃ (i : Nat) (d : Gt) (L : Int), i ≤ m ∧ i ≤ 200 ∧ s6 = .int .i64 L ∧ s7 = .int .i64 i ∧ Hid (Cur w wx bg d) ∧ Hid (d.2.1 = L ∨ d.2.1 = -1)) (fun _ s7 _ => m - (intOf s7).toNat)
  case atStart => exact ⟨0, d0, -1, by omega, by omega, rfl, rfl, H2, HI⟩
  case round =>
    obtain ⟨k, d, L, hkm, hk1, rfl, rfl, hy, he⟩ := hrel
    rename World => wx
    clear H2 HI
    by_cases h1 : k < m
    · have hd1 : decide (k < m) = true := by simp; exact h1
      by_cases h2 : k < 200
      · have hd2 : decide ((k : Int) < 200) = true := by simp; omega
        obtain ⟨tb, toff, ⟨kd, l, on⟩, rfl, htb, hx, t0, t1, t2⟩ := gact_at HR.out h1
        have b0 := (hy.out.bel.cell (p := ⟨tb, toff + k * 3, none⟩) htb).trans t0
        have b1 := (hy.out.bel.cell (p := ⟨tb, toff + k * 3 + 1, none⟩) htb).trans t1
        have b2 := (hy.out.bel.cell (p := ⟨tb, toff + k * 3 + 2, none⟩) htb).trans t2
        have R0 := Lib.hid (Rnd.start hy.out (kd, l, on))
        clear t0 t1 t2 hx htb hy
        obtain ⟨dw, dc, dp, dm⟩ := d
        by_cases k1 : kd = 1
        · subst k1
          cases on with
          | true =>
            have CP := Lib.hid (fun W => pause_any W (dw, dc, dp, dm) true)
            rw [show pse (dw, dc, dp, dm) true = (dw, -1, true, dm) from rfl] at CP
            have d0 := R0.out.cur.blk.c0
            have d1 := R0.out.cur.blk.c1
            have d2 := R0.out.cur.blk.c2
            have d3 := R0.out.cur.blk.c3
            have a0 := R0.out.a0
            have a1 := R0.out.a1
            have a2 := R0.out.a2
            go_wp2_with fail
            refine (CP.out _).mono ?_
            rintro e w5 ⟨rfl, hb⟩
            have R5 := Lib.hid (R0.out.more hb)
            clear d0 d1 d2 d3 a0 a1 a2 hb CP b0 b1 b2
            have c0 := R5.out.cur.blk.c0
            have c1 := R5.out.cur.blk.c1
            have c2 := R5.out.cur.blk.c2
            have c3 := R5.out.cur.blk.c3
            have e0 := R5.out.cur.blk.frozen 0
            have e1 := R5.out.cur.blk.frozen 1
            have e2 := R5.out.cur.blk.frozen 2
            have e3 := R5.out.cur.blk.frozen 3
            have R6 := R5.out.put (dw, -1, true, dm)
            dsimp only [put4] at R6
            replace R6 := Lib.hid R6
            clear R0 R5
            go_upto_region 23 with fail
            obtain ⟨w6, hw6⟩ : ∃ w6, (((w5.setCell ⟨bg, 0, none⟩ (.int .i64 dw)).setCell ⟨bg, 1, none⟩ (.int .i64 (-1))).setCell ⟨bg, 2, none⟩ (.bool true)).setCell ⟨bg, 3, none⟩ (.bool dm) = w6 := ⟨_, rfl⟩
            rw [hw6] at R6 ⊢
            clear hw6 c0 c1 c2 c3 e0 e1 e2 e3
            have a0 := R6.out.a0
            have a1 := R6.out.a1
            have a2 := R6.out.a2
            go_wp2
            go_roundw
            case rel => exact ⟨k + 1, (dw, -1, true, dm), -2, by omega, by omega, by go_num, by go_num, R6.out.cur |> Lib.hid, Lib.hid (Or.inr rfl)⟩
            case measure => simp [intOf]; omega
          | false =>
            have CP := Lib.hid (fun W => pause_any W (dw, dc, dp, dm) false)
            rw [show pse (dw, dc, dp, dm) false = (dw, dc, false, dm) from rfl] at CP
            have d0 := R0.out.cur.blk.c0
            have d1 := R0.out.cur.blk.c1
            have d2 := R0.out.cur.blk.c2
            have d3 := R0.out.cur.blk.c3
            have a0 := R0.out.a0
            have a1 := R0.out.a1
            have a2 := R0.out.a2
            go_wp2_with fail
            refine (CP.out _).mono ?_
            rintro e w5 ⟨rfl, hb⟩
            have R5 := Lib.hid (R0.out.more hb)
            clear d0 d1 d2 d3 a0 a1 a2 hb CP b0 b1 b2
            have c0 := R5.out.cur.blk.c0
            have c1 := R5.out.cur.blk.c1
            have c2 := R5.out.cur.blk.c2
            have c3 := R5.out.cur.blk.c3
            have e0 := R5.out.cur.blk.frozen 0
            have e1 := R5.out.cur.blk.frozen 1
            have e2 := R5.out.cur.blk.frozen 2
            have e3 := R5.out.cur.blk.frozen 3
            have R6 := R5.out.put (dw, dc, false, dm)
            dsimp only [put4] at R6
            replace R6 := Lib.hid R6
            clear R0 R5
            go_upto_region 23 with fail
            obtain ⟨w6, hw6⟩ : ∃ w6, (((w5.setCell ⟨bg, 0, none⟩ (.int .i64 dw)).setCell ⟨bg, 1, none⟩ (.int .i64 dc)).setCell ⟨bg, 2, none⟩ (.bool false)).setCell ⟨bg, 3, none⟩ (.bool dm) = w6 := ⟨_, rfl⟩
            rw [hw6] at R6 ⊢
            clear hw6 c0 c1 c2 c3 e0 e1 e2 e3
            have a0 := R6.out.a0
            have a1 := R6.out.a1
            have a2 := R6.out.a2
            go_wp2
            go_roundw
            case rel => exact ⟨k + 1, (dw, dc, false, dm), L, by omega, by omega, by go_num, by go_num, R6.out.cur |> Lib.hid, he⟩
            case measure => simp [intOf]; omega
        by_cases k2 : kd = 2
        · subst k2
          cases on with
          | true =>
            have CP := Lib.hid (fun W => mute_any W (dw, dc, dp, dm) true)
            rw [show mte (dw, dc, dp, dm) true = (dw, -1, dp, true) from rfl] at CP
            have d0 := R0.out.cur.blk.c0
            have d1 := R0.out.cur.blk.c1
            have d2 := R0.out.cur.blk.c2
            have d3 := R0.out.cur.blk.c3
            have a0 := R0.out.a0
            have a1 := R0.out.a1
            have a2 := R0.out.a2
            go_wp2_with fail
            refine (CP.out _).mono ?_
            rintro e w5 ⟨rfl, hb⟩
            have R5 := Lib.hid (R0.out.more hb)
            clear d0 d1 d2 d3 a0 a1 a2 hb CP b0 b1 b2
            have c0 := R5.out.cur.blk.c0
            have c1 := R5.out.cur.blk.c1
            have c2 := R5.out.cur.blk.c2
            have c3 := R5.out.cur.blk.c3
            have e0 := R5.out.cur.blk.frozen 0
            have e1 := R5.out.cur.blk.frozen 1
            have e2 := R5.out.cur.blk.frozen 2
            have e3 := R5.out.cur.blk.frozen 3
            have R6 := R5.out.put (dw, -1, dp, true)
            dsimp only [put4] at R6
            replace R6 := Lib.hid R6
            clear R0 R5
            go_upto_region 23 with fail
            obtain ⟨w6, hw6⟩ : ∃ w6, (((w5.setCell ⟨bg, 0, none⟩ (.int .i64 dw)).setCell ⟨bg, 1, none⟩ (.int .i64 (-1))).setCell ⟨bg, 2, none⟩ (.bool dp)).setCell ⟨bg, 3, none⟩ (.bool true) = w6 := ⟨_, rfl⟩
            rw [hw6] at R6 ⊢
            clear hw6 c0 c1 c2 c3 e0 e1 e2 e3
            have a0 := R6.out.a0
            have a1 := R6.out.a1
            have a2 := R6.out.a2
            go_wp2
            go_roundw
            case rel => exact ⟨k + 1, (dw, -1, dp, true), -2, by omega, by omega, by go_num, by go_num, R6.out.cur |> Lib.hid, Lib.hid (Or.inr rfl)⟩
            case measure => simp [intOf]; omega
          | false =>
            have CP := Lib.hid (fun W => mute_any W (dw, dc, dp, dm) false)
            rw [show mte (dw, dc, dp, dm) false = (dw, dc, dp, false) from rfl] at CP
            have d0 := R0.out.cur.blk.c0
            have d1 := R0.out.cur.blk.c1
            have d2 := R0.out.cur.blk.c2
            have d3 := R0.out.cur.blk.c3
            have a0 := R0.out.a0
            have a1 := R0.out.a1
            have a2 := R0.out.a2
            go_wp2_with fail
            refine (CP.out _).mono ?_
            rintro e w5 ⟨rfl, hb⟩
            have R5 := Lib.hid (R0.out.more hb)
            clear d0 d1 d2 d3 a0 a1 a2 hb CP b0 b1 b2
            have c0 := R5.out.cur.blk.c0
            have c1 := R5.out.cur.blk.c1
            have c2 := R5.out.cur.blk.c2
            have c3 := R5.out.cur.blk.c3
            have e0 := R5.out.cur.blk.frozen 0
            have e1 := R5.out.cur.blk.frozen 1
            have e2 := R5.out.cur.blk.frozen 2
            have e3 := R5.out.cur.blk.frozen 3
            have R6 := R5.out.put (dw, dc, dp, false)
            dsimp only [put4] at R6
            replace R6 := Lib.hid R6
            clear R0 R5
            go_upto_region 23 with fail
            obtain ⟨w6, hw6⟩ : ∃ w6, (((w5.setCell ⟨bg, 0, none⟩ (.int .i64 dw)).setCell ⟨bg, 1, none⟩ (.int .i64 dc)).setCell ⟨bg, 2, none⟩ (.bool dp)).setCell ⟨bg, 3, none⟩ (.bool false) = w6 := ⟨_, rfl⟩
            rw [hw6] at R6 ⊢
            clear hw6 c0 c1 c2 c3 e0 e1 e2 e3
            have a0 := R6.out.a0
            have a1 := R6.out.a1
            have a2 := R6.out.a2
            go_wp2
            go_roundw
            case rel => exact ⟨k + 1, (dw, dc, dp, false), L, by omega, by omega, by go_num, by go_num, R6.out.cur |> Lib.hid, he⟩
            case measure => simp [intOf]; omega
        by_cases k3 : kd = 3
        · subst k3
          obtain ⟨h, hh⟩ : ∃ h, hld l = h := ⟨_, rfl⟩
          have CP := Lib.hid (fun W => want_any W (dw, dc, dp, dm) l)
          rw [show wnt (dw, dc, dp, dm) l = (h, dc, dp, dm) from by rw [← hh]; rfl] at CP
          clear hh
          have d0 := R0.out.cur.blk.c0
          have d1 := R0.out.cur.blk.c1
          have d2 := R0.out.cur.blk.c2
          have d3 := R0.out.cur.blk.c3
          have a0 := R0.out.a0
          have a1 := R0.out.a1
          have a2 := R0.out.a2
          go_wp2_with fail
          refine (CP.out _).mono ?_
          rintro e w5 ⟨rfl, hb⟩
          have R5 := Lib.hid (R0.out.more hb)
          clear d0 d1 d2 d3 a0 a1 a2 hb CP b0 b1 b2
          have c0 := R5.out.cur.blk.c0
          have c1 := R5.out.cur.blk.c1
          have c2 := R5.out.cur.blk.c2
          have c3 := R5.out.cur.blk.c3
          have e0 := R5.out.cur.blk.frozen 0
          have e1 := R5.out.cur.blk.frozen 1
          have e2 := R5.out.cur.blk.frozen 2
          have e3 := R5.out.cur.blk.frozen 3
          have R6 := R5.out.put (h, dc, dp, dm)
          dsimp only [put4] at R6
          replace R6 := Lib.hid R6
          clear R0 R5
          go_upto_region 23 with fail
          obtain ⟨w6, hw6⟩ : ∃ w6, (((w5.setCell ⟨bg, 0, none⟩ (.int .i64 h)).setCell ⟨bg, 1, none⟩ (.int .i64 dc)).setCell ⟨bg, 2, none⟩ (.bool dp)).setCell ⟨bg, 3, none⟩ (.bool dm) = w6 := ⟨_, rfl⟩
          rw [hw6] at R6 ⊢
          clear hw6 c0 c1 c2 c3 e0 e1 e2 e3
          have a0 := R6.out.a0
          have a1 := R6.out.a1
          have a2 := R6.out.a2
          go_wp2
          go_roundw
          case rel => exact ⟨k + 1, (h, dc, dp, dm), L, by omega, by omega, by go_num, by go_num, R6.out.cur |> Lib.hid, he⟩
          case measure => simp [intOf]; omega
        have n1 : (kd == 1) = false := by simpa using k1
        have n2 : (kd == 2) = false := by simpa using k2
        have n3 : (kd == 3) = false := by simpa using k3
        clear k1 k2 k3
        by_cases h4 : l < 0
        · have hd3 : decide (l < 0) = true := by simpa using h4
          have a0 := R0.out.a0
          have a1 := R0.out.a1
          have a2 := R0.out.a2
          have H9 := Lib.hid R0.out.cur
          clear R0
          go_wp2
          go_roundw
          case rel => exact ⟨k + 1, (dw, dc, dp, dm), L, by omega, by omega, by go_num, by go_num, H9, he⟩
          case measure => simp [intOf]; omega
        have hd3 : decide (l < 0) = false := by simpa using h4
        have CT := Lib.hid (fun W => take_any W (dw, dc, dp, dm) l on)
        have d0 := R0.out.cur.blk.c0
        have d1 := R0.out.cur.blk.c1
        have d2 := R0.out.cur.blk.c2
        have d3 := R0.out.cur.blk.c3
        have a0 := R0.out.a0
        have a1 := R0.out.a1
        have a2 := R0.out.a2
        rcases tke_ways dw dc dp dm l on with ht | ⟨hq, rfl, rfl, ht⟩ | ⟨rfl, ht⟩ | ht
        · rw [ht] at CT
          clear ht
          have KE := neq_same (dw, dc, dp, dm)
          go_wp2_with fail
          refine (CT.out _).mono ?_
          rintro e w4 ⟨rfl, hb⟩
          have R4 := Lib.hid ((R0.out.more hb).new (dw, dc, dp, dm))
          have N4 : Hid (Cur w (w4.alloc (gtO (dw, dc, dp, dm))) w4.heap.size (dw, dc, dp, dm)) := Lib.hid ⟨CBlk.new w4 _, R4.out.cur.bel, (R0.out.more hb).cur.bel.size⟩
          clear d0 d1 d2 d3 a0 a1 a2 hb CT b0 b1 b2 R0
          go_upto_region 12 with fail
          obtain ⟨w5, hw5⟩ : ∃ w5, w4.alloc (gtO (dw, dc, dp, dm)) = w5 := ⟨_, rfl⟩
          obtain ⟨bn, hbn⟩ : ∃ bn, w4.heap.size = bn := ⟨_, rfl⟩
          rw [hw5] at R4
          rw [hw5, hbn] at N4
          rw [hw5, hbn]
          clear hw5 hbn
          have a0 := R4.out.a0
          have a1 := R4.out.a1
          have a2 := R4.out.a2
          have c0 := R4.out.cur.blk.c0
          have c1 := R4.out.cur.blk.c1
          have c2 := R4.out.cur.blk.c2
          have c3 := R4.out.cur.blk.c3
          have n0 := N4.out.blk.c0
          have n1 := N4.out.blk.c1
          have n2 := N4.out.blk.c2
          have n3 := N4.out.blk.c3
          have e0 := R4.out.cur.blk.frozen 0
          have e1 := R4.out.cur.blk.frozen 1
          have e2 := R4.out.cur.blk.frozen 2
          have e3 := R4.out.cur.blk.frozen 3
          have R6 := R4.out.put (dw, dc, dp, dm)
          dsimp only [put4] at R6
          replace R6 := Lib.hid R6
          clear R4 N4
          go_upto_region 15 with fail
          obtain ⟨w6, hw6⟩ : ∃ w6, (((w5.setCell ⟨bg, 0, none⟩ (.int .i64 dw)).setCell ⟨bg, 1, none⟩ (.int .i64 dc)).setCell ⟨bg, 2, none⟩ (.bool dp)).setCell ⟨bg, 3, none⟩ (.bool dm) = w6 := ⟨_, rfl⟩
          rw [hw6] at R6 ⊢
          clear hw6 a0 a1 a2 c0 c1 c2 c3 e0 e1 e2 e3 n0 n1 n2 n3
          have a0 := R6.out.a0
          have a1 := R6.out.a1
          have a2 := R6.out.a2
          go_wp2
          go_roundw
          case rel => exact ⟨k + 1, (dw, dc, dp, dm), L, by omega, by omega, by go_num, by go_num, Lib.hid R6.out.cur, he⟩
          case measure => simp [intOf]; omega
        · rw [ht] at CT
          have CQ := Lib.hid (fun W => quiet_any W (l, dc, dp, dm))
          rw [hq] at CQ
          clear ht hq
          have KE := neq_same (l, dc, dp, dm)
          go_wp2_with fail
          refine (CT.out _).mono ?_
          rintro e w4 ⟨rfl, hb⟩
          have R4 := Lib.hid ((R0.out.more hb).new (l, l, dp, dm))
          have N4 : Hid (Cur w (w4.alloc (gtO (l, l, dp, dm))) w4.heap.size (l, l, dp, dm)) := Lib.hid ⟨CBlk.new w4 _, R4.out.cur.bel, (R0.out.more hb).cur.bel.size⟩
          clear d0 d1 d2 d3 a0 a1 a2 hb CT b0 b1 b2 R0
          go_upto_region 12 with fail
          obtain ⟨w5, hw5⟩ : ∃ w5, w4.alloc (gtO (l, l, dp, dm)) = w5 := ⟨_, rfl⟩
          obtain ⟨bn, hbn⟩ : ∃ bn, w4.heap.size = bn := ⟨_, rfl⟩
          rw [hw5] at R4
          rw [hw5, hbn] at N4
          rw [hw5, hbn]
          clear hw5 hbn
          have a0 := R4.out.a0
          have a1 := R4.out.a1
          have a2 := R4.out.a2
          have c0 := R4.out.cur.blk.c0
          have c1 := R4.out.cur.blk.c1
          have c2 := R4.out.cur.blk.c2
          have c3 := R4.out.cur.blk.c3
          have n0 := N4.out.blk.c0
          have n1 := N4.out.blk.c1
          have n2 := N4.out.blk.c2
          have n3 := N4.out.blk.c3
          go_wp2_with fail
          refine (CQ.out _).mono ?_
          rintro e w7 ⟨rfl, hb⟩
          have R5 := Lib.hid (R4.out.more hb)
          have N5 := Lib.hid (N4.out.more hb)
          clear a0 a1 a2 c0 c1 c2 c3 n0 n1 n2 n3 R4 N4 hb CQ
          have a0 := R5.out.a0
          have a1 := R5.out.a1
          have a2 := R5.out.a2
          have n0 := N5.out.blk.c0
          have n1 := N5.out.blk.c1
          have n2 := N5.out.blk.c2
          have n3 := N5.out.blk.c3
          have c0 := R5.out.cur.blk.c0
          have c1 := R5.out.cur.blk.c1
          have c2 := R5.out.cur.blk.c2
          have c3 := R5.out.cur.blk.c3
          have e0 := R5.out.cur.blk.frozen 0
          have e1 := R5.out.cur.blk.frozen 1
          have e2 := R5.out.cur.blk.frozen 2
          have e3 := R5.out.cur.blk.frozen 3
          have R6 := R5.out.put (l, l, dp, dm)
          dsimp only [put4] at R6
          replace R6 := Lib.hid R6
          clear R5 N5
          go_upto_region 15 with fail
          obtain ⟨w6, hw6⟩ : ∃ w6, (((w7.setCell ⟨bg, 0, none⟩ (.int .i64 l)).setCell ⟨bg, 1, none⟩ (.int .i64 l)).setCell ⟨bg, 2, none⟩ (.bool dp)).setCell ⟨bg, 3, none⟩ (.bool dm) = w6 := ⟨_, rfl⟩
          rw [hw6] at R6 ⊢
          clear hw6 a0 a1 a2 c0 c1 c2 c3 e0 e1 e2 e3 n0 n1 n2 n3
          have a0 := R6.out.a0
          have a1 := R6.out.a1
          have a2 := R6.out.a2
          go_wp2
          go_roundw
          case rel => exact ⟨k + 1, (l, l, dp, dm), l, by omega, by omega, by go_num, by go_num, Lib.hid R6.out.cur, Lib.hid (Or.inl rfl)⟩
          case measure => simp [intOf]; omega
        · obtain rfl : l = L := by
            rcases he.out with h | h
            · exact h
            · exact absurd (show l < 0 from by rw [show l = -1 from h]; omega) h4
          rw [ht] at CT
          clear ht
          have KE := neq_same (dw, l, dp, dm)
          go_wp2_with fail
          refine (CT.out _).mono ?_
          rintro e w4 ⟨rfl, hb⟩
          have R4 := Lib.hid ((R0.out.more hb).new (dw, l, dp, dm))
          have N4 : Hid (Cur w (w4.alloc (gtO (dw, l, dp, dm))) w4.heap.size (dw, l, dp, dm)) := Lib.hid ⟨CBlk.new w4 _, R4.out.cur.bel, (R0.out.more hb).cur.bel.size⟩
          clear d0 d1 d2 d3 a0 a1 a2 hb CT b0 b1 b2 R0
          go_upto_region 12 with fail
          obtain ⟨w5, hw5⟩ : ∃ w5, w4.alloc (gtO (dw, l, dp, dm)) = w5 := ⟨_, rfl⟩
          obtain ⟨bn, hbn⟩ : ∃ bn, w4.heap.size = bn := ⟨_, rfl⟩
          rw [hw5] at R4
          rw [hw5, hbn] at N4
          rw [hw5, hbn]
          clear hw5 hbn
          have a0 := R4.out.a0
          have a1 := R4.out.a1
          have a2 := R4.out.a2
          have c0 := R4.out.cur.blk.c0
          have c1 := R4.out.cur.blk.c1
          have c2 := R4.out.cur.blk.c2
          have c3 := R4.out.cur.blk.c3
          have n0 := N4.out.blk.c0
          have n1 := N4.out.blk.c1
          have n2 := N4.out.blk.c2
          have n3 := N4.out.blk.c3
          have e0 := R4.out.cur.blk.frozen 0
          have e1 := R4.out.cur.blk.frozen 1
          have e2 := R4.out.cur.blk.frozen 2
          have e3 := R4.out.cur.blk.frozen 3
          have R6 := R4.out.put (dw, l, dp, dm)
          dsimp only [put4] at R6
          replace R6 := Lib.hid R6
          clear R4 N4
          go_upto_region 15 with fail
          obtain ⟨w6, hw6⟩ : ∃ w6, (((w5.setCell ⟨bg, 0, none⟩ (.int .i64 dw)).setCell ⟨bg, 1, none⟩ (.int .i64 l)).setCell ⟨bg, 2, none⟩ (.bool dp)).setCell ⟨bg, 3, none⟩ (.bool dm) = w6 := ⟨_, rfl⟩
          rw [hw6] at R6 ⊢
          clear hw6 a0 a1 a2 c0 c1 c2 c3 e0 e1 e2 e3 n0 n1 n2 n3
          have a0 := R6.out.a0
          have a1 := R6.out.a1
          have a2 := R6.out.a2
          go_wp2
          go_roundw
          case rel => exact ⟨k + 1, (dw, l, dp, dm), l, by omega, by omega, by go_num, by go_num, Lib.hid R6.out.cur, Lib.hid (Or.inl rfl)⟩
          case measure => simp [intOf]; omega
        · rw [ht] at CT
          clear ht
          have KE := neq_same (dw, dc, dp, dm)
          go_wp2_with fail
          refine (CT.out _).mono ?_
          rintro e w4 ⟨rfl, hb⟩
          have R4 := Lib.hid ((R0.out.more hb).new (dw, dc, dp, dm))
          have N4 : Hid (Cur w (w4.alloc (gtO (dw, dc, dp, dm))) w4.heap.size (dw, dc, dp, dm)) := Lib.hid ⟨CBlk.new w4 _, R4.out.cur.bel, (R0.out.more hb).cur.bel.size⟩
          clear d0 d1 d2 d3 a0 a1 a2 hb CT b0 b1 b2 R0
          go_upto_region 12 with fail
          obtain ⟨w5, hw5⟩ : ∃ w5, w4.alloc (gtO (dw, dc, dp, dm)) = w5 := ⟨_, rfl⟩
          obtain ⟨bn, hbn⟩ : ∃ bn, w4.heap.size = bn := ⟨_, rfl⟩
          rw [hw5] at R4
          rw [hw5, hbn] at N4
          rw [hw5, hbn]
          clear hw5 hbn
          have a0 := R4.out.a0
          have a1 := R4.out.a1
          have a2 := R4.out.a2
          have c0 := R4.out.cur.blk.c0
          have c1 := R4.out.cur.blk.c1
          have c2 := R4.out.cur.blk.c2
          have c3 := R4.out.cur.blk.c3
          have n0 := N4.out.blk.c0
          have n1 := N4.out.blk.c1
          have n2 := N4.out.blk.c2
          have n3 := N4.out.blk.c3
          have e0 := R4.out.cur.blk.frozen 0
          have e1 := R4.out.cur.blk.frozen 1
          have e2 := R4.out.cur.blk.frozen 2
          have e3 := R4.out.cur.blk.frozen 3
          have R6 := R4.out.put (dw, dc, dp, dm)
          dsimp only [put4] at R6
          replace R6 := Lib.hid R6
          clear R4 N4
          go_upto_region 15 with fail
          obtain ⟨w6, hw6⟩ : ∃ w6, (((w5.setCell ⟨bg, 0, none⟩ (.int .i64 dw)).setCell ⟨bg, 1, none⟩ (.int .i64 dc)).setCell ⟨bg, 2, none⟩ (.bool dp)).setCell ⟨bg, 3, none⟩ (.bool dm) = w6 := ⟨_, rfl⟩
          rw [hw6] at R6 ⊢
          clear hw6 a0 a1 a2 c0 c1 c2 c3 e0 e1 e2 e3 n0 n1 n2 n3
          have a0 := R6.out.a0
          have a1 := R6.out.a1
          have a2 := R6.out.a2
          go_wp2
          go_roundw
          case rel => exact ⟨k + 1, (dw, dc, dp, dm), L, by omega, by omega, by go_num, by go_num, Lib.hid R6.out.cur, he⟩
          case measure => simp [intOf]; omega
      · obtain rfl : k = 200 := by omega
        go_wp2
        go_ret
        exact ⟨rfl, hy.out.bel⟩
    · obtain rfl : k = m := by omega
      have hd1 : decide (k < k) = false := by simp
      go_wp2
      go_ret
      exact ⟨rfl, hy.out.bel⟩
end Go.Proofs.Ytmnkeogfklbjgaa.Gat
