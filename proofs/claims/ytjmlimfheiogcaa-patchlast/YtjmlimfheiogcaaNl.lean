/- The walk of PatchLast: written by wip/gen/nl.py. -/
import Derived.Test.YtjmlimfheiogcaaNj
namespace Go.Proofs.Ytjmlimfheiogcaa.Pat
open Go.RowKit
open Rtp (PV pkt pobj PBlk pvOf PRd zpv Off)
set_option linter.unusedVariables false

theorem QBlk.ne_own {w : World} {b base n c : Nat} {A : Option Addr} {xs : List Int} {q t r f : Int} (h : QBlk w b q t r f) (ho : Own w base A n c xs) (hA : A = some ⟨b, 0, none⟩) : False := by
  rcases ho.2.2.2.2 with ⟨h', -, -⟩ | ⟨g, T, h', -, hk, -⟩
  · rw [hA] at h'; cases h'
  · rw [hA] at h'
    injection h' with h'
    injection h' with h1 h2
    subst h1
    unfold QBlk at h
    unfold Blk at hk
    rw [h] at hk
    simp at hk
theorem PBlk.ne_own {w : World} {b base n c : Nat} {A : Option Addr} {xs : List Int} {v : PV} (h : PBlk w b v) (ho : Own w base A n c xs) (hA : A = some ⟨b, 0, none⟩) : False := by
  rcases ho.2.2.2.2 with ⟨h', -, -⟩ | ⟨g, T, h', -, hk, -⟩
  · rw [hA] at h'; cases h'
  · rw [hA] at h'
    injection h' with h'
    injection h' with h1 h2
    subst h1
    exact absurd rfl (h.ne_blk hk)

set_option maxHeartbeats 8000000 in
theorem last_no (a : Option Addr) (len cap : Nat) (q t r f q2 t2 r2 f2 : Int) (xs : List Int) (w : World) (HR : Hid (∀ W, Below w.heap.size w W → Rd W w.heap.size a len xs))
    (CC : Hid (∀ W, Below w.heap.size w W → Calls Try.prog 9 #[.slice a len cap] W (CopyRow W len xs)))
    (CO : Hid (∀ W, Below w.heap.size w W → Calls Try.prog 14 #[.slice a len cap] W (RetQ W 0 0 0 0 false)))
    (C1 : Hid (∀ W base A c, Own W base A len c xs → Calls Try.prog 10 #[.slice A len c, pch q t r f] W (Wrote W base A len c xs false)))
    (C2 : Hid (∀ W base A c, Own W base A len c xs → Calls Try.prog 10 #[.slice A len c, pch q2 t2 r2 f2] W (Wrote W base A len c xs false)))
    (C3 : Hid (∀ W base A c, Own W base A len c xs → Calls Try.prog 10 #[.slice A len c, pch q2 t2 r2 f2] W (Wrote W base A len c xs false))) :
    Calls Try.prog 6 #[.slice a len cap, pch q t r f, pch q2 t2 r2 f2] w (Rtp.RetB w true) := by
  go_enter Try.func6, Try.ntmps6
  go_wp2_with fail
  have hb00 := (Below.refl w.heap.size w).alloc (Nat.le_refl _) (.cells #[.int .u16 q, .int .u32 t, .int .u32 r, .int .u16 f] 26)
  have hb0 := hb00.alloc hb00.size (.cells #[.int .u16 q2, .int .u32 t2, .int .u32 r2, .int .u16 f2] 26)
  have DX0 := (QBlk.new w q t r f).below ((Below.refl (w.alloc (.cells #[.int .u16 q, .int .u32 t, .int .u32 r, .int .u16 f] 26)).heap.size _).alloc (Nat.le_refl _) (.cells #[.int .u16 q2, .int .u32 t2, .int .u32 r2, .int .u16 f2] 26)) (QBlk.new w q t r f).lt
  have DY0 : QBlk ((w.alloc (.cells #[.int .u16 q, .int .u32 t, .int .u32 r, .int .u16 f] 26)).alloc (.cells #[.int .u16 q2, .int .u32 t2, .int .u32 r2, .int .u16 f2] 26)) (w.heap.size + 1) q2 t2 r2 f2 := by
    have := QBlk.new (w.alloc (.cells #[.int .u16 q, .int .u32 t, .int .u32 r, .int .u16 f] 26)) q2 t2 r2 f2
    rw [show (w.alloc (.cells #[.int .u16 q, .int .u32 t, .int .u32 r, .int .u16 f] 26)).heap.size = w.heap.size + 1 from by simp] at this
    exact this
  obtain ⟨gy, hgy⟩ : ∃ gy, w.heap.size + 1 = gy := ⟨_, rfl⟩
  rw [hgy] at DY0 ⊢
  generalize (w.alloc (.cells #[.int .u16 q, .int .u32 t, .int .u32 r, .int .u16 f] 26)).alloc (.cells #[.int .u16 q2, .int .u32 t2, .int .u32 r2, .int .u16 f2] 26) = w0 at *
  refine (shown_any _).mono ?_
  rintro e w1 ⟨rfl, hb1⟩
  have DX1 := DX0.below hb1 DX0.lt
  have DY1 := DY0.below hb1 DY0.lt
  have B1 := hb0.trans (hb1.mono hb0.size)
  clear hb0 hb00 hb1 DX0 DY0 hgy
  go_wp2_with fail
  refine (CO.out _ B1).mono ?_
  rintro e w2 ⟨rfl, hb2⟩
  have hb3 := hb2.alloc hb2.size (.cells #[.int .u16 0, .int .u32 0, .int .u32 0, .int .u16 0] 26)
  have DX3 := DX1.below hb3 DX1.lt
  have DY3 := DY1.below hb3 DY1.lt
  have DW3 := QBlk.new w2 0 0 0 0
  have B3 := B1.trans (hb3.mono B1.size)
  clear hb2 hb3 DX1 DY1
  go_wp2_with fail
  generalize w2.alloc (.cells #[.int .u16 0, .int .u32 0, .int .u32 0, .int .u16 0] 26) = w3 at *
  generalize w2.heap.size = gw at *
  refine (CC.out _ B3).mono ?_
  rintro e w4 ⟨A4, c4, rfl, ho4, hb4⟩
  have B4 := B3.trans (hb4.mono B3.size)
  have DX4 := DX3.below hb4 DX3.lt
  have DY4 := DY3.below hb4 DY3.lt
  have DW4 := DW3.below hb4 DW3.lt
  have hlx := DX3.lt
  have hly := DY3.lt
  have hlw := DW3.lt
  go_wp2_with fail
  refine (CC.out _ B4).mono ?_
  rintro e w5 ⟨A5, c5, rfl, ho5, hb5⟩
  have B5 := B4.trans (hb5.mono B4.size)
  have DX5 := DX4.below hb5 DX4.lt
  have DY5 := DY4.below hb5 DY4.lt
  have DW5 := DW4.below hb5 DW4.lt
  have hz4 := hb4.size
  have hz5 := hb5.size
  have H4 := Lib.hid ho4
  have H5 := Lib.hid ho5
  have HC5 := Lib.hid (ho4.below hb5 (Nat.le_refl _))
  clear hb4 hb5 DX3 DY3 DW3 DX4 DY4 DW4 ho4 ho5
  have m0 := DX5.c0
  have m1 := DX5.c1
  have m2 := DX5.c2
  have m3 := DX5.c3
  have HY5 := Lib.hid DY5
  have HW5 := Lib.hid DW5
  clear DX5 DY5 DW5
  go_wp2_with fail
  refine (C1.out w5 _ A4 c4 HC5.out).mono ?_
  rintro e w6 ⟨rfl, hc6, ha6⟩
  have hb6 : Below w3.heap.size w5 w6 := ha6.below H4.out (Nat.le_trans hz4 hz5)
  have B6 := B5.trans (hb6.mono B3.size)
  have DY6 := HY5.out.below hb6 hly
  have HW6 := Lib.hid (HW5.out.below hb6 hlw)
  have HD6 := Lib.hid (ha6.keep H4.out H5.out (Nat.le_refl _))
  have hz6 := hb6.size
  have HC6 := Lib.hid hc6
  clear m0 m1 m2 m3 HY5 HW5 HC5 hc6 ha6 hb6
  have m0 := DY6.c0
  have m1 := DY6.c1
  have m2 := DY6.c2
  have m3 := DY6.c3
  have HY6 := Lib.hid DY6
  clear DY6
  go_wp2_with fail
  refine (C2.out w6 _ A4 c4 HC6.out).mono ?_
  rintro e w7 ⟨rfl, hc7, ha7⟩
  have hb7 : Below w3.heap.size w6 w7 := ha7.below H4.out (Nat.le_trans (Nat.le_trans hz4 hz5) hz6)
  have B7 := B6.trans (hb7.mono B3.size)
  have DY7 := HY6.out.below hb7 hly
  have HW7 := Lib.hid (HW6.out.below hb7 hlw)
  have HD7 := Lib.hid (ha7.keep H4.out HD6.out (Nat.le_refl _))
  have hz7 := hb7.size
  have HC7 := Lib.hid hc7
  clear m0 m1 m2 m3 HY6 HW6 HC6 HD6 hc7 ha7 hb7
  have m0 := DY7.c0
  have m1 := DY7.c1
  have m2 := DY7.c2
  have m3 := DY7.c3
  have HY7 := Lib.hid DY7
  clear DY7
  go_wp2_with fail
  refine (C3.out w7 _ A5 c5 HD7.out).mono ?_
  rintro e w8 ⟨rfl, hd8, ha8⟩
  have hb8 : Below w4.heap.size w7 w8 := ha8.below H5.out (Nat.le_trans (Nat.le_trans hz5 hz6) hz7)
  have B8 := B7.trans (hb8.mono B4.size)
  have HY8 := Lib.hid (HY7.out.below hb8 (by omega))
  have HW8 := Lib.hid (HW7.out.below hb8 (by omega))
  have hc8 := ha8.keep' H5.out HC7.out (own_lt H4.out)
  have HC8 := Lib.hid hc8
  have s1 := str_run hc8.rd (c := c4)
  have s2 := str_run hd8.rd (c := c5)
  have hz8 := hb8.size
  clear m0 m1 m2 m3 HY7 HW7 HC7 HD7 hc8 ha8 hb8 hd8
  have s3 := str_run (HR.out _ B8) (c := cap)
  go_wp2
  go_ret
  exact ⟨rfl, B8⟩

set_option maxHeartbeats 8000000 in
theorem last_yes (a : Option Addr) (len cap : Nat) (q t r f q2 t2 r2 f2 : Int) (p : Pkt) (l f0 f3 wq wt wr wf : Int) (k s k2 s2 : Bool) (xs x1 x2 x3 ys : List Int) (w : World) (HR : Hid (∀ W, Below w.heap.size w W → Rd W w.heap.size a len xs))
    (CC : Hid (∀ W, Below w.heap.size w W → Calls Try.prog 9 #[.slice a len cap] W (CopyRow W len xs)))
    (CO : Hid (∀ W, Below w.heap.size w W → Calls Try.prog 14 #[.slice a len cap] W (RetQ W wq wt wr wf true)))
    (C1 : Hid (∀ W base A c, Own W base A len c xs → Calls Try.prog 10 #[.slice A len c, pch q t r f] W (Wrote W base A len c x1 true)))
    (C2 : Hid (∀ W base A c, Own W base A len c x1 → Calls Try.prog 10 #[.slice A len c, pch q2 t2 r2 f2] W (Wrote W base A len c x2 true)))
    (C3 : Hid (∀ W base A c, Own W base A len c xs → Calls Try.prog 10 #[.slice A len c, pch q2 t2 r2 f2] W (Wrote W base A len c x2 true)))
    (CN : Hid (∀ W base A c, Own W base A len c x2 → Calls Try.prog 14 #[.slice A len c] W (RetQ W q2 t2 r2 f2 true)))
    (CM : Hid (∀ W, Below w.heap.size w W → Calls Try.prog 21 #[.slice a len cap] W (RetM W p l k s f0 0)))
    (C4 : Hid (∀ W base A c, Own W base A len c x2 → Calls Try.prog 10 #[.slice A len c, pch wq wt wr wf] W (Wrote W base A len c x3 true)))
    (CM2 : Hid (∀ W base A c, Own W base A len c x3 → Calls Try.prog 21 #[.slice A len c] W (RetM W { p with pay := ys } 0 k2 s2 f3 0))) :
    Calls Try.prog 6 #[.slice a len cap, pch q t r f, pch q2 t2 r2 f2] w (Rtp.RetB w true) := by
  go_enter Try.func6, Try.ntmps6
  go_wp2_with fail
  have hb00 := (Below.refl w.heap.size w).alloc (Nat.le_refl _) (.cells #[.int .u16 q, .int .u32 t, .int .u32 r, .int .u16 f] 26)
  have hb0 := hb00.alloc hb00.size (.cells #[.int .u16 q2, .int .u32 t2, .int .u32 r2, .int .u16 f2] 26)
  have DX0 := (QBlk.new w q t r f).below ((Below.refl (w.alloc (.cells #[.int .u16 q, .int .u32 t, .int .u32 r, .int .u16 f] 26)).heap.size _).alloc (Nat.le_refl _) (.cells #[.int .u16 q2, .int .u32 t2, .int .u32 r2, .int .u16 f2] 26)) (QBlk.new w q t r f).lt
  have DY0 : QBlk ((w.alloc (.cells #[.int .u16 q, .int .u32 t, .int .u32 r, .int .u16 f] 26)).alloc (.cells #[.int .u16 q2, .int .u32 t2, .int .u32 r2, .int .u16 f2] 26)) (w.heap.size + 1) q2 t2 r2 f2 := by
    have := QBlk.new (w.alloc (.cells #[.int .u16 q, .int .u32 t, .int .u32 r, .int .u16 f] 26)) q2 t2 r2 f2
    rw [show (w.alloc (.cells #[.int .u16 q, .int .u32 t, .int .u32 r, .int .u16 f] 26)).heap.size = w.heap.size + 1 from by simp] at this
    exact this
  obtain ⟨gy, hgy⟩ : ∃ gy, w.heap.size + 1 = gy := ⟨_, rfl⟩
  rw [hgy] at DY0 ⊢
  generalize (w.alloc (.cells #[.int .u16 q, .int .u32 t, .int .u32 r, .int .u16 f] 26)).alloc (.cells #[.int .u16 q2, .int .u32 t2, .int .u32 r2, .int .u16 f2] 26) = w0 at *
  refine (shown_any _).mono ?_
  rintro e w1 ⟨rfl, hb1⟩
  have DX1 := DX0.below hb1 DX0.lt
  have DY1 := DY0.below hb1 DY0.lt
  have B1 := hb0.trans (hb1.mono hb0.size)
  clear hb0 hb00 hb1 DX0 DY0 hgy
  go_wp2_with fail
  refine (CO.out _ B1).mono ?_
  rintro e w2 ⟨rfl, hb2⟩
  have hb3 := hb2.alloc hb2.size (.cells #[.int .u16 wq, .int .u32 wt, .int .u32 wr, .int .u16 wf] 26)
  have DX3 := DX1.below hb3 DX1.lt
  have DY3 := DY1.below hb3 DY1.lt
  have DW3 := QBlk.new w2 wq wt wr wf
  have B3 := B1.trans (hb3.mono B1.size)
  clear hb2 hb3 DX1 DY1
  go_wp2_with fail
  generalize w2.alloc (.cells #[.int .u16 wq, .int .u32 wt, .int .u32 wr, .int .u16 wf] 26) = w3 at *
  generalize w2.heap.size = gw at *
  refine (CC.out _ B3).mono ?_
  rintro e w4 ⟨A4, c4, rfl, ho4, hb4⟩
  have B4 := B3.trans (hb4.mono B3.size)
  have DX4 := DX3.below hb4 DX3.lt
  have DY4 := DY3.below hb4 DY3.lt
  have DW4 := DW3.below hb4 DW3.lt
  have hlx := DX3.lt
  have hly := DY3.lt
  have hlw := DW3.lt
  go_wp2_with fail
  refine (CC.out _ B4).mono ?_
  rintro e w5 ⟨A5, c5, rfl, ho5, hb5⟩
  have B5 := B4.trans (hb5.mono B4.size)
  have DX5 := DX4.below hb5 DX4.lt
  have DY5 := DY4.below hb5 DY4.lt
  have DW5 := DW4.below hb5 DW4.lt
  have hz4 := hb4.size
  have hz5 := hb5.size
  have H4 := Lib.hid ho4
  have H5 := Lib.hid ho5
  have HC5 := Lib.hid (ho4.below hb5 (Nat.le_refl _))
  clear hb4 hb5 DX3 DY3 DW3 DX4 DY4 DW4 ho4 ho5
  have m0 := DX5.c0
  have m1 := DX5.c1
  have m2 := DX5.c2
  have m3 := DX5.c3
  have HY5 := Lib.hid DY5
  have HW5 := Lib.hid DW5
  clear DX5 DY5 DW5
  go_wp2_with fail
  refine (C1.out w5 _ A4 c4 HC5.out).mono ?_
  rintro e w6 ⟨rfl, hc6, ha6⟩
  have hb6 : Below w3.heap.size w5 w6 := ha6.below H4.out (Nat.le_trans hz4 hz5)
  have B6 := B5.trans (hb6.mono B3.size)
  have DY6 := HY5.out.below hb6 hly
  have HW6 := Lib.hid (HW5.out.below hb6 hlw)
  have HD6 := Lib.hid (ha6.keep H4.out H5.out (Nat.le_refl _))
  have hz6 := hb6.size
  have HC6 := Lib.hid hc6
  clear m0 m1 m2 m3 HY5 HW5 HC5 hc6 ha6 hb6
  have m0 := DY6.c0
  have m1 := DY6.c1
  have m2 := DY6.c2
  have m3 := DY6.c3
  have HY6 := Lib.hid DY6
  clear DY6
  go_wp2_with fail
  refine (C2.out w6 _ A4 c4 HC6.out).mono ?_
  rintro e w7 ⟨rfl, hc7, ha7⟩
  have hb7 : Below w3.heap.size w6 w7 := ha7.below H4.out (Nat.le_trans (Nat.le_trans hz4 hz5) hz6)
  have B7 := B6.trans (hb7.mono B3.size)
  have DY7 := HY6.out.below hb7 hly
  have HW7 := Lib.hid (HW6.out.below hb7 hlw)
  have HD7 := Lib.hid (ha7.keep H4.out HD6.out (Nat.le_refl _))
  have hz7 := hb7.size
  have HC7 := Lib.hid hc7
  clear m0 m1 m2 m3 HY6 HW6 HC6 HD6 hc7 ha7 hb7
  have m0 := DY7.c0
  have m1 := DY7.c1
  have m2 := DY7.c2
  have m3 := DY7.c3
  have HY7 := Lib.hid DY7
  clear DY7
  go_wp2_with fail
  refine (C3.out w7 _ A5 c5 HD7.out).mono ?_
  rintro e w8 ⟨rfl, hd8, ha8⟩
  have hb8 : Below w4.heap.size w7 w8 := ha8.below H5.out (Nat.le_trans (Nat.le_trans hz5 hz6) hz7)
  have B8 := B7.trans (hb8.mono B4.size)
  have HY8 := Lib.hid (HY7.out.below hb8 (by omega))
  have HW8 := Lib.hid (HW7.out.below hb8 (by omega))
  have hc8 := ha8.keep' H5.out HC7.out (own_lt H4.out)
  have HC8 := Lib.hid hc8
  have s1 := str_run hc8.rd (c := c4)
  have s2 := str_run hd8.rd (c := c5)
  have hz8 := hb8.size
  clear m0 m1 m2 m3 HY7 HW7 HC7 HD7 hc8 ha8 hb8 hd8
  go_wp2_with fail
  refine (CN.out w8 _ A4 c4 HC8.out).mono ?_
  rintro e w9 ⟨rfl, hb9⟩
  have hb10 := hb9.alloc hb9.size (.cells #[.int .u16 q2, .int .u32 t2, .int .u32 r2, .int .u16 f2] 26)
  have B10 := B8.trans (hb10.mono B8.size)
  have HY10 := Lib.hid (HY8.out.below hb10 HY8.out.lt)
  have HW10 := Lib.hid (HW8.out.below hb10 HW8.out.lt)
  have HN10 := Lib.hid (QBlk.new w9 q2 t2 r2 f2)
  have HC10 := Lib.hid (HC8.out.below hb10 (Nat.le_refl _))
  have hz10 := hb10.size
  clear s1 s2 hb9 hb10 HY8 HW8 HC8
  go_wp2_with fail
  generalize w9.alloc (.cells #[.int .u16 q2, .int .u32 t2, .int .u32 r2, .int .u16 f2] 26) = w10 at *
  generalize w9.heap.size = gn at *
  refine (CM.out w10 B10).mono ?_
  rintro e w11 ⟨lc, rfl, -, hb11⟩
  obtain ⟨v, hv⟩ : ∃ v, pvOf p lc = v := ⟨_, rfl⟩
  rw [hv]
  have HVS : Hid (v.seq = p.seq ∧ v.time = p.time ∧ v.ssrc = p.ssrc) := by subst hv; exact ⟨rfl, rfl, rfl⟩
  have hba := (Below.refl w11.heap.size w11).alloc (Nat.le_refl _) (pobj v)
  have hbb := hba.alloc hba.size (.cells #[.int .i64 l, .bool k, .bool s, .int .u16 f0] 52)
  have hb12 := hb11.trans (hbb.mono hb11.size)
  have HPP : Hid (PBlk ((w11.alloc (pobj v)).alloc (.cells #[.int .i64 l, .bool k, .bool s, .int .u16 f0] 52)) w11.heap.size v) := (PBlk.new w11 v).below ((Below.refl (w11.alloc (pobj v)).heap.size _).alloc (Nat.le_refl _) _) (by simp)
  have B12 := B10.trans (hb12.mono B10.size)
  have HY12 := Lib.hid (HY10.out.below hb12 HY10.out.lt)
  have DW12 := HW10.out.below hb12 HW10.out.lt
  have HN12 := Lib.hid (HN10.out.below hb12 HN10.out.lt)
  have HC12 := Lib.hid (HC10.out.below hb12 (Nat.le_refl _))
  have hz12 := hb12.size
  have hbw : gw ≠ w11.heap.size := by have := HW10.out.lt; have := hb11.size; omega
  have hbw1 : gw ≠ w11.heap.size + 1 := by have := HW10.out.lt; have := hb11.size; omega
  clear hv hba hbb hb11 hb12 HY10 HW10 HN10 HC10
  have m0 := DW12.c0
  have m1 := DW12.c1
  have m2 := DW12.c2
  have m3 := DW12.c3
  have hlw12 := DW12.lt
  clear DW12
  go_wp2_with fail
  generalize (w11.alloc (pobj v)).alloc (.cells #[.int .i64 l, .bool k, .bool s, .int .u16 f0] 52) = w12 at *
  generalize w11.heap.size = gp at *
  refine (C4.out w12 _ A4 c4 HC12.out).mono ?_
  rintro e w13 ⟨rfl, hc13, ha13⟩
  have hb13 : Below w3.heap.size w12 w13 := ha13.below H4.out (by omega)
  have B13 := B12.trans (hb13.mono B3.size)
  have HY13 := Lib.hid (HY12.out.below hb13 hly)
  have HAT := Lib.hid (ha13)
  have HN13 : Hid (QBlk w13 gn q2 t2 r2 f2) := HN12.out.at ha13 (fun a ha => by
    rcases H4.out.2.2.2.2 with ⟨h, -, -⟩ | ⟨g, T, h, hg, hk, -⟩
    · rw [h] at ha; cases ha
    · rw [h] at ha
      injection ha with ha
      subst ha
      rintro rfl
      exact QBlk.ne_own HN12.out HC12.out h)
  have HP13 : Hid (PBlk w13 gp v) := (World.grownBy.block ha13 gp HPP.out.lt (by
    rcases H4.out.2.2.2.2 with ⟨h, -, -⟩ | ⟨g, T, h, hg, hk, -⟩
    · rw [h]; simp
    · rw [h]
      intro e
      injection e with e
      exact PBlk.ne_own HPP.out HC12.out (h.trans (by rw [e])))).trans HPP.out
  have HC13 := Lib.hid hc13
  clear m0 m1 m2 m3 hc13 ha13 hb13 HY12 HN12 HPP HC12 hbw hbw1 HAT
  go_wp2_with fail
  refine (CM2.out w13 _ A4 c4 HC13.out).mono ?_
  rintro e w14 ⟨lc2, rfl, -, hb14⟩
  rw [show pvOf { p with pay := ys } lc2 = (⟨p.mrk, p.ty, p.seq, p.time, p.ssrc, lc2.ca, p.csrc.length, lc2.cc, p.he, p.prof, lc2.ea, p.ext.length, lc2.ec, lc2.pa, ys.length, lc2.pc, p.pad⟩ : PV) from rfl]
  have B14 := B13.trans (hb14.mono B13.size)
  have DY := HY13.out.below hb14 HY13.out.lt
  have DN := HN13.out.below hb14 HN13.out.lt
  have DP := HP13.out.below hb14 HP13.out.lt
  have B15 := Lib.hid ((B14.alloc B14.size (pobj ⟨p.mrk, p.ty, p.seq, p.time, p.ssrc, lc2.ca, p.csrc.length, lc2.cc, p.he, p.prof, lc2.ea, p.ext.length, lc2.ec, lc2.pa, ys.length, lc2.pc, p.pad⟩)).alloc (Nat.le_trans B14.size (by simp)) (.cells #[.int .i64 0, .bool k2, .bool s2, .int .u16 f3] 52))
  have m0 := DY.c0
  have m1 := DY.c1
  have m2 := DY.c2
  have m3 := DY.c3
  have n0 := DN.c0
  have n1 := DN.c1
  have n2 := DN.c2
  have n3 := DN.c3
  have p2 := DP.c2
  have p3 := DP.c3
  have p4 := DP.c4
  rw [HVS.out.1] at p2
  rw [HVS.out.2.1] at p3
  rw [HVS.out.2.2] at p4
  have ly := DY.lt
  have ln := DN.lt
  have lp := DP.lt
  clear DY DN DP HY13 HN13 HP13 HC13 hb14 B1 B3 B4 B5 B6 B7 B8 B10 B12 B13 B14 hz4 hz5 hz6 hz7 hz8 hz10 hz12 hlx hly hlw hlw12
  go_wp2
  go_ret
  exact ⟨rfl, B15.out⟩

theorem last_law (a : Option Addr) (len cap : Nat) (q t r f q2 t2 r2 f2 : Int) (xs : List Int) (w : World) (hp : PF q t r f) (hp2 : PF q2 t2 r2 f2) (hl : len ≤ 140737488351232) (hlc : len ≤ cap) (hr : Rd w w.heap.size a len xs) :
    Calls Try.prog 6 #[.slice a len cap, pch q t r f, pch q2 t2 r2 f2] w (Rtp.RetB w true) := by
  have hl' : len ≤ maxLen := by unfold maxLen; omega
  have hb := hr.2.1
  have CC := fun W (hW : Below w.heap.size w W) => copy_any a len cap _ xs W hl (hr.below hW)
  have CO := fun W (hW : Below w.heap.size w W) => of_any a len cap _ xs W hl' hlc (hr.below hW) hW.size
  have HR : Hid (∀ W, Below w.heap.size w W → Rd W w.heap.size a len xs) := fun W hW => hr.below hW
  by_cases h : hasD xs = true
  · obtain ⟨p1, p2⟩ := hasD_iff.1 h
    obtain ⟨k1, -, -, -⟩ := get_enc xs hb p1
    have hpay := k1.pay
    have hfb : 0 ≤ gF (pQ xs).pay ∧ gF (pQ xs).pay ≤ 65535 := by
      have a2 := hpay.getD 2
      have a3 := hpay.getD 3
      rw [gF, p2, if_pos rfl]
      omega
    have hpw : PF (oQ xs) (oT xs) (oS xs) (oF xs) := by
      rw [oQ, oT, oS, oF, h, if_pos rfl, if_pos rfl, if_pos rfl, if_pos rfl]
      exact ⟨k1.seq0, k1.seq1, k1.time0, k1.time1, k1.ssrc0, k1.ssrc1, hfb.1, hfb.2⟩
    obtain ⟨-, a1, a2, a3, -, -⟩ := apply_steps hb h ⟨hp.q0, hp.q1⟩ ⟨hp.t0, hp.t1⟩ ⟨hp.s0, hp.s1⟩ ⟨hp.f0, hp.f1⟩
    obtain ⟨-, b1, b2, b3, -, -⟩ := apply_steps hb h ⟨hp2.q0, hp2.q1⟩ ⟨hp2.t0, hp2.t1⟩ ⟨hp2.s0, hp2.s1⟩ ⟨hp2.f0, hp2.f1⟩
    have ah := apply_has hb h ⟨hp.q0, hp.q1⟩ ⟨hp.t0, hp.t1⟩ ⟨hp.s0, hp.s1⟩ ⟨hp.f0, hp.f1⟩
    have bh := apply_has hb h ⟨hp2.q0, hp2.q1⟩ ⟨hp2.t0, hp2.t1⟩ ⟨hp2.s0, hp2.s1⟩ ⟨hp2.f0, hp2.f1⟩
    have e12 := apply_twice hb h ⟨hp.q0, hp.q1⟩ ⟨hp.t0, hp.t1⟩ ⟨hp.s0, hp.s1⟩ ⟨hp.f0, hp.f1⟩ (q' := q2) (t' := t2) (s' := r2) (f' := f2)
    have e23 := apply_twice hb h ⟨hp2.q0, hp2.q1⟩ ⟨hp2.t0, hp2.t1⟩ ⟨hp2.s0, hp2.s1⟩ ⟨hp2.f0, hp2.f1⟩ (q' := oQ xs) (t' := oT xs) (s' := oS xs) (f' := oF xs)
    obtain ⟨-, c1, c2, c3, -, -⟩ := apply_steps hb h ⟨hpw.q0, hpw.q1⟩ ⟨hpw.t0, hpw.t1⟩ ⟨hpw.s0, hpw.s1⟩ ⟨hpw.f0, hpw.f1⟩
    have ch := apply_has hb h ⟨hpw.q0, hpw.q1⟩ ⟨hpw.t0, hpw.t1⟩ ⟨hpw.s0, hpw.s1⟩ ⟨hpw.f0, hpw.f1⟩
    obtain ⟨g1, g2, g3, g4, g5⟩ := hdF_get (pQ xs) (l := 0) (f := f2) (by decide) (by decide) hp2.f0 hp2.f1
    obtain ⟨i1, i2, i3, i4, i5⟩ := hdF_get (pQ xs) (l := 0) (f := oF xs) (by decide) (by decide) hpw.f0 hpw.f1
    have ep : allP (pQ xs) (oQ xs) (oT xs) (oS xs) (oF xs) = { pQ xs with pay := (hdF (pQ xs) 0 (oF xs)).pay } := by
      rw [oQ, oT, oS, h, if_pos rfl, if_pos rfl, if_pos rfl]; rfl
    rw [h] at CO
    refine last_yes a len cap q t r f q2 t2 r2 f2 (pQ xs) (gL (pQ xs).pay) (gF (pQ xs).pay) (gF (hdF (pQ xs) 0 (oF xs)).pay) (oQ xs) (oT xs) (oS xs) (oF xs) (gK (pQ xs).pay) (gS (pQ xs).pay) (gK (hdF (pQ xs) 0 (oF xs)).pay) (gS (hdF (pQ xs) 0 (oF xs)).pay) xs (applyL xs q t r f) (applyL xs q2 t2 r2 f2) (applyL xs (oQ xs) (oT xs) (oS xs) (oF xs)) (hdF (pQ xs) 0 (oF xs)).pay w HR CC CO (fun W base A c ho => ?_) (fun W base A c ho => ?_) (fun W base A c ho => ?_) (fun W base A c ho => ?_) (fun W hW => ?_) (fun W base A c ho => ?_) (fun W base A c ho => ?_)
    · have := apply_own A len c base q t r f xs W ho hp
      rw [h] at this
      exact this
    · have := apply_own A len c base q2 t2 r2 f2 _ W ho hp2
      rw [ah, e12] at this
      exact this
    · have := apply_own A len c base q2 t2 r2 f2 xs W ho hp2
      rw [h] at this
      exact this
    · have := of_any A len c _ _ W hl' ho.2.2.1 ho.rd (Nat.le_refl _)
      rw [oQ, oT, oS, oF, bh, if_pos rfl, if_pos rfl, if_pos rfl, if_pos rfl, b2] at this
      have e4 : gF (allP (pQ xs) q2 t2 r2 f2).pay = f2 := g4
      rw [e4] at this
      exact this
    · have := media_any a len cap _ xs W hl' hlc (hr.below hW) hW.size
      rw [mP, (mE_iff xs).2 h, h, if_pos rfl] at this
      exact this
    · have := apply_own A len c base _ _ _ _ _ W ho hpw
      rw [bh, e23] at this
      exact this
    · have := media_any A len c _ _ W hl' ho.2.2.1 ho.rd (Nat.le_refl _)
      rw [mP, (mE_iff _).2 ch, ch, if_pos rfl, c2, ep] at this
      have e1 : gL ({ pQ xs with pay := (hdF (pQ xs) 0 (oF xs)).pay } : Pkt).pay = 0 := i1
      rw [e1] at this
      exact this
  · have h' : hasD xs = false := Bool.eq_false_iff.2 h
    rw [oQ, oT, oS, oF, h'] at CO
    have e : ∀ q t r f, applyL xs q t r f = xs := fun q t r f => by rw [applyL, h', if_neg (by decide)]
    refine last_no a len cap q t r f q2 t2 r2 f2 xs w HR CC CO (fun W base A c ho => ?_) (fun W base A c ho => ?_) (fun W base A c ho => ?_)
    · have := apply_own A len c base q t r f xs W ho hp
      rw [h', e] at this
      exact this
    · have := apply_own A len c base q2 t2 r2 f2 xs W ho hp2
      rw [h', e] at this
      exact this
    · have := apply_own A len c base q2 t2 r2 f2 xs W ho hp2
      rw [h', e] at this
      exact this
end Go.Proofs.Ytjmlimfheiogcaa.Pat
