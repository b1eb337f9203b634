/- StoreAgain, walked. -/
import Derived.Test.YtdnnfoacpjgloaaGl
set_option maxRecDepth 100000
namespace Go.Proofs.Ytdnnfoacpjgloaa.Stv
open Go.RowKit
open Arn (Slt Ar OkS Upd hnV hnO HBlk refsV callE keepL dropL freeN liveB newL)
open Pat (hasD applyL pch QBlk PF)
set_option linter.unusedVariables false

theorem okS_11 (a b : Int) (h : (0 ≤ a ∧ a < 4294967296) ∧ (0 ≤ b ∧ b ≤ 9)) : OkS 9 [(a, b)] := okS_1 a b h
set_option maxHeartbeats 8000000 in
theorem again_law (a c : Option Addr) (n cap m mcap : Nat) (xs ys : List Int) (q t r f : Int) (w : World) (hp : PF q t r f) (hr : Rd w w.heap.size a n xs) (hs : Rd w w.heap.size c m ys) :
    Calls Try.prog 6 #[.slice a n cap, .slice c m mcap, pch q t r f] w fun e w' => e = .returned (.bool true) ∧ Below w.heap.size w w' := by
  have CS : Hid (∀ W, Calls Try.prog 7 #[] W fun e w' => e = .returned (.bool true) ∧ Below W.heap.size W w') := fun W => shown_any W
  have CN : Hid (∀ W, Below w.heap.size w W → Calls Try.prog 8 #[.int .i64 1] W fun e w' => ∃ b ba ga g, e = .returned (.pointer (some ⟨b, 0, none⟩)) ∧ Hold w w' b ba ga g [(1, 0)] [[]] ∧ Below W.heap.size W w') := fun W hW => new_hold2 w W 1 hW (by decide) (by decide)
  have hx := hr.1
  have hy := hs.1
  have HR := Lib.hid hr
  have HS := Lib.hid hs
  have hB := (Below.refl w.heap.size w).alloc (Nat.le_refl _) (.cells #[.int .u16 q, .int .u32 t, .int .u32 r, .int .u16 f] 35)
  have hQ := QBlk.new w q t r f
  obtain ⟨wq, hwq⟩ : ∃ wq, w.alloc (.cells #[.int .u16 q, .int .u32 t, .int .u32 r, .int .u16 f] 35) = wq := ⟨_, rfl⟩
  rw [hwq] at hB hQ
  have HBq := Lib.hid hB
  have HQ := Lib.hid hQ
  clear hr hs hB hQ
  by_cases h1 : 512 < n
  · have hd1 : decide ((512 : Int) < n) = true := by simp; omega
    clear h1
    go_enter Try.func6, Try.ntmps6
    go_wp2_with fail
    refine (CS.out _).mono ?_
    rintro e w1 ⟨rfl, hb1⟩
    have HB1 := Lib.hid (HBq.out.trans (hb1.mono HBq.out.size))
    clear hb1 CS
    go_wp2_with fail
    go_ret
    exact ⟨rfl, HB1.out⟩
  have hd1 : decide ((512 : Int) < n) = false := by simp; omega
  by_cases h2 : 512 < m
  · have hd2 : decide ((512 : Int) < m) = true := by simp; omega
    clear h1 h2
    go_enter Try.func6, Try.ntmps6
    go_wp2_with fail
    refine (CS.out _).mono ?_
    rintro e w1 ⟨rfl, hb1⟩
    have HB1 := Lib.hid (HBq.out.trans (hb1.mono HBq.out.size))
    clear hb1 CS
    go_wp2_with fail
    go_ret
    exact ⟨rfl, HB1.out⟩
  have hd2 : decide ((512 : Int) < m) = false := by simp; omega
  have CU : Hid (∀ W b ba ga g, Hold w W b ba ga g [(1, 0)] [[]] → Calls Try.prog 11 #[.pointer (some ⟨b, 0, none⟩), .slice a n cap] W fun e w' => e = .returned (.tuple #[hnV 0 1, .int .i64 0]) ∧ Hold w w' b ba ga g [(1, 1)] [xs] ∧ Upd (fun k => k = ga ∨ k = g) W w') := fun W b ba ga g h => by
    have := h.put (c := cap) (by decide) hx (h.arg HR.out)
    rw [putH, putE, putL, putD, hx, if_neg h1, if_neg h1, if_neg h1, if_neg h1] at this
    exact this
  have CD : Hid (∀ W b ba ga g, Hold w W b ba ga g [(1, 1)] [xs] → Calls Try.prog 15 #[.pointer (some ⟨b, 0, none⟩), hnV 0 1] W fun e w' => e = .returned (.int .i64 0) ∧ Hold w w' b ba ga g [(2, 0)] [xs] ∧ Upd (fun k => k = ga ∨ k = g) W w') := fun W b ba ga g h => h.drop (s := 0) (gn := 1) (by decide) (okS_1 1 1 (by decide)) (by decide)
  have CU2 : Hid (∀ W b ba ga g, Hold w W b ba ga g [(2, 0)] [xs] → Calls Try.prog 11 #[.pointer (some ⟨b, 0, none⟩), .slice c m mcap] W fun e w' => e = .returned (.tuple #[hnV 0 2, .int .i64 0]) ∧ Hold w w' b ba ga g [(2, 1)] [ys] ∧ Upd (fun k => k = ga ∨ k = g) W w') := fun W b ba ga g h => by
    have := h.put (c := mcap) (by decide) hy (h.arg HS.out)
    rw [putH, putE, putL, putD, hy, if_neg h2, if_neg h2, if_neg h2, if_neg h2] at this
    exact this
  have CB1 : Hid (∀ W b ba ga g, Hold w W b ba ga g [(2, 1)] [ys] → Calls Try.prog 19 #[.pointer (some ⟨b, 0, none⟩), hnV 0 2] W fun e w' => ∃ A c, e = .returned (.tuple #[.slice A m c, .int .i64 0]) ∧ Own w' W.heap.size A m c ys ∧ Below W.heap.size W w') := fun W b ba ga g h => by
    have := bytes_st W b ba ga g _ _ 0 2 9 h.st (by decide) (okS_1 2 1 (by decide))
    rw [show bytesV [(2, 1)] [ys] 0 2 = ys from rfl] at this
    subst hy
    exact this
  have CB2 : Hid (∀ W b ba ga g, Hold w W b ba ga g [(2, 1)] [ys] → Calls Try.prog 19 #[.pointer (some ⟨b, 0, none⟩), hnV 0 1] W fun e w' => ∃ A c, e = .returned (.tuple #[.slice A 0 c, .int .i64 7]) ∧ Below W.heap.size W w') := fun W b ba ga g h => by
    refine (bytes_st W b ba ga g _ _ 0 1 9 h.st (by decide) (okS_1 2 1 (by decide))).mono ?_
    rintro e w' ⟨A, c, rfl, -, hb⟩
    exact ⟨A, c, rfl, hb⟩
  have CP : Hid (∀ W b ba ga g, Hold w W b ba ga g [(2, 1)] [ys] → Calls Try.prog 17 #[.pointer (some ⟨b, 0, none⟩), hnV 0 1, pch q t r f] W fun e w' => e = .returned (.int .i64 7) ∧ Hold w w' b ba ga g [(2, 1)] [ys] ∧ Upd (fun k => k = ga ∨ k = g) W w') := fun W b ba ga g h => by
    have := h.patch (s := 0) (gn := 1) (q := q) (t := t) (u := r) (f := f) (by decide) (okS_1 2 1 (by decide)) hp
    have e := patch_dead (L := [(2, 1)]) (D := [ys]) (s := 0) (g := 1) q t r f (by decide)
    rw [e.1, e.2] at this
    exact this
  have CD2 : Hid (∀ W b ba ga g, Hold w W b ba ga g [(2, 1)] [ys] → Calls Try.prog 15 #[.pointer (some ⟨b, 0, none⟩), hnV 0 1] W fun e w' => e = .returned (.int .i64 7) ∧ Hold w w' b ba ga g [(2, 1)] [ys] ∧ Upd (fun k => k = ga ∨ k = g) W w') := fun W b ba ga g h => h.drop (s := 0) (gn := 1) (by decide) (okS_1 2 1 (by decide)) (by decide)
  have CR : Hid (∀ W b ba ga g, Hold w W b ba ga g [(2, 1)] [ys] → Calls Try.prog 21 #[.pointer (some ⟨b, 0, none⟩), hnV 0 2] W fun e w' => e = .returned (.int .i64 1) ∧ Below W.heap.size W w') := fun W b ba ga g h => refs_st W b ba ga g _ _ 0 2 9 h.st (by decide) (okS_1 2 1 (by decide))
  clear h1 h2
  go_enter Try.func6, Try.ntmps6
  go_wp2_with fail
  refine (CS.out _).mono ?_
  rintro e w1 ⟨rfl, hb1⟩
  have HB1 := Lib.hid (HBq.out.trans (hb1.mono HBq.out.size))
  have HQ1 := Lib.hid (HQ.out.below hb1 HQ.out.lt)
  clear hb1 CS hwq HBq HQ
  go_wp2_with fail
  refine (CN.out _ HB1.out).mono ?_
  rintro e w2 ⟨b, ba, ga, g, rfl, h, hb⟩
  have H2 := Lib.hid h
  have HQ2 := Lib.hid (HQ1.out.below hb HQ1.out.lt)
  clear h hb HB1 CN HQ1
  go_wp2_with fail
  refine (CU.out w2 b ba ga g H2.out).mono ?_
  rintro e w4 ⟨rfl, h, hu⟩
  have hb := (Below.refl w4.heap.size w4).alloc (Nat.le_refl _) (hnO 0 1)
  have H4 := Lib.hid (h.more hb)
  have HH4 := Lib.hid (HBlk.new w4 0 1)
  have HQ4 := Lib.hid ((H2.out.pch HQ2.out hu).below hb (H2.out.pch HQ2.out hu).lt)
  obtain ⟨w5, hw5⟩ : ∃ w5, w4.alloc (hnO 0 1) = w5 := ⟨_, rfl⟩
  obtain ⟨rb, hrr⟩ : ∃ rb, w4.heap.size = rb := ⟨_, rfl⟩
  rw [hw5] at H4 HH4 HQ4
  rw [hrr] at HH4
  clear h hu hb H2 HQ2 CU
  have c0 := HH4.out.c0
  have c1 := HH4.out.c1
  go_wp2_with fail
  refine (CD.out w5 b ba ga g H4.out).mono ?_
  rintro e w6 ⟨rfl, h, hu⟩
  have H6 := Lib.hid h
  have HH6 := Lib.hid (H4.out.hnd HH4.out hu)
  have HQ6 := Lib.hid (H4.out.pch HQ4.out hu)
  clear h hu c0 c1 H4 HH4 HQ4 CD hw5
  go_wp2_with fail
  refine (CU2.out w6 b ba ga g H6.out).mono ?_
  rintro e w7 ⟨rfl, h, hu⟩
  have hb := (Below.refl w7.heap.size w7).alloc (Nat.le_refl _) (hnO 0 2)
  have H7 := Lib.hid (h.more hb)
  have HK7 := Lib.hid (HBlk.new w7 0 2)
  have HH7 := Lib.hid ((H6.out.hnd HH6.out hu).bel hb (H6.out.hnd HH6.out hu).lt)
  have HQ7 := Lib.hid ((H6.out.pch HQ6.out hu).below hb (H6.out.pch HQ6.out hu).lt)
  have hne : w7.heap.size ≠ rb := by have := (H6.out.hnd HH6.out hu).lt; omega
  obtain ⟨w8, hw8⟩ : ∃ w8, w7.alloc (hnO 0 2) = w8 := ⟨_, rfl⟩
  obtain ⟨rk, hrk⟩ : ∃ rk, w7.heap.size = rk := ⟨_, rfl⟩
  rw [hw8] at H7 HK7 HH7 HQ7
  rw [hrk] at HK7 hne
  clear h hu hb H6 HH6 HQ6 CU2
  have c0 := HK7.out.c0
  have c1 := HK7.out.c1
  go_wp2_with fail
  refine (CB1.out w8 b ba ga g H7.out).mono ?_
  rintro e w9 ⟨A9, c9, rfl, ho, hb⟩
  have H9 := Lib.hid (H7.out.more hb)
  have HK9 := Lib.hid (HK7.out.bel hb HK7.out.lt)
  have HH9 := Lib.hid (HH7.out.bel hb HH7.out.lt)
  have HQ9 := Lib.hid (HQ7.out.below hb HQ7.out.lt)
  have HO9 := Lib.hid ho
  clear ho hb H7 HK7 HH7 HQ7 c0 c1 CB1 hw8
  have c0 := HH9.out.c0
  have c1 := HH9.out.c1
  go_wp2_with fail
  refine (CB2.out w9 b ba ga g H9.out).mono ?_
  rintro e w10 ⟨A10, c10, rfl, hb⟩
  have H10 := Lib.hid (H9.out.more hb)
  have HK10 := Lib.hid (HK9.out.bel hb HK9.out.lt)
  have HH10 := Lib.hid (HH9.out.bel hb HH9.out.lt)
  have HQ10 := Lib.hid (HQ9.out.below hb HQ9.out.lt)
  have s1 := str_run (c := c9) (HO9.out.below hb (Nat.le_refl _)).rd
  have s2 := str_run (c := mcap) (HS.out.below H10.out.bel)
  clear hb H9 HK9 HH9 HQ9 c0 c1 CB2 HO9
  have c0 := HH10.out.c0
  have c1 := HH10.out.c1
  have d0 := HQ10.out.c0
  have d1 := HQ10.out.c1
  have d2 := HQ10.out.c2
  have d3 := HQ10.out.c3
  go_wp2_with fail
  refine (CP.out w10 b ba ga g H10.out).mono ?_
  rintro e w11 ⟨rfl, h, hu⟩
  have H11 := Lib.hid h
  have HK11 := Lib.hid (H10.out.hnd HK10.out hu)
  have HH11 := Lib.hid (H10.out.hnd HH10.out hu)
  clear h hu c0 c1 d0 d1 d2 d3 s1 s2 H10 HK10 HH10 HQ10 CP
  have c0 := HH11.out.c0
  have c1 := HH11.out.c1
  go_wp2_with fail
  refine (CD2.out w11 b ba ga g H11.out).mono ?_
  rintro e w12 ⟨rfl, h, hu⟩
  have H12 := Lib.hid h
  have HK12 := Lib.hid (H11.out.hnd HK11.out hu)
  have HH12 := Lib.hid (H11.out.hnd HH11.out hu)
  clear h hu c0 c1 H11 HK11 HH11 CD2
  have c0 := HK12.out.c0
  have c1 := HK12.out.c1
  go_wp2_with fail
  refine (CR.out w12 b ba ga g H12.out).mono ?_
  rintro e w13 ⟨rfl, hb⟩
  have H13 := Lib.hid (H12.out.more hb)
  have HK13 := Lib.hid (HK12.out.bel hb HK12.out.lt)
  have HH13 := Lib.hid (HH12.out.bel hb HH12.out.lt)
  clear hb c0 c1 H12 HK12 HH12 CR
  have c0 := HK13.out.c0
  have c1 := HK13.out.c1
  have d0 := HH13.out.c0
  have d1 := HH13.out.c1
  go_wp2_with fail
  go_ret
  exact ⟨rfl, H13.out.bel⟩
end Go.Proofs.Ytdnnfoacpjgloaa.Stv
