/- StorePatch, walked. -/
import Derived.Test.YtdnnfoacpjgloaaGi
set_option maxRecDepth 100000
namespace Go.Proofs.Ytdnnfoacpjgloaa.Stv
open Go.RowKit
open Arn (Slt Ar OkS Upd hnV hnO HBlk refsV callE keepL dropL freeN liveB newL)
open Pat (hasD applyL pch QBlk PF)
set_option linter.unusedVariables false

theorem new_hold2 (w0 w : World) (n : Int) (hb : Below w0.heap.size w0 w) (hw1 : -9223372036854775808 ≤ n) (hw2 : n ≤ 9223372036854775807) : Calls Try.prog 8 #[.int .i64 n] w fun e w' => ∃ b ba ga g, e = .returned (.pointer (some ⟨b, 0, none⟩)) ∧ Hold w0 w' b ba ga g (newL n) (List.replicate (newL n).length []) ∧ Below w.heap.size w w' := by
  refine (new_st w n hw1 hw2).mono ?_
  rintro e w' ⟨b, ba, ga, g, rfl, hs, h1, h2, h3, h4, hB⟩
  have := hb.size
  exact ⟨b, ba, ga, g, rfl, ⟨hs, hb.trans (hB.mono hb.size), by omega, by omega, by omega, by omega⟩, hB⟩
def L3 (m : Int) : List Slt := [(1, m), (1, 0), (1, 0)]
theorem L3_ok (m : Int) (h : 0 ≤ m) (h2 : m ≤ 99) : OkS 99 (L3 m) := fun x hx => by
  simp only [L3, List.mem_cons, List.not_mem_nil, or_false] at hx
  rcases hx with rfl | rfl | rfl
  · exact ⟨⟨by show (0 : Int) ≤ 1; decide, by show (1 : Int) < 4294967296; decide⟩, h, h2⟩
  · decide
  · decide
theorem L3_len (m : Int) : (L3 m).length ≤ 1024 := by show 3 ≤ 1024; decide
theorem L3_live (m : Int) (h : 1 ≤ m) : liveB (L3 m) ((0 : Nat) : Int) 1 = true := by
  have := Arn.liveB_at (L := L3 m) (k := 0) 1 rfl
  rw [this]; simp; omega
theorem L3_keep (m : Int) (h : 1 ≤ m) : keepL (L3 m) 0 1 = L3 (m + 1) ∧ callE (L3 m) 0 1 = 0 := by
  have h1 := Arn.keepL_at (L := L3 m) (k := 0) (x := (1, m)) (g := 1) rfl (L3_live m h)
  exact ⟨h1, Arn.callE_yes (L3_live m h)⟩
theorem L3_refs (m : Int) (h : 1 ≤ m) : refsV (L3 m) 0 1 = m := Arn.refsV_at (L := L3 m) (k := 0) (x := (1, m)) rfl (L3_live m h)
theorem L3_bytes (m : Int) (h : 1 ≤ m) (ys : List Int) : bytesV (L3 m) [ys, [], []] 0 1 = ys := by
  rw [bytesV, show liveB (L3 m) 0 1 = true from L3_live m h]; rfl

set_option maxHeartbeats 8000000 in
theorem patch_law (a : Option Addr) (n cap : Nat) (xs : List Int) (refs q t r f : Int) (w : World) (hp : PF q t r f) (hw1 : -9223372036854775808 ≤ refs) (hw2 : refs ≤ 9223372036854775807) (hl : n ≤ 140737488351232) (hlc : n ≤ cap) (hr : Rd w w.heap.size a n xs) :
    Calls Try.prog 5 #[.slice a n cap, .int .i64 refs, pch q t r f] w fun e w' => e = .returned (.bool true) ∧ Below w.heap.size w w' := by
  have CS : Hid (∀ W, Calls Try.prog 7 #[] W fun e w' => e = .returned (.bool true) ∧ Below W.heap.size W w') := fun W => shown_any W
  have CN : Hid (∀ W, Below w.heap.size w W → Calls Try.prog 8 #[.int .i64 3] W fun e w' => ∃ b ba ga g, e = .returned (.pointer (some ⟨b, 0, none⟩)) ∧ Hold w w' b ba ga g (L3 0) [[], [], []] ∧ Below W.heap.size W w') := fun W hW => new_hold2 w W 3 hW (by decide) (by decide)
  have hx := hr.1
  have HR := Lib.hid hr
  have hB := (Below.refl w.heap.size w).alloc (Nat.le_refl _) (.cells #[.int .u16 q, .int .u32 t, .int .u32 r, .int .u16 f] 35)
  have hQ := QBlk.new w q t r f
  obtain ⟨wq, hwq⟩ : ∃ wq, w.alloc (.cells #[.int .u16 q, .int .u32 t, .int .u32 r, .int .u16 f] 35) = wq := ⟨_, rfl⟩
  rw [hwq] at hB hQ
  have HBq := Lib.hid hB
  have HQ := Lib.hid hQ
  clear hr hB hQ
  by_cases h1 : refs < 1
  · have hd1 : decide (refs < 1) = true := by simpa using h1
    clear h1
    go_enter Try.func5, Try.ntmps5
    go_wp2_with fail
    refine (CS.out _).mono ?_
    rintro e w1 ⟨rfl, hb1⟩
    have HB1 := Lib.hid (HBq.out.trans (hb1.mono HBq.out.size))
    clear hb1 CS
    go_wp2_with fail
    go_ret
    exact ⟨rfl, HB1.out⟩
  by_cases h2 : 20 < refs
  · have hd1 : decide (refs < 1) = false := by simpa using h1
    have hd2 : decide (20 < refs) = true := by simpa using h2
    clear h1 h2
    go_enter Try.func5, Try.ntmps5
    go_wp2_with fail
    refine (CS.out _).mono ?_
    rintro e w1 ⟨rfl, hb1⟩
    have HB1 := Lib.hid (HBq.out.trans (hb1.mono HBq.out.size))
    clear hb1 CS
    go_wp2_with fail
    go_ret
    exact ⟨rfl, HB1.out⟩
  have hd1 : decide (refs < 1) = false := by simpa using h1
  have hd2 : decide (20 < refs) = false := by simpa using h2
  by_cases h5 : 512 < n
  · have hd3 : decide ((512 : Int) < n) = true := by simp; omega
    clear h1 h2 h5
    go_enter Try.func5, Try.ntmps5
    go_wp2_with fail
    refine (CS.out _).mono ?_
    rintro e w1 ⟨rfl, hb1⟩
    have HB1 := Lib.hid (HBq.out.trans (hb1.mono HBq.out.size))
    clear hb1 CS
    go_wp2_with fail
    go_ret
    exact ⟨rfl, HB1.out⟩
  have hd3 : decide ((512 : Int) < n) = false := by simp; omega
  have hn5 : n ≤ 512 := by omega
  have CU : Hid (∀ W b ba ga g, Hold w W b ba ga g (L3 0) [[], [], []] → Calls Try.prog 11 #[.pointer (some ⟨b, 0, none⟩), .slice a n cap] W fun e w' => e = .returned (.tuple #[hnV 0 1, .int .i64 0]) ∧ Hold w w' b ba ga g (L3 1) [xs, [], []] ∧ Upd (fun k => k = ga ∨ k = g) W w') := fun W b ba ga g h => by
    have := h.put (c := cap) (L3_len _) hx (h.arg HR.out)
    rw [putH, putE, putL, putD, hx, if_neg h5, if_neg h5, if_neg h5, if_neg h5] at this
    exact this
  have CK : Hid (∀ W b ba ga g (m : Int), 1 ≤ m → m ≤ 20 → Hold w W b ba ga g (L3 m) [xs, [], []] → Calls Try.prog 13 #[.pointer (some ⟨b, 0, none⟩), hnV 0 1] W fun e w' => e = .returned (.int .i64 0) ∧ Hold w w' b ba ga g (L3 (m + 1)) [xs, [], []] ∧ Upd (fun k => k = ga ∨ k = g) W w') := fun W b ba ga g m h1 h2 h => by
    have := h.keep (s := 0) (gn := 1) (L3_len _) (L3_ok m (by omega) (by omega)) (by decide)
    rw [(L3_keep m h1).1, (L3_keep m h1).2] at this
    exact this
  have hfacts : ∃ (pe : Int) (ys : List Int), (∀ W b ba ga g, Hold w W b ba ga g (L3 refs) [xs, [], []] → Calls Try.prog 17 #[.pointer (some ⟨b, 0, none⟩), hnV 0 1, pch q t r f] W fun e w' => e = .returned (.int .i64 pe) ∧ Hold w w' b ba ga g (L3 refs) [ys, [], []] ∧ Upd (fun k => k = ga ∨ k = g) W w') ∧
      (1 < refs → pe = 11 ∧ ys = xs) ∧ (¬ 1 < refs → ys = applyL xs q t r f ∧ pe = if hasD xs then 0 else 1) := by
    have hO := L3_ok refs (by omega) (by omega)
    have hlive := L3_live refs (by omega)
    by_cases h3 : refs = 1
    · by_cases h4 : hasD xs = true
      · refine ⟨0, applyL xs q t r f, fun W b ba ga g h => ?_, fun h => absurd h (by omega), fun _ => ⟨rfl, by rw [h4]; rfl⟩⟩
        have := h.patch (s := 0) (gn := 1) (q := q) (t := t) (u := r) (f := f) (L3_len _) hO hp
        have e := patch_yes (L := L3 refs) (D := [xs, [], []]) (k := 0) (g := 1) q t r f rfl hlive h3 rfl h4
        rw [show ((0 : Nat) : Int) = 0 from rfl] at e
        rw [e.1, e.2] at this
        exact this
      · have h4' : hasD xs = false := by simpa using h4
        refine ⟨1, xs, fun W b ba ga g h => ?_, fun h => absurd h (by omega), fun _ => ⟨by rw [applyL, if_neg h4], by rw [h4']; rfl⟩⟩
        have := h.patch (s := 0) (gn := 1) (q := q) (t := t) (u := r) (f := f) (L3_len _) hO hp
        have e := patch_no (L := L3 refs) (D := [xs, [], []]) (k := 0) (g := 1) q t r f rfl hlive h3 rfl h4'
        rw [show ((0 : Nat) : Int) = 0 from rfl] at e
        rw [e.1, e.2] at this
        exact this
    · refine ⟨11, xs, fun W b ba ga g h => ?_, fun _ => ⟨rfl, rfl⟩, fun h => absurd (show 1 < refs by omega) h⟩
      have := h.patch (s := 0) (gn := 1) (q := q) (t := t) (u := r) (f := f) (L3_len _) hO hp
      have e := patch_many (L := L3 refs) (D := [xs, [], []]) (k := 0) (g := 1) q t r f rfl hlive h3
      rw [show ((0 : Nat) : Int) = 0 from rfl] at e
      rw [e.1, e.2] at this
      exact this
  obtain ⟨pe, ys, hCP, hF1, hF2⟩ := hfacts
  have CP := Lib.hid hCP
  have HF1 := Lib.hid hF1
  have HF2 := Lib.hid hF2
  have CB : Hid (∀ W b ba ga g, Hold w W b ba ga g (L3 refs) [ys, [], []] → Calls Try.prog 19 #[.pointer (some ⟨b, 0, none⟩), hnV 0 1] W (Rtp.RetR W ys 0)) := fun W b ba ga g h => by
    have := bytes_st W b ba ga g _ _ 0 1 99 h.st (L3_len _) (L3_ok refs (by omega) (by omega))
    rw [L3_bytes refs (by omega), show callE (L3 refs) 0 1 = 0 from Arn.callE_yes (L3_live refs (by omega))] at this
    exact this
  have CA : Hid (∀ W, Below w.heap.size w W → Calls Try.prog 27 #[.slice a n cap, pch q t r f] W (PairRow W (applyL xs q t r f) (hasD xs))) := fun W hW =>
    Pat.rapply_any a n cap w.heap.size xs q t r f W hl hlc (HR.out.below hW) hW.size hp
  obtain ⟨zs, hzs⟩ : ∃ zs, applyL xs q t r f = zs := ⟨_, rfl⟩
  obtain ⟨ok, hok⟩ : ∃ ok, hasD xs = ok := ⟨_, rfl⟩
  rw [hzs, hok] at CA
  rw [hzs, hok] at HF2
  clear hCP hF1 hF2 h5 hzs hok
  go_enter Try.func5, Try.ntmps5
  go_wp2_with fail
  refine (CS.out _).mono ?_
  rintro e w1 ⟨rfl, hb1⟩
  have HB1 := Lib.hid (HBq.out.trans (hb1.mono HBq.out.size))
  have HQ1 := Lib.hid (HQ.out.below hb1 HQ.out.lt)
  clear hb1 CS hwq HBq HQ
  go_wp2_with fail
  refine (CN.out _ HB1.out).mono ?_
  rintro e w2 ⟨b, ba, ga, g, rfl, h, hb⟩
  have H2 := Lib.hid h
  have HQ2 := Lib.hid (HQ1.out.below hb HQ1.out.lt)
  clear h hb HB1 CN HQ1
  go_wp2_with fail
  refine (CU.out w2 b ba ga g H2.out).mono ?_
  rintro e w4 ⟨rfl, h, hu⟩
  have hb := (Below.refl w4.heap.size w4).alloc (Nat.le_refl _) (hnO 0 1)
  have H4 := Lib.hid (h.more hb)
  have HH4 := Lib.hid (HBlk.new w4 0 1)
  have HQ4 := Lib.hid ((H2.out.pch HQ2.out hu).below hb (H2.out.pch HQ2.out hu).lt)
  obtain ⟨w5, hw5⟩ : ∃ w5, w4.alloc (hnO 0 1) = w5 := ⟨_, rfl⟩
  obtain ⟨rb, hrr⟩ : ∃ rb, w4.heap.size = rb := ⟨_, rfl⟩
  rw [hw5] at H4 HH4 HQ4
  rw [hrr] at HH4
  clear h hu hb H2 HQ2 CU
  go_wp2
  go_loopw [10] (fun si wx => ∃ k : Int, 1 ≤ k ∧ k ≤ refs ∧ si = .int .i64 k ∧ Hid (Hold w wx b ba ga g (L3 k) [xs, [], []]) ∧ Hid (HBlk wx rb 0 1) ∧ Hid (QBlk wx w.heap.size q t r f)) (fun si _ => (refs - intOf si).toNat)
  case atStart => exact ⟨1, by omega, by omega, rfl, H4, HH4, HQ4⟩
  case round =>
    obtain ⟨k, hk1, hk2, rfl, h, hh, hq⟩ := hrel
    rename World => wx
    clear H4 HH4 HQ4 hw5
    by_cases hlt : k < refs
    · have hdk : decide (k < refs) = true := by simpa using hlt
      have c0 := hh.out.c0
      have c1 := hh.out.c1
      have qk : IntKind.i64.wrap (k + 1) = k + 1 := IntWalk.i64_in _ (by omega)
      go_wp2_with fail
      refine (CK.out wx b ba ga g k hk1 (by omega) h.out).mono ?_
      rintro e w6 ⟨rfl, h6, hu⟩
      have H6 := Lib.hid h6
      have HH6 := Lib.hid (h.out.hnd hh.out hu)
      have HQ6 := Lib.hid (h.out.pch hq.out hu)
      clear h6 hu h hh hq c0 c1
      go_wp2_with fail
      go_roundw
      case rel => exact ⟨k + 1, by omega, by omega, by go_num, H6, HH6, HQ6⟩
      case measure => simp [intOf]; omega
    · obtain rfl : k = refs := by omega
      have hdk : decide (k < k) = false := by simp
      have c0 := hh.out.c0
      have c1 := hh.out.c1
      have d0 := hq.out.c0
      have d1 := hq.out.c1
      have d2 := hq.out.c2
      have d3 := hq.out.c3
      clear CK
      go_wp2_with fail
      refine (CP.out wx b ba ga g h.out).mono ?_
      rintro e w6 ⟨rfl, h6, hu⟩
      have H6 := Lib.hid h6
      have HH6 := Lib.hid (h.out.hnd hh.out hu)
      have HQ6 := Lib.hid (h.out.pch hq.out hu)
      clear h6 hu h hh hq c0 c1 d0 d1 d2 d3 CP
      have c0 := HH6.out.c0
      have c1 := HH6.out.c1
      go_wp2_with fail
      refine (CB.out w6 b ba ga g H6.out).mono ?_
      rintro e w7 ⟨A7, c7, rfl, ho7, hb7⟩
      have H7 := Lib.hid (H6.out.more hb7)
      have HQ7 := Lib.hid (HQ6.out.below hb7 HQ6.out.lt)
      have HO7 := Lib.hid ho7
      clear ho7 hb7 H6 HH6 HQ6 c0 c1 CB
      have d0 := HQ7.out.c0
      have d1 := HQ7.out.c1
      have d2 := HQ7.out.c2
      have d3 := HQ7.out.c3
      go_wp2_with fail
      refine (CA.out w7 H7.out.bel).mono ?_
      rintro e w8 ⟨A8, c8, rfl, ho8, hb8⟩
      have H8 := Lib.hid (H7.out.more hb8)
      have s1 := str_run (c := c7) (HO7.out.below hb8 (Nat.le_refl _)).rd
      have s2 := str_run (c := cap) (HR.out.below H8.out.bel)
      have s3 := str_run (c := c8) ho8.rd
      clear ho8 hb8 H7 HQ7 HO7 d0 d1 d2 d3 CA
      by_cases hm : 1 < k
      · have hd : decide (1 < k) = true := by simpa using hm
        obtain ⟨rfl, rfl⟩ := HF1.out hm
        rw [hx] at s1
        clear HF1 HF2
        go_wp2_with fail
        go_ret
        exact ⟨rfl, H8.out.bel⟩
      · have hd : decide (1 < k) = false := by simpa using hm
        obtain ⟨rfl, hpe⟩ := HF2.out (by omega)
        clear HF1 HF2
        rcases ok with _ | _
        · obtain rfl : pe = 1 := hpe
          go_wp2_with fail
          go_ret
          exact ⟨rfl, H8.out.bel⟩
        · obtain rfl : pe = 0 := hpe
          go_wp2_with fail
          go_ret
          exact ⟨rfl, H8.out.bel⟩
end Go.Proofs.Ytdnnfoacpjgloaa.Stv
