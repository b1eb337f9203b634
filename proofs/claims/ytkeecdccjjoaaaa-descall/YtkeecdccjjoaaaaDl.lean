/- The reference's GetDesc whatever the bytes; the walk of DescAll. -/
import Derived.Test.YtkeecdccjjoaaaaDk
import Derived.Lib.Bytes
namespace Go.Proofs.Ytkeecdccjjoaaaa
open Go.RowKit
set_option linter.unusedVariables false

theorem bytesOf_inj : ∀ {xs ys : List Int}, Bytes xs → Bytes ys → Lib.bytesOf xs = Lib.bytesOf ys → xs = ys
  | [], [], _, _, _ => rfl
  | [], y :: ys, _, _, h => by simp [Lib.bytesOf] at h
  | x :: xs, [], _, _, h => by simp [Lib.bytesOf] at h
  | x :: xs, y :: ys, hx, hy, h => by
    simp only [Lib.bytesOf, List.map_cons, List.cons.injEq] at h
    have a := hx x (by simp)
    have b := hy y (by simp)
    have h1 := congrArg UInt8.toNat h.1
    rw [UInt8.toNat_ofNat', UInt8.toNat_ofNat'] at h1
    rw [bytesOf_inj (fun z hz => hx z (by simp [hz])) (fun z hz => hy z (by simp [hz])) h.2, show x = y from by omega]
theorem str_ne {xs ys : List Int} (hx : Bytes xs) (hy : Bytes ys) (h : xs ≠ ys) : ((strOfNums xs).toList == (strOfNums ys).toList) = false := by
  rw [Lib.strOfNums_toList, Lib.strOfNums_toList]
  exact beq_eq_false_iff_ne.2 fun e => h (bytesOf_inj hx hy e)

theorem rputV_bytes (l : Int) (k s : Bool) (f : Int) (hf0 : 0 ≤ f) (hf : f ≤ 65535) : Bytes (rputV l k s f) := by
  unfold rputV
  split
  · rename_i h
    exact putV_bytes l k s f (mayB_t h).1 (mayB_t h).2 hf0 hf
  · exact Bytes.nil
theorem rput_form {x0 x1 x2 x3 : Int} (b2 : 0 ≤ x2 ∧ x2 ≤ 255) (b3 : 0 ≤ x3 ∧ x3 ≤ 255) : (rputV (x0 % 4) (keyV x0) (staV x0) (x2 * 256 + x3) = [x0, x1, x2, x3]) ↔ formB x0 x1 = true := by
  unfold rputV formB
  rcases mayB (x0 % 4) with _ | _
  · simp
  · rw [if_pos rfl, putV, show (x2 * 256 + x3) / 256 = x2 from by omega, show (x2 * 256 + x3) % 256 = x3 from by omega]
    simp only [List.cons.injEq, and_true, Bool.true_and, Bool.and_eq_true, beq_iff_eq]
    exact ⟨fun h => ⟨h.1, h.2.symm⟩, fun h => ⟨h.1, h.2.symm⟩⟩

theorem rget_any (a : Option Addr) (len cap B : Nat) (xs : List Int) (w : World) (hl : len ≤ maxLen) (hlc : len ≤ cap) (hr : Rd w B a len xs) (hB : B ≤ w.heap.size) :
    Calls Try.prog 9 #[.slice a len cap] w (RetG w (gL xs) (gK xs) (gS xs) (gF xs) (gE xs)) := by
  have hx := hr.1
  rcases Nat.lt_or_ge len 4 with h4 | h4
  · have ho : gOk xs = false := by simp [gOk]; omega
    have he : gE xs = 2 := by rw [gE, if_pos (by omega)]
    rw [gL, gK, gS, gF, ho, he]
    exact rget_short a len cap w h4
  · obtain ⟨b, off, rfl, hb, hc⟩ := hr.2.2 (by omega)
    have hb' : b < w.heap.size := by omega
    have b0 := hr.2.1.getD 0
    have b1 := hr.2.1.getD 1
    have b2 := hr.2.1.getD 2
    have b3 := hr.2.1.getD 3
    have h0 := hc 0 (by omega)
    have h2 := hc 2 (by omega)
    have h3 := hc 3 (by omega)
    rw [Nat.add_zero] at h0
    have R4 := (hr.take h4).more hB
    have hz : xs.take 4 = [xs.getD 0 0, xs.getD 1 0, xs.getD 2 0, xs.getD 3 0] := by
      match xs, hx with
      | a :: b :: c :: d :: r, _ => rfl
      | [], h | [_], h | [_, _], h | [_, _, _], h => simp at h; omega
    rw [hz] at R4
    have ho : gOk xs = formB (xs.getD 0 0) (xs.getD 1 0) := by rw [gOk, decide_eq_true (by omega), Bool.true_and]
    have he : gE xs = if formB (xs.getD 0 0) (xs.getD 1 0) then 0 else 1 := by rw [gE, if_neg (by omega)]
    rw [gL, gK, gS, gF, ho, he]
    clear ho he hc hz
    generalize xs.getD 0 0 = x0 at *
    generalize xs.getD 1 0 = x1 at *
    generalize xs.getD 2 0 = x2 at *
    generalize xs.getD 3 0 = x3 at *
    have C0 : Hid (∀ W, Below w.heap.size w W → W.cell? ⟨b, off, none⟩ = some (.int .u8 x0)) := fun W hW => (hW.cell (p := ⟨b, off, none⟩) hb').trans h0
    have C2 : Hid (∀ W, Below w.heap.size w W → W.cell? ⟨b, off + 2, none⟩ = some (.int .u8 x2)) := fun W hW => (hW.cell (p := ⟨b, off + 2, none⟩) hb').trans h2
    have C3 : Hid (∀ W, Below w.heap.size w W → W.cell? ⟨b, off + 3, none⟩ = some (.int .u8 x3)) := fun W hW => (hW.cell (p := ⟨b, off + 3, none⟩) hb').trans h3
    have CP : Hid (∀ W, Calls Try.prog 13 #[dsc (x0 % 4) (keyV x0) (staV x0) (x2 * 256 + x3)] W (NewRow W (rputV (x0 % 4) (keyV x0) (staV x0) (x2 * 256 + x3)))) := fun W => rput_any _ _ _ _ W (by omega) (by omega)
    have hfm := rput_form (x0 := x0) (x1 := x1) b2 b3
    rcases hf : formB x0 x1 with _ | _
    · have hne : rputV (x0 % 4) (keyV x0) (staV x0) (x2 * 256 + x3) ≠ [x0, x1, x2, x3] := fun h => by rw [hfm.1 h] at hf; cases hf
      exact rget_no b off len cap x0 x1 x2 x3 _ _ w hl hlc h4 hb' C0 C2 C3 b0 b2 b3 R4 CP (str_ne (rputV_bytes _ _ _ _ (by omega) (by omega)) (four b0 b1 b2 b3) hne)
    · exact rget_yes b off len cap x0 x1 x2 x3 _ _ w hl hlc h4 hb' C0 C2 C3 b0 b2 b3 R4 CP (hfm.2 hf)

theorem put_any (l : Int) (k s : Bool) (f : Int) (w : World) (hf0 : 0 ≤ f) (hf : f ≤ 65535) :
    Calls Try.prog 12 #[dsc l k s f] w (NewRow w (rputV l k s f)) := by
  unfold rputV
  rcases hm : mayB l with _ | _
  · rw [if_neg (by decide)]
    refine (put_no l k s f w hm).mono ?_
    rintro e w1 ⟨rfl, hb1⟩
    exact ⟨none, 0, rfl, Own.nil _ _, hb1⟩
  · rw [if_pos rfl]
    refine (put_yes l k s f w (mayB_t hm).1 (mayB_t hm).2 hf0 hf).mono ?_
    rintro e w1 ⟨g, rfl, hg, hk, hb1⟩
    exact ⟨_, 4, rfl, Own.of_blk hk hg (putV_bytes l k s f (mayB_t hm).1 (mayB_t hm).2 hf0 hf) rfl (show 4 ≤ maxLen by decide), hb1⟩

set_option maxHeartbeats 4000000 in
theorem dall_law (l : Int) (k s : Bool) (f : Int) (a : Option Addr) (len cap : Nat) (xs : List Int) (w : World) (hf0 : 0 ≤ f) (hf : f ≤ 65535) (hl : len ≤ 140737488351232) (hlc : len ≤ cap) (hr : Rd w w.heap.size a len xs) :
    Calls Try.prog 3 #[dsc l k s f, .slice a len cap] w fun e w' => e = .returned (.bool true) ∧ Below w.heap.size w w' := by
  obtain ⟨m, hm⟩ : ∃ m, mayB l = m := ⟨_, rfl⟩
  obtain ⟨zs, hz⟩ : ∃ zs, rputV l k s f = zs := ⟨_, rfl⟩
  have CM : Hid (∀ W, Calls Try.prog 10 #[dsc l k s f] W fun e w' => e = .returned (.bool m) ∧ Below W.heap.size W w') := fun W => hm ▸ may_any l k s f W
  have RM : Hid (∀ W, Calls Try.prog 11 #[dsc l k s f] W fun e w' => e = .returned (.bool m) ∧ Below W.heap.size W w') := fun W => hm ▸ rmay_any l k s f W
  have CP : Hid (∀ W, Calls Try.prog 12 #[dsc l k s f] W (NewRow W zs)) := fun W => hz ▸ put_any l k s f W hf0 hf
  have RP : Hid (∀ W, Calls Try.prog 13 #[dsc l k s f] W (NewRow W zs)) := fun W => hz ▸ rput_any l k s f W hf0 hf
  obtain ⟨xl, xk, xs', xf, xe, CG, RG⟩ : ∃ (xl : Int) (xk xs' : Bool) (xf xe : Int),
      Hid (∀ W, Below w.heap.size w W → Calls Try.prog 8 #[.slice a len cap] W (RetG W xl xk xs' xf xe)) ∧ Hid (∀ W, Below w.heap.size w W → Calls Try.prog 9 #[.slice a len cap] W (RetG W xl xk xs' xf xe)) :=
    ⟨gL xs, gK xs, gS xs, gF xs, gE xs, fun W hW => get_any a len cap w.heap.size xs W (by unfold maxLen; omega) (hr.below hW) hW.size, fun W hW => rget_any a len cap w.heap.size xs W (by unfold maxLen; omega) hlc (hr.below hW) hW.size⟩
  clear hm hz hr hlc hl hf0 hf
  go_enter Try.func3, Try.ntmps3
  go_wp2_with fail
  refine (shown_any _).mono ?_
  rintro e w1 ⟨rfl, hb1⟩
  have D1 : DBlk w1 w.heap.size l k s f := (DBlk.new w l k s f).below hb1 (by simp)
  have H1 : Hid (Below w.heap.size w w1) := (box w l k s f).trans (hb1.mono (by simp))
  clear hb1
  go_wp2_with fail
  refine (CG.out _ H1.out).mono ?_
  rintro e w2 ⟨rfl, hb2⟩
  have D2 := D1.below hb2 D1.lt
  have H2 : Hid (Below w.heap.size w w2) := H1.out.trans (hb2.mono H1.out.size)
  clear hb2 D1 H1
  go_wp2_with fail
  obtain ⟨w3, hw3⟩ : ∃ w3, w2.alloc (.cells #[.int .i64 xl, .bool xk, .bool xs', .int .u16 xf] 24) = w3 := ⟨_, rfl⟩
  have hb3 : Below w2.heap.size w2 w3 := hw3 ▸ box w2 xl xk xs' xf
  have X3 : DBlk w3 w2.heap.size xl xk xs' xf := hw3 ▸ DBlk.new w2 xl xk xs' xf
  have D3 := D2.below hb3 D2.lt
  have H3 : Hid (Below w.heap.size w w3) := H2.out.trans (hb3.mono H2.out.size)
  rw [hw3]
  generalize w2.heap.size = bx at *
  clear hw3 hb3 D2 H2 w2
  refine (RG.out _ H3.out).mono ?_
  rintro e w4 ⟨rfl, hb4⟩
  have D4 := D3.below hb4 D3.lt
  have X4 := X3.below hb4 X3.lt
  have H4 : Hid (Below w.heap.size w w4) := H3.out.trans (hb4.mono H3.out.size)
  clear hb4 D3 X3 H3
  go_wp2_with fail
  obtain ⟨w5, hw5⟩ : ∃ w5, w4.alloc (.cells #[.int .i64 xl, .bool xk, .bool xs', .int .u16 xf] 24) = w5 := ⟨_, rfl⟩
  have hb5 : Below w4.heap.size w4 w5 := hw5 ▸ box w4 xl xk xs' xf
  have Y5 : DBlk w5 w4.heap.size xl xk xs' xf := hw5 ▸ DBlk.new w4 xl xk xs' xf
  have D5 := D4.below hb5 D4.lt
  have X5 := X4.below hb5 X4.lt
  have H5 : Hid (Below w.heap.size w w5) := H4.out.trans (hb5.mono H4.out.size)
  rw [hw5]
  generalize w4.heap.size = by_ at *
  clear hw5 hb5 D4 X4 H4 w4
  have HD := Lib.hid D5
  have HX := Lib.hid X5
  have HY := Lib.hid Y5
  clear D5 X5 Y5
  have c0 : ∀ W, Below w5.heap.size w5 W → W.cell? ⟨w.heap.size, 0, none⟩ = some (.int .i64 l) := fun W hW => (HD.out.below hW HD.out.lt).c0
  have c1 : ∀ W, Below w5.heap.size w5 W → W.cell? ⟨w.heap.size, 1, none⟩ = some (.bool k) := fun W hW => (HD.out.below hW HD.out.lt).c1
  have c2 : ∀ W, Below w5.heap.size w5 W → W.cell? ⟨w.heap.size, 2, none⟩ = some (.bool s) := fun W hW => (HD.out.below hW HD.out.lt).c2
  have c3 : ∀ W, Below w5.heap.size w5 W → W.cell? ⟨w.heap.size, 3, none⟩ = some (.int .u16 f) := fun W hW => (HD.out.below hW HD.out.lt).c3
  have hS : Below w5.heap.size w5 w5.drew := (Below.refl _ w5).drew
  refine region_seq (fun W => Below w5.heap.size w5 W) [(0, false), (2, false), (1, true), (3, true), (4, false), (5, false), (6, false), (9, false), (7, true), (8, false), (10, true), (11, false), (12, false), (13, false), (14, false), (15, false), (16, false), (17, false), (18, false), (19, false), (20, false), (21, false), (22, false), (23, false), (24, false)] (by kernel_rfl) (by kernel_rfl) rfl (by kernel_rfl) ?_
  iterate 2 (refine seq_read (v := _) rfl (fun _ _ _ h => h) hS (Or.inl ⟨by rfl, fun W hW => by go_simp <;> with_reducible rfl⟩) ?_; simp only [Act.put, List.setIfInBounds_toArray, List.set_cons_zero, List.set_cons_succ])
  refine seq_do rfl (fun K hK => ?_)
  go_simp
  refine (CM.out _).mono ?_
  rintro e w6 ⟨rfl, hb6⟩
  have hb56 : Below w5.heap.size w5 w6 := hS.trans hb6
  refine hK.out _ _ (fun W => Below w5.heap.size w5 W) (fun W hW => hW) hb56 ?_
  clear hK K hS hb6
  refine seq_do rfl (fun K hK => ?_)
  go_simp
  refine (RM.out _).mono ?_
  rintro e w7 ⟨rfl, hb7⟩
  have hb57 : Below w5.heap.size w5 w7 := hb56.trans (hb7.mono hb56.size)
  refine hK.out _ _ (fun W => Below w5.heap.size w5 W) (fun W hW => hW) hb57 ?_
  clear hK K hb7 hb56 w6
  have hS := hb57
  have hmm : (m == m) = true := beq_self_eq_true m
  iterate 4 (refine seq_read (v := _) rfl (fun _ _ _ h => h) hS (Or.inl ⟨by rfl, fun W hW => by go_simp <;> with_reducible rfl⟩) ?_; simp only [Act.put, List.setIfInBounds_toArray, List.set_cons_zero, List.set_cons_succ])
  refine seq_do rfl (fun K hK => ?_)
  go_simp
  refine (CP.out _).mono ?_
  rintro e w8 ⟨A8, k8, rfl, ho8, hb8⟩
  have hb58 : Below w5.heap.size w5 w8 := hb57.trans (hb8.mono hb57.size)
  have s8 : ∀ W, Below w8.heap.size w8 W → (convert 25 9 (.slice A8 zs.length k8)).run Try.prog W = .ok (.string (strOfNums zs)) W := fun W hW => str_run (ho8.rd.below hW)
  refine hK.out _ _ (fun W => Below w8.heap.size w8 W) (fun W hW => hb58.trans (hW.mono hb58.size)) (Below.refl _ _) ?_
  clear hK K hb8 hS hb57 ho8 c0 c1 c2 c3
  have hS : Below w8.heap.size w8 w8 := Below.refl _ _
  iterate 1 (refine seq_read (v := _) rfl (fun _ _ _ h => h) hS (Or.inl ⟨by rfl, fun W hW => by go_simp <;> with_reducible rfl⟩) ?_; simp only [Act.put, List.setIfInBounds_toArray, List.set_cons_zero, List.set_cons_succ])
  refine seq_do rfl (fun K hK => ?_)
  go_simp
  refine (RP.out _).mono ?_
  rintro e w9 ⟨A9, k9, rfl, ho9, hb9⟩
  have hb59 : Below w5.heap.size w5 w9 := hb58.trans (hb9.mono hb58.size)
  have s9 : ∀ W, Below w9.heap.size w9 W → (convert 25 9 (.slice A9 zs.length k9)).run Try.prog W = .ok (.string (strOfNums zs)) W := fun W hW => str_run (ho9.rd.below hW)
  refine hK.out _ _ (fun W => Below w9.heap.size w9 W) (fun W hW => hb9.trans (hW.mono hb9.size)) (Below.refl _ _) ?_
  clear hK K hb9 hS ho9 hb58 s8
  have hS : Below w9.heap.size w9 w9 := Below.refl _ _
  have X9 : ∀ W, Below w9.heap.size w9 W → DBlk W bx xl xk xs' xf := fun W hW => HX.out.below (hb59.trans (hW.mono hb59.size)) HX.out.lt
  have Y9 : ∀ W, Below w9.heap.size w9 W → DBlk W by_ xl xk xs' xf := fun W hW => HY.out.below (hb59.trans (hW.mono hb59.size)) HY.out.lt
  have x0 : ∀ W, Below w9.heap.size w9 W → W.cell? ⟨bx, 0, none⟩ = some (.int .i64 xl) := fun W hW => (X9 W hW).c0
  have x1 : ∀ W, Below w9.heap.size w9 W → W.cell? ⟨bx, 1, none⟩ = some (.bool xk) := fun W hW => (X9 W hW).c1
  have x2 : ∀ W, Below w9.heap.size w9 W → W.cell? ⟨bx, 2, none⟩ = some (.bool xs') := fun W hW => (X9 W hW).c2
  have x3 : ∀ W, Below w9.heap.size w9 W → W.cell? ⟨bx, 3, none⟩ = some (.int .u16 xf) := fun W hW => (X9 W hW).c3
  have y0 : ∀ W, Below w9.heap.size w9 W → W.cell? ⟨by_, 0, none⟩ = some (.int .i64 xl) := fun W hW => (Y9 W hW).c0
  have y1 : ∀ W, Below w9.heap.size w9 W → W.cell? ⟨by_, 1, none⟩ = some (.bool xk) := fun W hW => (Y9 W hW).c1
  have y2 : ∀ W, Below w9.heap.size w9 W → W.cell? ⟨by_, 2, none⟩ = some (.bool xs') := fun W hW => (Y9 W hW).c2
  have y3 : ∀ W, Below w9.heap.size w9 W → W.cell? ⟨by_, 3, none⟩ = some (.int .u16 xf) := fun W hW => (Y9 W hW).c3
  clear X9 Y9
  iterate 14 (refine seq_read (v := _) rfl (fun _ _ _ h => h) hS (Or.inl ⟨by rfl, fun W hW => by go_simp <;> with_reducible rfl⟩) ?_; simp only [Act.put, List.setIfInBounds_toArray, List.set_cons_zero, List.set_cons_succ])
  refine seq_end ?_
  go_wp2
  go_ret
  exact ⟨rfl, H5.out.trans (hb59.mono H5.out.size)⟩
end Go.Proofs.Ytkeecdccjjoaaaa
