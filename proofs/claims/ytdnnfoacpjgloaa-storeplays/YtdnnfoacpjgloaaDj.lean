/- The contracts of the reference's MayDesc, PutDesc. · The contract of the reference's GetDesc. -/
import Derived.Test.YtdnnfoacpjgloaaDd
import Derived.Test.YtdnnfoacpjgloaaXr
import Derived.Test.YtdnnfoacpjgloaaXh
set_option maxRecDepth 100000
namespace Go.Proofs.Ytdnnfoacpjgloaa
open Go.RowKit
set_option linter.unusedVariables false

set_option maxHeartbeats 400000 in
theorem rmay_any (l : Int) (k s : Bool) (f : Int) (w : World) :
    Calls Try.prog 58 #[dsc l k s f] w fun e w' => e = .returned (.bool (mayB l)) ∧ Below w.heap.size w w' := by
  by_cases h0 : 0 ≤ l
  · go_enter Try.func58, Try.ntmps58
    go_wp2
    go_ret
    exact ⟨ret_bool (by rw [Bool.eq_iff_iff]; simp [mayB]; omega), (Below.refl _ _).alloc (Nat.le_refl _) _⟩
  · go_enter Try.func58, Try.ntmps58
    go_wp2
    go_ret
    exact ⟨ret_bool (by simp [mayB]; omega), (Below.refl _ _).alloc (Nat.le_refl _) _⟩

def rputV (l : Int) (k s : Bool) (f : Int) : List Int := if mayB l then putV l k s f else []

theorem rput_no (l : Int) (k s : Bool) (f : Int) (w : World) (hm : mayB l = false) :
    Calls Try.prog 43 #[dsc l k s f] w (NewRow w (rputV l k s f)) := by
  have HC : Hid (∀ W, Calls Try.prog 58 #[dsc l k s f] W fun e w' => e = .returned (.bool false) ∧ Below W.heap.size W w') := fun W => hm ▸ rmay_any l k s f W
  rw [rputV, hm, if_neg (by decide)]
  clear hm
  go_enter Try.func43, Try.ntmps43
  go_wp2_with fail
  refine (HC.out _).mono ?_
  rintro e w1 ⟨rfl, hb1⟩
  go_wp2
  go_ret
  exact ⟨none, 0, rfl, Own.nil _ _, (box w l k s f).trans (hb1.mono (by simp))⟩

theorem be2 (f : Int) (hf0 : 0 ≤ f) (hf : f ≤ 65535) : be 2 f = [f / 256, f % 256] := by
  rw [be_cons, be_cons]
  simp [be]
  omega

theorem newRow_of {w w' : World} {base n c : Nat} {A : Option Addr} {zs : List Int} (hn : zs.length = n) (hb : w.heap.size ≤ base) (ho : Own w' base A n c zs) (h : Below w.heap.size w w') : NewRow w zs (.returned (.slice A n c)) w' := by
  subst hn
  refine ⟨A, c, rfl, ?_, h⟩
  obtain ⟨a1, a2, a3, a4, a5⟩ := ho
  refine ⟨a1, a2, a3, a4, ?_⟩
  rcases a5 with h5 | ⟨g, T, e, hg, r⟩
  · exact .inl h5
  · exact .inr ⟨g, T, e, Nat.le_trans hb hg, r⟩

set_option maxHeartbeats 1000000 in
theorem rput_yes (l : Int) (k s : Bool) (f : Int) (w : World) (h0 : 0 ≤ l) (h2 : l ≤ 2) (hf0 : 0 ≤ f) (hf : f ≤ 65535) :
    Calls Try.prog 43 #[dsc l k s f] w (NewRow w (rputV l k s f)) := by
  have hm : mayB l = true := by simp [mayB]; omega
  have CM : Hid (∀ W, Calls Try.prog 58 #[dsc l k s f] W fun e w' => e = .returned (.bool true) ∧ Below W.heap.size W w') := fun W => hm ▸ rmay_any l k s f W
  have CB : Hid (∀ W, Calls Try.prog 59 #[.int .i64 2, .int .u64 f] W fun e w' => e = .returned (.slice (some ⟨W.heap.size, 0, none⟩) 2 2) ∧ Blk w' W.heap.size (be 2 f) [] ∧ Below W.heap.size W w') := fun W => R1.bytes_any 2 f W (by decide) (by decide) hf0 (by omega)
  obtain ⟨zs, hz⟩ : ∃ zs, rputV l k s f = zs := ⟨_, rfl⟩
  have HZ : Hid ([firstV l k s, 90] ++ be 2 f = zs) := by show _ = _; rw [← hz, rputV, hm, if_pos rfl, be2 f hf0 hf]; rfl
  have HN : Hid (zs.length = 4) := by show _ = _; rw [← hz, rputV, hm, if_pos rfl]; rfl
  have HX : Hid (Bytes [firstV l k s, 90]) := by
    have := firstV_bd h0 (show l ≤ 3 by omega) k s
    intro x hx
    simp only [List.mem_cons, List.not_mem_nil, or_false] at hx
    omega
  rw [hz]
  clear hz hm
  have e0 : IntKind.u8.wrap l = l := wrap8 l h0 (by omega)
  have e1 : IntKind.u8.wrap (l + 128) = l + 128 := wrap8 _ (by omega) (by omega)
  have e2 : IntKind.u8.wrap (l + 64) = l + 64 := wrap8 _ (by omega) (by omega)
  have e3 : IntKind.u8.wrap (l + 128 + 64) = l + 128 + 64 := wrap8 _ (by omega) (by omega)
  cases k <;> cases s
  · clear e1 e2 e3
    go_enter Try.func43, Try.ntmps43
    go_wp2_with fail
    refine (CM.out _).mono ?_
    rintro e w1 ⟨rfl, hb1⟩
    have D1 : DBlk w1 w.heap.size l false false f := (DBlk.new w l false false f).below hb1 (by simp)
    have H1 : Hid (Below w.heap.size w w1) := (box w l false false f).trans (hb1.mono (by simp))
    clear hb1
    have c0 := D1.c0
    have c1 := D1.c1
    have c2 := D1.c2
    have c3 := D1.c3
    have D2 := D1.below ((Below.refl w1.heap.size w1).alloc (Nat.le_refl _) (.cells #[.int .u8 (l), .int .u8 90] 5)) D1.lt
    have d3 := D2.c3
    go_wp2_with fail
    refine (CB.out _).mono ?_
    rintro e w2 ⟨rfl, hk2, hb2⟩
    have O2 : Own w2 w1.heap.size (some ⟨w1.heap.size, 0, none⟩) 2 2 [l, 90] := Own.of_blk ((alloc_blk w1 [l, 90]).below hb2 (by simp)) (Nat.le_refl _) HX.out rfl (by decide)
    have R2 : Rd w2 w2.heap.size (some ⟨w1.heap.size + 1, 0, none⟩) 2 (be 2 f) := by
      have h := hk2.rd (be_bytes 2 f) (be_length 2 f)
      rw [show (w1.alloc (.cells #[.int .u8 (l), .int .u8 90] 5)).heap.size = w1.heap.size + 1 from by simp] at h
      exact h
    have B2 : Hid (Below w1.heap.size w1 w2) := ((Below.refl w1.heap.size w1).alloc (Nat.le_refl _) _).trans (hb2.mono (by simp))
    have hz2 : w1.heap.size ≤ w2.heap.size := B2.out.size
    clear hk2 hb2 c0 c1 c2 c3 D1 D2 d3
    go_wp2_with (at_builtin; refine wpList_append_bytes rfl (.tmp 19) (.tmp 23) rfl w1.heap.size w2.heap.size 2 2 2 2 4 _ _ _ _ zs rfl HZ.out rfl rfl O2 R2 hz2 (by omega) ?_; intro A3 c3 w3 ho3 hb3)
    go_ret
    have HH : Below w.heap.size w w3 := H1.out.trans ((B2.out.trans hb3).mono H1.out.size)
    exact newRow_of HN.out H1.out.size ho3 HH
  · clear e1 e3
    go_enter Try.func43, Try.ntmps43
    go_wp2_with fail
    refine (CM.out _).mono ?_
    rintro e w1 ⟨rfl, hb1⟩
    have D1 : DBlk w1 w.heap.size l false true f := (DBlk.new w l false true f).below hb1 (by simp)
    have H1 : Hid (Below w.heap.size w w1) := (box w l false true f).trans (hb1.mono (by simp))
    clear hb1
    have c0 := D1.c0
    have c1 := D1.c1
    have c2 := D1.c2
    have c3 := D1.c3
    have D2 := D1.below ((Below.refl w1.heap.size w1).alloc (Nat.le_refl _) (.cells #[.int .u8 (l + 64), .int .u8 90] 5)) D1.lt
    have d3 := D2.c3
    go_wp2_with fail
    refine (CB.out _).mono ?_
    rintro e w2 ⟨rfl, hk2, hb2⟩
    have O2 : Own w2 w1.heap.size (some ⟨w1.heap.size, 0, none⟩) 2 2 [l + 64, 90] := Own.of_blk ((alloc_blk w1 [l + 64, 90]).below hb2 (by simp)) (Nat.le_refl _) HX.out rfl (by decide)
    have R2 : Rd w2 w2.heap.size (some ⟨w1.heap.size + 1, 0, none⟩) 2 (be 2 f) := by
      have h := hk2.rd (be_bytes 2 f) (be_length 2 f)
      rw [show (w1.alloc (.cells #[.int .u8 (l + 64), .int .u8 90] 5)).heap.size = w1.heap.size + 1 from by simp] at h
      exact h
    have B2 : Hid (Below w1.heap.size w1 w2) := ((Below.refl w1.heap.size w1).alloc (Nat.le_refl _) _).trans (hb2.mono (by simp))
    have hz2 : w1.heap.size ≤ w2.heap.size := B2.out.size
    clear hk2 hb2 c0 c1 c2 c3 D1 D2 d3
    go_wp2_with (at_builtin; refine wpList_append_bytes rfl (.tmp 19) (.tmp 23) rfl w1.heap.size w2.heap.size 2 2 2 2 4 _ _ _ _ zs rfl HZ.out rfl rfl O2 R2 hz2 (by omega) ?_; intro A3 c3 w3 ho3 hb3)
    go_ret
    have HH : Below w.heap.size w w3 := H1.out.trans ((B2.out.trans hb3).mono H1.out.size)
    exact newRow_of HN.out H1.out.size ho3 HH
  · clear e2 e3
    go_enter Try.func43, Try.ntmps43
    go_wp2_with fail
    refine (CM.out _).mono ?_
    rintro e w1 ⟨rfl, hb1⟩
    have D1 : DBlk w1 w.heap.size l true false f := (DBlk.new w l true false f).below hb1 (by simp)
    have H1 : Hid (Below w.heap.size w w1) := (box w l true false f).trans (hb1.mono (by simp))
    clear hb1
    have c0 := D1.c0
    have c1 := D1.c1
    have c2 := D1.c2
    have c3 := D1.c3
    have D2 := D1.below ((Below.refl w1.heap.size w1).alloc (Nat.le_refl _) (.cells #[.int .u8 (l + 128), .int .u8 90] 5)) D1.lt
    have d3 := D2.c3
    go_wp2_with fail
    refine (CB.out _).mono ?_
    rintro e w2 ⟨rfl, hk2, hb2⟩
    have O2 : Own w2 w1.heap.size (some ⟨w1.heap.size, 0, none⟩) 2 2 [l + 128, 90] := Own.of_blk ((alloc_blk w1 [l + 128, 90]).below hb2 (by simp)) (Nat.le_refl _) HX.out rfl (by decide)
    have R2 : Rd w2 w2.heap.size (some ⟨w1.heap.size + 1, 0, none⟩) 2 (be 2 f) := by
      have h := hk2.rd (be_bytes 2 f) (be_length 2 f)
      rw [show (w1.alloc (.cells #[.int .u8 (l + 128), .int .u8 90] 5)).heap.size = w1.heap.size + 1 from by simp] at h
      exact h
    have B2 : Hid (Below w1.heap.size w1 w2) := ((Below.refl w1.heap.size w1).alloc (Nat.le_refl _) _).trans (hb2.mono (by simp))
    have hz2 : w1.heap.size ≤ w2.heap.size := B2.out.size
    clear hk2 hb2 c0 c1 c2 c3 D1 D2 d3
    go_wp2_with (at_builtin; refine wpList_append_bytes rfl (.tmp 19) (.tmp 23) rfl w1.heap.size w2.heap.size 2 2 2 2 4 _ _ _ _ zs rfl HZ.out rfl rfl O2 R2 hz2 (by omega) ?_; intro A3 c3 w3 ho3 hb3)
    go_ret
    have HH : Below w.heap.size w w3 := H1.out.trans ((B2.out.trans hb3).mono H1.out.size)
    exact newRow_of HN.out H1.out.size ho3 HH
  · clear e2
    have HX : Hid (Bytes [l + 128 + 64, 90]) := by have h := HX.out; rw [firstV, show l + 192 = l + 128 + 64 from by omega] at h; exact h
    have HZ : Hid ([l + 128 + 64, 90] ++ be 2 f = zs) := by have h := HZ.out; rw [firstV, show l + 192 = l + 128 + 64 from by omega] at h; exact h
    go_enter Try.func43, Try.ntmps43
    go_wp2_with fail
    refine (CM.out _).mono ?_
    rintro e w1 ⟨rfl, hb1⟩
    have D1 : DBlk w1 w.heap.size l true true f := (DBlk.new w l true true f).below hb1 (by simp)
    have H1 : Hid (Below w.heap.size w w1) := (box w l true true f).trans (hb1.mono (by simp))
    clear hb1
    have c0 := D1.c0
    have c1 := D1.c1
    have c2 := D1.c2
    have c3 := D1.c3
    have D2 := D1.below ((Below.refl w1.heap.size w1).alloc (Nat.le_refl _) (.cells #[.int .u8 (l + 128 + 64), .int .u8 90] 5)) D1.lt
    have d3 := D2.c3
    go_wp2_with fail
    refine (CB.out _).mono ?_
    rintro e w2 ⟨rfl, hk2, hb2⟩
    have O2 : Own w2 w1.heap.size (some ⟨w1.heap.size, 0, none⟩) 2 2 [l + 128 + 64, 90] := Own.of_blk ((alloc_blk w1 [l + 128 + 64, 90]).below hb2 (by simp)) (Nat.le_refl _) HX.out rfl (by decide)
    have R2 : Rd w2 w2.heap.size (some ⟨w1.heap.size + 1, 0, none⟩) 2 (be 2 f) := by
      have h := hk2.rd (be_bytes 2 f) (be_length 2 f)
      rw [show (w1.alloc (.cells #[.int .u8 (l + 128 + 64), .int .u8 90] 5)).heap.size = w1.heap.size + 1 from by simp] at h
      exact h
    have B2 : Hid (Below w1.heap.size w1 w2) := ((Below.refl w1.heap.size w1).alloc (Nat.le_refl _) _).trans (hb2.mono (by simp))
    have hz2 : w1.heap.size ≤ w2.heap.size := B2.out.size
    clear hk2 hb2 c0 c1 c2 c3 D1 D2 d3
    go_wp2_with (at_builtin; refine wpList_append_bytes rfl (.tmp 19) (.tmp 23) rfl w1.heap.size w2.heap.size 2 2 2 2 4 _ _ _ _ zs rfl HZ.out rfl rfl O2 R2 hz2 (by omega) ?_; intro A3 c3 w3 ho3 hb3)
    go_ret
    have HH : Below w.heap.size w w3 := H1.out.trans ((B2.out.trans hb3).mono H1.out.size)
    exact newRow_of HN.out H1.out.size ho3 HH

theorem rput_any (l : Int) (k s : Bool) (f : Int) (w : World) (hf0 : 0 ≤ f) (hf : f ≤ 65535) :
    Calls Try.prog 43 #[dsc l k s f] w (NewRow w (rputV l k s f)) := by
  rcases hm : mayB l with _ | _
  · exact rput_no l k s f w hm
  · exact rput_yes l k s f w (mayB_t hm).1 (mayB_t hm).2 hf0 hf
end Go.Proofs.Ytdnnfoacpjgloaa

namespace Go.Proofs.Ytdnnfoacpjgloaa
open Go.RowKit
set_option linter.unusedVariables false

theorem rret_at {w W : World} {b : Nat} {l f n : Int} {k s : Bool} {tmps : Array Value} (D : DBlk W b l k s f) (hb : Below w.heap.size w W)
    (h2 : tmps[2]?.getD undef = .pointer (some ⟨b, 0, none⟩) := by rfl) (h3 : tmps[3]?.getD undef = .int .i64 n := by rfl) :
    bodyPost Try.prog Try.f57 (RetG w l k s f n) .ret ⟨tmps, []⟩ W := by
  have c0 := D.c0
  have c1 := D.c1
  have c2 := D.c2
  have c3 := D.c3
  exact bodyPost_ret (v := .tuple #[dsc l k s f, .int .i64 n]) (by simp [results, Try.results57, go_sem, h2, h3, c0, c1, c2, c3]) rfl ⟨rfl, hb⟩

set_option maxHeartbeats 400000 in
theorem rget_short (a : Option Addr) (len cap : Nat) (w : World) (h4 : len < 4) :
    Calls Try.prog 57 #[.slice a len cap] w (RetG w 0 false false 0 2) := by
  have hi : (len : Int) < 4 := by omega
  go_enter Try.func57, Try.ntmps57
  go_wp2
  exact bodyPost_ret (v := .tuple #[dsc 0 false false 0, .int .i64 2]) (by simp [results, Try.results57, go_sem]) rfl ⟨rfl, (Below.refl _ w).alloc (Nat.le_refl _) _⟩

set_option maxHeartbeats 2000000 in
theorem rget_no (b off len cap : Nat) (x0 x1 x2 x3 : Int) (zs ys : List Int) (w : World) (hl : len ≤ maxLen) (hlc : len ≤ cap) (h4 : 4 ≤ len) (hb : b < w.heap.size)
    (C0 : Hid (∀ W, Below w.heap.size w W → W.cell? ⟨b, off, none⟩ = some (.int .u8 x0)))
    (C2 : Hid (∀ W, Below w.heap.size w W → W.cell? ⟨b, off + 2, none⟩ = some (.int .u8 x2))) (C3 : Hid (∀ W, Below w.heap.size w W → W.cell? ⟨b, off + 3, none⟩ = some (.int .u8 x3)))
    (b0 : 0 ≤ x0 ∧ x0 ≤ 255) (b2 : 0 ≤ x2 ∧ x2 ≤ 255) (b3 : 0 ≤ x3 ∧ x3 ≤ 255)
    (HR : Hid (Rd w w.heap.size (some ⟨b, off, none⟩) 4 zs))
    (CP : Hid (∀ W, Calls Try.prog 43 #[dsc (x0 % 4) (keyV x0) (staV x0) (x2 * 256 + x3)] W (NewRow W ys)))
    (hne : Hid (((strOfNums ys).toList == (strOfNums zs).toList) = false)) :
    Calls Try.prog 57 #[.slice (some ⟨b, off, none⟩) len cap] w (RetG w 0 false false 0 1) := by
  have hi : ¬ (len : Int) < 4 := by omega
  have hp0 : 0 < len := by omega
  have hp2 : 2 < len := by omega
  have hp3 : 3 < len := by omega
  have hi2 : (2 : Int) < len := by omega
  have hi3 : (3 : Int) < len := by omega
  unfold maxLen at hl
  have q0 : x0.tmod 4 = x0 % 4 := Int.tmod_eq_emod_of_nonneg b0.1
  have q1 : IntKind.i64.wrap (x0 % 4) = x0 % 4 := IntWalk.i64_in _ (by omega)
  have q2 : decide (128 ≤ x0) = keyV x0 := rfl
  have q3 : x0.tdiv 64 = x0 / 64 := Int.tdiv_eq_ediv_of_nonneg b0.1
  have q4 : IntKind.u8.wrap (x0 / 64) = x0 / 64 := wrap8 _ (by omega) (by omega)
  have q5 : (x0 / 64).tmod 2 = x0 / 64 % 2 := Int.tmod_eq_emod_of_nonneg (by omega)
  have q6 : (x0 / 64 % 2 == 1) = staV x0 := rfl
  have e4 : IntKind.u16.wrap x2 = x2 := wrap16 x2 b2.1 (by omega)
  have e5 : IntKind.u16.wrap (x2 * 256) = x2 * 256 := wrap16 _ (by omega) (by omega)
  have e6 : IntKind.u16.wrap x3 = x3 := wrap16 x3 b3.1 (by omega)
  have e7 : IntKind.u16.wrap (x2 * 256 + x3) = x2 * 256 + x3 := wrap16 _ (by omega) (by omega)
  go_enter Try.func57, Try.ntmps57
  go_wp2_with fail
  have hS : Below w.heap.size w (w.alloc (.cells #[.int .i64 0, .bool false, .bool false, .int .u16 0] 82)).drew := ((Below.refl _ w).alloc (Nat.le_refl _) _).drew
  have c0 := C0.out
  have c2 := C2.out
  have c3 := C3.out
  refine region_seq (fun W => Below w.heap.size w W) [(0, false), (1, false), (2, false), (3, false), (4, false), (5, false), (6, false), (7, false), (8, false), (9, false), (10, false), (11, false), (12, false), (13, false), (14, false), (15, false), (16, false), (17, false), (18, false), (19, false), (20, false), (21, false), (22, false), (23, false), (24, false), (25, false), (26, true), (27, true)] (by kernel_rfl) (by kernel_rfl) rfl (by kernel_rfl) ?_
  iterate 26 (refine seq_read (v := _) rfl (fun _ _ _ h => h) hS (Or.inl ⟨by rfl, fun W hW => by go_simp <;> with_reducible rfl⟩) ?_; simp only [Act.put, List.setIfInBounds_toArray, List.set_cons_zero, List.set_cons_succ])
  refine seq_do rfl (fun K hK => ?_)
  go_simp
  refine hK.out _ _ (fun W => Below w.heap.size w W) (fun W hW => hW) ((((Below.refl _ w).alloc (Nat.le_refl _) _).alloc (by simp) _).drew) ?_
  clear hK K
  refine seq_do rfl (fun K hK => ?_)
  go_simp
  clear q0 q1 q2 q3 q4 q5 q6 e4 e5 e6 e7 c0 c2 c3
  generalize x0 % 4 = l at *
  generalize keyV x0 = k at *
  generalize staV x0 = s at *
  generalize x2 * 256 + x3 = f at *
  obtain ⟨w2, hw2⟩ : ∃ w2, ((w.alloc (.cells #[.int .i64 0, .bool false, .bool false, .int .u16 0] 82)).alloc (.cells #[.int .i64 l, .bool k, .bool s, .int .u16 f] 82)).drew = w2 := ⟨_, rfl⟩
  have D2 : DBlk w2 (w.heap.size + 1) l k s f := by
    have h := DBlk.new (w.alloc (.cells #[.int .i64 0, .bool false, .bool false, .int .u16 0] 82)) l k s f
    rw [show (w.alloc (.cells #[.int .i64 0, .bool false, .bool false, .int .u16 0] 82)).heap.size = w.heap.size + 1 from by simp] at h
    rw [← hw2]
    exact h
  have D0 : DBlk w2 w.heap.size 0 false false 0 := by
    have h := (DBlk.new w 0 false false 0).below (box _ l k s f) (by simp)
    rw [← hw2]
    exact h
  have H2 : Hid (Below w.heap.size w w2) := by
    show Below _ _ _
    rw [← hw2]
    exact (((Below.refl _ w).alloc (Nat.le_refl _) _).alloc (by simp) _).drew
  rw [hw2]
  refine hK.out _ _ (fun W => Below w.heap.size w W) (fun W hW => hW) H2.out ?_
  clear hK K hw2 hS
  refine seq_end ?_
  go_wp2_with fail
  have c0 : ∀ W, Below w2.heap.size w2 W → W.cell? ⟨w.heap.size + 1, 0, none⟩ = some (.int .i64 l) := fun W hW => (D2.below hW D2.lt).c0
  have c1 : ∀ W, Below w2.heap.size w2 W → W.cell? ⟨w.heap.size + 1, 1, none⟩ = some (.bool k) := fun W hW => (D2.below hW D2.lt).c1
  have c2 : ∀ W, Below w2.heap.size w2 W → W.cell? ⟨w.heap.size + 1, 2, none⟩ = some (.bool s) := fun W hW => (D2.below hW D2.lt).c2
  have c3 : ∀ W, Below w2.heap.size w2 W → W.cell? ⟨w.heap.size + 1, 3, none⟩ = some (.int .u16 f) := fun W hW => (D2.below hW D2.lt).c3
  have hc4 : 4 ≤ cap := by omega
  have hci4 : (4 : Int) ≤ cap := by omega
  have s2 : ∀ W, Below w2.heap.size w2 W → (convert 36 9 (.slice (some ⟨b, off, none⟩) 4 cap)).run Try.prog W = .ok (.string (strOfNums zs)) W := fun W hW => str_run (HR.out.below (H2.out.trans (hW.mono H2.out.size)))
  have hS : Below w2.heap.size w2 w2.drew := (Below.refl _ w2).drew
  refine region_seq (fun W => Below w2.heap.size w2 W) [(0, false), (3, false), (4, false), (5, false), (1, true), (2, false), (6, false)] (by kernel_rfl) (by kernel_rfl) rfl (by kernel_rfl) ?_
  iterate 4 (refine seq_read (v := _) rfl (fun _ _ _ h => h) hS (Or.inl ⟨by rfl, fun W hW => by go_simp <;> with_reducible rfl⟩) ?_; simp only [Act.put, List.setIfInBounds_toArray, List.set_cons_zero, List.set_cons_succ])
  refine seq_do rfl (fun K hK => ?_)
  go_simp
  refine (CP.out _).mono ?_
  rintro e w3 ⟨A3, k3, rfl, ho3, hb3⟩
  have hb23 : Below w2.heap.size w2 w3 := hS.trans hb3
  have s3 : ∀ W, Below w3.heap.size w3 W → (convert 36 9 (.slice A3 ys.length k3)).run Try.prog W = .ok (.string (strOfNums ys)) W := fun W hW => str_run (ho3.rd.below hW)
  refine hK.out _ _ (fun W => Below w3.heap.size w3 W) (fun W hW => hb23.trans (hW.mono hb23.size)) (Below.refl _ _) ?_
  clear hK K hS hb3 ho3 s2 c0 c1 c2 c3
  have hS : Below w3.heap.size w3 w3 := Below.refl _ _
  have hn := hne.out
  iterate 2 (refine seq_read (v := _) rfl (fun _ _ _ h => h) hS (Or.inl ⟨by rfl, fun W hW => by go_simp <;> with_reducible rfl⟩) ?_; simp only [Act.put, List.setIfInBounds_toArray, List.set_cons_zero, List.set_cons_succ])
  refine seq_end ?_
  have D3 := D0.below hb23 D0.lt
  have E3 := D2.below hb23 D2.lt
  have f0 := D3.c0
  have f1 := D3.c1
  have f2 := D3.c2
  have f3 := D3.c3
  have g0 := D3.frozen 0
  have g1 := D3.frozen 1
  have g2 := D3.frozen 2
  have g3 := D3.frozen 3
  have H3 : Hid (Below w.heap.size w w3) := H2.out.trans (hb23.mono H2.out.size)
  clear s3
  go_wp2
  have D4 := D3.store 0 false false 0
  have hb4 := ((((Below.refl w.heap.size w3).setCell (p := ⟨w.heap.size, 0, none⟩) (Nat.le_refl _) (.int .i64 0)).setCell (p := ⟨w.heap.size, 1, none⟩) (Nat.le_refl _) (.bool false)).setCell (p := ⟨w.heap.size, 2, none⟩) (Nat.le_refl _) (.bool false)).setCell (p := ⟨w.heap.size, 3, none⟩) (Nat.le_refl _) (.int .u16 0)
  have hb := H3.out.trans hb4
  exact rret_at D4 hb

set_option maxHeartbeats 2000000 in
theorem rget_yes (b off len cap : Nat) (x0 x1 x2 x3 : Int) (zs ys : List Int) (w : World) (hl : len ≤ maxLen) (hlc : len ≤ cap) (h4 : 4 ≤ len) (hb : b < w.heap.size)
    (C0 : Hid (∀ W, Below w.heap.size w W → W.cell? ⟨b, off, none⟩ = some (.int .u8 x0)))
    (C2 : Hid (∀ W, Below w.heap.size w W → W.cell? ⟨b, off + 2, none⟩ = some (.int .u8 x2))) (C3 : Hid (∀ W, Below w.heap.size w W → W.cell? ⟨b, off + 3, none⟩ = some (.int .u8 x3)))
    (b0 : 0 ≤ x0 ∧ x0 ≤ 255) (b2 : 0 ≤ x2 ∧ x2 ≤ 255) (b3 : 0 ≤ x3 ∧ x3 ≤ 255)
    (HR : Hid (Rd w w.heap.size (some ⟨b, off, none⟩) 4 zs))
    (CP : Hid (∀ W, Calls Try.prog 43 #[dsc (x0 % 4) (keyV x0) (staV x0) (x2 * 256 + x3)] W (NewRow W ys)))
    (hne : Hid (ys = zs)) :
    Calls Try.prog 57 #[.slice (some ⟨b, off, none⟩) len cap] w (RetG w (x0 % 4) (keyV x0) (staV x0) (x2 * 256 + x3) 0) := by
  have hi : ¬ (len : Int) < 4 := by omega
  have hp0 : 0 < len := by omega
  have hp2 : 2 < len := by omega
  have hp3 : 3 < len := by omega
  have hi2 : (2 : Int) < len := by omega
  have hi3 : (3 : Int) < len := by omega
  unfold maxLen at hl
  have q0 : x0.tmod 4 = x0 % 4 := Int.tmod_eq_emod_of_nonneg b0.1
  have q1 : IntKind.i64.wrap (x0 % 4) = x0 % 4 := IntWalk.i64_in _ (by omega)
  have q2 : decide (128 ≤ x0) = keyV x0 := rfl
  have q3 : x0.tdiv 64 = x0 / 64 := Int.tdiv_eq_ediv_of_nonneg b0.1
  have q4 : IntKind.u8.wrap (x0 / 64) = x0 / 64 := wrap8 _ (by omega) (by omega)
  have q5 : (x0 / 64).tmod 2 = x0 / 64 % 2 := Int.tmod_eq_emod_of_nonneg (by omega)
  have q6 : (x0 / 64 % 2 == 1) = staV x0 := rfl
  have e4 : IntKind.u16.wrap x2 = x2 := wrap16 x2 b2.1 (by omega)
  have e5 : IntKind.u16.wrap (x2 * 256) = x2 * 256 := wrap16 _ (by omega) (by omega)
  have e6 : IntKind.u16.wrap x3 = x3 := wrap16 x3 b3.1 (by omega)
  have e7 : IntKind.u16.wrap (x2 * 256 + x3) = x2 * 256 + x3 := wrap16 _ (by omega) (by omega)
  go_enter Try.func57, Try.ntmps57
  go_wp2_with fail
  have hS : Below w.heap.size w (w.alloc (.cells #[.int .i64 0, .bool false, .bool false, .int .u16 0] 82)).drew := ((Below.refl _ w).alloc (Nat.le_refl _) _).drew
  have c0 := C0.out
  have c2 := C2.out
  have c3 := C3.out
  refine region_seq (fun W => Below w.heap.size w W) [(0, false), (1, false), (2, false), (3, false), (4, false), (5, false), (6, false), (7, false), (8, false), (9, false), (10, false), (11, false), (12, false), (13, false), (14, false), (15, false), (16, false), (17, false), (18, false), (19, false), (20, false), (21, false), (22, false), (23, false), (24, false), (25, false), (26, true), (27, true)] (by kernel_rfl) (by kernel_rfl) rfl (by kernel_rfl) ?_
  iterate 26 (refine seq_read (v := _) rfl (fun _ _ _ h => h) hS (Or.inl ⟨by rfl, fun W hW => by go_simp <;> with_reducible rfl⟩) ?_; simp only [Act.put, List.setIfInBounds_toArray, List.set_cons_zero, List.set_cons_succ])
  refine seq_do rfl (fun K hK => ?_)
  go_simp
  refine hK.out _ _ (fun W => Below w.heap.size w W) (fun W hW => hW) ((((Below.refl _ w).alloc (Nat.le_refl _) _).alloc (by simp) _).drew) ?_
  clear hK K
  refine seq_do rfl (fun K hK => ?_)
  go_simp
  clear q0 q1 q2 q3 q4 q5 q6 e4 e5 e6 e7 c0 c2 c3
  generalize x0 % 4 = l at *
  generalize keyV x0 = k at *
  generalize staV x0 = s at *
  generalize x2 * 256 + x3 = f at *
  obtain ⟨w2, hw2⟩ : ∃ w2, ((w.alloc (.cells #[.int .i64 0, .bool false, .bool false, .int .u16 0] 82)).alloc (.cells #[.int .i64 l, .bool k, .bool s, .int .u16 f] 82)).drew = w2 := ⟨_, rfl⟩
  have D2 : DBlk w2 (w.heap.size + 1) l k s f := by
    have h := DBlk.new (w.alloc (.cells #[.int .i64 0, .bool false, .bool false, .int .u16 0] 82)) l k s f
    rw [show (w.alloc (.cells #[.int .i64 0, .bool false, .bool false, .int .u16 0] 82)).heap.size = w.heap.size + 1 from by simp] at h
    rw [← hw2]
    exact h
  have D0 : DBlk w2 w.heap.size 0 false false 0 := by
    have h := (DBlk.new w 0 false false 0).below (box _ l k s f) (by simp)
    rw [← hw2]
    exact h
  have H2 : Hid (Below w.heap.size w w2) := by
    show Below _ _ _
    rw [← hw2]
    exact (((Below.refl _ w).alloc (Nat.le_refl _) _).alloc (by simp) _).drew
  rw [hw2]
  refine hK.out _ _ (fun W => Below w.heap.size w W) (fun W hW => hW) H2.out ?_
  clear hK K hw2 hS
  refine seq_end ?_
  go_wp2_with fail
  have c0 : ∀ W, Below w2.heap.size w2 W → W.cell? ⟨w.heap.size + 1, 0, none⟩ = some (.int .i64 l) := fun W hW => (D2.below hW D2.lt).c0
  have c1 : ∀ W, Below w2.heap.size w2 W → W.cell? ⟨w.heap.size + 1, 1, none⟩ = some (.bool k) := fun W hW => (D2.below hW D2.lt).c1
  have c2 : ∀ W, Below w2.heap.size w2 W → W.cell? ⟨w.heap.size + 1, 2, none⟩ = some (.bool s) := fun W hW => (D2.below hW D2.lt).c2
  have c3 : ∀ W, Below w2.heap.size w2 W → W.cell? ⟨w.heap.size + 1, 3, none⟩ = some (.int .u16 f) := fun W hW => (D2.below hW D2.lt).c3
  have hc4 : 4 ≤ cap := by omega
  have hci4 : (4 : Int) ≤ cap := by omega
  have s2 : ∀ W, Below w2.heap.size w2 W → (convert 36 9 (.slice (some ⟨b, off, none⟩) 4 cap)).run Try.prog W = .ok (.string (strOfNums zs)) W := fun W hW => str_run (HR.out.below (H2.out.trans (hW.mono H2.out.size)))
  have hS : Below w2.heap.size w2 w2.drew := (Below.refl _ w2).drew
  refine region_seq (fun W => Below w2.heap.size w2 W) [(0, false), (3, false), (4, false), (5, false), (1, true), (2, false), (6, false)] (by kernel_rfl) (by kernel_rfl) rfl (by kernel_rfl) ?_
  iterate 4 (refine seq_read (v := _) rfl (fun _ _ _ h => h) hS (Or.inl ⟨by rfl, fun W hW => by go_simp <;> with_reducible rfl⟩) ?_; simp only [Act.put, List.setIfInBounds_toArray, List.set_cons_zero, List.set_cons_succ])
  refine seq_do rfl (fun K hK => ?_)
  go_simp
  refine (CP.out _).mono ?_
  rintro e w3 ⟨A3, k3, rfl, ho3, hb3⟩
  have hb23 : Below w2.heap.size w2 w3 := hS.trans hb3
  have s3 : ∀ W, Below w3.heap.size w3 W → (convert 36 9 (.slice A3 ys.length k3)).run Try.prog W = .ok (.string (strOfNums ys)) W := fun W hW => str_run (ho3.rd.below hW)
  refine hK.out _ _ (fun W => Below w3.heap.size w3 W) (fun W hW => hb23.trans (hW.mono hb23.size)) (Below.refl _ _) ?_
  clear hK K hS hb3 ho3 s2 c0 c1 c2 c3
  have hS : Below w3.heap.size w3 w3 := Below.refl _ _
  have hn : ((strOfNums ys).toList == (strOfNums zs).toList) = true := by rw [hne.out, beq_self_eq_true]
  iterate 2 (refine seq_read (v := _) rfl (fun _ _ _ h => h) hS (Or.inl ⟨by rfl, fun W hW => by go_simp <;> with_reducible rfl⟩) ?_; simp only [Act.put, List.setIfInBounds_toArray, List.set_cons_zero, List.set_cons_succ])
  refine seq_end ?_
  have D3 := D0.below hb23 D0.lt
  have E3 := D2.below hb23 D2.lt
  have f0 := D3.c0
  have f1 := D3.c1
  have f2 := D3.c2
  have f3 := D3.c3
  have g0 := D3.frozen 0
  have g1 := D3.frozen 1
  have g2 := D3.frozen 2
  have g3 := D3.frozen 3
  have H3 : Hid (Below w.heap.size w w3) := H2.out.trans (hb23.mono H2.out.size)
  clear s3
  have i0 := E3.c0
  have i1 := E3.c1
  have i2 := E3.c2
  have i3 := E3.c3
  go_wp2
  have D4 := D3.store l k s f
  have hb4 := ((((Below.refl w.heap.size w3).setCell (p := ⟨w.heap.size, 0, none⟩) (Nat.le_refl _) (.int .i64 l)).setCell (p := ⟨w.heap.size, 1, none⟩) (Nat.le_refl _) (.bool k)).setCell (p := ⟨w.heap.size, 2, none⟩) (Nat.le_refl _) (.bool s)).setCell (p := ⟨w.heap.size, 3, none⟩) (Nat.le_refl _) (.int .u16 f)
  have hb := H3.out.trans hb4
  exact rret_at D4 hb

end Go.Proofs.Ytdnnfoacpjgloaa
