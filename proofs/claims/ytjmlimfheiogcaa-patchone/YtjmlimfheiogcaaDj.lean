/- The contracts of the reference's MayDesc, PutDesc. -/
import Derived.Test.YtjmlimfheiogcaaDg
import Derived.Test.YtjmlimfheiogcaaXr
import Derived.Test.YtjmlimfheiogcaaXh
namespace Go.Proofs.Ytjmlimfheiogcaa
open Go.RowKit
set_option linter.unusedVariables false

set_option maxHeartbeats 400000 in
theorem rmay_any (l : Int) (k s : Bool) (f : Int) (w : World) :
    Calls Try.prog 43 #[dsc l k s f] w fun e w' => e = .returned (.bool (mayB l)) ∧ Below w.heap.size w w' := by
  by_cases h0 : 0 ≤ l
  · go_enter Try.func43, Try.ntmps43
    go_wp2
    go_ret
    exact ⟨ret_bool (by rw [Bool.eq_iff_iff]; simp [mayB]; omega), (Below.refl _ _).alloc (Nat.le_refl _) _⟩
  · go_enter Try.func43, Try.ntmps43
    go_wp2
    go_ret
    exact ⟨ret_bool (by simp [mayB]; omega), (Below.refl _ _).alloc (Nat.le_refl _) _⟩

def rputV (l : Int) (k s : Bool) (f : Int) : List Int := if mayB l then putV l k s f else []

theorem rput_no (l : Int) (k s : Bool) (f : Int) (w : World) (hm : mayB l = false) :
    Calls Try.prog 28 #[dsc l k s f] w (NewRow w (rputV l k s f)) := by
  have HC : Hid (∀ W, Calls Try.prog 43 #[dsc l k s f] W fun e w' => e = .returned (.bool false) ∧ Below W.heap.size W w') := fun W => hm ▸ rmay_any l k s f W
  rw [rputV, hm, if_neg (by decide)]
  clear hm
  go_enter Try.func28, Try.ntmps28
  go_wp2_with fail
  refine (HC.out _).mono ?_
  rintro e w1 ⟨rfl, hb1⟩
  go_wp2
  go_ret
  exact ⟨none, 0, rfl, Own.nil _ _, (box w l k s f).trans (hb1.mono (by simp))⟩

theorem be2 (f : Int) (hf0 : 0 ≤ f) (hf : f ≤ 65535) : be 2 f = [f / 256, f % 256] := by
  rw [be_cons, be_cons]
  simp [be]
  omega

theorem newRow_of {w w' : World} {base n c : Nat} {A : Option Addr} {zs : List Int} (hn : zs.length = n) (hb : w.heap.size ≤ base) (ho : Own w' base A n c zs) (h : Below w.heap.size w w') : NewRow w zs (.returned (.slice A n c)) w' := by
  subst hn
  refine ⟨A, c, rfl, ?_, h⟩
  obtain ⟨a1, a2, a3, a4, a5⟩ := ho
  refine ⟨a1, a2, a3, a4, ?_⟩
  rcases a5 with h5 | ⟨g, T, e, hg, r⟩
  · exact .inl h5
  · exact .inr ⟨g, T, e, Nat.le_trans hb hg, r⟩

set_option maxHeartbeats 1000000 in
theorem rput_yes (l : Int) (k s : Bool) (f : Int) (w : World) (h0 : 0 ≤ l) (h2 : l ≤ 2) (hf0 : 0 ≤ f) (hf : f ≤ 65535) :
    Calls Try.prog 28 #[dsc l k s f] w (NewRow w (rputV l k s f)) := by
  have hm : mayB l = true := by simp [mayB]; omega
  have CM : Hid (∀ W, Calls Try.prog 43 #[dsc l k s f] W fun e w' => e = .returned (.bool true) ∧ Below W.heap.size W w') := fun W => hm ▸ rmay_any l k s f W
  have CB : Hid (∀ W, Calls Try.prog 44 #[.int .i64 2, .int .u64 f] W fun e w' => e = .returned (.slice (some ⟨W.heap.size, 0, none⟩) 2 2) ∧ Blk w' W.heap.size (be 2 f) [] ∧ Below W.heap.size W w') := fun W => R1.bytes_any 2 f W (by decide) (by decide) hf0 (by omega)
  obtain ⟨zs, hz⟩ : ∃ zs, rputV l k s f = zs := ⟨_, rfl⟩
  have HZ : Hid ([firstV l k s, 90] ++ be 2 f = zs) := by show _ = _; rw [← hz, rputV, hm, if_pos rfl, be2 f hf0 hf]; rfl
  have HN : Hid (zs.length = 4) := by show _ = _; rw [← hz, rputV, hm, if_pos rfl]; rfl
  have HX : Hid (Bytes [firstV l k s, 90]) := by
    have := firstV_bd h0 (show l ≤ 3 by omega) k s
    intro x hx
    simp only [List.mem_cons, List.not_mem_nil, or_false] at hx
    omega
  rw [hz]
  clear hz hm
  have e0 : IntKind.u8.wrap l = l := wrap8 l h0 (by omega)
  have e1 : IntKind.u8.wrap (l + 128) = l + 128 := wrap8 _ (by omega) (by omega)
  have e2 : IntKind.u8.wrap (l + 64) = l + 64 := wrap8 _ (by omega) (by omega)
  have e3 : IntKind.u8.wrap (l + 128 + 64) = l + 128 + 64 := wrap8 _ (by omega) (by omega)
  cases k <;> cases s
  · clear e1 e2 e3
    go_enter Try.func28, Try.ntmps28
    go_wp2_with fail
    refine (CM.out _).mono ?_
    rintro e w1 ⟨rfl, hb1⟩
    have D1 : DBlk w1 w.heap.size l false false f := (DBlk.new w l false false f).below hb1 (by simp)
    have H1 : Hid (Below w.heap.size w w1) := (box w l false false f).trans (hb1.mono (by simp))
    clear hb1
    have c0 := D1.c0
    have c1 := D1.c1
    have c2 := D1.c2
    have c3 := D1.c3
    have D2 := D1.below ((Below.refl w1.heap.size w1).alloc (Nat.le_refl _) (.cells #[.int .u8 (l), .int .u8 90] 5)) D1.lt
    have d3 := D2.c3
    go_wp2_with fail
    refine (CB.out _).mono ?_
    rintro e w2 ⟨rfl, hk2, hb2⟩
    have O2 : Own w2 w1.heap.size (some ⟨w1.heap.size, 0, none⟩) 2 2 [l, 90] := Own.of_blk ((alloc_blk w1 [l, 90]).below hb2 (by simp)) (Nat.le_refl _) HX.out rfl (by decide)
    have R2 : Rd w2 w2.heap.size (some ⟨w1.heap.size + 1, 0, none⟩) 2 (be 2 f) := by
      have h := hk2.rd (be_bytes 2 f) (be_length 2 f)
      rw [show (w1.alloc (.cells #[.int .u8 (l), .int .u8 90] 5)).heap.size = w1.heap.size + 1 from by simp] at h
      exact h
    have B2 : Hid (Below w1.heap.size w1 w2) := ((Below.refl w1.heap.size w1).alloc (Nat.le_refl _) _).trans (hb2.mono (by simp))
    have hz2 : w1.heap.size ≤ w2.heap.size := B2.out.size
    clear hk2 hb2 c0 c1 c2 c3 D1 D2 d3
    go_wp2_with (at_builtin; refine wpList_append_bytes rfl (.tmp 19) (.tmp 23) rfl w1.heap.size w2.heap.size 2 2 2 2 4 _ _ _ _ zs rfl HZ.out rfl rfl O2 R2 hz2 (by omega) ?_; intro A3 c3 w3 ho3 hb3)
    go_ret
    have HH : Below w.heap.size w w3 := H1.out.trans ((B2.out.trans hb3).mono H1.out.size)
    exact newRow_of HN.out H1.out.size ho3 HH
  · clear e1 e3
    go_enter Try.func28, Try.ntmps28
    go_wp2_with fail
    refine (CM.out _).mono ?_
    rintro e w1 ⟨rfl, hb1⟩
    have D1 : DBlk w1 w.heap.size l false true f := (DBlk.new w l false true f).below hb1 (by simp)
    have H1 : Hid (Below w.heap.size w w1) := (box w l false true f).trans (hb1.mono (by simp))
    clear hb1
    have c0 := D1.c0
    have c1 := D1.c1
    have c2 := D1.c2
    have c3 := D1.c3
    have D2 := D1.below ((Below.refl w1.heap.size w1).alloc (Nat.le_refl _) (.cells #[.int .u8 (l + 64), .int .u8 90] 5)) D1.lt
    have d3 := D2.c3
    go_wp2_with fail
    refine (CB.out _).mono ?_
    rintro e w2 ⟨rfl, hk2, hb2⟩
    have O2 : Own w2 w1.heap.size (some ⟨w1.heap.size, 0, none⟩) 2 2 [l + 64, 90] := Own.of_blk ((alloc_blk w1 [l + 64, 90]).below hb2 (by simp)) (Nat.le_refl _) HX.out rfl (by decide)
    have R2 : Rd w2 w2.heap.size (some ⟨w1.heap.size + 1, 0, none⟩) 2 (be 2 f) := by
      have h := hk2.rd (be_bytes 2 f) (be_length 2 f)
      rw [show (w1.alloc (.cells #[.int .u8 (l + 64), .int .u8 90] 5)).heap.size = w1.heap.size + 1 from by simp] at h
      exact h
    have B2 : Hid (Below w1.heap.size w1 w2) := ((Below.refl w1.heap.size w1).alloc (Nat.le_refl _) _).trans (hb2.mono (by simp))
    have hz2 : w1.heap.size ≤ w2.heap.size := B2.out.size
    clear hk2 hb2 c0 c1 c2 c3 D1 D2 d3
    go_wp2_with (at_builtin; refine wpList_append_bytes rfl (.tmp 19) (.tmp 23) rfl w1.heap.size w2.heap.size 2 2 2 2 4 _ _ _ _ zs rfl HZ.out rfl rfl O2 R2 hz2 (by omega) ?_; intro A3 c3 w3 ho3 hb3)
    go_ret
    have HH : Below w.heap.size w w3 := H1.out.trans ((B2.out.trans hb3).mono H1.out.size)
    exact newRow_of HN.out H1.out.size ho3 HH
  · clear e2 e3
    go_enter Try.func28, Try.ntmps28
    go_wp2_with fail
    refine (CM.out _).mono ?_
    rintro e w1 ⟨rfl, hb1⟩
    have D1 : DBlk w1 w.heap.size l true false f := (DBlk.new w l true false f).below hb1 (by simp)
    have H1 : Hid (Below w.heap.size w w1) := (box w l true false f).trans (hb1.mono (by simp))
    clear hb1
    have c0 := D1.c0
    have c1 := D1.c1
    have c2 := D1.c2
    have c3 := D1.c3
    have D2 := D1.below ((Below.refl w1.heap.size w1).alloc (Nat.le_refl _) (.cells #[.int .u8 (l + 128), .int .u8 90] 5)) D1.lt
    have d3 := D2.c3
    go_wp2_with fail
    refine (CB.out _).mono ?_
    rintro e w2 ⟨rfl, hk2, hb2⟩
    have O2 : Own w2 w1.heap.size (some ⟨w1.heap.size, 0, none⟩) 2 2 [l + 128, 90] := Own.of_blk ((alloc_blk w1 [l + 128, 90]).below hb2 (by simp)) (Nat.le_refl _) HX.out rfl (by decide)
    have R2 : Rd w2 w2.heap.size (some ⟨w1.heap.size + 1, 0, none⟩) 2 (be 2 f) := by
      have h := hk2.rd (be_bytes 2 f) (be_length 2 f)
      rw [show (w1.alloc (.cells #[.int .u8 (l + 128), .int .u8 90] 5)).heap.size = w1.heap.size + 1 from by simp] at h
      exact h
    have B2 : Hid (Below w1.heap.size w1 w2) := ((Below.refl w1.heap.size w1).alloc (Nat.le_refl _) _).trans (hb2.mono (by simp))
    have hz2 : w1.heap.size ≤ w2.heap.size := B2.out.size
    clear hk2 hb2 c0 c1 c2 c3 D1 D2 d3
    go_wp2_with (at_builtin; refine wpList_append_bytes rfl (.tmp 19) (.tmp 23) rfl w1.heap.size w2.heap.size 2 2 2 2 4 _ _ _ _ zs rfl HZ.out rfl rfl O2 R2 hz2 (by omega) ?_; intro A3 c3 w3 ho3 hb3)
    go_ret
    have HH : Below w.heap.size w w3 := H1.out.trans ((B2.out.trans hb3).mono H1.out.size)
    exact newRow_of HN.out H1.out.size ho3 HH
  · clear e2
    have HX : Hid (Bytes [l + 128 + 64, 90]) := by have h := HX.out; rw [firstV, show l + 192 = l + 128 + 64 from by omega] at h; exact h
    have HZ : Hid ([l + 128 + 64, 90] ++ be 2 f = zs) := by have h := HZ.out; rw [firstV, show l + 192 = l + 128 + 64 from by omega] at h; exact h
    go_enter Try.func28, Try.ntmps28
    go_wp2_with fail
    refine (CM.out _).mono ?_
    rintro e w1 ⟨rfl, hb1⟩
    have D1 : DBlk w1 w.heap.size l true true f := (DBlk.new w l true true f).below hb1 (by simp)
    have H1 : Hid (Below w.heap.size w w1) := (box w l true true f).trans (hb1.mono (by simp))
    clear hb1
    have c0 := D1.c0
    have c1 := D1.c1
    have c2 := D1.c2
    have c3 := D1.c3
    have D2 := D1.below ((Below.refl w1.heap.size w1).alloc (Nat.le_refl _) (.cells #[.int .u8 (l + 128 + 64), .int .u8 90] 5)) D1.lt
    have d3 := D2.c3
    go_wp2_with fail
    refine (CB.out _).mono ?_
    rintro e w2 ⟨rfl, hk2, hb2⟩
    have O2 : Own w2 w1.heap.size (some ⟨w1.heap.size, 0, none⟩) 2 2 [l + 128 + 64, 90] := Own.of_blk ((alloc_blk w1 [l + 128 + 64, 90]).below hb2 (by simp)) (Nat.le_refl _) HX.out rfl (by decide)
    have R2 : Rd w2 w2.heap.size (some ⟨w1.heap.size + 1, 0, none⟩) 2 (be 2 f) := by
      have h := hk2.rd (be_bytes 2 f) (be_length 2 f)
      rw [show (w1.alloc (.cells #[.int .u8 (l + 128 + 64), .int .u8 90] 5)).heap.size = w1.heap.size + 1 from by simp] at h
      exact h
    have B2 : Hid (Below w1.heap.size w1 w2) := ((Below.refl w1.heap.size w1).alloc (Nat.le_refl _) _).trans (hb2.mono (by simp))
    have hz2 : w1.heap.size ≤ w2.heap.size := B2.out.size
    clear hk2 hb2 c0 c1 c2 c3 D1 D2 d3
    go_wp2_with (at_builtin; refine wpList_append_bytes rfl (.tmp 19) (.tmp 23) rfl w1.heap.size w2.heap.size 2 2 2 2 4 _ _ _ _ zs rfl HZ.out rfl rfl O2 R2 hz2 (by omega) ?_; intro A3 c3 w3 ho3 hb3)
    go_ret
    have HH : Below w.heap.size w w3 := H1.out.trans ((B2.out.trans hb3).mono H1.out.size)
    exact newRow_of HN.out H1.out.size ho3 HH

theorem rput_any (l : Int) (k s : Bool) (f : Int) (w : World) (hf0 : 0 ≤ f) (hf : f ≤ 65535) :
    Calls Try.prog 28 #[dsc l k s f] w (NewRow w (rputV l k s f)) := by
  rcases hm : mayB l with _ | _
  · exact rput_no l k s f w hm
  · exact rput_yes l k s f w (mayB_t hm).1 (mayB_t hm).2 hf0 hf
end Go.Proofs.Ytjmlimfheiogcaa
