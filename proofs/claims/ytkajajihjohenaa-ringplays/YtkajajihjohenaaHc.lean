/- The contracts of ring's Head, Pop, All; of all of them at a nil ring. -/
import Derived.Test.YtkajajihjohenaaHb
set_option maxRecDepth 100000
namespace Go.Proofs.Ytkajajihjohenaa.Rng
open Go.RowKit
open Go.Proofs.Ytkajajihjohenaa.Arn
set_option linter.unusedVariables false

theorem retC_at {f : Func} {R : Ending → World → Prop} {W : World} {b : Nat} {x : Cl} {v : Bool} {tmps : Array Value} (hf : f.results = #[.cell 2 32, .tmp 3]) (D : CBlk W b x) (hR : R (.returned (.tuple #[clV x, .bool v])) W)
    (h2 : tmps[2]?.getD undef = .pointer (some ⟨b, 0, none⟩) := by rfl) (h3 : tmps[3]?.getD undef = .bool v := by rfl) : bodyPost Try.prog f R .ret ⟨tmps, []⟩ W := by
  have c0 := D.c0
  have c1 := D.c1
  have c2 := D.c2
  have c3 := D.c3
  exact bodyPost_ret (v := .tuple #[clV x, .bool v]) (by simp [results, hf, go_sem, h2, h3, c0, c1, c2, c3]) rfl hR

def headV (L : List Cl) : Cl := L.headD cl0
set_option maxHeartbeats 4000000 in
theorem head_any (w : World) (b g C : Nat) (L : List Cl) (hA : RIn w b g C L) :
    Calls Try.prog 14 #[.pointer (some ⟨b, 0, none⟩)] w fun e w' => e = .returned (.tuple #[clV (headV L), .bool (decide (0 < L.length))]) ∧ Below w.heap.size w w' := by
  obtain ⟨f, P, hA⟩ := hA
  have hmost := hA.most
  have hfit := hA.fit
  have hf := hA.first
  have HB := Lib.hid ((Below.refl w.heap.size w).alloc (Nat.le_refl _) (clO cl0))
  have D := Lib.hid (CBlk.new w cl0)
  have CL : Hid (∀ W, Below w.heap.size w W → Calls Try.prog 15 #[.pointer (some ⟨b, 0, none⟩)] W fun e w' => e = .returned (.int .i64 L.length) ∧ Below W.heap.size W w') := fun W hW => len_any W b g C f P L (hA.bel hW)
  have CP : Hid (∀ W, Below w.heap.size w W → Calls Try.prog 19 #[.pointer (some ⟨b, 0, none⟩), .int .i64 0] W fun e w' => e = .returned (.pointer (some ⟨g, (f + 0) % C * 4, none⟩)) ∧ Below W.heap.size W w') := fun W hW => place_any W b g C f P L 0 (hA.bel hW) (by omega)
  have HA := Lib.hid hA
  clear hA
  rcases L with _ | ⟨x, r⟩
  · rw [show ([] : List Cl).length = 0 from rfl] at CL
    clear CP hfit
    go_enter Try.func14, Try.ntmps14
    go_wp2_with fail
    refine (CL.out _ HB.out).mono ?_
    rintro e w2 ⟨rfl, hb2⟩
    have H2 := Lib.hid (HB.out.trans (hb2.mono HB.out.size))
    have D2 := D.out.bel hb2 D.out.lt
    clear hb2 HB D CL
    have d0 := D2.c0
    have d1 := D2.c1
    have d2 := D2.c2
    have d3 := D2.c3
    have f0 := D2.frozen 0
    have f1 := D2.frozen 1
    have f2 := D2.frozen 2
    have f3 := D2.frozen 3
    go_wp2_with fail
    have hbb : Below w.heap.size w ((((w2.setCell ⟨w.heap.size, 0, none⟩ (.int .i64 0)).setCell ⟨w.heap.size, 1, none⟩ (.int .i64 0)).setCell ⟨w.heap.size, 2, none⟩ (.int .i64 0)).setCell ⟨w.heap.size, 3, none⟩ (.int .u32 0)) := bel_put4 H2.out (Nat.le_refl _) cl0
    have D3 : CBlk ((((w2.setCell ⟨w.heap.size, 0, none⟩ (.int .i64 0)).setCell ⟨w.heap.size, 1, none⟩ (.int .i64 0)).setCell ⟨w.heap.size, 2, none⟩ (.int .i64 0)).setCell ⟨w.heap.size, 3, none⟩ (.int .u32 0)) w.heap.size cl0 := D2.store cl0
    generalize (((w2.setCell ⟨w.heap.size, 0, none⟩ (.int .i64 0)).setCell ⟨w.heap.size, 1, none⟩ (.int .i64 0)).setCell ⟨w.heap.size, 2, none⟩ (.int .i64 0)).setCell ⟨w.heap.size, 3, none⟩ (.int .u32 0) = w3 at *
    exact retC_at Try.results14 D3 ⟨rfl, hbb⟩
  · obtain ⟨n, hn⟩ : ∃ n, (x :: r).length = n := ⟨_, rfl⟩
    have hn0 : 0 < n := by rw [← hn]; simp
    have hn1 : ¬ (n = 0) := by omega
    rw [hn] at CL
    rw [hn, decide_eq_true hn0]
    rw [show headV (x :: r) = x from rfl]
    obtain ⟨k, hk⟩ : ∃ k, (f + 0) % C = k := ⟨_, rfl⟩
    have HX : Hid (P[k]? = some x) := by rw [← hk]; exact HA.out.at_ 0 x rfl
    have hkC : k < C := by rw [← hk]; exact Nat.mod_lt _ (by omega)
    rw [hk] at CP
    clear hn hfit hk hn0
    go_enter Try.func14, Try.ntmps14
    go_wp2_with fail
    refine (CL.out _ HB.out).mono ?_
    rintro e w2 ⟨rfl, hb2⟩
    have H2 := Lib.hid (HB.out.trans (hb2.mono HB.out.size))
    have D2 := Lib.hid (D.out.bel hb2 D.out.lt)
    clear hb2 HB D CL
    go_wp2_with fail
    refine (CP.out _ H2.out).mono ?_
    rintro e w3 ⟨rfl, hb3⟩
    have H3 := Lib.hid (H2.out.trans (hb3.mono H2.out.size))
    have D3 := D2.out.bel hb3 D2.out.lt
    have A3 := HA.out.bel H3.out
    clear hb3 H2 D2 CP
    have d0 := D3.c0
    have d1 := D3.c1
    have d2 := D3.c2
    have d3 := D3.c3
    have f0 := D3.frozen 0
    have f1 := D3.frozen 1
    have f2 := D3.frozen 2
    have f3 := D3.frozen 3
    have e0 : w3.cell? ⟨g, k * 4, none⟩ = some (.int .i64 x.1) := Whole_cell (L := celL) (j := 0) A3.row HX.out rfl
    have e1 : w3.cell? ⟨g, k * 4 + 1, none⟩ = some (.int .i64 x.2.1) := Whole_cell (L := celL) (j := 1) A3.row HX.out rfl
    have e2 : w3.cell? ⟨g, k * 4 + 2, none⟩ = some (.int .i64 x.2.2.1) := Whole_cell (L := celL) (j := 2) A3.row HX.out rfl
    have e3 : w3.cell? ⟨g, k * 4 + 3, none⟩ = some (.int .u32 x.2.2.2) := Whole_cell (L := celL) (j := 3) A3.row HX.out rfl
    clear A3
    go_wp2_with fail
    have hbb : Below w.heap.size w ((((w3.setCell ⟨w.heap.size, 0, none⟩ (.int .i64 x.1)).setCell ⟨w.heap.size, 1, none⟩ (.int .i64 x.2.1)).setCell ⟨w.heap.size, 2, none⟩ (.int .i64 x.2.2.1)).setCell ⟨w.heap.size, 3, none⟩ (.int .u32 x.2.2.2)) := bel_put4 H3.out (Nat.le_refl _) x
    have D4 : CBlk ((((w3.setCell ⟨w.heap.size, 0, none⟩ (.int .i64 x.1)).setCell ⟨w.heap.size, 1, none⟩ (.int .i64 x.2.1)).setCell ⟨w.heap.size, 2, none⟩ (.int .i64 x.2.2.1)).setCell ⟨w.heap.size, 3, none⟩ (.int .u32 x.2.2.2)) w.heap.size x := D3.store x
    generalize (((w3.setCell ⟨w.heap.size, 0, none⟩ (.int .i64 x.1)).setCell ⟨w.heap.size, 1, none⟩ (.int .i64 x.2.1)).setCell ⟨w.heap.size, 2, none⟩ (.int .i64 x.2.2.1)).setCell ⟨w.heap.size, 3, none⟩ (.int .u32 x.2.2.2) = w4 at *
    exact retC_at Try.results14 D4 ⟨rfl, hbb⟩
end Go.Proofs.Ytkajajihjohenaa.Rng
