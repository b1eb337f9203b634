/- A slice of records that came in, whichever type, opened record by record (structs in structs let in); a slice of the laws' acts. -/
import Derived.Test.YtkajajihjohenaaFh
import Derived.Test.YtkajajihjohenaaAg
set_option maxRecDepth 100000
namespace Go.Proofs.Ytkajajihjohenaa.Arn
open Go.ChangeShapes Go.WideShapes Go.RowKit Go.Joins Go.Deep
set_option linter.unusedVariables false

section
variable {H : Type} {enc : TypeId × Value → H} {P : Program} {w : World} {held : Bool}
theorem open_recs {t e : TypeId} {C fuel : Nat} {u : Value} {y : DataW H × List MemPlace} (ht : P.underlying t = some (.slice e)) (hC : P.cellsOf e = C) (hpos : 0 < C)
    (h : DataW.trod enc P w 0 (fun _ => true) held fuel t [u] = some y) (hsz : ∀ el sp, y.1 = .slice el sp → (el.length + sp.length) * P.bytesOf e ≤ reachBytes) :
    ∃ a len cap, u = .slice a len cap ∧ len ≤ cap ∧ cap * P.bytesOf e ≤ reachBytes ∧ (0 < len → ∃ b off, a = some ⟨b, off, none⟩ ∧ b < w.heap.size ∧
      ∀ i, i < len → ∃ (cs : List Value) (n : Nat) (x : DataW H × List MemPlace), cs.length = C ∧ DataW.trod enc P w 0 (fun _ => true) held n e cs = some x ∧ ∀ (j : Nat) (v : Value), cs[j]? = some v → w.cell? ⟨b, off + i * C + j, none⟩ = some v) := by
  rcases open_slice ht h with ⟨hcs, _⟩ | ⟨a, len, cap, m, n, D, Pl, hcs, _, hl, hm, hmm, hy, hx⟩
  · simp only [List.cons.injEq, and_true] at hcs
    exact ⟨none, 0, 0, hcs, Nat.le_refl _, by simp, fun h => absurd h (by omega)⟩
  · simp only [List.cons.injEq, and_true] at hcs
    simp only [if_true] at hmm
    have hb := hsz _ _ (by rw [hy])
    simp only [List.length_map, List.length_range] at hb
    rw [show len + (m - len) = cap from by omega] at hb
    refine ⟨some a, len, cap, hcs, hl, hb, fun hp => ?_⟩
    have cells : ∀ i, i < len → ∃ cs', w.cells? 0 (a.add (i * C)) C = some cs' ∧ DataW.trod enc P w 0 (fun _ => true) held n e cs' = some (D i, Pl i) := fun i hi => by
      have := hx i (by omega)
      rwa [hC] at this
    obtain ⟨b, off, spot⟩ := a
    have hspot : spot = none ∧ b < w.heap.size := by
      obtain ⟨cs', h1, _⟩ := cells 0 hp
      obtain ⟨_, hlen, hcell⟩ := World.cells?_some h1
      have h0 := hcell 0 hpos
      rw [add_add, Nat.zero_mul, Nat.zero_add, List.getElem?_eq_getElem (by omega)] at h0
      exact ⟨by simpa [Addr.add] using World.cell?_spot h0, by simpa [Addr.add] using World.block_lt_of_cell? w _ h0⟩
    obtain ⟨rfl, hbw⟩ := hspot
    refine ⟨b, off, rfl, hbw, fun i hi => ?_⟩
    obtain ⟨cs', h1, h2⟩ := cells i hi
    obtain ⟨_, hlen, hcell⟩ := World.cells?_some h1
    refine ⟨cs', n, _, hlen, h2, fun j v hv => ?_⟩
    have hj : j < C := by have := (List.getElem?_eq_some_iff.1 hv).1; omega
    have hc := hcell j hj
    rw [add_add, add_plain, hv] at hc
    rw [Nat.add_assoc]; exact hc
end
theorem four {cs : List Value} (h : cs.length = 4) : ∃ a b c d, cs = [a, b, c, d] := by
  match cs, h with
  | [a, b, c, d], _ => exact ⟨a, b, c, d, rfl⟩
abbrev Actv := Int × Int × Int × Int
def I64 (n : Int) : Prop := -9223372036854775808 ≤ n ∧ n ≤ 9223372036854775807
def ActOk (x : Actv) : Prop := I64 x.1 ∧ I64 x.2.1 ∧ I64 x.2.2.1 ∧ (0 ≤ x.2.2.2 ∧ x.2.2.2 ≤ 4294967295)
theorem cells_int : Try.prog.cellsOf 3 = 1 := by kernel_rfl
theorem cells_u32 : Try.prog.cellsOf 28 = 1 := by kernel_rfl
section
variable {H : Type} {enc : TypeId × Value → H} {w : World} {held : Bool}
theorem hnd_of {n : Nat} {c d : Value} {x : DataW H × List MemPlace} (h : DataW.trod enc Try.prog w 0 (fun _ => true) held n 30 [c, d] = some x) : ∃ s g, c = .int .i64 s ∧ d = .int .u32 g ∧ I64 s ∧ 0 ≤ g ∧ g ≤ 4294967295 := by
  obtain ⟨xs, m, _, _, _, hxl, hg⟩ := DataW.trod_struct Try.underlying30 h
  have hxl2 : xs.length = 2 := hxl
  have g0 : DataW.trod enc Try.prog w 0 (fun _ => true) held m 3 (List.take (Try.prog.cellsOf 3) (List.drop 0 [c, d])) = xs[0]? := hg 0 _ rfl
  have g1 : DataW.trod enc Try.prog w 0 (fun _ => true) held m 28 (List.take (Try.prog.cellsOf 28) (List.drop 1 [c, d])) = xs[1]? := hg 1 _ rfl
  rw [List.getElem?_eq_getElem (by omega)] at g0 g1
  rw [cells_int] at g0
  rw [cells_u32] at g1
  obtain ⟨s, a0, _, w0⟩ := DataW.trod_int Try.underlying3 g0
  obtain ⟨g, a1, _, w1⟩ := DataW.trod_int Try.underlying28 g1
  simp only [List.drop_zero, List.take_succ_cons, List.take_zero, List.drop_succ_cons, List.cons.injEq, and_true] at a0 a1
  exact ⟨s, g, a0, a1, wf_i64 w0, (wf_u32 w1).1, (wf_u32 w1).2⟩
end
end Go.Proofs.Ytkajajihjohenaa.Arn
