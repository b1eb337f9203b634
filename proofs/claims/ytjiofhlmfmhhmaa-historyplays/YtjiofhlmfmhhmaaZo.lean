/- An entry that came in by value, a slice of entries, a slice of the history law's acts, opened. -/
import Derived.Test.YtjiofhlmfmhhmaaFl
import Derived.Test.YtjiofhlmfmhhmaaZa
import Derived.Lib.SmallJoins
import Derived.ChangeSame
set_option maxRecDepth 100000
namespace Go.Proofs.Ytjiofhlmfmhhmaa.Hst
open Go.ChangeShapes Go.WideShapes Go.RowKit Go.Joins Go.Deep
set_option linter.unusedVariables false

theorem cells1_int : Try.prog.cellsOf 3 = 1 := by kernel_rfl
theorem cells1_uint16 : Try.prog.cellsOf 27 = 1 := by kernel_rfl
theorem cells1_uint32 : Try.prog.cellsOf 28 = 1 := by kernel_rfl
theorem cellsHnd : Try.prog.cellsOf 30 = 2 := by kernel_rfl
theorem cellsPch : Try.prog.cellsOf 32 = 4 := by kernel_rfl
theorem cellsEnt : Try.prog.cellsOf 34 = 7 := by kernel_rfl
theorem bytesEnt : Try.prog.bytesOf 34 = 40 := by kernel_rfl
section
variable {H : Type} {enc : TypeId × Value → H} {w : World} {base : Nat} {spare : Nat → Bool} {held : Bool} {n : Nat}
theorem hnd_of {c0 c1 : Value} {x : DataW H × List MemPlace} (h : DataW.trod enc Try.prog w base spare held n 30 [c0, c1] = some x) : ∃ x0 x1 : Int, [c0, c1] = [.int .i64 x0, .int .u32 x1] := by
  obtain ⟨xs, m, _, _, _, hxl, hg⟩ := DataW.trod_struct Try.underlying30 h
  have hxl2 : xs.length = 2 := hxl
  have g0 : DataW.trod enc Try.prog w base spare held m 3 (List.take (Try.prog.cellsOf 3) (List.drop 0 [c0, c1])) = xs[0]? := hg 0 _ rfl
  rw [cells1_int, List.getElem?_eq_getElem (by omega)] at g0
  have g1 : DataW.trod enc Try.prog w base spare held m 28 (List.take (Try.prog.cellsOf 28) (List.drop 1 [c0, c1])) = xs[1]? := hg 1 _ rfl
  rw [cells1_uint32, List.getElem?_eq_getElem (by omega)] at g1
  obtain ⟨x0, a0, _⟩ := DataW.trod_int Try.underlying3 g0
  obtain ⟨x1, a1, _⟩ := DataW.trod_int Try.underlying28 g1
  simp only [List.drop_zero, List.take_succ_cons, List.take_zero, List.drop_succ_cons, List.cons.injEq, and_true] at a0 a1
  subst a0 a1
  exact ⟨x0, x1, rfl⟩
theorem pch_of {c0 c1 c2 c3 : Value} {x : DataW H × List MemPlace} (h : DataW.trod enc Try.prog w base spare held n 32 [c0, c1, c2, c3] = some x) : ∃ x0 x1 x2 x3 : Int, [c0, c1, c2, c3] = [.int .u16 x0, .int .u32 x1, .int .u32 x2, .int .u16 x3] := by
  obtain ⟨xs, m, _, _, _, hxl, hg⟩ := DataW.trod_struct Try.underlying32 h
  have hxl2 : xs.length = 4 := hxl
  have g0 : DataW.trod enc Try.prog w base spare held m 27 (List.take (Try.prog.cellsOf 27) (List.drop 0 [c0, c1, c2, c3])) = xs[0]? := hg 0 _ rfl
  rw [cells1_uint16, List.getElem?_eq_getElem (by omega)] at g0
  have g1 : DataW.trod enc Try.prog w base spare held m 28 (List.take (Try.prog.cellsOf 28) (List.drop 1 [c0, c1, c2, c3])) = xs[1]? := hg 1 _ rfl
  rw [cells1_uint32, List.getElem?_eq_getElem (by omega)] at g1
  have g2 : DataW.trod enc Try.prog w base spare held m 28 (List.take (Try.prog.cellsOf 28) (List.drop 2 [c0, c1, c2, c3])) = xs[2]? := hg 2 _ rfl
  rw [cells1_uint32, List.getElem?_eq_getElem (by omega)] at g2
  have g3 : DataW.trod enc Try.prog w base spare held m 27 (List.take (Try.prog.cellsOf 27) (List.drop 3 [c0, c1, c2, c3])) = xs[3]? := hg 3 _ rfl
  rw [cells1_uint16, List.getElem?_eq_getElem (by omega)] at g3
  obtain ⟨x0, a0, _⟩ := DataW.trod_int Try.underlying27 g0
  obtain ⟨x1, a1, _⟩ := DataW.trod_int Try.underlying28 g1
  obtain ⟨x2, a2, _⟩ := DataW.trod_int Try.underlying28 g2
  obtain ⟨x3, a3, _⟩ := DataW.trod_int Try.underlying27 g3
  simp only [List.drop_zero, List.take_succ_cons, List.take_zero, List.drop_succ_cons, List.cons.injEq, and_true] at a0 a1 a2 a3
  subst a0 a1 a2 a3
  exact ⟨x0, x1, x2, x3, rfl⟩
theorem entry_of {c0 c1 c2 c3 c4 c5 c6 : Value} {x : DataW H × List MemPlace} (h : DataW.trod enc Try.prog w base spare held n 34 [c0, c1, c2, c3, c4, c5, c6] = some x) : ∃ x : En, [c0, c1, c2, c3, c4, c5, c6] = enL.cel x := by
  obtain ⟨xs, m, _, _, _, hxl, hg⟩ := DataW.trod_struct Try.underlying34 h
  have hxl2 : xs.length = 3 := hxl
  have g0 : DataW.trod enc Try.prog w base spare held m 27 (List.take (Try.prog.cellsOf 27) (List.drop 0 [c0, c1, c2, c3, c4, c5, c6])) = xs[0]? := hg 0 _ rfl
  rw [cells1_uint16, List.getElem?_eq_getElem (by omega)] at g0
  have g1 : DataW.trod enc Try.prog w base spare held m 30 (List.take (Try.prog.cellsOf 30) (List.drop 1 [c0, c1, c2, c3, c4, c5, c6])) = xs[1]? := hg 1 _ rfl
  rw [cellsHnd, List.getElem?_eq_getElem (by omega)] at g1
  have g2 : DataW.trod enc Try.prog w base spare held m 32 (List.take (Try.prog.cellsOf 32) (List.drop 3 [c0, c1, c2, c3, c4, c5, c6])) = xs[2]? := hg 2 _ rfl
  rw [cellsPch, List.getElem?_eq_getElem (by omega)] at g2
  simp only [List.drop_zero, List.take_succ_cons, List.take_zero, List.drop_succ_cons] at g0 g1 g2
  obtain ⟨a, e0, _⟩ := DataW.trod_int Try.underlying27 g0
  obtain ⟨b, c, e1⟩ := hnd_of g1
  obtain ⟨d, e, f, g, e2⟩ := pch_of g2
  simp only [List.cons.injEq, and_true] at e0 e1 e2
  subst e0
  obtain ⟨rfl, rfl⟩ := e1
  obtain ⟨rfl, rfl, rfl, rfl⟩ := e2
  exact ⟨⟨a, b, c, d, e, f, g⟩, rfl⟩
end
theorem open_entry {H : Type} {enc : TypeId × Value → H} {w : World} {base b0 : Nat} {spare : Nat → Bool} {held : Bool} {r : Reach} {v : Value} {d : DataW H} {p : List MemPlace}
    (hv : Value.okWide Try.prog w r b0 34 v) (h : DataW.Trod enc Try.prog w base spare held 34 v d p) :
    ∃ x : En, v = enV x := by
  obtain ⟨cs, rfl, hsz⟩ := okWide_struct Try.underlying34 hv
  obtain ⟨fuel, hf⟩ := h
  rw [cellsEnt] at hsz
  obtain ⟨c0, c1, c2, c3, c4, c5, c6, rfl⟩ : ∃ c0 c1 c2 c3 c4 c5 c6, cs = #[c0, c1, c2, c3, c4, c5, c6] := by
    match cs, hsz with
    | ⟨[c0, c1, c2, c3, c4, c5, c6]⟩, _ => exact ⟨c0, c1, c2, c3, c4, c5, c6, rfl⟩
  replace hf : DataW.trod enc Try.prog w base spare held fuel 34 [c0, c1, c2, c3, c4, c5, c6] = some (d, p) := hf
  obtain ⟨x, e⟩ := entry_of hf
  exact ⟨x, congrArg (fun l => Value.agg l.toArray) e⟩
instance : Inhabited En := ⟨en0⟩
def EnAny (_ : En) : Prop := True
theorem open_ens {H : Type} {enc : TypeId × Value → H} {w : World} {held : Bool} {fuel : Nat} {u : Value} {y : DataW H × List MemPlace} (h : DataW.trod enc Try.prog w 0 (fun _ => true) held fuel 26 [u] = some y) (hsz : ∀ el sp, y.1 = .slice el sp → (el.length + sp.length) * Try.prog.bytesOf 34 ≤ reachBytes) :
    ∃ (a : Option Addr) (cap : Nat) (xs : List En), u = .slice a xs.length cap ∧ xs.length ≤ cap ∧ xs.length * 40 ≤ 140737488351232 ∧ (∀ x ∈ xs, EnAny x) ∧ RowRd enL w w.heap.size a xs.length xs :=
  Opn.open_lay (L := enL) (Ok := EnAny) Try.underlying26 cellsEnt bytesEnt (fun n cs x hl h => by
    match cs, hl with
    | [c0, c1, c2, c3, c4, c5, c6], _ =>
      obtain ⟨x, e⟩ := entry_of h
      exact ⟨x, e, trivial⟩) h hsz
/-- An act: its kind, its entry. -/
structure Hact where
  kd : Int
  e : En
instance : Inhabited Hact := ⟨⟨0, en0⟩⟩
abbrev hactV (x : Hact) : Value := .agg #[.int .i64 x.kd, .int .u16 x.e.sq, .int .i64 x.e.sl, .int .u32 x.e.gn, .int .u16 x.e.ps, .int .u32 x.e.pt, .int .u32 x.e.pc, .int .u16 x.e.pf]
abbrev hactO (x : Hact) : Obj := .cells #[.int .i64 x.kd, .int .u16 x.e.sq, .int .i64 x.e.sl, .int .u32 x.e.gn, .int .u16 x.e.ps, .int .u32 x.e.pt, .int .u32 x.e.pc, .int .u16 x.e.pf] 36 (0, 0)
def hactL : Lay Hact := ⟨36, 8, fun x => [.int .i64 x.kd, .int .u16 x.e.sq, .int .i64 x.e.sl, .int .u32 x.e.gn, .int .u16 x.e.ps, .int .u32 x.e.pt, .int .u32 x.e.pc, .int .u16 x.e.pf], fun _ => rfl, fun x v hv => by
  simp only [List.mem_cons, List.not_mem_nil, or_false] at hv
  rcases hv with rfl | rfl | rfl | rfl | rfl | rfl | rfl | rfl <;> rfl, by decide⟩
def HactAny (_ : Hact) : Prop := True
theorem cellsHact : Try.prog.cellsOf 36 = 8 := by kernel_rfl
theorem bytesHact : Try.prog.bytesOf 36 = 48 := by kernel_rfl
theorem open_hacts {H : Type} {enc : TypeId × Value → H} {w : World} {held : Bool} {fuel : Nat} {u : Value} {y : DataW H × List MemPlace} (h : DataW.trod enc Try.prog w 0 (fun _ => true) held fuel 22 [u] = some y) (hsz : ∀ el sp, y.1 = .slice el sp → (el.length + sp.length) * Try.prog.bytesOf 36 ≤ reachBytes) :
    ∃ (a : Option Addr) (cap : Nat) (xs : List Hact), u = .slice a xs.length cap ∧ xs.length ≤ cap ∧ xs.length * 48 ≤ 140737488351232 ∧ (∀ x ∈ xs, HactAny x) ∧ RowRd hactL w w.heap.size a xs.length xs :=
  Opn.open_lay (L := hactL) (Ok := HactAny) Try.underlying22 cellsHact bytesHact (fun n cs x hl h => by
    match cs, hl with
    | [c0, c1, c2, c3, c4, c5, c6, c7], _ =>
      obtain ⟨xs, m, _, _, _, hxl, hg⟩ := DataW.trod_struct Try.underlying36 h
      have hxl2 : xs.length = 2 := hxl
      have g0 : DataW.trod enc Try.prog w 0 (fun _ => true) held m 3 (List.take (Try.prog.cellsOf 3) (List.drop 0 [c0, c1, c2, c3, c4, c5, c6, c7])) = xs[0]? := hg 0 _ rfl
      have g1 : DataW.trod enc Try.prog w 0 (fun _ => true) held m 34 (List.take (Try.prog.cellsOf 34) (List.drop 1 [c0, c1, c2, c3, c4, c5, c6, c7])) = xs[1]? := hg 1 _ rfl
      rw [cells1_int, List.getElem?_eq_getElem (by omega)] at g0
      rw [cellsEnt, List.getElem?_eq_getElem (by omega)] at g1
      simp only [List.drop_zero, List.take_succ_cons, List.take_zero, List.drop_succ_cons] at g0 g1
      obtain ⟨a, e0, _⟩ := DataW.trod_int Try.underlying3 g0
      obtain ⟨x, e1⟩ := entry_of g1
      simp only [List.cons.injEq, and_true] at e0
      subst e0
      exact ⟨⟨a, x⟩, congrArg (fun l => Value.int .i64 a :: l) e1, trivial⟩) h hsz
theorem hact_at {w : World} {B n k : Nat} {a : Option Addr} {xs : List Hact} (h : RowRd hactL w B a n xs) (hk : k < n) : ∃ b off x, a = some ⟨b, off, none⟩ ∧ b < B ∧ xs[k]? = some x ∧ w.cell? ⟨b, off + k * 8, none⟩ = some (.int .i64 x.kd) ∧ w.cell? ⟨b, off + k * 8 + 1, none⟩ = some (.int .u16 x.e.sq) ∧ w.cell? ⟨b, off + k * 8 + 2, none⟩ = some (.int .i64 x.e.sl) ∧ w.cell? ⟨b, off + k * 8 + 3, none⟩ = some (.int .u32 x.e.gn) ∧ w.cell? ⟨b, off + k * 8 + 4, none⟩ = some (.int .u16 x.e.ps) ∧ w.cell? ⟨b, off + k * 8 + 5, none⟩ = some (.int .u32 x.e.pt) ∧ w.cell? ⟨b, off + k * 8 + 6, none⟩ = some (.int .u32 x.e.pc) ∧ w.cell? ⟨b, off + k * 8 + 7, none⟩ = some (.int .u16 x.e.pf) := by
  obtain ⟨b, off, x, e, hlt, hx, hc⟩ := Opn.row_cells h hk
  exact ⟨b, off, x, e, hlt, hx, hc 0 _ rfl, hc 1 _ rfl, hc 2 _ rfl, hc 3 _ rfl, hc 4 _ rfl, hc 5 _ rfl, hc 6 _ rfl, hc 7 _ rfl⟩
end Go.Proofs.Ytjiofhlmfmhhmaa.Hst
