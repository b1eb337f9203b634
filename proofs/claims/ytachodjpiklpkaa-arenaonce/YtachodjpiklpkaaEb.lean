/- A set of handles that the call made, 'map[handle]bool': whether one is in it, one more; a look-up of a bool by a struct of two integers. No function of the program. -/
import Derived.Test.YtachodjpiklpkaaRows
import Derived.WideKeyRuns
import Derived.MapKept
import Derived.ChangeMaps5
import Derived.WalkKit
set_option maxRecDepth 100000
namespace Go.Proofs.Ytachodjpiklpkaa.Arn
open Go.RowKit
open Go.ChangeMaps (setBlock)
set_option linter.unusedVariables false

abbrev hnd (s g : Int) : Value := .agg #[.int .i64 s, .int .u32 g]
/-- What is asked of a map's type: each a closed fact of a dump (k the key's type, e the element's). -/
structure KeyF (P : Program) (t k e : TypeId) : Prop where
  map : P.underlying t = some (.map k e)
  wide : (match P.underlying k with | some (.array _ _) | some (.struct _) => true | _ => false) = true
  chk : ∀ (em : Bool) (s g : Int) (W : World), (Instr.checkKey em 10000 k (hnd s g)).run P W = .ok () W
  eq : ∀ (s g s' g' : Int) (W : World), (Op.equal k (hnd s g) (hnd s' g')).run P W = .ok (s == s' && g == g') W
  zero : ∀ W : World, (zeroValue e).run P W = .ok (.bool false) W
/-- Block b is a map that holds just these handles. -/
def SeenM (w : World) (b : Nat) (S : List (Int × Int)) : Prop := ∃ es clock, w.heap[b]? = some (.map es clock) ∧ es.toList.map (fun e => (e.key, e.val)) = S.map (fun h => (hnd h.1 h.2, Value.bool true))
section
variable {P : Program} {t k e : TypeId} {w : World} {b : Nat} {S : List (Int × Int)}
theorem SeenM.made (w : World) : SeenM (w.alloc (.map #[] 0)) w.heap.size [] := ⟨#[], 0, (MapKept.heap_alloc w _).1, rfl⟩
theorem SeenM.below {B : Nat} {w' : World} (h : SeenM w b S) (hb : Below B w w') (hg : b < B) : SeenM w' b S := by
  obtain ⟨es, clock, h1, h2⟩ := h
  exact ⟨es, clock, (hb.block b hg).trans h1, h2⟩
theorem SeenM.lt (h : SeenM w b S) : b < w.heap.size := by
  obtain ⟨es, clock, h1, -⟩ := h
  exact (Array.getElem?_eq_some_iff.1 h1).1
theorem asking (K : KeyF P t k e) (s g : Int) (W : World) : ∀ (l : List MapEntry) (S : List (Int × Int)) (i : Nat), l.map (fun e => (e.key, e.val)) = S.map (fun h => (hnd h.1 h.2, Value.bool true)) →
    ∃ r, (Instr.findAsking k (hnd s g) l i).run P W = .ok r W ∧ ((r = none ∧ (s, g) ∉ S) ∨ ∃ j, r = some (j, Value.bool true) ∧ (s, g) ∈ S)
  | [], S, i, h => by
    have hS : S = [] := by cases S with | nil => rfl | cons x S => simp at h
    subst hS
    exact ⟨none, by simp [Instr.findAsking], .inl ⟨rfl, by simp⟩⟩
  | y :: l, [], i, h => by simp at h
  | y :: l, x :: S, i, h => by
    simp only [List.map_cons, List.cons.injEq, Prod.mk.injEq] at h
    obtain ⟨⟨h1, h2⟩, h3⟩ := h
    obtain ⟨r, hr, hc⟩ := asking K s g W l S (i + 1) h3
    by_cases hx : s = x.1 ∧ g = x.2
    · refine ⟨some (i, .bool true), ?_, .inr ⟨i, rfl, ?_⟩⟩
      · rw [Instr.findAsking]
        simp [Sem.run_bind, h1, K.eq, hx.1, hx.2, h2, Result.andThen]
      · rw [hx.1, hx.2]; simp
    · refine ⟨r, ?_, ?_⟩
      · have hf : (s == x.1 && g == x.2) = false := by
          rw [Bool.eq_false_iff]; intro e; simp only [Bool.and_eq_true, beq_iff_eq] at e; exact hx e
        rw [Instr.findAsking]
        simp [Sem.run_bind, h1, K.eq, hf, Result.andThen, hr]
      · have hn : ((s, g) : Int × Int) ≠ x := fun e => hx ⟨by rw [← e], by rw [← e]⟩
        rcases hc with ⟨rfl, hc⟩ | ⟨j, rfl, hc⟩
        · exact .inl ⟨rfl, by simp [hn, hc]⟩
        · exact .inr ⟨j, rfl, by simp [hc]⟩
theorem finding (K : KeyF P t k e) (s g : Int) (W : World) (es : Array MapEntry) (h : es.toList.map (fun e => (e.key, e.val)) = S.map (fun h => (hnd h.1 h.2, Value.bool true))) :
    ∃ r, (Instr.findKey k (hnd s g) es.toList).run P W = .ok r W ∧ ((r = none ∧ (s, g) ∉ S) ∨ ∃ j, r = some (j, Value.bool true) ∧ (s, g) ∈ S) := by
  obtain ⟨r, h1, h2⟩ := asking K s g W es.toList S 0 h
  exact ⟨r, by rw [run_findKey_eq W K.wide]; exact h1, h2⟩
/-- 'seen[h]'. -/
theorem SeenM.look (h : SeenM w b S) (K : KeyF P t k e) (s g : Int) : (Instr.lookup t (.map (some b)) (hnd s g) false).run P w = .ok (.bool (decide ((s, g) ∈ S))) w := by
  obtain ⟨es, clock, h1, h2⟩ := h
  obtain ⟨r, h3, h4⟩ := finding K s g w es h2
  rcases h4 with ⟨rfl, h4⟩ | ⟨j, rfl, h4⟩
  · simp [Instr.lookup, run_underlying K.map, MapKept.run_getObj_map h1, K.chk, h3, K.zero, Result.andThen, h4]
  · simp [Instr.lookup, run_underlying K.map, MapKept.run_getObj_map h1, K.chk, h3, Result.andThen, h4]
/-- 'seen[h] = true', h not yet in it. -/
theorem SeenM.more (h : SeenM w b S) (K : KeyF P t k e) (s g : Int) (hn : (s, g) ∉ S) :
    ∃ w', (Instr.mapUpdate t (.map (some b)) (hnd s g) (.bool true)).run P w = .ok () w' ∧ SeenM w' b (S ++ [(s, g)]) ∧ (∀ i : Nat, i ≠ b → w'.heap[i]? = w.heap[i]?) ∧ Below b w w' := by
  obtain ⟨es, clock, h1, h2⟩ := h
  obtain ⟨r, h3, h4⟩ := finding K s g w es h2
  rcases h4 with ⟨rfl, h4⟩ | ⟨j, rfl, h4⟩
  · refine ⟨setBlock w b (.map (es.push { key := hnd s g, val := .bool true, born := clock }) (clock + 1)), ?_, ⟨_, _, ChangeMaps.heap_setBlock_same h1 _, ?_⟩, fun i hi => ChangeMaps.heap_setBlock_other h1 _ hi, ?_⟩
    · simp [Instr.mapUpdate, run_underlying K.map, MapKept.run_getObj_map h1, K.chk, h3, MapKept.run_setObj_map _ h1, Result.andThen, setBlock]
    · simp [h2]
    · exact ⟨rfl, rfl, rfl, by simp [setBlock], fun i hi => ChangeMaps.heap_setBlock_other h1 _ (by omega)⟩
  · exact absurd h4 hn
end
end Go.Proofs.Ytachodjpiklpkaa.Arn
