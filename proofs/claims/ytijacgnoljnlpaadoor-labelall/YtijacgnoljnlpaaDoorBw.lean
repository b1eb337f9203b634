/- The builder's copyCheck and WriteRune at this dump: walked here, for the set-up lays copyCheck without its panic's statement, so that the shelf's own laying does not meet it. -/
import Derived.Test.YtijacgnoljnlpaaDoorSh
import Derived.Test.YtijacgnoljnlpaaDoorRows
namespace Go.Proofs.YtijacgnoljnlpaaDoor
open Go.RowKit
set_option linter.unusedVariables false

theorem infoBuilder : ∃ j, Tryd.prog.info? 34 = some j ∧ j.size = 2 := by
  obtain ⟨j, hj, hjs⟩ := Option.map_eq_some_iff.1 Tryd.Builder_Extra_242.toX72.sizeBuilder
  exact ⟨j, hj, hjs⟩

theorem noEscape_run (v : Value) (w : World) : (callFunc 28 #[v]).run Tryd.prog w = .ok (.value v) w := by
  rw [run_callFunc_extern Tryd.func28 (by kernel_rfl) (by kernel_rfl) (by kernel_rfl) (e := Extern.AbiNoEscape.same) (by kernel_rfl)]
  rw [Lib.run_noEscape]
  rfl

/-- A builder: its own address noted, or not yet. -/
theorem check_any (B b : Nat) (bs : List Value) (w : World) (h : Lib.IsBuilderF 34 5 B b bs w) :
    Calls Tryd.prog 24 #[.pointer (some ⟨b, 0, none⟩)] w fun e w' => e = .returned (.tuple #[]) ∧
      (Lib.BuilderAtF 34 5 B b (.pointer (some ⟨b, 0, none⟩)) bs w' ∧ Below B w w' ∧ Lib.OthersKept 5 (some b) w w') := by
  obtain ⟨j, hj, hjs⟩ := infoBuilder
  rcases h with h | h
  · have c0 := h.cell0
    have f0 := h.frozen0
    have r1 := Lib.run_to_unsafe (P := Tryd.prog) w ⟨b, 0, none⟩ Tryd.underlying31 Tryd.underlying50 hj (by rw [hjs]; decide) h.shape (Nat.zero_lt_succ 1)
    have r2 := Lib.run_from_unsafe (P := Tryd.prog) w ⟨b, 0, none⟩ Tryd.underlying50 Tryd.underlying31 hj h.shape Tryd.Builder_Extra_242.toX72.liesBuilder
    have r3 := noEscape_run
    have fin : Lib.BuilderAtF 34 5 B b (.pointer (some ⟨b, 0, none⟩)) bs (w.setCell ⟨b, 0, none⟩ (.pointer (some ⟨b, 0, none⟩))) ∧ Below B w (w.setCell ⟨b, 0, none⟩ (.pointer (some ⟨b, 0, none⟩))) ∧ Lib.OthersKept 5 (some b) w (w.setCell ⟨b, 0, none⟩ (.pointer (some ⟨b, 0, none⟩))) :=
      ⟨h.used _, (Below.refl B w).setCell (p := ⟨b, 0, none⟩) h.1 _, (Lib.OthersKept.refl _ _ w).setCell ⟨b, 0, none⟩ rfl _⟩
    go_enter Tryd.func24, Tryd.ntmps24
    go_wp2
    go_end0
    exact ⟨rfl, fin⟩
  · have c0 := h.cell0
    have r1 := Lib.run_neq_ptr_same (P := Tryd.prog) w ⟨b, 0, none⟩ Tryd.underlying31 hj
    go_enter Tryd.func24, Tryd.ntmps24
    go_wp2
    go_end0
    exact ⟨rfl, h, Below.refl B _, Lib.OthersKept.refl _ _ _⟩

theorem own_slice {w : World} {B n : Nat} {v : Value} {xs : List Value} (h : w.ownsRowF B 5 1 v n xs) : ∃ a c, v = .slice a n c := by
  rcases h.2 with ⟨rfl, rfl⟩ | ⟨g, c, _, _, rfl, _⟩
  · exact ⟨none, 0, rfl⟩
  · exact ⟨_, c, rfl⟩

theorem appendRune_own (B : Nat) (v : Value) (n : Nat) (xs : List Value) (r : Int) (hr0 : -2147483648 ≤ r) (hr1 : r ≤ 2147483647) (w : World) (hown : w.ownsRowF B 5 1 v n xs) (hlen : n + 4 ≤ 140737488355328) (hBw : B ≤ w.heap.size) :
    Calls Tryd.prog 25 #[v, .int .i32 r] w fun e w' => ∃ v', e = .returned v' ∧ w'.ownsRowF B 5 1 v' (n + (Lib.runeCells r).length) (xs ++ Lib.runeCells r) ∧ ∃ o, (w.alloc o).grownBy w' v.ownBlock :=
  Any.utf8_AppendRune_own Tryd.lays242 Tryd.Builder_Extra_242 B v n xs r hr0 hr1 w hown hlen hBw

/-- What the store into the builder's second field leaves. -/
theorem stored {B b : Nat} {bs ys : List Value} {w1 w2 : World} {o : Obj} {v v' p : Value} (hB : B ≤ b) (hbk : w1.heap[b]? = some (.cells #[p, v] 34 (0, 0))) (hv : v.ownBlock ≠ some b)
    (hown : w1.ownsRowF B 5 1 v bs.length bs) (hg : (w1.alloc o).grownBy w2 v.ownBlock) (hown' : w2.ownsRowF B 5 1 v' ys.length ys) (hBw : B ≤ w1.heap.size) :
    w2.heap[b]? = some (.cells #[p, v] 34 (0, 0)) ∧ Lib.BuilderAtF 34 5 B b p ys (w2.setCell ⟨b, 1, none⟩ v') ∧
      Below B w1 (w2.setCell ⟨b, 1, none⟩ v') ∧ Lib.OthersKept 5 (some b) w1 (w2.setCell ⟨b, 1, none⟩ v') := by
  have hlt := (Array.getElem?_eq_some_iff.1 hbk).1
  have h2 : w2.heap[b]? = some (.cells #[p, v] 34 (0, 0)) := by
    rw [hg.block b (by simp; omega) fun e => hv e.symm, Lib.alloc_old w1 o b hlt, hbk]
  refine ⟨h2, Lib.BuilderAtF.put hB h2 hown' (by decide), ?_, ?_⟩
  · exact (((Below.refl B w1).alloc hBw o).grown hg (by simp; omega) fun k hk => (hown.lt k hk).1).setCell (p := ⟨b, 1, none⟩) hB _
  · exact (((Lib.OthersKept.refl _ _ w1).alloc o).grown hg (Lib.ownsRowF_kind (hown.alloc o))).setCell ⟨b, 1, none⟩ rfl _

set_option maxHeartbeats 4000000 in
set_option maxRecDepth 100000 in
theorem writeRune_any (B b : Nat) (bs : List Value) (r : Int) (hr0 : -2147483648 ≤ r) (hr1 : r ≤ 2147483647) (w : World) (h : Lib.IsBuilderF 34 5 B b bs w) (hlen : bs.length + 4 ≤ 140737488355328) (hBw : B ≤ w.heap.size) :
    Calls Tryd.prog 17 #[.pointer (some ⟨b, 0, none⟩), .int .i32 r] w fun e w' => e = .returned (.tuple #[.int .i64 (Lib.runeCells r).length, .nilIface]) ∧
      (Lib.BuilderAtF 34 5 B b (.pointer (some ⟨b, 0, none⟩)) (bs ++ Lib.runeCells r) w' ∧ Below B w w' ∧ Lib.OthersKept 5 (some b) w w') := by
  have hk4 := Lib.runeCells_le r
  go_enter Tryd.func17, Tryd.ntmps17
  go_wp2_with (go_at_call 24; refine (check_any B b bs _ h).mono ?_)
  rintro e w1 ⟨rfl, ⟨hB, v, hbk, hown, hv⟩, below1, kept1⟩
  have hBw1 : B ≤ w1.heap.size := Nat.le_trans hBw below1.size
  have cr := appendRune_own B v bs.length bs r hr0 hr1 w1 hown hlen hBw1
  have fin := fun w2 o v' => stored (w2 := w2) (o := o) (v' := v') (ys := bs ++ Lib.runeCells r) hB hbk hv hown
  have c1 : w1.cell? ⟨b, 1, none⟩ = some v := by rw [Lib.cell_of_heap hbk]; rfl
  obtain ⟨a, c, rfl⟩ := own_slice hown
  go_wp2_with (go_at_call 25; refine cr.mono ?_)
  rintro e w2 ⟨v', rfl, hown', o, hg⟩
  obtain ⟨h2, hat, hbelow, hkept⟩ := fin w2 o v' hg (by rw [List.length_append]; exact hown') hBw1
  obtain ⟨a', c', rfl⟩ := own_slice hown'
  have d1 : w2.cell? ⟨b, 1, none⟩ = some (.slice a bs.length c) := by rw [Lib.cell_of_heap h2]; rfl
  have f1 : w2.frozen? ⟨b, 1, none⟩ = false := Lib.frozen_of_heap h2 1
  clear fin cr
  go_wp2
  go_ret2
  exact ⟨by simp; omega, hat, below1.trans hbelow, kept1.trans hkept⟩

/-- strings.Clone: the same bytes; what lay stands. -/
theorem clone_any (s : ByteArray) (w : World) (hs : s.size ≤ 281474976710656) :
    Calls Tryd.prog 20 #[.string s] w fun e w' => e = .returned (.string s) ∧ Below w.heap.size w w' := by
  go_enter Tryd.func20, Tryd.ntmps20
  go_wp2_with (go_at_call 26; refine (Tryd.stringslite_Clone s _ hs).mono ?_)
  rintro e w1 ⟨rfl, hb⟩
  go_wp2
  go_ret
  exact ⟨rfl, hb⟩

end Go.Proofs.YtijacgnoljnlpaaDoor
