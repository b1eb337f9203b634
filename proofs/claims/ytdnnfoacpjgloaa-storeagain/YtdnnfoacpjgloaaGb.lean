/- The store's rooms: bytes within one block of rooms. -/
import Derived.Test.YtdnnfoacpjgloaaGa
import Derived.Test.YtdnnfoacpjgloaaEf
set_option maxRecDepth 100000
namespace Go.Proofs.Ytdnnfoacpjgloaa.Stv
open Go.RowKit
open Arn (Slt Ar OkS Upd hnV hnO HBlk)
open Pat (OwnG BlkG)
set_option linter.unusedVariables false

theorem spl_get (P X T : List Value) (j : Nat) : (P ++ (X ++ T))[j]? = if j < P.length then P[j]? else if j < P.length + X.length then X[j - P.length]? else T[j - P.length - X.length]? := by
  rw [List.getElem?_append]
  split
  · rfl
  · rw [List.getElem?_append]
    split <;> rename_i h1 h2
    · rw [if_pos (by omega)]
    · rw [if_neg (by omega)]
/-- A slot's room among the cells of all: its first cells are the bytes d, its last cell says how many. -/
structure RoomAt (cs : List Value) (k : Nat) (d : List Int) : Prop where
  byt : Bytes d
  le : d.length ≤ 512
  at_ : ∀ i, i < d.length → cs[k * 513 + i]? = some (.int .u8 (d.getD i 0))
  size : cs[k * 513 + 512]? = some (.int .i64 d.length)
/-- Cells that are other in one room alone. -/
theorem RoomAt.off {cs cs' : List Value} {k j : Nat} {d : List Int} (h : RoomAt cs k d) (hkj : k ≠ j) (hc : ∀ i, (i < j * 513 ∨ j * 513 + 513 ≤ i) → cs'[i]? = cs[i]?) : RoomAt cs' k d :=
  ⟨h.byt, h.le, fun i hi => by rw [hc _ (by have := h.le; omega)]; exact h.at_ i hi, by rw [hc _ (by omega)]; exact h.size⟩
/-- All rooms at block g. -/
def Rooms (w : World) (g : Nat) (D : List (List Int)) : Prop := ∃ cs : List Value, w.heap[g]? = some (.cells cs.toArray 73 (0, 0)) ∧ cs.length = D.length * 513 ∧ ∀ k d, D[k]? = some d → RoomAt cs k d
section
variable {w w' : World} {g k : Nat} {D : List (List Int)} {d : List Int}
theorem Rooms.lt (h : Rooms w g D) : g < w.heap.size := by obtain ⟨cs, h, -⟩ := h; exact lt_of_some h
theorem Rooms.upd {S : Nat → Prop} (h : Rooms w g D) (hu : Upd S w w') (hS : ¬ S g) : Rooms w' g D := by obtain ⟨cs, h, hh⟩ := h; exact ⟨cs, hu.keep h hS, hh⟩
theorem Rooms.bel {B : Nat} (h : Rooms w g D) (hb : Below B w w') (hB : g < B) : Rooms w' g D := by obtain ⟨cs, h, hh⟩ := h; exact ⟨cs, (hb.block g hB).trans h, hh⟩
theorem Rooms.frozen (h : Rooms w g D) (i : Nat) : w.frozen? ⟨g, i, none⟩ = false := by obtain ⟨cs, h, -⟩ := h; exact frozen_of_row w g i _ _ h
theorem Rooms.ok (h : Rooms w g D) (hk : D[k]? = some d) : Bytes d ∧ d.length ≤ 512 := by obtain ⟨cs, -, -, hh⟩ := h; exact ⟨(hh k d hk).byt, (hh k d hk).le⟩
theorem Rooms.size (h : Rooms w g D) (hk : D[k]? = some d) : w.cell? ⟨g, k * 513 + 512, none⟩ = some (.int .i64 d.length) := by
  obtain ⟨cs, h, -, hh⟩ := h
  rw [cell_of_row w g _ _ _ _ h, List.getElem?_toArray]; exact (hh k d hk).size
theorem Rooms.rd (h : Rooms w g D) (hk : D[k]? = some d) : Rd w w.heap.size (some ⟨g, k * 513, none⟩) d.length d := by
  refine ⟨rfl, (h.ok hk).1, fun _ => ⟨g, k * 513, rfl, h.lt, fun i hi => ?_⟩⟩
  obtain ⟨cs, h, -, hh⟩ := h
  rw [cell_of_row w g _ _ _ _ h, List.getElem?_toArray]; exact (hh k d hk).at_ i hi
theorem fit_room {N : Nat} (hk : k < N) : k * 513 + 513 ≤ N * 513 := by omega
/-- A room opened for a change of its bytes in place, and shut again. -/
theorem Rooms.win (h : Rooms w g D) (hk : D[k]? = some d) : ∃ P T, OwnG w g (k * 513) 73 P T d.length d.length d ∧ ∀ w' d', OwnG w' g (k * 513) 73 P T d.length d.length d' → Rooms w' g (D.set k d') := by
  obtain ⟨hb, hle⟩ := h.ok hk
  have hkl := (List.getElem?_eq_some_iff.1 hk).1
  obtain ⟨cs, h, hl, hh⟩ := h
  have hfit := fit_room hkl
  have hr := hh k d hk
  have hP : (cs.take (k * 513)).length = k * 513 := by rw [List.length_take]; omega
  have hget : ∀ (X : List Value) (j : Nat), X.length = d.length → (j < k * 513 ∨ k * 513 + d.length ≤ j) → (cs.take (k * 513) ++ (X ++ cs.drop (k * 513 + d.length)))[j]? = cs[j]? := fun X j hX hj => by
    rw [spl_get, hP, hX]
    rcases hj with hj | hj
    · rw [if_pos hj, List.getElem?_take, if_pos hj]
    · rw [if_neg (by omega), if_neg (by omega), List.getElem?_drop]; congr 1; omega
  have hin : ∀ (X : List Value) (i : Nat), X.length = d.length → i < d.length → (cs.take (k * 513) ++ (X ++ cs.drop (k * 513 + d.length)))[k * 513 + i]? = X[i]? := fun X i hX hi => by
    rw [spl_get, hP, hX, if_neg (by omega), if_pos (by omega)]; congr 1; omega
  refine ⟨cs.take (k * 513), cs.drop (k * 513 + d.length), ⟨rfl, hb, Nat.le_refl _, by unfold maxLen; omega, hP, ?_⟩, fun w' d' ho => ?_⟩
  · have e : cs = cs.take (k * 513) ++ (bcells d ++ cs.drop (k * 513 + d.length)) := by
      apply List.ext_getElem?
      intro j
      by_cases hj : j < k * 513 ∨ k * 513 + d.length ≤ j
      · rw [hget _ _ (bcells_length d) hj]
      · obtain ⟨i, rfl⟩ : ∃ i, j = k * 513 + i := ⟨j - k * 513, by omega⟩
        rw [hin _ i (bcells_length d) (by omega), bcells_getElem? d i (by omega)]
        exact hr.at_ i (by omega)
    unfold BlkG
    rw [← e]; exact h
  · obtain ⟨h1, h2, -, -, -, hw⟩ := ho
    refine ⟨_, hw, ?_, fun j x hj => ?_⟩
    · rw [List.length_append, List.length_append, bcells_length, h1, hP, List.length_drop, List.length_set]; omega
    · rw [List.getElem?_set] at hj
      by_cases e : k = j
      · subst e
        rw [if_pos rfl, if_pos hkl] at hj
        obtain rfl := Option.some.inj hj
        refine ⟨h2, by omega, fun i hi => ?_, ?_⟩
        · rw [hin _ i ((bcells_length d').trans h1) (by omega)]; exact bcells_getElem? d' i hi
        · rw [hget _ _ ((bcells_length d').trans h1) (by omega), h1]; exact hr.size
      · rw [if_neg e] at hj
        exact (hh j x hj).off (Ne.symm e) fun i hi => hget _ _ ((bcells_length d').trans h1) (by omega)
/-- Bytes copied into a room, and told how many. -/
theorem Rooms.copy (h : Rooms w g D) {B n c : Nat} {a : Option Addr} {xs : List Int} (ty : TypeId) (hk : D[k]? = some d) (hr : Rd w B a n xs) (hn : n ≤ 512) :
    ∃ w', (Builtin.copy_ #[36, 36] ty #[.slice (some ⟨g, k * 513, none⟩) 512 512, .slice a n c]).run Try.prog w = .ok (.int .i64 n) w' ∧ Upd (· = g) w w' ∧ (∃ u, w'.cell? ⟨g, k * 513 + 512, none⟩ = some u) ∧ w'.frozen? ⟨g, k * 513 + 512, none⟩ = false ∧ w'.heap.size = w.heap.size ∧ Rooms (w'.setCell ⟨g, k * 513 + 512, none⟩ (.int .i64 n)) g (D.set k xs) := by
  have hkl := (List.getElem?_eq_some_iff.1 hk).1
  obtain ⟨cs, h, hl, hh⟩ := h
  have hfit := fit_room hkl
  have hx := hr.1
  have hP : (cs.take (k * 513)).length = k * 513 := by rw [List.length_take]; omega
  have hrun : ∃ w', (Builtin.copy_ #[36, 36] ty #[.slice (some ⟨g, k * 513, none⟩) 512 512, .slice a n c]).run Try.prog w = .ok (.int .i64 n) w' ∧ Upd (· = g) w w' ∧ w'.heap.size = w.heap.size ∧ w'.heap[g]? = some (.cells (cs.take (k * 513) ++ (bcells xs ++ cs.drop (k * 513 + n))).toArray 73 (0, 0)) := by
    by_cases h0 : n = 0
    · subst h0
      obtain rfl : xs = [] := List.eq_nil_of_length_eq_zero hx
      refine ⟨w, run_copy_none w 36 36 ty 5 _ _ 512 512 0 c Try.underlying36 size5 (Nat.zero_min 512), Upd.refl _ _, rfl, ?_⟩
      rw [show bcells [] = [] from rfl, List.nil_append, Nat.add_zero, List.take_append_drop]; exact h
    · obtain ⟨ad, rfl, hsrc⟩ := hr.src (by rw [bcells_length, hx]; omega)
      have hrun := run_copy_row (P := Try.prog) w 36 36 ty 5 g (k * 513) 512 512 ad n c _ 73 (bcells xs) Try.underlying36 size5 h (by rw [bcells_length, hx]; exact (Nat.min_eq_left hn).symm) hsrc (by rw [bcells_length, hx, List.size_toArray]; omega) (oneCell_bcells xs)
      rw [show ((bcells xs).length : Int) = (n : Int) from by rw [bcells_length, hx]] at hrun
      refine ⟨_, hrun, ⟨⟨rfl, rfl, rfl, by simp, fun i hi => absurd hi (Nat.not_lt_zero i)⟩, fun i _ hi => setRow_other w g i _ hi⟩, by simp [World.setRow], ?_⟩
      rw [setRow_heap w g _ _ 73 _ h, bcells_length, hx, List.append_assoc]
  obtain ⟨w', e1, e2, e3, e4⟩ := hrun
  have hget : ∀ j, (j < k * 513 ∨ k * 513 + n ≤ j) → (cs.take (k * 513) ++ (bcells xs ++ cs.drop (k * 513 + n)))[j]? = cs[j]? := fun j hj => by
    rw [spl_get, hP, bcells_length, hx]
    rcases hj with hj | hj
    · rw [if_pos hj, List.getElem?_take, if_pos hj]
    · rw [if_neg (by omega), if_neg (by omega), List.getElem?_drop]; congr 1; omega
  have hin : ∀ i, i < n → (cs.take (k * 513) ++ (bcells xs ++ cs.drop (k * 513 + n)))[k * 513 + i]? = some (.int .u8 (xs.getD i 0)) := fun i hi => by
    rw [spl_get, hP, bcells_length, hx, if_neg (by omega), if_pos (by omega), show k * 513 + i - k * 513 = i from by omega]; exact bcells_getElem? xs i (by omega)
  have hlen : (cs.take (k * 513) ++ (bcells xs ++ cs.drop (k * 513 + n))).length = cs.length := by
    rw [List.length_append, List.length_append, bcells_length, hx, hP, List.length_drop]; omega
  generalize cs.take (k * 513) ++ (bcells xs ++ cs.drop (k * 513 + n)) = cs' at *
  refine ⟨w', e1, e2, ⟨cs'[k * 513 + 512]'(by omega), ?_⟩, frozen_of_row w' g _ _ _ e4, e3, ⟨cs'.set (k * 513 + 512) (.int .i64 n), ?_, by rw [List.length_set, List.length_set, hlen, hl], fun j x hj => ?_⟩⟩
  · rw [cell_of_row w' g _ _ _ _ e4, List.getElem?_toArray, List.getElem?_eq_getElem (by omega)]
  · have := heap_setCell_same w' g (k * 513 + 512) _ _ (.int .i64 n) e4
    rw [this, List.setIfInBounds_toArray]
  · rw [List.getElem?_set] at hj
    have hs : ∀ i, i ≠ k * 513 + 512 → (cs'.set (k * 513 + 512) (.int .i64 n))[i]? = cs'[i]? := fun i hi => by rw [List.getElem?_set, if_neg (Ne.symm hi)]
    by_cases e : k = j
    · subst e
      rw [if_pos rfl, if_pos hkl] at hj
      obtain rfl := Option.some.inj hj
      refine ⟨hr.2.1, by omega, fun i hi => ?_, ?_⟩
      · rw [hs _ (by omega)]; exact hin i (by omega)
      · rw [List.getElem?_set, if_pos rfl, if_pos (by omega), hx]
    · rw [if_neg e] at hj
      exact (hh j x hj).off (Ne.symm e) fun i hi => by rw [hs _ (by omega), hget _ (by omega)]
end
/-- The store at block b: its arena at ba and ga, its rooms at g. -/
structure Sto (w : World) (b ba ga g : Nat) (L : List Slt) (D : List (List Int)) : Prop where
  blk : w.heap[b]? = some (.cells #[.pointer (some ⟨ba, 0, none⟩), .slice (some ⟨g, 0, none⟩) L.length L.length] 65 (0, 0))
  ar : Ar w ba ga L
  rm : Rooms w g D
  len : D.length = L.length
section
variable {w w' : World} {b ba ga g k : Nat} {L : List Slt} {D : List (List Int)} {S : Nat → Prop}
theorem Sto.c0 (h : Sto w b ba ga g L D) : w.cell? ⟨b, 0, none⟩ = some (.pointer (some ⟨ba, 0, none⟩)) := by rw [cell_of_row w b 0 _ _ _ h.blk]; rfl
theorem Sto.c1 (h : Sto w b ba ga g L D) : w.cell? ⟨b, 1, none⟩ = some (.slice (some ⟨g, 0, none⟩) L.length L.length) := by rw [cell_of_row w b 1 _ _ _ h.blk]; rfl
theorem Sto.lt (h : Sto w b ba ga g L D) : b < w.heap.size ∧ ba < w.heap.size ∧ ga < w.heap.size ∧ g < w.heap.size := ⟨lt_of_some h.blk, h.ar.lt.1, h.ar.lt.2, h.rm.lt⟩
theorem Sto.ne (h : Sto w b ba ga g L D) : b ≠ ga ∧ b ≠ g ∧ ba ≠ g ∧ ga ≠ g := by
  obtain ⟨cs, hg, -⟩ := h.rm
  refine ⟨?_, ?_, ?_, ?_⟩
  · rintro rfl
    have := h.blk.symm.trans h.ar.row
    simp [Arn.rowO] at this
  · rintro rfl
    have := h.blk.symm.trans hg
    simp at this
  · rintro rfl
    have := h.ar.blk.symm.trans hg
    simp at this
  · rintro rfl
    have := Eq.trans (Eq.symm h.ar.row) hg
    simp [Arn.rowO] at this
theorem Sto.bel (h : Sto w b ba ga g L D) (hb : Below w.heap.size w w') : Sto w' b ba ga g L D := ⟨(hb.block b (lt_of_some h.blk)).trans h.blk, h.ar.bel hb, h.rm.bel hb h.rm.lt, h.len⟩
theorem Sto.upd (h : Sto w b ba ga g L D) (hu : Upd S w w') (hb : ¬ S b) (hba : ¬ S ba) (hga : ¬ S ga) (hg : ¬ S g) : Sto w' b ba ga g L D := ⟨hu.keep h.blk hb, h.ar.upd hu hba hga, h.rm.upd hu hg, h.len⟩
/-- Behind a call on its arena. -/
theorem Sto.slots (h : Sto w b ba ga g L D) {L' : List Slt} (ha : Ar w' ba ga L') (hu : Upd (· = ga) w w') (hl : L'.length = L.length) : Sto w' b ba ga g L' D :=
  ⟨by rw [hl]; exact hu.keep h.blk h.ne.1, ha, h.rm.upd hu (Ne.symm h.ne.2.2.2), by rw [hl]; exact h.len⟩
/-- Behind a change in its rooms. -/
theorem Sto.rooms (h : Sto w b ba ga g L D) {D' : List (List Int)} (hr : Rooms w' g D') (hu : Upd (· = g) w w') (hl : D'.length = D.length) : Sto w' b ba ga g L D' :=
  ⟨hu.keep h.blk h.ne.2.1, h.ar.upd hu h.ne.2.2.1 h.ne.2.2.2, hr, hl.trans h.len⟩
end
end Go.Proofs.Ytdnnfoacpjgloaa.Stv
