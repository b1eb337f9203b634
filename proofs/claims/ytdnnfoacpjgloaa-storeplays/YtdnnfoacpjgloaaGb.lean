/- The store's rooms: bytes within one block of rooms. · The contracts of the store's slots, Refs, Keep, Drop, Free, Slots, inPlace. · The contracts of the store's New, Bytes, Patch; bytes.Clone. · The contract of the store's Put. -/
import Derived.Test.YtdnnfoacpjgloaaGa
import Derived.Test.YtdnnfoacpjgloaaEf
import Derived.Test.YtdnnfoacpjgloaaKr
set_option maxRecDepth 100000
namespace Go.Proofs.Ytdnnfoacpjgloaa.Stv
open Go.RowKit
open Arn (Slt Ar OkS Upd hnV hnO HBlk)
open Pat (OwnG BlkG)
set_option linter.unusedVariables false

theorem spl_get (P X T : List Value) (j : Nat) : (P ++ (X ++ T))[j]? = if j < P.length then P[j]? else if j < P.length + X.length then X[j - P.length]? else T[j - P.length - X.length]? := by
  rw [List.getElem?_append]
  split
  · rfl
  · rw [List.getElem?_append]
    split <;> rename_i h1 h2
    · rw [if_pos (by omega)]
    · rw [if_neg (by omega)]
/-- A slot's room among the cells of all: its first cells are the bytes d, its last cell says how many. -/
structure RoomAt (cs : List Value) (k : Nat) (d : List Int) : Prop where
  byt : Bytes d
  le : d.length ≤ 512
  at_ : ∀ i, i < d.length → cs[k * 513 + i]? = some (.int .u8 (d.getD i 0))
  size : cs[k * 513 + 512]? = some (.int .i64 d.length)
/-- Cells that are other in one room alone. -/
theorem RoomAt.off {cs cs' : List Value} {k j : Nat} {d : List Int} (h : RoomAt cs k d) (hkj : k ≠ j) (hc : ∀ i, (i < j * 513 ∨ j * 513 + 513 ≤ i) → cs'[i]? = cs[i]?) : RoomAt cs' k d :=
  ⟨h.byt, h.le, fun i hi => by rw [hc _ (by have := h.le; omega)]; exact h.at_ i hi, by rw [hc _ (by omega)]; exact h.size⟩
/-- All rooms at block g. -/
def Rooms (w : World) (g : Nat) (D : List (List Int)) : Prop := ∃ cs : List Value, w.heap[g]? = some (.cells cs.toArray 73 (0, 0)) ∧ cs.length = D.length * 513 ∧ ∀ k d, D[k]? = some d → RoomAt cs k d
section
variable {w w' : World} {g k : Nat} {D : List (List Int)} {d : List Int}
theorem Rooms.lt (h : Rooms w g D) : g < w.heap.size := by obtain ⟨cs, h, -⟩ := h; exact lt_of_some h
theorem Rooms.upd {S : Nat → Prop} (h : Rooms w g D) (hu : Upd S w w') (hS : ¬ S g) : Rooms w' g D := by obtain ⟨cs, h, hh⟩ := h; exact ⟨cs, hu.keep h hS, hh⟩
theorem Rooms.bel {B : Nat} (h : Rooms w g D) (hb : Below B w w') (hB : g < B) : Rooms w' g D := by obtain ⟨cs, h, hh⟩ := h; exact ⟨cs, (hb.block g hB).trans h, hh⟩
theorem Rooms.frozen (h : Rooms w g D) (i : Nat) : w.frozen? ⟨g, i, none⟩ = false := by obtain ⟨cs, h, -⟩ := h; exact frozen_of_row w g i _ _ h
theorem Rooms.ok (h : Rooms w g D) (hk : D[k]? = some d) : Bytes d ∧ d.length ≤ 512 := by obtain ⟨cs, -, -, hh⟩ := h; exact ⟨(hh k d hk).byt, (hh k d hk).le⟩
theorem Rooms.size (h : Rooms w g D) (hk : D[k]? = some d) : w.cell? ⟨g, k * 513 + 512, none⟩ = some (.int .i64 d.length) := by
  obtain ⟨cs, h, -, hh⟩ := h
  rw [cell_of_row w g _ _ _ _ h, List.getElem?_toArray]; exact (hh k d hk).size
theorem Rooms.rd (h : Rooms w g D) (hk : D[k]? = some d) : Rd w w.heap.size (some ⟨g, k * 513, none⟩) d.length d := by
  refine ⟨rfl, (h.ok hk).1, fun _ => ⟨g, k * 513, rfl, h.lt, fun i hi => ?_⟩⟩
  obtain ⟨cs, h, -, hh⟩ := h
  rw [cell_of_row w g _ _ _ _ h, List.getElem?_toArray]; exact (hh k d hk).at_ i hi
theorem fit_room {N : Nat} (hk : k < N) : k * 513 + 513 ≤ N * 513 := by omega
/-- A room opened for a change of its bytes in place, and shut again. -/
theorem Rooms.win (h : Rooms w g D) (hk : D[k]? = some d) : ∃ P T, OwnG w g (k * 513) 73 P T d.length d.length d ∧ ∀ w' d', OwnG w' g (k * 513) 73 P T d.length d.length d' → Rooms w' g (D.set k d') := by
  obtain ⟨hb, hle⟩ := h.ok hk
  have hkl := (List.getElem?_eq_some_iff.1 hk).1
  obtain ⟨cs, h, hl, hh⟩ := h
  have hfit := fit_room hkl
  have hr := hh k d hk
  have hP : (cs.take (k * 513)).length = k * 513 := by rw [List.length_take]; omega
  have hget : ∀ (X : List Value) (j : Nat), X.length = d.length → (j < k * 513 ∨ k * 513 + d.length ≤ j) → (cs.take (k * 513) ++ (X ++ cs.drop (k * 513 + d.length)))[j]? = cs[j]? := fun X j hX hj => by
    rw [spl_get, hP, hX]
    rcases hj with hj | hj
    · rw [if_pos hj, List.getElem?_take, if_pos hj]
    · rw [if_neg (by omega), if_neg (by omega), List.getElem?_drop]; congr 1; omega
  have hin : ∀ (X : List Value) (i : Nat), X.length = d.length → i < d.length → (cs.take (k * 513) ++ (X ++ cs.drop (k * 513 + d.length)))[k * 513 + i]? = X[i]? := fun X i hX hi => by
    rw [spl_get, hP, hX, if_neg (by omega), if_pos (by omega)]; congr 1; omega
  refine ⟨cs.take (k * 513), cs.drop (k * 513 + d.length), ⟨rfl, hb, Nat.le_refl _, by unfold maxLen; omega, hP, ?_⟩, fun w' d' ho => ?_⟩
  · have e : cs = cs.take (k * 513) ++ (bcells d ++ cs.drop (k * 513 + d.length)) := by
      apply List.ext_getElem?
      intro j
      by_cases hj : j < k * 513 ∨ k * 513 + d.length ≤ j
      · rw [hget _ _ (bcells_length d) hj]
      · obtain ⟨i, rfl⟩ : ∃ i, j = k * 513 + i := ⟨j - k * 513, by omega⟩
        rw [hin _ i (bcells_length d) (by omega), bcells_getElem? d i (by omega)]
        exact hr.at_ i (by omega)
    unfold BlkG
    rw [← e]; exact h
  · obtain ⟨h1, h2, -, -, -, hw⟩ := ho
    refine ⟨_, hw, ?_, fun j x hj => ?_⟩
    · rw [List.length_append, List.length_append, bcells_length, h1, hP, List.length_drop, List.length_set]; omega
    · rw [List.getElem?_set] at hj
      by_cases e : k = j
      · subst e
        rw [if_pos rfl, if_pos hkl] at hj
        obtain rfl := Option.some.inj hj
        refine ⟨h2, by omega, fun i hi => ?_, ?_⟩
        · rw [hin _ i ((bcells_length d').trans h1) (by omega)]; exact bcells_getElem? d' i hi
        · rw [hget _ _ ((bcells_length d').trans h1) (by omega), h1]; exact hr.size
      · rw [if_neg e] at hj
        exact (hh j x hj).off (Ne.symm e) fun i hi => hget _ _ ((bcells_length d').trans h1) (by omega)
/-- Bytes copied into a room, and told how many. -/
theorem Rooms.copy (h : Rooms w g D) {B n c : Nat} {a : Option Addr} {xs : List Int} (ty : TypeId) (hk : D[k]? = some d) (hr : Rd w B a n xs) (hn : n ≤ 512) :
    ∃ w', (Builtin.copy_ #[36, 36] ty #[.slice (some ⟨g, k * 513, none⟩) 512 512, .slice a n c]).run Try.prog w = .ok (.int .i64 n) w' ∧ Upd (· = g) w w' ∧ (∃ u, w'.cell? ⟨g, k * 513 + 512, none⟩ = some u) ∧ w'.frozen? ⟨g, k * 513 + 512, none⟩ = false ∧ w'.heap.size = w.heap.size ∧ Rooms (w'.setCell ⟨g, k * 513 + 512, none⟩ (.int .i64 n)) g (D.set k xs) := by
  have hkl := (List.getElem?_eq_some_iff.1 hk).1
  obtain ⟨cs, h, hl, hh⟩ := h
  have hfit := fit_room hkl
  have hx := hr.1
  have hP : (cs.take (k * 513)).length = k * 513 := by rw [List.length_take]; omega
  have hrun : ∃ w', (Builtin.copy_ #[36, 36] ty #[.slice (some ⟨g, k * 513, none⟩) 512 512, .slice a n c]).run Try.prog w = .ok (.int .i64 n) w' ∧ Upd (· = g) w w' ∧ w'.heap.size = w.heap.size ∧ w'.heap[g]? = some (.cells (cs.take (k * 513) ++ (bcells xs ++ cs.drop (k * 513 + n))).toArray 73 (0, 0)) := by
    by_cases h0 : n = 0
    · subst h0
      obtain rfl : xs = [] := List.eq_nil_of_length_eq_zero hx
      refine ⟨w, run_copy_none w 36 36 ty 5 _ _ 512 512 0 c Try.underlying36 size5 (Nat.zero_min 512), Upd.refl _ _, rfl, ?_⟩
      rw [show bcells [] = [] from rfl, List.nil_append, Nat.add_zero, List.take_append_drop]; exact h
    · obtain ⟨ad, rfl, hsrc⟩ := hr.src (by rw [bcells_length, hx]; omega)
      have hrun := run_copy_row (P := Try.prog) w 36 36 ty 5 g (k * 513) 512 512 ad n c _ 73 (bcells xs) Try.underlying36 size5 h (by rw [bcells_length, hx]; exact (Nat.min_eq_left hn).symm) hsrc (by rw [bcells_length, hx, List.size_toArray]; omega) (oneCell_bcells xs)
      rw [show ((bcells xs).length : Int) = (n : Int) from by rw [bcells_length, hx]] at hrun
      refine ⟨_, hrun, ⟨⟨rfl, rfl, rfl, by simp, fun i hi => absurd hi (Nat.not_lt_zero i)⟩, fun i _ hi => setRow_other w g i _ hi⟩, by simp [World.setRow], ?_⟩
      rw [setRow_heap w g _ _ 73 _ h, bcells_length, hx, List.append_assoc]
  obtain ⟨w', e1, e2, e3, e4⟩ := hrun
  have hget : ∀ j, (j < k * 513 ∨ k * 513 + n ≤ j) → (cs.take (k * 513) ++ (bcells xs ++ cs.drop (k * 513 + n)))[j]? = cs[j]? := fun j hj => by
    rw [spl_get, hP, bcells_length, hx]
    rcases hj with hj | hj
    · rw [if_pos hj, List.getElem?_take, if_pos hj]
    · rw [if_neg (by omega), if_neg (by omega), List.getElem?_drop]; congr 1; omega
  have hin : ∀ i, i < n → (cs.take (k * 513) ++ (bcells xs ++ cs.drop (k * 513 + n)))[k * 513 + i]? = some (.int .u8 (xs.getD i 0)) := fun i hi => by
    rw [spl_get, hP, bcells_length, hx, if_neg (by omega), if_pos (by omega), show k * 513 + i - k * 513 = i from by omega]; exact bcells_getElem? xs i (by omega)
  have hlen : (cs.take (k * 513) ++ (bcells xs ++ cs.drop (k * 513 + n))).length = cs.length := by
    rw [List.length_append, List.length_append, bcells_length, hx, hP, List.length_drop]; omega
  generalize cs.take (k * 513) ++ (bcells xs ++ cs.drop (k * 513 + n)) = cs' at *
  refine ⟨w', e1, e2, ⟨cs'[k * 513 + 512]'(by omega), ?_⟩, frozen_of_row w' g _ _ _ e4, e3, ⟨cs'.set (k * 513 + 512) (.int .i64 n), ?_, by rw [List.length_set, List.length_set, hlen, hl], fun j x hj => ?_⟩⟩
  · rw [cell_of_row w' g _ _ _ _ e4, List.getElem?_toArray, List.getElem?_eq_getElem (by omega)]
  · have := heap_setCell_same w' g (k * 513 + 512) _ _ (.int .i64 n) e4
    rw [this, List.setIfInBounds_toArray]
  · rw [List.getElem?_set] at hj
    have hs : ∀ i, i ≠ k * 513 + 512 → (cs'.set (k * 513 + 512) (.int .i64 n))[i]? = cs'[i]? := fun i hi => by rw [List.getElem?_set, if_neg (Ne.symm hi)]
    by_cases e : k = j
    · subst e
      rw [if_pos rfl, if_pos hkl] at hj
      obtain rfl := Option.some.inj hj
      refine ⟨hr.2.1, by omega, fun i hi => ?_, ?_⟩
      · rw [hs _ (by omega)]; exact hin i (by omega)
      · rw [List.getElem?_set, if_pos rfl, if_pos (by omega), hx]
    · rw [if_neg e] at hj
      exact (hh j x hj).off (Ne.symm e) fun i hi => by rw [hs _ (by omega), hget _ (by omega)]
end
/-- The store at block b: its arena at ba and ga, its rooms at g. -/
structure Sto (w : World) (b ba ga g : Nat) (L : List Slt) (D : List (List Int)) : Prop where
  blk : w.heap[b]? = some (.cells #[.pointer (some ⟨ba, 0, none⟩), .slice (some ⟨g, 0, none⟩) L.length L.length] 65 (0, 0))
  ar : Ar w ba ga L
  rm : Rooms w g D
  len : D.length = L.length
section
variable {w w' : World} {b ba ga g k : Nat} {L : List Slt} {D : List (List Int)} {S : Nat → Prop}
theorem Sto.c0 (h : Sto w b ba ga g L D) : w.cell? ⟨b, 0, none⟩ = some (.pointer (some ⟨ba, 0, none⟩)) := by rw [cell_of_row w b 0 _ _ _ h.blk]; rfl
theorem Sto.c1 (h : Sto w b ba ga g L D) : w.cell? ⟨b, 1, none⟩ = some (.slice (some ⟨g, 0, none⟩) L.length L.length) := by rw [cell_of_row w b 1 _ _ _ h.blk]; rfl
theorem Sto.lt (h : Sto w b ba ga g L D) : b < w.heap.size ∧ ba < w.heap.size ∧ ga < w.heap.size ∧ g < w.heap.size := ⟨lt_of_some h.blk, h.ar.lt.1, h.ar.lt.2, h.rm.lt⟩
theorem Sto.ne (h : Sto w b ba ga g L D) : b ≠ ga ∧ b ≠ g ∧ ba ≠ g ∧ ga ≠ g := by
  obtain ⟨cs, hg, -⟩ := h.rm
  refine ⟨?_, ?_, ?_, ?_⟩
  · rintro rfl
    have := h.blk.symm.trans h.ar.row
    simp [Arn.rowO] at this
  · rintro rfl
    have := h.blk.symm.trans hg
    simp at this
  · rintro rfl
    have := h.ar.blk.symm.trans hg
    simp at this
  · rintro rfl
    have := Eq.trans (Eq.symm h.ar.row) hg
    simp [Arn.rowO] at this
theorem Sto.bel (h : Sto w b ba ga g L D) (hb : Below w.heap.size w w') : Sto w' b ba ga g L D := ⟨(hb.block b (lt_of_some h.blk)).trans h.blk, h.ar.bel hb, h.rm.bel hb h.rm.lt, h.len⟩
theorem Sto.upd (h : Sto w b ba ga g L D) (hu : Upd S w w') (hb : ¬ S b) (hba : ¬ S ba) (hga : ¬ S ga) (hg : ¬ S g) : Sto w' b ba ga g L D := ⟨hu.keep h.blk hb, h.ar.upd hu hba hga, h.rm.upd hu hg, h.len⟩
/-- Behind a call on its arena. -/
theorem Sto.slots (h : Sto w b ba ga g L D) {L' : List Slt} (ha : Ar w' ba ga L') (hu : Upd (· = ga) w w') (hl : L'.length = L.length) : Sto w' b ba ga g L' D :=
  ⟨by rw [hl]; exact hu.keep h.blk h.ne.1, ha, h.rm.upd hu (Ne.symm h.ne.2.2.2), by rw [hl]; exact h.len⟩
/-- Behind a change in its rooms. -/
theorem Sto.rooms (h : Sto w b ba ga g L D) {D' : List (List Int)} (hr : Rooms w' g D') (hu : Upd (· = g) w w') (hl : D'.length = D.length) : Sto w' b ba ga g L D' :=
  ⟨hu.keep h.blk h.ne.2.1, h.ar.upd hu h.ne.2.2.1 h.ne.2.2.2, hr, hl.trans h.len⟩
end
end Go.Proofs.Ytdnnfoacpjgloaa.Stv

namespace Go.Proofs.Ytdnnfoacpjgloaa.Stv
open Go.RowKit
open Arn (Slt Ar OkS Upd hnV hnO HBlk refsV callE keepL dropL freeN RetS liveB)
open Pat (OwnG BlkG)
set_option linter.unusedVariables false

set_option maxHeartbeats 4000000 in
theorem slots_of (w : World) (b ba ga g : Nat) (L : List Slt) (D : List (List Int)) (h : Sto w b ba ga g L D) :
    Calls Try.prog 31 #[.pointer (some ⟨b, 0, none⟩)] w fun e w' => e = .returned (.pointer (some ⟨ba, 0, none⟩)) ∧ w = w' := by
  have c := h.c0
  clear h
  go_enter Try.func31, Try.ntmps31
  go_wp2
  go_ret
  exact ⟨rfl, rfl⟩

set_option maxHeartbeats 4000000 in
theorem refs_st (w : World) (b ba ga g : Nat) (L : List Slt) (D : List (List Int)) (s gn M : Int) (h : Sto w b ba ga g L D) (hL : L.length ≤ 1024) (hO : OkS M L) :
    Calls Try.prog 21 #[.pointer (some ⟨b, 0, none⟩), hnV s gn] w fun e w' => e = .returned (.int .i64 (refsV L s gn)) ∧ Below w.heap.size w w' := by
  have hB := (Below.refl w.heap.size w).alloc (Nat.le_refl _) (hnO s gn)
  have hn := HBlk.new w s gn
  have h1 := h.bel hB
  generalize hw1 : w.alloc (hnO s gn) = w1 at hB hn h1
  have f0 : ∀ W, Below w1.heap.size w1 W → W.cell? ⟨w.heap.size, 0, none⟩ = some (.int .i64 s) := fun W hW => (hn.bel hW hn.lt).c0
  have f1 : ∀ W, Below w1.heap.size w1 W → W.cell? ⟨w.heap.size, 1, none⟩ = some (.int .u32 gn) := fun W hW => (hn.bel hW hn.lt).c1
  have CS : Hid (∀ W, Below w1.heap.size w1 W → Calls Try.prog 31 #[.pointer (some ⟨b, 0, none⟩)] W fun e w' => e = .returned (.pointer (some ⟨ba, 0, none⟩)) ∧ W = w') := fun W hW => slots_of W b ba ga g L D (h1.bel hW)
  have CR : Hid (∀ W, Below w1.heap.size w1 W → Calls Try.prog 40 #[.pointer (some ⟨ba, 0, none⟩), hnV s gn] W fun e w' => e = .returned (.int .i64 (refsV L s gn)) ∧ Below W.heap.size W w') := fun W hW => Arn.refs_any W ba ga L s gn M (h1.bel hW).ar hL hO
  have hS : Below w1.heap.size w1 w1.drew := (Below.refl _ _).drew
  have HB := Lib.hid hB
  clear hB hn h1 h
  go_enter Try.func21, Try.ntmps21
  go_wp2_with fail
  refine region_seq (Below w1.heap.size w1) [(0, false), (2, false), (1, true), (3, true), (4, false)] (by kernel_rfl) (by kernel_rfl) rfl (by kernel_rfl) ?_
  iterate 2 (refine seq_read (v := _) rfl (fun _ _ _ h => h) hS (Or.inl ⟨by rfl, fun W hW => by go_simp <;> with_reducible rfl⟩) ?_; simp only [Act.put, List.setIfInBounds_toArray, List.set_cons_zero, List.set_cons_succ])
  refine seq_do rfl (fun K hK => ?_)
  go_simp
  refine (CS.out _ hS).mono ?_
  rintro e w2 ⟨rfl, rfl⟩
  refine hK.out _ _ _ (fun W h => h) hS ?_
  clear hK K CS
  refine seq_do rfl (fun K hK => ?_)
  go_simp
  refine (CR.out _ hS).mono ?_
  rintro e w2 ⟨rfl, hb2⟩
  have hS2 : Below w1.heap.size w1 w2 := hS.trans (hb2.mono hS.size)
  clear hS
  have hS := hS2
  refine hK.out _ _ _ (fun W h => h) hS ?_
  clear hK K CR hb2 hS2
  iterate 1 (refine seq_read (v := _) rfl (fun _ _ _ h => h) hS (Or.inl ⟨by rfl, fun W hW => by go_simp <;> with_reducible rfl⟩) ?_; simp only [Act.put, List.setIfInBounds_toArray, List.set_cons_zero, List.set_cons_succ])
  refine seq_end ?_
  go_wp2_with fail
  go_ret
  exact ⟨rfl, HB.out.trans (hS.mono HB.out.size)⟩

set_option maxHeartbeats 4000000 in
theorem keep_st (w : World) (b ba ga g : Nat) (L : List Slt) (D : List (List Int)) (s gn M : Int) (h : Sto w b ba ga g L D) (hL : L.length ≤ 1024) (hO : OkS M L) (hM : M ≤ 4611686018427387904) :
    Calls Try.prog 13 #[.pointer (some ⟨b, 0, none⟩), hnV s gn] w fun e w' => e = .returned (.int .i64 (callE L s gn)) ∧ Sto w' b ba ga g (keepL L s gn) D ∧ Upd (· = ga) w w' := by
  have hB := (Below.refl w.heap.size w).alloc (Nat.le_refl _) (hnO s gn)
  have hn := HBlk.new w s gn
  have h1 := h.bel hB
  generalize hw1 : w.alloc (hnO s gn) = w1 at hB hn h1
  have f0 : ∀ W, HBlk W w.heap.size s gn → W.cell? ⟨w.heap.size, 0, none⟩ = some (.int .i64 s) := fun W h => h.c0
  have f1 : ∀ W, HBlk W w.heap.size s gn → W.cell? ⟨w.heap.size, 1, none⟩ = some (.int .u32 gn) := fun W h => h.c1
  have CS : Hid (∀ W, Below w1.heap.size w1 W → Calls Try.prog 31 #[.pointer (some ⟨b, 0, none⟩)] W fun e w' => e = .returned (.pointer (some ⟨ba, 0, none⟩)) ∧ W = w') := fun W hW => slots_of W b ba ga g L D (h1.bel hW)
  have CR : Hid (∀ W, Below w1.heap.size w1 W → Calls Try.prog 34 #[.pointer (some ⟨ba, 0, none⟩), hnV s gn] W fun e w' => e = .returned (.int .i64 (callE L s gn)) ∧ Ar w' ba ga (keepL L s gn) ∧ Upd (· = ga) W w') := fun W hW => Arn.keep_any W ba ga L s gn M (h1.bel hW).ar hL hO hM
  have hS : HBlk w1.drew w.heap.size s gn := hn
  have HR := Lib.hid (Below.refl w1.heap.size w1).drew
  have HG := Lib.hid (show w.heap.size ≠ ga from by have := h.lt; omega)
  have HB := Lib.hid hB
  have H1 := Lib.hid h1
  have HL := Lib.hid (Arn.keepL_len L s gn)
  generalize keepL L s gn = L' at CR HL ⊢
  clear hB hn h1 h
  go_enter Try.func13, Try.ntmps13
  go_wp2_with fail
  refine region_seq (fun W => HBlk W w.heap.size s gn) [(0, false), (2, false), (1, true), (3, true), (4, false)] (by kernel_rfl) (by kernel_rfl) rfl (by kernel_rfl) ?_
  iterate 2 (refine seq_read (v := _) rfl (fun _ _ _ h => h) hS (Or.inl ⟨by rfl, fun W hW => by go_simp <;> with_reducible rfl⟩) ?_; simp only [Act.put, List.setIfInBounds_toArray, List.set_cons_zero, List.set_cons_succ])
  refine seq_do rfl (fun K hK => ?_)
  go_simp
  refine (CS.out _ HR.out).mono ?_
  rintro e w2 ⟨rfl, rfl⟩
  refine hK.out _ _ _ (fun W h => h) hS ?_
  clear hK K CS
  refine seq_do rfl (fun K hK => ?_)
  go_simp
  refine (CR.out _ HR.out).mono ?_
  rintro e w2 ⟨rfl, ha, hu⟩
  have H2 : Hid (Sto w2 b ba ga g L' D ∧ Upd (· = ga) w w2) := ⟨(H1.out.bel HR.out).slots ha hu HL.out, (Upd.of (HB.out.trans (HR.out.mono HB.out.size))).trans hu⟩
  have hS2 : HBlk w2 w.heap.size s gn := hS.upd hu HG.out
  clear hS
  have hS := hS2
  clear hS2
  refine hK.out _ _ _ (fun W h => h) hS ?_
  clear hK K CR ha hu
  iterate 1 (refine seq_read (v := _) rfl (fun _ _ _ h => h) hS (Or.inl ⟨by rfl, fun W hW => by go_simp <;> with_reducible rfl⟩) ?_; simp only [Act.put, List.setIfInBounds_toArray, List.set_cons_zero, List.set_cons_succ])
  refine seq_end ?_
  go_wp2_with fail
  go_ret
  exact ⟨rfl, H2.out⟩

set_option maxHeartbeats 4000000 in
theorem drop_st (w : World) (b ba ga g : Nat) (L : List Slt) (D : List (List Int)) (s gn M : Int) (h : Sto w b ba ga g L D) (hL : L.length ≤ 1024) (hO : OkS M L) (hM : M ≤ 4611686018427387904) :
    Calls Try.prog 15 #[.pointer (some ⟨b, 0, none⟩), hnV s gn] w fun e w' => e = .returned (.int .i64 (callE L s gn)) ∧ Sto w' b ba ga g (dropL L s gn) D ∧ Upd (· = ga) w w' := by
  have hB := (Below.refl w.heap.size w).alloc (Nat.le_refl _) (hnO s gn)
  have hn := HBlk.new w s gn
  have h1 := h.bel hB
  generalize hw1 : w.alloc (hnO s gn) = w1 at hB hn h1
  have f0 : ∀ W, HBlk W w.heap.size s gn → W.cell? ⟨w.heap.size, 0, none⟩ = some (.int .i64 s) := fun W h => h.c0
  have f1 : ∀ W, HBlk W w.heap.size s gn → W.cell? ⟨w.heap.size, 1, none⟩ = some (.int .u32 gn) := fun W h => h.c1
  have CS : Hid (∀ W, Below w1.heap.size w1 W → Calls Try.prog 31 #[.pointer (some ⟨b, 0, none⟩)] W fun e w' => e = .returned (.pointer (some ⟨ba, 0, none⟩)) ∧ W = w') := fun W hW => slots_of W b ba ga g L D (h1.bel hW)
  have CR : Hid (∀ W, Below w1.heap.size w1 W → Calls Try.prog 36 #[.pointer (some ⟨ba, 0, none⟩), hnV s gn] W fun e w' => e = .returned (.int .i64 (callE L s gn)) ∧ Ar w' ba ga (dropL L s gn) ∧ Upd (· = ga) W w') := fun W hW => Arn.drop_any W ba ga L s gn M (h1.bel hW).ar hL hO hM
  have hS : HBlk w1.drew w.heap.size s gn := hn
  have HR := Lib.hid (Below.refl w1.heap.size w1).drew
  have HG := Lib.hid (show w.heap.size ≠ ga from by have := h.lt; omega)
  have HB := Lib.hid hB
  have H1 := Lib.hid h1
  have HL := Lib.hid (Arn.dropL_len L s gn)
  generalize dropL L s gn = L' at CR HL ⊢
  clear hB hn h1 h
  go_enter Try.func15, Try.ntmps15
  go_wp2_with fail
  refine region_seq (fun W => HBlk W w.heap.size s gn) [(0, false), (2, false), (1, true), (3, true), (4, false)] (by kernel_rfl) (by kernel_rfl) rfl (by kernel_rfl) ?_
  iterate 2 (refine seq_read (v := _) rfl (fun _ _ _ h => h) hS (Or.inl ⟨by rfl, fun W hW => by go_simp <;> with_reducible rfl⟩) ?_; simp only [Act.put, List.setIfInBounds_toArray, List.set_cons_zero, List.set_cons_succ])
  refine seq_do rfl (fun K hK => ?_)
  go_simp
  refine (CS.out _ HR.out).mono ?_
  rintro e w2 ⟨rfl, rfl⟩
  refine hK.out _ _ _ (fun W h => h) hS ?_
  clear hK K CS
  refine seq_do rfl (fun K hK => ?_)
  go_simp
  refine (CR.out _ HR.out).mono ?_
  rintro e w2 ⟨rfl, ha, hu⟩
  have H2 : Hid (Sto w2 b ba ga g L' D ∧ Upd (· = ga) w w2) := ⟨(H1.out.bel HR.out).slots ha hu HL.out, (Upd.of (HB.out.trans (HR.out.mono HB.out.size))).trans hu⟩
  have hS2 : HBlk w2 w.heap.size s gn := hS.upd hu HG.out
  clear hS
  have hS := hS2
  clear hS2
  refine hK.out _ _ _ (fun W h => h) hS ?_
  clear hK K CR ha hu
  iterate 1 (refine seq_read (v := _) rfl (fun _ _ _ h => h) hS (Or.inl ⟨by rfl, fun W hW => by go_simp <;> with_reducible rfl⟩) ?_; simp only [Act.put, List.setIfInBounds_toArray, List.set_cons_zero, List.set_cons_succ])
  refine seq_end ?_
  go_wp2_with fail
  go_ret
  exact ⟨rfl, H2.out⟩

set_option maxHeartbeats 4000000 in
theorem free_st (w : World) (b ba ga g : Nat) (L : List Slt) (D : List (List Int)) (h : Sto w b ba ga g L D) (hL : L.length ≤ 1024) :
    Calls Try.prog 23 #[.pointer (some ⟨b, 0, none⟩)] w fun e w' => e = .returned (.int .i64 (freeN L)) ∧ Below w.heap.size w w' := by
  have CS : Hid (Calls Try.prog 31 #[.pointer (some ⟨b, 0, none⟩)] w fun e w' => e = .returned (.pointer (some ⟨ba, 0, none⟩)) ∧ w = w') := slots_of w b ba ga g L D h
  have CF : Hid (Calls Try.prog 30 #[.pointer (some ⟨ba, 0, none⟩)] w fun e w' => e = .returned (.int .i64 (freeN L)) ∧ Below w.heap.size w w') := Arn.free_any w ba ga L h.ar hL
  clear h
  go_enter Try.func23, Try.ntmps23
  go_wp2_with fail
  refine CS.out.mono ?_
  rintro e w2 ⟨rfl, rfl⟩
  clear CS
  go_wp2_with fail
  refine CF.out.mono ?_
  rintro e w2 ⟨rfl, hb⟩
  clear CF
  go_wp2
  go_ret
  exact ⟨rfl, hb⟩
set_option maxHeartbeats 4000000 in
theorem slots_st (w : World) (b ba ga g : Nat) (L : List Slt) (D : List (List Int)) (h : Sto w b ba ga g L D) (hL : L.length ≤ 1024) :
    Calls Try.prog 26 #[.pointer (some ⟨b, 0, none⟩)] w (RetS w L) := by
  have CS : Hid (Calls Try.prog 31 #[.pointer (some ⟨b, 0, none⟩)] w fun e w' => e = .returned (.pointer (some ⟨ba, 0, none⟩)) ∧ w = w') := slots_of w b ba ga g L D h
  have CF : Hid (Calls Try.prog 41 #[.pointer (some ⟨ba, 0, none⟩)] w (RetS w L)) := Arn.slots_any w ba ga L h.ar hL
  clear h
  go_enter Try.func26, Try.ntmps26
  go_wp2_with fail
  refine CS.out.mono ?_
  rintro e w2 ⟨rfl, rfl⟩
  clear CS
  go_wp2_with fail
  refine CF.out.mono ?_
  rintro e w2 ⟨A, c, rfl, hb⟩
  clear CF
  have HB := Lib.hid hb
  clear hb
  go_wp2
  go_ret
  exact ⟨A, c, rfl, HB.out⟩

set_option maxHeartbeats 4000000 in
/-- The bytes of a slot, where they stand. -/
theorem inPlace_st (w : World) (b ba ga g k : Nat) (L : List Slt) (D : List (List Int)) (d : List Int) (gn : Int) (h : Sto w b ba ga g L D) (hk : D[k]? = some d) (hL : L.length ≤ 1024) :
    Calls Try.prog 38 #[.pointer (some ⟨b, 0, none⟩), hnV k gn] w fun e w' => e = .returned (.slice (some ⟨g, k * 513, none⟩) d.length d.length) ∧ Below w.heap.size w w' := by
  have hkl : k < L.length := by have := (List.getElem?_eq_some_iff.1 hk).1; rw [h.len] at this; exact this
  have hle := (h.rm.ok hk).2
  have hB := (Below.refl w.heap.size w).alloc (Nat.le_refl _) (hnO k gn)
  have hn := HBlk.new w k gn
  have h1 := h.bel hB
  generalize hw1 : w.alloc (hnO k gn) = w1 at hB hn h1
  obtain ⟨n, hdn⟩ : ∃ n, d.length = n := ⟨_, rfl⟩
  obtain ⟨N, hN⟩ : ∃ N, L.length = N := ⟨_, rfl⟩
  have f0 : ∀ W, Below w1.heap.size w1 W → W.cell? ⟨w.heap.size, 0, none⟩ = some (.int .i64 (k : Int)) := fun W hW => (hn.bel hW hn.lt).c0
  have fb : ∀ W, Below w1.heap.size w1 W → W.cell? ⟨b, 1, none⟩ = some (.slice (some ⟨g, 0, none⟩) N N) := fun W hW => by rw [← hN]; exact (h1.bel hW).c1
  have fs : ∀ W, Below w1.heap.size w1 W → W.cell? ⟨g, k * 513 + 512, none⟩ = some (.int .i64 n) := fun W hW => by rw [← hdn]; exact (h1.bel hW).rm.size hk
  have hS : Below w1.heap.size w1 w1.drew := (Below.refl _ _).drew
  have HB := Lib.hid hB
  rw [hN] at hkl
  rw [hdn] at hle ⊢
  have q1 : decide (N ≤ k) = false := by simp; omega
  have qs : ∀ W, (Instr.sliceAt 71 (.pointer (some ⟨g, k * 513, none⟩)) none (some (.int .i64 (n : Int))) (some (.int .i64 (n : Int)))).run Try.prog W = .ok (.slice (some ⟨g, k * 513, none⟩) n n) W := fun W => by
    have e := run_sliceAt_array_hm (P := Try.prog) W 71 ⟨g, k * 513, none⟩ Try.underlying71 .i64 .i64 (n : Int) (n : Int) (by omega) (by omega) (by rw [show Try.prog.arrayLen 71 = 512 from by kernel_rfl]; omega)
    obtain ⟨i0, hi0, hz0, hz1, hz2⟩ := info_parts info5
    rw [e, show Try.prog.elem 71 = 5 from rfl]
    simp [sizeOf, typeInfo, hi0, slicedAt, plain_add]
  clear hB hn h1 h hk hdn hN
  go_enter Try.func38, Try.ntmps38
  go_wp2_with fail
  refine region_seq (Below w1.heap.size w1) [(0, false), (1, false), (2, false), (3, false), (4, false), (5, false), (6, false), (7, false)] (by kernel_rfl) (by kernel_rfl) rfl (by kernel_rfl) ?_
  iterate 8 (refine seq_read (v := _) rfl (fun _ _ _ h => h) hS (Or.inl ⟨by rfl, fun W hW => by go_simp <;> with_reducible rfl⟩) ?_; simp only [Act.put, List.setIfInBounds_toArray, List.set_cons_zero, List.set_cons_succ])
  refine seq_end ?_
  go_wp2_with fail
  have hS := hS.drew
  refine region_seq (Below w1.heap.size w1) [(0, false), (1, false), (2, false), (3, false), (4, false), (5, false), (6, false), (7, false), (8, false), (9, false), (10, false), (11, false), (12, false)] (by kernel_rfl) (by kernel_rfl) rfl (by kernel_rfl) ?_
  iterate 13 (refine seq_read (v := _) rfl (fun _ _ _ h => h) hS (Or.inl ⟨by rfl, fun W hW => by go_simp <;> with_reducible rfl⟩) ?_; simp only [Act.put, List.setIfInBounds_toArray, List.set_cons_zero, List.set_cons_succ])
  refine seq_end ?_
  go_wp2_with fail
  go_ret
  exact ⟨rfl, HB.out.trans (hS.mono HB.out.size)⟩
end Go.Proofs.Ytdnnfoacpjgloaa.Stv

namespace Go.Proofs.Ytdnnfoacpjgloaa.Stv
open Go.RowKit
open Arn (Slt Ar OkS Upd hnV hnO HBlk refsV callE keepL dropL freeN RetS liveB live_cases refsV_at refsV_no newL RetA)
open Pat (OwnG BlkG hasD applyL pch QBlk PF WroteG At)
set_option linter.unusedVariables false

theorem info_room : (Try.prog.info? 73).map (fun i => (i.zero, i.size, i.bytes)) = some (some (.agg ((List.replicate 512 (Value.int .u8 0)) ++ [Value.int .i64 0]).toArray), 513, 520) := by kernel_rfl
theorem made_rooms (n k : Nat) (h : k < n) : (madeCells ((List.replicate 512 (Value.int .u8 0)) ++ [Value.int .i64 0]).toArray (n * 513)).toList[k * 513 + 512]? = some (.int .i64 0) := by
  have hs : (((List.replicate 512 (Value.int .u8 0)) ++ [Value.int .i64 0]).toArray).size = 513 := by simp
  have hj : k * 513 + 512 < n * 513 := by omega
  rw [Array.getElem?_toList, Array.getElem?_eq_getElem (by rw [size_madeCells]; exact hj)]
  simp only [madeCells, Array.getElem_map, Array.getElem_range, hs]
  rw [show (k * 513 + 512) % 513 = 512 from by omega]
  rw [getElem!_pos _ 512 (by rw [hs]; decide)]
  simp
/-- make of a row of rooms: each has no bytes. -/
theorem make_rooms (n : Nat) (hn : n ≤ 1024) (W : World) :
    ∃ W', (Instr.makeSlice 63 (.int .i64 n) (.int .i64 n)).run Try.prog W = .ok (.slice (some ⟨W.heap.size, 0, none⟩) n n) W' ∧ Rooms W' W.heap.size (List.replicate n []) ∧ Below W.heap.size W W' := by
  obtain ⟨i0, hi0, hz0, hz1, hz2⟩ := info_parts info_room
  have := run_make (P := Try.prog) W 63 73 i0 _ Try.underlying63 hi0 hz0 .i64 .i64 n n (by omega) (Int.le_refl _) (by rw [hz2]; omega) (by omega)
  rw [hz1, show (Value.agg ((List.replicate 512 (Value.int .u8 0)) ++ [Value.int .i64 0]).toArray).cells = ((List.replicate 512 (Value.int .u8 0)) ++ [Value.int .i64 0]).toArray from rfl, Int.toNat_natCast] at this
  refine ⟨_, this, ⟨(madeCells ((List.replicate 512 (Value.int .u8 0)) ++ [Value.int .i64 0]).toArray (n * 513)).toList, ?_, ?_, fun k d hd => ?_⟩, (Below.refl _ _).alloc (Nat.le_refl _) _⟩
  · rw [Array.toArray_toList]; exact heap_alloc_new W _
  · rw [Array.length_toList, size_madeCells, List.length_replicate]
  · rw [List.getElem?_replicate] at hd
    split at hd
    · rename_i hk
      obtain rfl := Option.some.inj hd
      exact ⟨Bytes.nil, by simp, fun i hi => absurd hi (Nat.not_lt_zero i), made_rooms n k hk⟩
    · cases hd

/-- A new store. -/
def RetSto (w : World) (n : Int) (e : Ending) (w' : World) : Prop := ∃ b ba ga g, e = .returned (.pointer (some ⟨b, 0, none⟩)) ∧ Sto w' b ba ga g (newL n) (List.replicate (newL n).length []) ∧ w.heap.size ≤ b ∧ w.heap.size ≤ ba ∧ w.heap.size ≤ ga ∧ w.heap.size ≤ g ∧ Below w.heap.size w w'
set_option maxHeartbeats 4000000 in
theorem new_st (w : World) (n : Int) (hw1 : -9223372036854775808 ≤ n) (hw2 : n ≤ 9223372036854775807) : Calls Try.prog 8 #[.int .i64 n] w (RetSto w n) := by
  have CN : Hid (Calls Try.prog 29 #[.int .i64 n] w (RetA w n)) := Arn.new_any w n hw1 hw2
  have hl : (newL n).length ≤ 1024 := by have := Arn.newL_len n; omega
  have CF : Hid (∀ W ba ga, Ar W ba ga (newL n) → Calls Try.prog 30 #[.pointer (some ⟨ba, 0, none⟩)] W fun e w' => e = .returned (.int .i64 (newL n).length) ∧ Below W.heap.size W w') := fun W ba ga h => by
    have := Arn.free_any W ba ga (newL n) h hl
    rw [Arn.newL_free] at this
    exact this
  have HM : Hid (∀ W, ∃ W', (Instr.makeSlice 63 (.int .i64 (newL n).length) (.int .i64 (newL n).length)).run Try.prog W = .ok (.slice (some ⟨W.heap.size, 0, none⟩) (newL n).length (newL n).length) W' ∧ Rooms W' W.heap.size (List.replicate (newL n).length []) ∧ Below W.heap.size W W') := fun W => make_rooms (newL n).length hl W
  obtain ⟨N, hN⟩ : ∃ N, (newL n).length = N := ⟨_, rfl⟩
  rw [hN] at CF HM
  have HN := Lib.hid hN
  clear hl hN
  go_enter Try.func8, Try.ntmps8
  go_wp2_with fail
  refine CN.out.mono ?_
  rintro e w1 ⟨ba, ga, rfl, hA, hb, hg, hB⟩
  have HA := Lib.hid hA
  have HB := Lib.hid hB
  have HG := Lib.hid (And.intro hb hg)
  clear hA hB hb hg CN
  go_wp2_with fail
  refine (CF.out w1 ba ga HA.out).mono ?_
  rintro e w2 ⟨rfl, hb2⟩
  obtain ⟨w3, hmk, hr, hb3⟩ := HM.out w2
  have HA3 := Lib.hid ((HA.out.bel hb2).bel hb3)
  have HR3 := Lib.hid hr
  have HB2 := Lib.hid (HB.out.trans (hb2.mono HB.out.size))
  have HB3 := Lib.hid (HB2.out.trans (hb3.mono HB2.out.size))
  clear hb2 hb3 hr HM CF
  go_wp2_with fail
  go_ret
  refine ⟨_, ba, ga, _, rfl, ⟨?_, HA3.out.bel ((Below.refl _ _).alloc (Nat.le_refl _) _), ?_, by rw [List.length_replicate]⟩, HB3.out.size, HG.out.1, HG.out.2, HB2.out.size, HB3.out.alloc HB3.out.size _⟩
  · rw [HN.out]; exact heap_alloc_new w3 _
  · rw [HN.out]; exact HR3.out.bel ((Below.refl _ _).alloc (Nat.le_refl _) _) HR3.out.lt

theorem bytes_nil_eq (a : Addr) (n c : Nat) (W : World) : (binOp .eql 36 (.slice (some a) n c) (.slice none 0 0)).run Try.prog W = .ok (.bool false) W := Lib.run_eql_slice_nil W _ _ _ _ _ _ _ Try.underlying36
set_option maxHeartbeats 4000000 in
theorem bclone_any (w : World) (ad : Addr) (n c B : Nat) (xs : List Int) (hr : Rd w B (some ad) n xs) (hB : B ≤ w.heap.size) (hn : n ≤ 512) :
    Calls Try.prog 39 #[.slice (some ad) n c] w (NewRow w xs) := by
  have fin0 : Hid (∀ A c w1, Own w1 w.heap.size A n c xs → Below w.heap.size w w1 → NewRow w xs (.returned (.slice A n c)) w1) := by
    intro A c w1 ho hb
    obtain rfl := hr.1
    exact ⟨A, c, rfl, ho, hb⟩
  have qe := bytes_nil_eq ad n c
  have HE := Lib.hid ((Below.refl w.heap.size w).alloc (Nat.le_refl _) (.cells #[] 5 (0, 0)))
  have R2 := Lib.hid ((hr.more hB).below HE.out)
  have O2 : Hid (Own (w.alloc (.cells #[] 5 (0, 0))) w.heap.size (some ⟨w.heap.size, 0, none⟩) 0 0 []) := Own.of_blk (alloc_blk w []) (Nat.le_refl _) Bytes.nil rfl (by decide)
  clear hr
  go_enter Try.func39, Try.ntmps39
  go_wp2_with (at_builtin; refine wpList_append_bytes rfl (.tmp 5) (.tmp 6) rfl w.heap.size _ 0 0 n c n _ _ [] xs xs (Nat.zero_add _) rfl rfl rfl O2.out R2.out (by simp) (by omega) ?_
               intro A c w1 ho hb)
  go_ret
  exact fin0.out A c w1 ho (HE.out.trans hb)

def bytesV (L : List Slt) (D : List (List Int)) (s g : Int) : List Int := if liveB L s g then D.getD s.toNat [] else []
theorem getD_of' {D : List (List Int)} {k : Nat} {d : List Int} (h : D[k]? = some d) : D.getD k [] = d := by rw [List.getD_eq_getElem?_getD, h]; rfl
theorem room_of {D : List (List Int)} {L : List Slt} {k : Nat} {x : Slt} (hl : D.length = L.length) (h : L[k]? = some x) : ∃ d, D[k]? = some d :=
  ⟨_, List.getElem?_eq_getElem (by rw [hl]; exact (List.getElem?_eq_some_iff.1 h).1)⟩
set_option maxHeartbeats 4000000 in
theorem bytes_st (w : World) (b ba ga g : Nat) (L : List Slt) (D : List (List Int)) (s gn M : Int) (h : Sto w b ba ga g L D) (hL : L.length ≤ 1024) (hO : OkS M L) :
    Calls Try.prog 19 #[.pointer (some ⟨b, 0, none⟩), hnV s gn] w (Rtp.RetR w (bytesV L D s gn) (callE L s gn)) := by
  have CR : Hid (∀ W, Below w.heap.size w W → Calls Try.prog 21 #[.pointer (some ⟨b, 0, none⟩), hnV s gn] W fun e w' => e = .returned (.int .i64 (refsV L s gn)) ∧ Below W.heap.size W w') := fun W hW => refs_st W b ba ga g L D s gn M (h.bel hW) hL hO
  have hB := (Below.refl w.heap.size w).alloc (Nat.le_refl _) (hnO s gn)
  have hD := HBlk.new w s gn
  have hne : w.heap.size ≠ b := by have := h.lt; omega
  generalize hw1 : w.alloc (hnO s gn) = w1 at hB hD
  have c0 := hD.c0
  have c1 := hD.c1
  have HB := Lib.hid hB
  have HD := Lib.hid hD
  have H := Lib.hid h
  clear hB hD h
  rcases live_cases L s gn with hl | ⟨k, x, rfl, hx, hp, rfl, hl⟩
  · rw [refsV_no hl] at CR
    rw [bytesV, hl, if_neg (by decide), Arn.callE_no hl]
    clear hl
    go_enter Try.func19, Try.ntmps19
    go_wp2_with fail
    refine (CR.out _ HB.out).mono ?_
    rintro e w2 ⟨rfl, hb2⟩
    have H2 := Lib.hid (HB.out.trans (hb2.mono HB.out.size))
    clear hb2 CR
    go_wp2_with fail
    go_ret2
    exact ⟨none, 0, rfl, Own.nil _ _, H2.out⟩
  · obtain ⟨d, hd⟩ := room_of H.out.len hx
    have CI : Hid (∀ W, Below w.heap.size w W → Calls Try.prog 38 #[.pointer (some ⟨b, 0, none⟩), hnV k x.1] W fun e w' => e = .returned (.slice (some ⟨g, k * 513, none⟩) d.length d.length) ∧ Below W.heap.size W w') := fun W hW => inPlace_st W b ba ga g k L D d x.1 (H.out.bel hW) hd hL
    have CC : Hid (∀ W, Below w.heap.size w W → Calls Try.prog 39 #[.slice (some ⟨g, k * 513, none⟩) d.length d.length] W (NewRow W d)) := fun W hW => bclone_any W _ d.length d.length W.heap.size d ((H.out.bel hW).rm.rd hd) (Nat.le_refl _) (H.out.rm.ok hd).2
    rw [refsV_at hx hl] at CR
    rw [bytesV, hl, if_pos rfl, Int.toNat_natCast, getD_of' hd, Arn.callE_yes hl]
    have q : (x.2 == 0) = false := by simp; omega
    clear hl hp
    go_enter Try.func19, Try.ntmps19
    go_wp2_with fail
    refine (CR.out _ HB.out).mono ?_
    rintro e w2 ⟨rfl, hb2⟩
    have H2 := Lib.hid (HB.out.trans (hb2.mono HB.out.size))
    have HD2 := Lib.hid (HD.out.bel hb2 HD.out.lt)
    clear hb2 CR c0 c1
    have c0 := HD2.out.c0
    have c1 := HD2.out.c1
    go_wp2_with fail
    refine (CI.out _ H2.out).mono ?_
    rintro e w3 ⟨rfl, hb3⟩
    have H3 := Lib.hid (H2.out.trans (hb3.mono H2.out.size))
    clear hb3 CI c0 c1
    go_wp2_with fail
    refine (CC.out _ H3.out).mono ?_
    rintro e w4 ⟨A, c, rfl, ho, hb4⟩
    have H4 := Lib.hid (And.intro (show Own w4 w.heap.size A d.length c d from ho.lower H3.out.size) (H3.out.trans (hb4.mono H3.out.size)))
    clear ho hb4 CC
    go_wp2_with fail
    go_ret2
    exact ⟨A, c, rfl, H4.out.1, H4.out.2⟩

def patchE (L : List Slt) (D : List (List Int)) (s g : Int) : Int := if liveB L s g then (if refsV L s g = 1 then (if hasD (D.getD s.toNat []) then 0 else 1) else 11) else 7
def patchD (L : List Slt) (D : List (List Int)) (s g q t r f : Int) : List (List Int) := if liveB L s g ∧ refsV L s g = 1 then D.set s.toNat (applyL (D.getD s.toNat []) q t r f) else D
theorem patchD_len (L : List Slt) (D : List (List Int)) (s g q t r f : Int) : (patchD L D s g q t r f).length = D.length := by unfold patchD; split <;> simp
set_option maxHeartbeats 4000000 in
theorem patch_st (w : World) (b ba ga g : Nat) (L : List Slt) (D : List (List Int)) (s gn M q t r f : Int) (h : Sto w b ba ga g L D) (hL : L.length ≤ 1024) (hO : OkS M L) (hp : PF q t r f) :
    Calls Try.prog 17 #[.pointer (some ⟨b, 0, none⟩), hnV s gn, pch q t r f] w fun e w' => e = .returned (.int .i64 (patchE L D s gn)) ∧ Sto w' b ba ga g L (patchD L D s gn q t r f) ∧ Upd (· = g) w w' := by
  have CR : Hid (∀ W, Below w.heap.size w W → Calls Try.prog 21 #[.pointer (some ⟨b, 0, none⟩), hnV s gn] W fun e w' => e = .returned (.int .i64 (refsV L s gn)) ∧ Below W.heap.size W w') := fun W hW => refs_st W b ba ga g L D s gn M (h.bel hW) hL hO
  have hB1 := (Below.refl w.heap.size w).alloc (Nat.le_refl _) (hnO s gn)
  have hB := hB1.alloc hB1.size (.cells #[.int .u16 q, .int .u32 t, .int .u32 r, .int .u16 f] 35)
  have hD := (HBlk.new w s gn).bel ((Below.refl (w.alloc (hnO s gn)).heap.size _).alloc (Nat.le_refl _) (.cells #[.int .u16 q, .int .u32 t, .int .u32 r, .int .u16 f] 35)) (by simp)
  have hQ := QBlk.new (w.alloc (hnO s gn)) q t r f
  rw [show (w.alloc (hnO s gn)).heap.size = w.heap.size + 1 from by simp] at hQ
  have hg := h.lt
  generalize hw1 : (w.alloc (hnO s gn)).alloc (.cells #[.int .u16 q, .int .u32 t, .int .u32 r, .int .u16 f] 35) = w1 at hB hD hQ
  have c0 := hD.c0
  have c1 := hD.c1
  have HB := Lib.hid hB
  have HD := Lib.hid hD
  have HQ := Lib.hid hQ
  have H := Lib.hid h
  have HG := Lib.hid hg
  clear hB hD h hB1 hQ hg
  rcases live_cases L s gn with hl | ⟨k, x, rfl, hx, hp0, rfl, hl⟩
  · rw [refsV_no hl] at CR
    rw [patchE, patchD, hl, if_neg (by decide), if_neg (by simp)]
    clear hl
    go_enter Try.func17, Try.ntmps17
    go_wp2_with fail
    refine (CR.out _ HB.out).mono ?_
    rintro e w2 ⟨rfl, hb2⟩
    have H2 := Lib.hid (HB.out.trans (hb2.mono HB.out.size))
    clear hb2 CR
    go_wp2_with fail
    go_ret
    exact ⟨rfl, H.out.bel H2.out, .of H2.out⟩
  · obtain ⟨d, hd⟩ := room_of H.out.len hx
    rw [refsV_at hx hl] at CR
    rw [patchE, patchD, hl, if_pos rfl, Int.toNat_natCast, getD_of' hd, refsV_at hx hl]
    have q0 : (x.2 == 0) = false := by simp; omega
    by_cases h1 : x.2 = 1
    · have CI : Hid (∀ W, Below w.heap.size w W → Calls Try.prog 38 #[.pointer (some ⟨b, 0, none⟩), hnV k x.1] W fun e w' => e = .returned (.slice (some ⟨g, k * 513, none⟩) d.length d.length) ∧ Below W.heap.size W w') := fun W hW => inPlace_st W b ba ga g k L D d x.1 (H.out.bel hW) hd hL
      have CA : Hid (∀ W, Below w.heap.size w W → Calls Try.prog 37 #[.slice (some ⟨g, k * 513, none⟩) d.length d.length, pch q t r f] W fun e w' => e = .returned (.bool (hasD d)) ∧ Rooms w' g (D.set k (applyL d q t r f)) ∧ Upd (· = g) W w') := fun W hW => by
        obtain ⟨P, T, ho, hs⟩ := (H.out.bel hW).rm.win hd
        refine (Pat.apply_g g (k * 513) d.length d.length _ P T q t r f d W ho hp).mono ?_
        rintro e w' ⟨rfl, ho', ha⟩
        exact ⟨rfl, hs w' _ ho', ⟨⟨ha.os, ha.tape, ha.output, ha.size, fun i hi => absurd hi (Nat.not_lt_zero i)⟩, fun i hi hne => World.grownBy.block ha i hi (by simpa using hne)⟩⟩
      rw [if_pos h1, if_pos (show true = true ∧ x.2 = 1 from ⟨rfl, h1⟩)]
      have q1 : (x.2 == 1) = true := by simp [h1]
      have HLN := Lib.hid (show (D.set k (applyL d q t r f)).length = D.length from by simp)
      generalize D.set k (applyL d q t r f) = D' at CA HLN ⊢
      generalize hasD d = ok at CA ⊢
      clear hl hp0 h1 hd hx
      go_enter Try.func17, Try.ntmps17
      go_wp2_with fail
      refine (CR.out _ HB.out).mono ?_
      rintro e w2 ⟨rfl, hb2⟩
      have H2 := Lib.hid (HB.out.trans (hb2.mono HB.out.size))
      have HD2 := Lib.hid (HD.out.bel hb2 HD.out.lt)
      have HQ2 := Lib.hid (HQ.out.below hb2 HQ.out.lt)
      clear hb2 CR c0 c1
      have f0 : ∀ W, (HBlk W w.heap.size k x.1 ∧ QBlk W (w.heap.size + 1) q t r f) → W.cell? ⟨w.heap.size, 0, none⟩ = some (.int .i64 (k : Int)) := fun W h => h.1.c0
      have f1 : ∀ W, (HBlk W w.heap.size k x.1 ∧ QBlk W (w.heap.size + 1) q t r f) → W.cell? ⟨w.heap.size, 1, none⟩ = some (.int .u32 x.1) := fun W h => h.1.c1
      have f2 : ∀ W, (HBlk W w.heap.size k x.1 ∧ QBlk W (w.heap.size + 1) q t r f) → W.cell? ⟨w.heap.size + 1, 0, none⟩ = some (.int .u16 q) := fun W h => h.2.c0
      have f3 : ∀ W, (HBlk W w.heap.size k x.1 ∧ QBlk W (w.heap.size + 1) q t r f) → W.cell? ⟨w.heap.size + 1, 1, none⟩ = some (.int .u32 t) := fun W h => h.2.c1
      have f4 : ∀ W, (HBlk W w.heap.size k x.1 ∧ QBlk W (w.heap.size + 1) q t r f) → W.cell? ⟨w.heap.size + 1, 2, none⟩ = some (.int .u32 r) := fun W h => h.2.c2
      have f5 : ∀ W, (HBlk W w.heap.size k x.1 ∧ QBlk W (w.heap.size + 1) q t r f) → W.cell? ⟨w.heap.size + 1, 3, none⟩ = some (.int .u16 f) := fun W h => h.2.c3
      go_wp2_with fail
      have hS : HBlk w2.drew w.heap.size k x.1 ∧ QBlk w2.drew (w.heap.size + 1) q t r f := ⟨HD2.out, HQ2.out⟩
      have HR := Lib.hid H2.out.drew
      refine region_seq (fun W => HBlk W w.heap.size k x.1 ∧ QBlk W (w.heap.size + 1) q t r f) [(0, false), (1, false), (3, false), (2, true), (4, true), (5, false)] (by kernel_rfl) (by kernel_rfl) rfl (by kernel_rfl) ?_
      iterate 3 (refine seq_read (v := _) rfl (fun _ _ _ h => h) hS (Or.inl ⟨by rfl, fun W hW => by go_simp <;> with_reducible rfl⟩) ?_; simp only [Act.put, List.setIfInBounds_toArray, List.set_cons_zero, List.set_cons_succ])
      refine seq_do rfl (fun K hK => ?_)
      go_simp
      refine (CI.out _ HR.out).mono ?_
      rintro e w3 ⟨rfl, hb3⟩
      have H3 := Lib.hid (HR.out.trans (hb3.mono HR.out.size))
      have hS3 : HBlk w3 w.heap.size k x.1 ∧ QBlk w3 (w.heap.size + 1) q t r f := ⟨hS.1.bel hb3 hS.1.lt, hS.2.below hb3 hS.2.lt⟩
      clear hS
      have hS := hS3
      refine hK.out _ _ _ (fun W h => h) hS ?_
      clear hK K CI hb3 hS3
      refine seq_do rfl (fun K hK => ?_)
      go_simp
      refine (CA.out _ H3.out).mono ?_
      rintro e w4 ⟨rfl, hr4, hu4⟩
      have H4 : Hid (Sto w4 b ba ga g L D' ∧ Upd (· = g) w w4) := ⟨(H.out.bel H3.out).rooms hr4 hu4 HLN.out, (Upd.of H3.out).trans hu4⟩
      have hS4 : HBlk w4 w.heap.size k x.1 ∧ QBlk w4 (w.heap.size + 1) q t r f := ⟨hS.1.upd hu4 (by show _ ≠ _; have := HG.out; omega), hu4.keep hS.2 (by show _ ≠ _; have := HG.out; omega)⟩
      clear hS
      have hS := hS4
      refine hK.out _ _ _ (fun W h => h) hS ?_
      clear hK K CA hr4 hu4 hS4
      iterate 1 (refine seq_read (v := _) rfl (fun _ _ _ h => h) hS (Or.inl ⟨by rfl, fun W hW => by go_simp <;> with_reducible rfl⟩) ?_; simp only [Act.put, List.setIfInBounds_toArray, List.set_cons_zero, List.set_cons_succ])
      refine seq_end ?_
      rcases ok with _ | _
      · go_wp2_with fail
        go_ret
        exact ⟨rfl, H4.out⟩
      · go_wp2_with fail
        go_ret
        exact ⟨rfl, H4.out⟩
    · rw [if_neg h1, if_neg (fun e => h1 e.2)]
      have q1 : (x.2 == 1) = false := by simp [h1]
      clear hl hp0 h1
      go_enter Try.func17, Try.ntmps17
      go_wp2_with fail
      refine (CR.out _ HB.out).mono ?_
      rintro e w2 ⟨rfl, hb2⟩
      have H2 := Lib.hid (HB.out.trans (hb2.mono HB.out.size))
      clear hb2 CR
      go_wp2_with fail
      go_ret
      exact ⟨rfl, H.out.bel H2.out, .of H2.out⟩
end Go.Proofs.Ytdnnfoacpjgloaa.Stv

namespace Go.Proofs.Ytdnnfoacpjgloaa.Stv
open Go.RowKit
open Arn (Slt Ar OkS Upd hnV hnO HBlk takeH takeE takeL take_cases leastF)
set_option linter.unusedVariables false

/-- What Put tells of n bytes. -/
def putH (L : List Slt) (n : Nat) : Int × Int := if 512 < n then (0, 0) else takeH L
def putE (L : List Slt) (n : Nat) : Int := if 512 < n then 5 else takeE L
def putL (L : List Slt) (n : Nat) : List Slt := if 512 < n then L else takeL L
def putD (L : List Slt) (D : List (List Int)) (xs : List Int) : List (List Int) := if 512 < xs.length then D else match leastF L with | some k => D.set k xs | none => D
theorem putL_len (L : List Slt) (n : Nat) : (putL L n).length = L.length := by unfold putL; split <;> simp [Arn.takeL_len]
theorem putD_len (L : List Slt) (D : List (List Int)) (xs : List Int) : (putD L D xs).length = D.length := by
  unfold putD; split
  · rfl
  · split <;> simp
theorem OkS.put {M : Int} {L : List Slt} (h : OkS M L) (hM : 1 ≤ M) (n : Nat) : OkS M (putL L n) := by unfold putL; split; exact h; exact h.take hM
theorem retP_at {f : Func} {R : Ending → World → Prop} {W : World} {b : Nat} {s g n : Int} {tmps : Array Value} (hf : f.results = #[.cell 4 31, .tmp 5]) (D : HBlk W b s g) (hR : R (.returned (.tuple #[hnV s g, .int .i64 n])) W)
    (h4 : tmps[4]?.getD undef = .pointer (some ⟨b, 0, none⟩) := by rfl) (h5 : tmps[5]?.getD undef = .int .i64 n := by rfl) : bodyPost Try.prog f R .ret ⟨tmps, []⟩ W := by
  have c0 := D.c0
  have c1 := D.c1
  exact bodyPost_ret (v := .tuple #[hnV s g, .int .i64 n]) (by simp [results, hf, go_sem, h4, h5, c0, c1]) rfl hR

set_option maxHeartbeats 4000000 in
theorem put_st (w : World) (b ba ga g n c : Nat) (a : Option Addr) (L : List Slt) (D : List (List Int)) (xs : List Int) (h : Sto w b ba ga g L D) (hL : L.length ≤ 1024) (hx : xs.length = n) (hr : ∀ W, Upd (· = ga) w W → Rd W W.heap.size a n xs) :
    Calls Try.prog 11 #[.pointer (some ⟨b, 0, none⟩), .slice a n c] w fun e w' => e = .returned (.tuple #[hnV (putH L n).1 (putH L n).2, .int .i64 (putE L n)]) ∧ Sto w' b ba ga g (putL L n) (putD L D xs) ∧ Upd (fun k => k = ga ∨ k = g) w w' := by
  have hB := (Below.refl w.heap.size w).alloc (Nat.le_refl _) (hnO 0 0)
  have hD := HBlk.new w 0 0
  have h1 := h.bel hB
  have hg := h.lt
  generalize hw1 : w.alloc (hnO 0 0) = w1 at hB hD h1
  have HB := Lib.hid hB
  have HD := Lib.hid hD
  have H1 := Lib.hid h1
  have HG := Lib.hid hg
  have HR := Lib.hid hr
  have d0 := hD.c0
  have d1 := hD.c1
  have f0 := hD.frozen 0
  have f1 := hD.frozen 1
  clear hB hD h1 h hg hr
  by_cases h5 : 512 < n
  · rw [putH, putE, putL, putD, hx, if_pos h5, if_pos h5, if_pos h5, if_pos h5]
    have hd : decide ((512 : Int) < n) = true := by simp; omega
    clear h5
    go_enter Try.func11, Try.ntmps11
    go_wp2_with fail
    have D2 := HBlk.new w 0 0
    rw [hw1] at D2
    first
      | exact retP_at Try.results11 D2 ⟨rfl, H1.out, .of HB.out⟩
      | (have D3 := D2.store 0 0
         have HU := Lib.hid (((Upd.of (S := fun k => k = ga ∨ k = g) HB.out).setCell (b := w.heap.size) (i := 0) (.inr (Nat.le_refl _)) (.int .i64 0)).setCell (b := w.heap.size) (i := 1) (.inr (Nat.le_refl _)) (.int .u32 0))
         have H3 := H1.out.upd (((Upd.refl (· = w.heap.size) w1).setCell (b := w.heap.size) (i := 0) (.inl rfl) (.int .i64 0)).setCell (b := w.heap.size) (i := 1) (.inl rfl) (.int .u32 0)) (by show b ≠ w.heap.size; have := HG.out; omega) (by show ba ≠ w.heap.size; have := HG.out; omega) (by show ga ≠ w.heap.size; have := HG.out; omega) (by show g ≠ w.heap.size; have := HG.out; omega)
         exact retP_at Try.results11 D3 ⟨rfl, H3, HU.out⟩)
  · rw [putH, putE, putL, putD, hx, if_neg h5, if_neg h5, if_neg h5, if_neg h5]
    have hd : decide ((512 : Int) < n) = false := by simp; omega
    have hn5 : n ≤ 512 := by omega
    clear h5
    have CS : Hid (∀ W, Below w.heap.size w W → Sto W b ba ga g L D → Calls Try.prog 31 #[.pointer (some ⟨b, 0, none⟩)] W fun e w' => e = .returned (.pointer (some ⟨ba, 0, none⟩)) ∧ W = w') := fun W _ hW => slots_of W b ba ga g L D hW
    have CT : Hid (Calls Try.prog 32 #[.pointer (some ⟨ba, 0, none⟩)] w1 fun e w' => e = .returned (.tuple #[hnV (takeH L).1 (takeH L).2, .int .i64 (takeE L)]) ∧ Ar w' ba ga (takeL L) ∧ Upd (· = ga) w1 w') := Arn.take_any w1 ba ga L H1.out.ar hL
    rcases take_cases L with ⟨e0, e1, e2, e3, -⟩ | ⟨k, x, e0, hk, e1, e2, e3, -⟩
    · rw [e0, e1, e2, e3]
      rw [e1, e2, e3] at CT
      clear e0 e1 e2 e3
      go_enter Try.func11, Try.ntmps11
      go_wp2_with fail
      refine (CS.out _ HB.out H1.out).mono ?_
      rintro e w2 ⟨rfl, rfl⟩
      clear CS
      go_wp2_with fail
      refine CT.out.mono ?_
      rintro e w2 ⟨rfl, ha, hu⟩
      have hS2 := H1.out.slots ha hu rfl
      have hD2 := HD.out.upd hu (by show _ ≠ _; have := HG.out; omega)
      have hU2 : Upd (fun k => k = ga ∨ k = g) w w2 := (Upd.of HB.out).trans (hu.mono fun k hk => .inl hk)
      have hba := (Below.refl w2.heap.size w2).alloc (Nat.le_refl _) (hnO 0 0)
      have HS3 := Lib.hid (hS2.bel hba)
      have HD3 := Lib.hid (hD2.bel hba hD2.lt)
      have HU3 := Lib.hid (hU2.alloc (hnO 0 0))
      have d0 := HD3.out.c0
      have d1 := HD3.out.c1
      have f0 := HD3.out.frozen 0
      have f1 := HD3.out.frozen 1
      have hwne : w2.heap.size ≠ w.heap.size := by have := hD2.lt; omega
      clear hS2 hD2 hU2 hba ha hu CT hw1
      go_wp2_with fail
      generalize w2.alloc (hnO 0 0) = w3 at *
      have D4 := HD3.out.store 0 0
      have HU := Lib.hid ((HU3.out.setCell (b := w.heap.size) (i := 0) (.inr (Nat.le_refl _)) (.int .i64 0)).setCell (b := w.heap.size) (i := 1) (.inr (Nat.le_refl _)) (.int .u32 0))
      have H4 := HS3.out.upd (((Upd.refl (· = w.heap.size) w3).setCell (b := w.heap.size) (i := 0) (.inl rfl) (.int .i64 0)).setCell (b := w.heap.size) (i := 1) (.inl rfl) (.int .u32 0)) (by show b ≠ w.heap.size; have := HG.out; omega) (by show ba ≠ w.heap.size; have := HG.out; omega) (by show ga ≠ w.heap.size; have := HG.out; omega) (by show g ≠ w.heap.size; have := HG.out; omega)
      exact retP_at Try.results11 D4 ⟨rfl, H4, HU.out⟩
    · rw [e0, e1, e2, e3]
      rw [e1, e2, e3] at CT
      clear e0 e1 e2 e3
      have hkl : k < L.length := (List.getElem?_eq_some_iff.1 hk).1
      obtain ⟨d, hdk⟩ := room_of H1.out.len hk
      obtain ⟨N, hN⟩ : ∃ N, L.length = N := ⟨_, rfl⟩
      have hkN : k < N := by omega
      have qN : decide (N ≤ k) = false := by simp; omega
      go_enter Try.func11, Try.ntmps11
      go_wp2_with fail
      refine (CS.out _ HB.out H1.out).mono ?_
      rintro e w2 ⟨rfl, rfl⟩
      clear CS
      go_wp2_with fail
      refine CT.out.mono ?_
      rintro e w2 ⟨rfl, ha, hu⟩
      have hS2 := H1.out.slots ha hu (by simp)
      have hD2 := HD.out.upd hu (by show _ ≠ _; have := HG.out; omega)
      have hU2 : Upd (· = ga) w w2 := (Upd.of HB.out).trans hu
      have hba := (Below.refl w2.heap.size w2).alloc (Nat.le_refl _) (hnO k x)
      have HS3 := Lib.hid (hS2.bel hba)
      have HD3 := Lib.hid (hD2.bel hba hD2.lt)
      have HU3 := Lib.hid (hU2.alloc (hnO k x))
      have HE3 := Lib.hid (HBlk.new w2 k x)
      have hwne : w2.heap.size ≠ w.heap.size := by have := hD2.lt; omega
      have HGE := Lib.hid (show g < w2.heap.size from hS2.lt.2.2.2)
      have HQ := Lib.hid hwne
      clear hS2 hD2 hU2 hba ha hu CT d0 d1 f0 f1 hw1
      go_wp2_with fail
      obtain ⟨wd, hwd⟩ : ∃ wd, w2.alloc (hnO k x) = wd := ⟨_, rfl⟩
      rw [hwd]
      rw [hwd] at HS3 HD3 HU3 HE3
      obtain ⟨rb, hrb⟩ : ∃ rb, w2.heap.size = rb := ⟨_, rfl⟩
      rw [hrb] at HE3 hwne HGE HQ ⊢
      clear hwd hrb
      have hS : Below wd.heap.size wd wd.drew := (Below.refl _ _).drew
      have g0 : ∀ W, Below wd.heap.size wd W → W.cell? ⟨b, 1, none⟩ = some (.slice (some ⟨g, 0, none⟩) N N) := fun W hW => by have := (HS3.out.bel hW).c1; rw [List.length_set, hN] at this; exact this
      have g1 : ∀ W, Below wd.heap.size wd W → W.cell? ⟨rb, 0, none⟩ = some (.int .i64 (k : Int)) := fun W hW => (HE3.out.bel hW HE3.out.lt).c0
      refine region_seq (Below wd.heap.size wd) [(0, false), (1, false), (2, false), (3, false), (4, false), (5, false), (6, false), (7, false)] (by kernel_rfl) (by kernel_rfl) rfl (by kernel_rfl) ?_
      iterate 8 (refine seq_read (v := _) rfl (fun _ _ _ h => h) hS (Or.inl ⟨by rfl, fun W hW => by go_simp <;> with_reducible rfl⟩) ?_; simp only [Act.put, List.setIfInBounds_toArray, List.set_cons_zero, List.set_cons_succ])
      refine seq_end ?_
      clear g0 g1
      obtain ⟨wr, hwr⟩ : ∃ wr, wd.drew = wr := ⟨_, rfl⟩
      have HS4 : Hid (Sto wr b ba ga g (L.set k (x, 1)) D) := hwr ▸ HS3.out.bel (Below.refl _ _).drew
      have HD4 : Hid (HBlk wr w.heap.size 0 0) := hwr ▸ HD3.out
      have HE4 : Hid (HBlk wr rb k x) := hwr ▸ HE3.out
      have HU4 : Hid (Upd (· = ga) w wr) := hwr ▸ HU3.out.drew
      rw [hwr]
      clear hwr hS HS3 HD3 HE3 HU3 hwne
      obtain ⟨w5, hcp, hu5, ⟨u, hcu⟩, hfz, hsz, hrm⟩ := HS4.out.rm.copy (c := c) 3 hdk (HR.out wr HU4.out) hn5
      obtain ⟨w6, hw6⟩ : ∃ w6, w5.setCell ⟨g, k * 513 + 512, none⟩ (.int .i64 n) = w6 := ⟨_, rfl⟩
      rw [hw6] at hrm
      have hu6 : Upd (· = g) wr w6 := hw6 ▸ hu5.setCell (b := g) (i := k * 513 + 512) (.inl rfl) (.int .i64 n)
      have hr0 : w.heap.size ≠ g := by have := HG.out; omega
      have HD6 := Lib.hid (HD4.out.upd hu6 hr0)
      have HE6 := Lib.hid (HE4.out.upd hu6 (by show rb ≠ g; have := HGE.out; omega))
      have HS6 := Lib.hid (HS4.out.rooms hrm hu6 (by simp))
      have HU6 : Hid (Upd (fun k => k = ga ∨ k = g) w w6) := (HU4.out.mono fun k hk => .inl hk).trans (hu6.mono fun k hk => .inr hk)
      clear hrm hu6 hu5 hsz HS4 HD4 HE4 HU4 hr0 hdk hk
      have c0 := HE6.out.c0
      have c1 := HE6.out.c1
      have d0 := HD6.out.c0
      have d1 := HD6.out.c1
      have f0 := HD6.out.frozen 0
      have f1 := HD6.out.frozen 1
      go_wp2_with fail
      clear hw6
      have D7 := HD6.out.store (k : Int) x
      have HU := Lib.hid ((HU6.out.setCell (b := w.heap.size) (i := 0) (.inr (Nat.le_refl _)) (.int .i64 (k : Int))).setCell (b := w.heap.size) (i := 1) (.inr (Nat.le_refl _)) (.int .u32 x))
      have H7 := HS6.out.upd (((Upd.refl (· = w.heap.size) w6).setCell (b := w.heap.size) (i := 0) (.inl rfl) (.int .i64 (k : Int))).setCell (b := w.heap.size) (i := 1) (.inl rfl) (.int .u32 x)) (by show b ≠ w.heap.size; have := HG.out; omega) (by show ba ≠ w.heap.size; have := HG.out; omega) (by show ga ≠ w.heap.size; have := HG.out; omega) (by show g ≠ w.heap.size; have := HG.out; omega)
      generalize (w6.setCell ⟨w.heap.size, 0, none⟩ (.int .i64 (k : Int))).setCell ⟨w.heap.size, 1, none⟩ (.int .u32 x) = w7 at *
      exact retP_at Try.results11 D7 ⟨rfl, H7, HU.out⟩
end Go.Proofs.Ytdnnfoacpjgloaa.Stv
