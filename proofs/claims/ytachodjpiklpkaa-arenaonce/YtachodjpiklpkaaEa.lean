/- Slots that are counted, plain: the least free one, what is live, how many are free; no handle is told twice. No function of the program. -/
import Derived.Test.YtachodjpiklpkaaRows
set_option maxRecDepth 100000
namespace Go.Proofs.Ytachodjpiklpkaa.Arn
set_option linter.unusedVariables false

/-- A slot: its generation, its references. -/
abbrev Slt := Int × Int
def newL (n : Int) : List Slt := List.replicate (min (max n 1) 1024).toNat (1, 0)
/-- The free slot with the least number. -/
def leastF : List Slt → Option Nat
  | [] => none
  | x :: r => if x.2 = 0 then some 0 else (leastF r).map (· + 1)
def freeN : List Slt → Nat
  | [] => 0
  | x :: r => (if x.2 = 0 then 1 else 0) + freeN r
/-- Is the handle (s, g) live? -/
def liveB (L : List Slt) (s g : Int) : Bool := decide (0 ≤ s ∧ s < L.length) && decide (0 < (L.getD s.toNat (0, 0)).2) && decide ((L.getD s.toNat (0, 0)).1 = g)
def refsV (L : List Slt) (s g : Int) : Int := if liveB L s g then (L.getD s.toNat (0, 0)).2 else 0
def keepL (L : List Slt) (s g : Int) : List Slt := if liveB L s g then L.set s.toNat ((L.getD s.toNat (0, 0)).1, (L.getD s.toNat (0, 0)).2 + 1) else L
/-- One reference fewer; with none left the generation is one more, modulo 2^32. -/
def dropped (x : Slt) : Slt := if x.2 = 1 then ((x.1 + 1) % 4294967296, 0) else (x.1, x.2 - 1)
def dropL (L : List Slt) (s g : Int) : List Slt := if liveB L s g then L.set s.toNat (dropped (L.getD s.toNat (0, 0))) else L
def callE (L : List Slt) (s g : Int) : Int := if liveB L s g then 0 else 7

theorem leastF_some : ∀ {L : List Slt} {k : Nat}, leastF L = some k → ∃ g, L[k]? = some (g, 0) ∧ ∀ j x, j < k → L[j]? = some x → x.2 ≠ 0
  | [], k, h => by simp [leastF] at h
  | x :: r, k, h => by
    unfold leastF at h
    split at h
    · rename_i hx
      obtain rfl : 0 = k := by simpa using h
      exact ⟨x.1, by rw [List.getElem?_cons_zero, ← hx], fun j x hj => absurd hj (Nat.not_lt_zero j)⟩
    · rename_i hx
      obtain ⟨m, hm, rfl⟩ : ∃ m, leastF r = some m ∧ m + 1 = k := by simpa using h
      obtain ⟨g, h1, h2⟩ := leastF_some hm
      refine ⟨g, by rw [List.getElem?_cons_succ]; exact h1, fun j y hj hy => ?_⟩
      match j with
      | 0 => rw [List.getElem?_cons_zero] at hy; cases hy; exact hx
      | j + 1 => rw [List.getElem?_cons_succ] at hy; exact h2 j y (by omega) hy
theorem leastF_none : ∀ {L : List Slt}, leastF L = none → freeN L = 0 ∧ ∀ x ∈ L, x.2 ≠ 0
  | [], _ => ⟨rfl, fun x hx => by simp at hx⟩
  | x :: r, h => by
    unfold leastF at h
    split at h
    · cases h
    · rename_i hx
      obtain ⟨h1, h2⟩ := leastF_none (L := r) (by simpa using h)
      refine ⟨by rw [freeN, if_neg hx, h1], fun y hy => ?_⟩
      rcases List.mem_cons.1 hy with rfl | hy
      · exact hx
      · exact h2 y hy
theorem freeN_le : ∀ L : List Slt, freeN L ≤ L.length
  | [] => Nat.le_refl _
  | x :: r => by have := freeN_le r; rw [freeN, List.length_cons]; split <;> omega
theorem freeN_set : ∀ {L : List Slt} {k : Nat} {x : Slt} (y : Slt), L[k]? = some x → freeN (L.set k y) + (if x.2 = 0 then 1 else 0) = freeN L + (if y.2 = 0 then 1 else 0)
  | [], k, x, y, h => by simp at h
  | z :: r, 0, x, y, h => by
    rw [List.getElem?_cons_zero] at h
    cases h
    rw [List.set_cons_zero, freeN, freeN]; omega
  | z :: r, k + 1, x, y, h => by
    rw [List.getElem?_cons_succ] at h
    have := freeN_set (L := r) y h
    rw [List.set_cons_succ, freeN, freeN]; omega
theorem freeN_new (n : Nat) : freeN (List.replicate n (1, 0)) = n := by
  induction n with
  | zero => rfl
  | succ n ih => rw [List.replicate_succ, freeN, ih]; simp; omega
theorem newL_len (n : Int) : ((newL n).length : Int) = min (max n 1) 1024 := by rw [newL, List.length_replicate]; omega
theorem newL_free (n : Int) : freeN (newL n) = (newL n).length := by rw [newL, freeN_new, List.length_replicate]

/-- What is known of slots that are taken and dropped only: 'seen' was told, 'live' is held, once each. -/
structure Inv (L : List Slt) (seen live : List (Nat × Int)) (N : Int) : Prop where
  gen : ∀ (k : Nat) (x : Slt), L[k]? = some x → 1 ≤ x.1 ∧ x.1 ≤ N
  ref : ∀ (k : Nat) (x : Slt), L[k]? = some x → x.2 = 0 ∨ x.2 = 1
  told : ∀ h ∈ seen, ∃ x : Slt, L[h.1]? = some x ∧ (h.2 < x.1 ∨ h.2 = x.1 ∧ x.2 = 1)
  held : ∀ h ∈ live, L[h.1]? = some (h.2, 1)
  apart : (live.map Prod.fst).Nodup
  cnt : live.length + freeN L = L.length
theorem Inv.start (n : Int) : Inv (newL n) [] [] 1 := by
  have hx : ∀ (k : Nat) (x : Slt), (newL n)[k]? = some x → x = (1, 0) := fun k x h => by
    have := List.mem_of_getElem? h
    rw [newL, List.mem_replicate] at this
    exact this.2
  exact ⟨fun k x h => by rw [hx k x h]; decide, fun k x h => .inl (by rw [hx k x h]), fun h hh => by simp at hh, fun h hh => by simp at hh, List.nodup_nil, by rw [newL_free]; simp⟩
theorem set_get {L : List Slt} {k m : Nat} {x y z : Slt} (h : L[k]? = some x) (hm : (L.set k y)[m]? = some z) : (m = k ∧ z = y) ∨ (m ≠ k ∧ L[m]? = some z) := by
  rw [List.getElem?_set] at hm
  by_cases e : k = m
  · subst e
    have hk := (List.getElem?_eq_some_iff.1 h).1
    rw [if_pos rfl, if_pos hk] at hm
    exact .inl ⟨rfl, (Option.some.inj hm).symm⟩
  · rw [if_neg e] at hm
    exact .inr ⟨fun h => e h.symm, hm⟩
theorem set_at {L : List Slt} {k : Nat} {x y : Slt} (h : L[k]? = some x) : (L.set k y)[k]? = some y := by
  have hk := (List.getElem?_eq_some_iff.1 h).1
  rw [List.getElem?_set, if_pos rfl, if_pos hk]
theorem set_off {L : List Slt} {k m : Nat} {y : Slt} (h : k ≠ m) : (L.set k y)[m]? = L[m]? := by rw [List.getElem?_set, if_neg h]
/-- A slot is taken: its handle is new. -/
theorem Inv.take {L : List Slt} {seen live : List (Nat × Int)} {N g : Int} {k : Nat} (h : Inv L seen live N) (hk : L[k]? = some (g, 0)) : (k, g) ∉ seen ∧ Inv (L.set k (g, 1)) ((k, g) :: seen) (live ++ [(k, g)]) N := by
  have hne : ∀ x ∈ live, x.1 ≠ k := fun x hx e => by
    have := h.held x hx
    rw [e, hk] at this
    simp at this
  refine ⟨fun hs => ?_, ⟨fun m x hm => ?_, fun m x hm => ?_, fun x hx => ?_, fun x hx => ?_, ?_, ?_⟩⟩
  · obtain ⟨x, h1, h2⟩ := h.told _ hs
    rw [hk] at h1
    cases h1
    rcases h2 with h2 | ⟨-, h2⟩
    · exact absurd h2 (Int.lt_irrefl _)
    · simp at h2
  · rcases set_get hk hm with ⟨rfl, rfl⟩ | ⟨-, hm⟩
    · exact h.gen m (g, 0) hk
    · exact h.gen m x hm
  · rcases set_get hk hm with ⟨rfl, rfl⟩ | ⟨-, hm⟩
    · exact .inr rfl
    · exact h.ref m x hm
  · rcases List.mem_cons.1 hx with rfl | hx
    · exact ⟨_, set_at hk, .inr ⟨rfl, rfl⟩⟩
    · obtain ⟨y, h1, h2⟩ := h.told x hx
      by_cases e : k = x.1
      · subst e
        rw [hk] at h1
        cases h1
        refine ⟨_, set_at hk, ?_⟩
        rcases h2 with h2 | ⟨-, h2⟩
        · exact .inl h2
        · simp at h2
      · exact ⟨y, by rw [set_off e]; exact h1, h2⟩
  · rcases List.mem_append.1 hx with hx | hx
    · rw [set_off (fun e => hne x hx e.symm)]; exact h.held x hx
    · simp only [List.mem_cons, List.not_mem_nil, or_false] at hx
      subst hx
      exact set_at hk
  · rw [List.map_append, List.nodup_append]
    refine ⟨h.apart, by simp, fun a ha b hb => ?_⟩
    obtain ⟨x, hx, rfl⟩ := List.mem_map.1 ha
    simp only [List.map_cons, List.map_nil, List.mem_cons, List.not_mem_nil, or_false] at hb
    subst hb
    exact hne x hx
  · have := freeN_set (g, 1) hk
    have := h.cnt
    rw [List.length_append, List.length_set]
    simp at *
    omega
/-- One of those that are held is dropped. -/
theorem Inv.drop {L : List Slt} {seen live : List (Nat × Int)} {N g : Int} {k j : Nat} (h : Inv L seen live N) (hj : live[j]? = some (k, g)) : Inv (L.set k (g + 1, 0)) seen (live.eraseIdx j) (N + 1) := by
  have hm := List.mem_of_getElem? hj
  have hk := h.held _ hm
  have hjl := (List.getElem?_eq_some_iff.1 hj).1
  have hsub : ∀ x ∈ live.eraseIdx j, x ∈ live := fun x hx => List.mem_of_mem_eraseIdx hx
  have hne : ∀ x ∈ live.eraseIdx j, x.1 ≠ k := fun x hx e => by
    obtain ⟨m, hmj, hx'⟩ := List.mem_eraseIdx_iff_getElem?.1 hx
    have h1 : (live.map Prod.fst)[m]? = some k := by rw [List.getElem?_map, hx']; simp [e]
    have h2 : (live.map Prod.fst)[j]? = some k := by rw [List.getElem?_map, hj]; rfl
    have hml := (List.getElem?_eq_some_iff.1 h1).1
    exact hmj ((List.getElem?_inj hml h.apart).1 (h1.trans h2.symm))
  refine ⟨fun m x hx => ?_, fun m x hx => ?_, fun x hx => ?_, fun x hx => ?_, ?_, ?_⟩
  · rcases set_get hk hx with ⟨rfl, rfl⟩ | ⟨-, hx⟩
    · have := h.gen _ _ hk; exact ⟨by simp only at *; omega, by simp only at *; omega⟩
    · have := h.gen _ _ hx; exact ⟨this.1, by omega⟩
  · rcases set_get hk hx with ⟨rfl, rfl⟩ | ⟨-, hx⟩
    · exact .inl rfl
    · exact h.ref _ _ hx
  · obtain ⟨y, h1, h2⟩ := h.told x hx
    by_cases e : k = x.1
    · subst e
      rw [hk] at h1
      cases h1
      refine ⟨_, set_at hk, .inl ?_⟩
      simp only at *
      omega
    · exact ⟨y, by rw [set_off e]; exact h1, h2⟩
  · rw [set_off (fun e => hne x hx e.symm)]; exact h.held x (hsub x hx)
  · exact (List.Sublist.map _ (List.eraseIdx_sublist live j)).nodup h.apart
  · have := freeN_set (g + 1, 0) hk
    have := h.cnt
    rw [List.length_set, List.length_eraseIdx, if_pos hjl]
    simp at *
    omega
end Go.Proofs.Ytachodjpiklpkaa.Arn
