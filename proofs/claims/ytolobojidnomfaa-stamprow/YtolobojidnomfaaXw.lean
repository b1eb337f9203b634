/- Rows of 32-bit numbers, whichever program: 'Wd' a slice of them that reads as a list, 'WBlk' a block known whole, 'OwnW' a row of the call's own; append. No function of the program. -/
import Derived.Test.YtolobojidnomfaaXr
import Derived.Test.YtolobojidnomfaaPure
set_option maxRecDepth 100000
namespace Go.Proofs.Ytolobojidnomfaa
open Go.RowKit
set_option linter.unusedVariables false

theorem Words.nil : Words [] := by intro x hx; cases hx
theorem Words.append {l m : List Int} (h : Words l) (k : Words m) : Words (l ++ m) := by
  intro x hx
  rcases List.mem_append.1 hx with hx | hx
  · exact h x hx
  · exact k x hx
theorem Words.take {l : List Int} (h : Words l) (k : Nat) : Words (l.take k) := fun x hx => h x (List.mem_of_mem_take hx)
theorem Words.getD {l : List Int} (h : Words l) (k : Nat) : 0 ≤ l.getD k 0 ∧ l.getD k 0 ≤ 4294967295 := by
  by_cases hk : k < l.length
  · rw [List.getD_eq_getElem?_getD, List.getElem?_eq_getElem hk]; exact h _ (List.getElem_mem hk)
  · rw [List.getD_eq_getElem?_getD, List.getElem?_eq_none (by omega)]; simp
theorem wordsAt_snoc (b : List Int) : ∀ (i k : Nat), wordsAt b i (k + 1) = wordsAt b i k ++ [nb b (i + 4 * k) 4]
  | i, 0 => rfl
  | i, k + 1 => by rw [wordsAt, wordsAt_snoc b (i + 4) k, wordsAt, List.cons_append, show i + 4 + 4 * k = i + 4 * (k + 1) from by omega]

/-- A slice of 32-bit numbers that reads as a list, nil let in, and lies below block B. -/
def Wd (w : World) (B : Nat) (a : Option Addr) (n : Nat) (xs : List Int) : Prop :=
  xs.length = n ∧ Words xs ∧ (0 < n → ∃ b off, a = some ⟨b, off, none⟩ ∧ b < B ∧ ∀ i, i < n → w.cell? ⟨b, off + i, none⟩ = some (.int .u32 (xs.getD i 0)))

/-- The cells of words. -/
def wcells (cs : List Int) : List Value := cs.map (Value.int .u32)
/-- A block of words that is known whole: the words cs, and the cells T behind them (spare room). -/
def WBlk (w : World) (g : Nat) (cs : List Int) (T : List Value) : Prop := w.heap[g]? = some (.cells (wcells cs ++ T).toArray 27 (0, 0))

theorem wcells_length (cs : List Int) : (wcells cs).length = cs.length := by simp [wcells]
theorem wcells_getElem? (cs : List Int) (i : Nat) (h : i < cs.length) : (wcells cs)[i]? = some (.int .u32 (cs.getD i 0)) := by
  simp [wcells, List.getElem?_eq_getElem h]
theorem wcells_set (cs : List Int) (i : Nat) (x : Int) : (wcells cs).set i (.int .u32 x) = wcells (cs.set i x) := by simp [wcells, List.map_set]
section
variable {w w' : World} {g : Nat} {cs : List Int} {T : List Value}
theorem WBlk.lt (h : WBlk w g cs T) : g < w.heap.size := by
  rcases Nat.lt_or_ge g w.heap.size with hlt | hge
  · exact hlt
  · unfold WBlk at h; rw [Array.getElem?_eq_none hge] at h; cases h
theorem WBlk.cell (h : WBlk w g cs T) (i : Nat) (hi : i < cs.length) : w.cell? ⟨g, i, none⟩ = some (.int .u32 (cs.getD i 0)) := by
  rw [cell_of_row w g i _ 27 (0, 0) h, List.getElem?_toArray, List.getElem?_append_left (by rw [wcells_length]; exact hi), wcells_getElem? cs i hi]
theorem WBlk.frozen (h : WBlk w g cs T) (i : Nat) : w.frozen? ⟨g, i, none⟩ = false := frozen_of_row w g i _ 27 h
theorem WBlk.set_ (h : WBlk w g cs T) (i : Nat) (hi : i < cs.length) (x : Int) : WBlk (w.setCell ⟨g, i, none⟩ (.int .u32 x)) g (cs.set i x) T := by
  have := heap_setCell_same w g i _ 27 (.int .u32 x) h
  unfold WBlk
  rw [this, List.setIfInBounds_toArray, List.set_append_left _ _ (by rw [wcells_length]; exact hi), wcells_set]
theorem WBlk.below {B : Nat} (h : WBlk w g cs T) (hb : Below B w w') (hg : g < B) : WBlk w' g cs T := (hb.block g hg).trans h
theorem WBlk.grown {row : Option Nat} (h : WBlk w g cs T) (hb : w.grownBy w' row) (hg : some g ≠ row) : WBlk w' g cs T := (hb.block g h.lt hg).trans h
theorem WBlk.alloc (h : WBlk w g cs T) (o : Obj) : WBlk (w.alloc o) g cs T := (Below.heap_alloc w o g h.lt).trans h
theorem WBlk.rd (h : WBlk w g cs T) (hb : Words cs) {n : Nat} (hn : cs.length = n) : Wd w w.heap.size (some ⟨g, 0, none⟩) n cs :=
  ⟨hn, hb, fun _ => ⟨g, 0, rfl, h.lt, fun i hi => by rw [Nat.zero_add]; exact h.cell i (by omega)⟩⟩
end
theorem info23 : (Try.prog.info? 27).map (fun i => (i.zero, i.size, i.bytes)) = some (some (.int .u32 0), 1, 4) := by kernel_rfl
theorem size23 : (Try.prog.info? 27).map (·.size) = some 1 := by kernel_rfl

theorem oneCell_wcells (L : List Int) : ∀ v ∈ wcells L, v.oneCell' = true := by
  intro v hv
  simp only [wcells, List.mem_map] at hv
  obtain ⟨x, _, rfl⟩ := hv
  rfl
theorem Wd.below {w w' : World} {B n : Nat} {a : Option Addr} {xs : List Int} (h : Wd w B a n xs) (hb : Below B w w') : Wd w' B a n xs :=
  ⟨h.1, h.2.1, fun hn => by
    obtain ⟨b, off, e, hlt, hc⟩ := h.2.2 hn
    exact ⟨b, off, e, hlt, fun i hi => (hb.cell (p := ⟨b, off + i, none⟩) hlt).trans (hc i hi)⟩⟩
theorem Wd.more {w : World} {B B' n : Nat} {a : Option Addr} {xs : List Int} (h : Wd w B a n xs) (hB : B ≤ B') : Wd w B' a n xs :=
  ⟨h.1, h.2.1, fun hn => by
    obtain ⟨b, off, e, hlt, hc⟩ := h.2.2 hn
    exact ⟨b, off, e, by omega, hc⟩⟩
/-- What the law on a copy asks of its source. -/
theorem Wd.src {w : World} {B n : Nat} {a : Option Addr} {xs : List Int} (h : Wd w B a n xs) (hp : 0 < (wcells xs).length) :
    ∃ ad, a = some ad ∧ ∀ j v, (wcells xs)[j]? = some v → w.cell? (ad.add j) = some v := by
  obtain ⟨b, off, e, _, hc⟩ := h.2.2 (by rw [← h.1, ← wcells_length]; exact hp)
  refine ⟨_, e, fun j v hv => ?_⟩
  have hj : j < xs.length := by
    rcases Nat.lt_or_ge j xs.length with hlt | hge
    · exact hlt
    · rw [List.getElem?_eq_none (by rw [wcells_length]; exact hge)] at hv; cases hv
  rw [wcells_getElem? xs j hj] at hv
  rw [plain_add, hc j (by rw [← h.1]; exact hj), hv]
/-- The slice A (n, c) is nil, or the head of a block that the call made (block number 'base' at least): its words are xs. -/
def OwnW (w : World) (base : Nat) (A : Option Addr) (n c : Nat) (xs : List Int) : Prop :=
  xs.length = n ∧ Words xs ∧ n ≤ c ∧ c ≤ maxLen ∧ ((A = none ∧ n = 0 ∧ c = 0) ∨ ∃ g T, A = some ⟨g, 0, none⟩ ∧ base ≤ g ∧ WBlk w g xs T ∧ xs.length + T.length = c)

section
variable {w w' : World} {base n c : Nat} {A : Option Addr} {xs : List Int}
theorem OwnW.nil (w : World) (base : Nat) : OwnW w base none 0 0 [] := ⟨rfl, Words.nil, Nat.le_refl _, Nat.zero_le _, .inl ⟨rfl, rfl, rfl⟩⟩
theorem OwnW.of_blk {g : Nat} (h : WBlk w g xs []) (hb : base ≤ g) (hx : Words xs) (hn : xs.length = n) (hm : n ≤ maxLen) : OwnW w base (some ⟨g, 0, none⟩) n n xs :=
  ⟨hn, hx, Nat.le_refl _, hm, .inr ⟨g, [], rfl, hb, h, by simpa using hn⟩⟩
theorem OwnW.row (h : OwnW w base A n c xs) : w.ownsRow base 27 1 (.slice A n c) n (wcells xs) := by
  obtain ⟨hx, _, hnc, hcm, h⟩ := h
  refine ⟨by rw [wcells_length, hx, Nat.mul_one], ?_⟩
  rcases h with ⟨rfl, rfl, rfl⟩ | ⟨g, T, rfl, hb, hk, hl⟩
  · exact .inl ⟨rfl, rfl⟩
  · refine .inr ⟨g, c, _, rfl, hb, hk, hnc, hcm, by simp [wcells_length]; omega, ?_⟩
    rw [Nat.mul_one, List.take_append_of_le_length (by rw [wcells_length]; omega), List.take_of_length_le (by rw [wcells_length]; omega)]
theorem ownw_of_row {v : Value} (h : w.ownsRow base 27 1 v n (wcells xs)) (hb : Words xs) : ∃ A c, v = .slice A n c ∧ OwnW w base A n c xs := by
  have hx : xs.length = n := by have := h.1; rw [wcells_length, Nat.mul_one] at this; exact this
  rcases h.2 with ⟨rfl, rfl⟩ | ⟨g, cap, cur, rfl, hbg, hg, hnc, hcm, hcs, ht⟩
  · exact ⟨none, 0, rfl, hx, hb, Nat.le_refl _, Nat.zero_le _, .inl ⟨rfl, rfl, rfl⟩⟩
  · rw [Nat.mul_one] at hcs ht
    refine ⟨_, cap, rfl, hx, hb, hnc, hcm, .inr ⟨g, cur.toList.drop n, rfl, hbg, ?_, by simp; omega⟩⟩
    unfold WBlk
    rw [hg, ← ht, List.take_append_drop]
theorem OwnW.rd (h : OwnW w base A n c xs) : Wd w w.heap.size A n xs := by
  obtain ⟨hx, hb, _, _, h⟩ := h
  rcases h with ⟨rfl, rfl, rfl⟩ | ⟨g, T, rfl, _, hk, _⟩
  · exact ⟨hx, hb, fun h => absurd h (by omega)⟩
  · exact hk.rd hb hx
theorem OwnW.words (h : OwnW w base A n c xs) : Words xs := h.2.1
theorem OwnW.len (h : OwnW w base A n c xs) : xs.length = n := h.1
theorem OwnW.below {B : Nat} (h : OwnW w base A n c xs) (hb : Below B w w') (hB : w.heap.size ≤ B) : OwnW w' base A n c xs := by
  obtain ⟨hx, hbx, hnc, hcm, h⟩ := h
  refine ⟨hx, hbx, hnc, hcm, ?_⟩
  rcases h with ⟨rfl, rfl, rfl⟩ | ⟨g, T, rfl, hbg, hk, hl⟩
  · exact .inl ⟨rfl, rfl, rfl⟩
  · exact .inr ⟨g, T, rfl, hbg, hk.below hb (Nat.lt_of_lt_of_le hk.lt hB), hl⟩
end

theorem wcells_append (xs ys : List Int) : wcells xs ++ wcells ys = wcells (xs ++ ys) := by simp [wcells]

/-- The run of an append onto a row of the call's own, whatever the source. -/
theorem append_runw {w : World} {base B n c m k : Nat} {A a : Option Addr} {xs ys : List Int} (ty : TypeId) (ho : OwnW w base A n c xs) (hr : Wd w B a m ys) (hb : base ≤ w.heap.size)
    (hs : n + m ≤ 4096) :
    ∃ A' c' w', (Builtin.append_ #[32, 32] ty #[.slice A n c, .slice a m k]).run Try.prog w = .ok (.slice A' (n + m) c') w' ∧ OwnW w' base A' (n + m) c' (xs ++ ys) ∧ Below base w w' := by
  obtain ⟨i0, hi0, hz0, hz1, hz2⟩ := info_parts info23
  have hrow := ho.row
  have hlt := hrow.lt
  have hby := ho.words.append hr.2.1
  rcases a with _ | ad
  · have hm : m = 0 := by
      rcases Nat.eq_zero_or_pos m with h0 | h0
      · exact h0
      · obtain ⟨b, off, h, _⟩ := hr.2.2 h0
        cases h
    subst hm
    obtain rfl : ys = [] := List.eq_nil_of_length_eq_zero hr.1
    refine ⟨A, c, w, ?_, by simpa using ho, Below.refl _ _⟩
    rcases ho.2.2.2.2 with ⟨rfl, rfl, rfl⟩ | ⟨g, T, rfl, hbg, hk, hl⟩
    · simp [Builtin.append_, run_underlying Try.underlying32, sizeOf, typeInfo, hi0, Builtin.lenOf, Builtin.firstCells]
    · simp [Builtin.append_, run_underlying Try.underlying32, sizeOf, typeInfo, hi0, Builtin.lenOf, Builtin.firstCells, ho.2.2.1, storeCells]
  · have hsrc : ∀ j u, (wcells ys)[j]? = some u → w.cell? (ad.add j) = some u := by
      intro j u hu
      have hp : 0 < (wcells ys).length := by
        rcases Nat.eq_zero_or_pos (wcells ys).length with h0 | h0
        · rw [List.getElem?_eq_none (by omega)] at hu; cases hu
        · exact h0
      obtain ⟨ad', h, hc⟩ := hr.src hp
      injection h with h
      subst h
      exact hc j u hu
    obtain ⟨v', w', hrun, h2, h3, _, h5⟩ := run_append_own_at (P := Try.prog) w base 32 ty 27 i0 _ 1 4 Try.underlying32 hi0 hz0 hz1 hz2 rfl (by omega) _ n _ hrow ad m k (wcells ys)
      (by rw [wcells_length, hr.1, Nat.mul_one]) hsrc (oneCell_wcells ys) (by unfold maxLen; omega) (by omega) hb
    rw [wcells_append] at h2
    obtain ⟨A', c', rfl, ho'⟩ := ownw_of_row h2 hby
    exact ⟨A', c', w', hrun, ho', (Below.refl _ _).grown h3 hb (fun q hq => (hlt q hq).1)⟩

/-- The same as a step of the walk: behind the guard 'at_builtin'. -/
theorem wpList_append_words {w : World} {ops : Array Oper} {rest : List Oper} {o : Oper} {act : Act} {Q : Exit → Act → World → Prop} (hgd : o.guard = none) (s x : Operand)
    (hop : o.op = .call { callee := .builtin .append, args := #[s, x], argTypes := #[32, 32] }) (base B n c m k N : Nat) (A a : Option Addr) (xs ys zs : List Int) (hN : n + m = N) (hz : xs ++ ys = zs)
    (hs : act.eval s = .slice A n c) (hx : act.eval x = .slice a m k) (ho : OwnW w base A n c xs) (hr : Wd w B a m ys) (hb : base ≤ w.heap.size) (hsz : n + m ≤ 4096)
    (h : ∀ A' c' w', OwnW w' base A' N c' zs → Below base w w' → wpList Try.prog ops Q rest (act.put o.dst (.slice A' N c')) w') : wpList Try.prog ops Q (o :: rest) act w := by
  subst hN
  subst hz
  refine wpList_plain hgd fun K hK => ?_
  obtain ⟨A', c', w', hrun, ho', hb'⟩ := append_runw (k := k) o.type ho hr hb hsz
  unfold Oper.wp execOp
  simp only [hop, resolve, invoke, builtin, Sem.run_bind, Sem.run_pure, Result.andThen_ok, List.map_toArray, List.map_cons, List.map_nil, hs, hx, hrun]
  exact hK _ _ (h A' c' w' ho' hb')
theorem alloc_wblk (w : World) (L : List Int) : WBlk (w.alloc (.cells (wcells L).toArray 27)) w.heap.size L [] := by
  unfold WBlk; rw [List.append_nil]; exact heap_alloc_new w _
theorem alloc_w1 (w : World) (x : Int) : WBlk (w.alloc (.cells #[.int .u32 x] 27)) w.heap.size [x] [] := alloc_wblk w [x]
theorem Wd.take {w : World} {B n k : Nat} {a : Option Addr} {xs : List Int} (h : Wd w B a n xs) (hk : k ≤ n) : Wd w B a k (xs.take k) :=
  ⟨by rw [List.length_take, h.1]; omega, h.2.1.take k, fun hp => by
    obtain ⟨b, off, e, hb, hc⟩ := h.2.2 (by omega)
    exact ⟨b, off, e, hb, fun i hi => by rw [hc i (by omega), List.getD_eq_getElem?_getD, List.getD_eq_getElem?_getD, List.getElem?_take, if_pos hi]⟩⟩
theorem Wd.none_ {w : World} {B : Nat} (a : Option Addr) {xs : List Int} (h : xs = []) : Wd w B a 0 xs := by subst h; exact ⟨rfl, Words.nil, fun h => absurd h (by omega)⟩

end Go.Proofs.Ytolobojidnomfaa
