/- Rows of feedback items of the call's own: append, whatever lies where; x[lo:] of bytes that lie anywhere. No function of the program. -/
import Derived.Test.YthmmafpmpnhleaaVb
import Derived.Test.YthmmafpmpnhleaaQh
set_option maxRecDepth 100000
namespace Go.Proofs.Ythmmafpmpnhleaa.Fbk
open Go.RowKit
set_option linter.unusedVariables false

theorem info_item : (Try.prog.info? 68).map (fun i => (i.zero, i.size, i.bytes)) = some (some (itm ziv), 10, 120) := by kernel_rfl
/-- An item's lists do not lie in block g. -/
def INe (g : Nat) (i : Itm) (l : ILoc) : Prop := (0 < i.blocks.length → ∀ off, l.ba ≠ some ⟨g, off, none⟩) ∧ (0 < i.gone.length → ∀ off, l.ga ≠ some ⟨g, off, none⟩) ∧ (0 < i.pairs.length → ∀ off, l.pa ≠ some ⟨g, off, none⟩)
section
variable {w w' : World} {B g : Nat} {i : Itm} {l : ILoc}
theorem INe.of_ge (h : IRd w B i l) (hg : B ≤ g) : INe g i l := by
  refine ⟨fun hn off e => ?_, fun hn off e => ?_, fun hn off e => ?_⟩
  · obtain ⟨b, o, e', hlt, _⟩ := h.blocks.2 hn
    rw [e] at e'; simp only [Option.some.injEq, Addr.mk.injEq, and_true] at e'; omega
  · obtain ⟨b, o, e', hlt, _⟩ := h.gone.2.2 hn
    rw [e] at e'; simp only [Option.some.injEq, Addr.mk.injEq, and_true] at e'; omega
  · obtain ⟨b, o, e', hlt, _⟩ := h.pairs.2 hn
    rw [e] at e'; simp only [Option.some.injEq, Addr.mk.injEq, and_true] at e'; omega
theorem INe.of_lt (h : IAb B l) (hg : g < B) : INe g i l :=
  ⟨fun _ off e => by have := h.1 g off e; omega, fun _ off e => by have := h.2.1 g off e; omega, fun _ off e => by have := h.2.2 g off e; omega⟩
theorem cell_of_heap {b o : Nat} (h : w'.heap[b]? = w.heap[b]?) : w'.cell? ⟨b, o, none⟩ = w.cell? ⟨b, o, none⟩ := by simp only [World.cell?, h]
theorem IRd.keep (h : IRd w B i l) (hk : ∀ k, k < B → (0 < i.blocks.length → ∃ off, l.ba = some ⟨k, off, none⟩) ∨ (0 < i.gone.length → ∃ off, l.ga = some ⟨k, off, none⟩) ∨ (0 < i.pairs.length → ∃ off, l.pa = some ⟨k, off, none⟩) → w'.heap[k]? = w.heap[k]?) : IRd w' B i l := by
  refine ⟨⟨h.blocks.1, fun hn => ?_⟩, ⟨h.gone.1, h.gone.2.1, fun hn => ?_⟩, ⟨h.pairs.1, fun hn => ?_⟩, h.bn, h.gn, h.pn, h.bc, h.gc, h.pc⟩
  · obtain ⟨b, off, e, hlt, hq⟩ := h.blocks.2 hn
    exact ⟨b, off, e, hlt, fun k x hx m v hv => by rw [cell_of_heap (hk b hlt (.inl fun _ => ⟨off, e⟩))]; exact hq k x hx m v hv⟩
  · obtain ⟨b, off, e, hlt, hq⟩ := h.gone.2.2 hn
    exact ⟨b, off, e, hlt, fun k hk' => by rw [cell_of_heap (hk b hlt (.inr (.inl fun _ => ⟨off, e⟩)))]; exact hq k hk'⟩
  · obtain ⟨b, off, e, hlt, hq⟩ := h.pairs.2 hn
    exact ⟨b, off, e, hlt, fun k x hx m v hv => by rw [cell_of_heap (hk b hlt (.inr (.inr fun _ => ⟨off, e⟩)))]; exact hq k x hx m v hv⟩
/-- All blocks but g stay. -/
theorem IRd.apart (h : IRd w B i l) (hne : INe g i l) (hk : ∀ k, k < B → k ≠ g → w'.heap[k]? = w.heap[k]?) : IRd w' B i l := by
  refine ⟨⟨h.blocks.1, fun hn => ?_⟩, ⟨h.gone.1, h.gone.2.1, fun hn => ?_⟩, ⟨h.pairs.1, fun hn => ?_⟩, h.bn, h.gn, h.pn, h.bc, h.gc, h.pc⟩
  · obtain ⟨b, off, e, hlt, hq⟩ := h.blocks.2 hn
    exact ⟨b, off, e, hlt, fun k x hx m v hv => by rw [cell_of_heap (hk b hlt (fun eg => hne.1 hn off (eg ▸ e)))]; exact hq k x hx m v hv⟩
  · obtain ⟨b, off, e, hlt, hq⟩ := h.gone.2.2 hn
    exact ⟨b, off, e, hlt, fun k hk' => by rw [cell_of_heap (hk b hlt (fun eg => hne.2.1 hn off (eg ▸ e)))]; exact hq k hk'⟩
  · obtain ⟨b, off, e, hlt, hq⟩ := h.pairs.2 hn
    exact ⟨b, off, e, hlt, fun k x hx m v hv => by rw [cell_of_heap (hk b hlt (fun eg => hne.2.2 hn off (eg ▸ e)))]; exact hq k x hx m v hv⟩
end
/-- A row of items that the call made, whose lists do not lie in the row's block. -/
structure ItsOwn (w : World) (base : Nat) (A : Option Addr) (n c : Nat) (ps : List (Itm × ILoc)) : Prop where
  row : RowOwn itmL w base A n c ps
  each : ∀ p ∈ ps, IRd w w.heap.size p.1 p.2
  apart : ∀ g, A = some ⟨g, 0, none⟩ → ∀ p ∈ ps, INe g p.1 p.2
section
variable {w w' : World} {B base n c : Nat} {a A : Option Addr} {ps qs : List (Itm × ILoc)}
theorem ItsOwn.nil (w : World) (base : Nat) : ItsOwn w base none 0 0 [] := ⟨RowOwn.nil _ _, fun p hp => by simp at hp, fun g e => by cases e⟩
theorem ItsOwn.rd (h : ItsOwn w base A n c ps) : ItsRd w w.heap.size A n ps := ⟨h.row.rd, h.each⟩
theorem ItsOwn.bel (h : ItsOwn w base A n c ps) (hb : Below w.heap.size w w') : ItsOwn w' base A n c ps := ⟨h.row.bel hb, fun p hp => ((h.each p hp).below hb).more hb.size, h.apart⟩
theorem ItsOwn.lower {base' : Nat} (h : ItsOwn w base A n c ps) (hb : base' ≤ base) : ItsOwn w base' A n c ps := ⟨h.row.lower hb, h.each, h.apart⟩
theorem ItsOwn.len (h : ItsOwn w base A n c ps) : ps.length = n := h.row.1
theorem its_append {m k : Nat} (ty : TypeId) (ho : ItsOwn w base A n c ps) (hr : ItsRd w w.heap.size a m qs) (hne : ∀ g, A = some ⟨g, 0, none⟩ → ∀ p ∈ qs, INe g p.1 p.2) (hb : base ≤ w.heap.size) (hn : n + m ≤ 1099511627776) :
    ∃ A' c' w', (Builtin.append_ #[36, 36] ty #[.slice A n c, .slice a m k]).run Try.prog w = .ok (.slice A' (n + m) c') w' ∧ ItsOwn w' base A' (n + m) c' (ps ++ qs) ∧ Below base w w' := by
  obtain ⟨i0, hi0, hz0, hz1, hz2⟩ := info_parts info_item
  rcases Nat.eq_zero_or_pos m with h0 | h0
  · subst h0
    obtain rfl : qs = [] := List.eq_nil_of_length_eq_zero hr.len
    obtain ⟨A', c', w', hrun, ho', hb'⟩ := append_rows_all (L := itmL) (k := k) (ty := ty) Try.underlying36 hi0 hz0 hz1 hz2 rfl ho.row hr.row hb (by unfold maxLen; omega) (by omega)
    have hself : (Builtin.append_ #[36, 36] ty #[.slice A n c, .slice a 0 k]).run Try.prog w = .ok (.slice A n c) w := by
      rcases a with _ | ad
      · rcases ho.row.2.2.2 with ⟨rfl, rfl, rfl⟩ | ⟨g, T, rfl, hbg, hk, hl⟩
        · simp [Builtin.append_, run_underlying Try.underlying36, sizeOf, typeInfo, hi0, Builtin.lenOf, Builtin.firstCells]
        · simp [Builtin.append_, run_underlying Try.underlying36, sizeOf, typeInfo, hi0, Builtin.lenOf, Builtin.firstCells, ho.row.2.1, storeCells]
      · rcases ho.row.2.2.2 with ⟨rfl, rfl, rfl⟩ | ⟨g, T, rfl, hbg, hk, hl⟩
        · simp [Builtin.append_, run_underlying Try.underlying36, sizeOf, typeInfo, hi0, Builtin.lenOf, Builtin.firstCells, loadCells, loadCellsFrom]
        · simp [Builtin.append_, run_underlying Try.underlying36, sizeOf, typeInfo, hi0, Builtin.lenOf, Builtin.firstCells, ho.row.2.1, storeCells, loadCells, loadCellsFrom]
    exact ⟨A, c, w, hself, by simpa using ho, Below.refl _ _⟩
  · obtain ⟨b, off, rfl, hlt, hc⟩ := hr.row.2 h0
    have hrow := ho.row.row
    have hown := hrow.lt
    obtain ⟨v', w', hrun, h2, h3, h4, h5⟩ := run_append_own_at (P := Try.prog) w base 36 ty 68 i0 _ 10 120 Try.underlying36 hi0 hz0 hz1 hz2 rfl (by omega) _ n _ hrow ⟨b, off, none⟩ m k (flat itmL qs)
      (by rw [flat_len, hr.row.1]; rfl) (fun j u hu => by
        have hj := (List.getElem?_eq_some_iff.1 hu).1
        rw [flat_len, hr.row.1] at hj
        have hdm := Nat.div_add_mod j itmL.s
        have hq : j / itmL.s < qs.length := by rw [hr.row.1]; exact Nat.div_lt_of_lt_mul (by rw [Nat.mul_comm]; exact hj)
        have hr' : j % itmL.s < (itmL.cel qs[j / itmL.s]).length := by rw [itmL.len]; exact Nat.mod_lt _ itmL.pos
        have hg := flat_get itmL qs (j / itmL.s) (j % itmL.s) _ _ (List.getElem?_eq_getElem hq) (List.getElem?_eq_getElem hr')
        have he : j / itmL.s * itmL.s + j % itmL.s = j := by rw [Nat.mul_comm]; exact hdm
        rw [he, hu] at hg
        rw [plain_add, show off + j = off + j / itmL.s * itmL.s + j % itmL.s from by omega, hc _ _ (List.getElem?_eq_getElem hq) _ _ (List.getElem?_eq_getElem hr'), hg]) (flat_one itmL qs) (by unfold maxLen; omega) (by omega) hb
    rw [flat_append] at h2
    obtain ⟨A', c', rfl, ho'⟩ := rowOwn_of (L := itmL) h2
    have hbel : Below base w w' := (Below.refl _ _).grown h3 hb (fun q hq => (hown q hq).1)
    have hsz := hbel.size
    -- what stands elsewhere stays
    have hst : ∀ p : Itm × ILoc, IRd w w.heap.size p.1 p.2 → (∀ g, A = some ⟨g, 0, none⟩ → INe g p.1 p.2) → IRd w' w'.heap.size p.1 p.2 := fun p hp hq => by
      rcases ho.row.2.2.2 with ⟨rfl, -, -⟩ | ⟨g, T, rfl, hbg, hk, hl⟩
      · refine (IRd.keep hp fun k hk _ => h3.block k hk ?_).more hsz
        simp [Value.ownBlock]
      · refine (IRd.apart hp (hq g rfl) fun k hk hne' => h3.block k hk ?_).more hsz
        simp only [Value.ownBlock, ne_eq, Option.some.injEq]
        exact hne'
    refine ⟨A', c', w', hrun, ⟨ho', fun p hp => ?_, fun g e p hp => ?_⟩, hbel⟩
    · rcases List.mem_append.1 hp with hp | hp
      · exact hst p (ho.each p hp) (fun g e => ho.apart g e p hp)
      · exact hst p (hr.each p hp) (fun g e => hne g e p hp)
    · subst e
      have hq : IRd w w.heap.size p.1 p.2 ∧ (∀ g, A = some ⟨g, 0, none⟩ → INe g p.1 p.2) := by
        rcases List.mem_append.1 hp with hp | hp
        · exact ⟨ho.each p hp, fun g e => ho.apart g e p hp⟩
        · exact ⟨hr.each p hp, fun g e => hne g e p hp⟩
      simp only [Value.ownBlock] at h5
      rcases h5 with h5 | h5
      · rcases ho.row.2.2.2 with ⟨rfl, -, -⟩ | ⟨g', T, rfl, hbg, hk, hl⟩
        · simp at h5
        · simp only [Option.some.injEq] at h5
          subst h5
          exact hq.2 g rfl
      · simp only [Option.some.injEq] at h5
        subst h5
        exact INe.of_ge hq.1 (Nat.le_refl _)
/-- The same as a step of the walk: behind the guard 'at_builtin'; under a guard that is met, too. -/
theorem wpList_append_its {ops : Array Oper} {rest : List Oper} {o : Oper} {act : Act} {Q : Exit → Act → World → Prop} {m k N : Nat} (hgd : Region.wanted o (yielded ops act.tmps) = true) (s x : Operand)
    (hop : o.op = .call { callee := .builtin .append, args := #[s, x], argTypes := #[36, 36] }) (zs : List (Itm × ILoc)) (hN : n + m = N) (hzz : ps ++ qs = zs) (hs : act.eval s = .slice A n c) (hx : act.eval x = .slice a m k)
    (ho : ItsOwn w base A n c ps) (hr : ItsRd w w.heap.size a m qs) (hne : ∀ g, A = some ⟨g, 0, none⟩ → ∀ p ∈ qs, INe g p.1 p.2) (hb : base ≤ w.heap.size) (hn : n + m ≤ 1099511627776)
    (h : ∀ A' c' w', ItsOwn w' base A' N c' zs → Below base w w' → wpList Try.prog ops Q rest (act.put o.dst (.slice A' N c')) w') : wpList Try.prog ops Q (o :: rest) act w := by
  subst hN
  subst hzz
  refine wpList_step fun K hK => ?_
  rw [if_pos hgd]
  obtain ⟨A', c', w', hrun, ho', hb'⟩ := its_append (k := k) o.type ho hr hne hb hn
  unfold Oper.wp execOp
  simp only [hop, resolve, invoke, builtin, Sem.run_bind, Sem.run_pure, Result.andThen_ok, List.map_toArray, List.map_cons, List.map_nil, hs, hx, hrun]
  exact hK _ _ (h A' c' w' ho' hb')
end
/-- One item that lies at a block of its own, as a row of one. -/
theorem its_one {w : World} {b : Nat} {i : Itm} {l : ILoc} (h : IBlk w b (ivOf i l)) (hi : IRd w w.heap.size i l) : ItsRd w w.heap.size (some ⟨b, 0, none⟩) 1 [(i, l)] :=
  ⟨rowRd_blk (L := itmL) (xs := [(i, l)]) (by rw [show flat itmL [(i, l)] = ivC (ivOf i l) from by simp [flat, itmL]]; exact h) rfl, fun p hp => by
    simp only [List.mem_cons, List.not_mem_nil, or_false] at hp
    subst hp
    exact hi⟩
/-- x[lo:] of bytes, without a way for each capacity; nil let in. -/
theorem cut_from_any (a : Option Addr) (len cap lo : Nat) (l : Int) (hl : l = lo) (h1 : lo ≤ len) :
    ∃ X, (∀ b off, a = some ⟨b, off, none⟩ → cap ≠ lo → X = some ⟨b, off + lo, none⟩) ∧ ∀ W, (Instr.slice 22 (.slice a len cap) (some (.int .i64 l)) none none).run Try.prog W = .ok (.slice X (len - lo) (cap - lo)) W := by
  subst hl
  obtain ⟨i0, hi0, hz0, hz1, hz2⟩ := info_parts info5
  have e := fun W => run_slice_l (P := Try.prog) (w := W) (t := 22) (a := a) (len := len) (cap := cap) (ht := Try.underlying22) .i64 (lo : Int) (by omega) (by omega)
  rcases a with _ | ad
  · refine ⟨none, (fun b off h => by cases h), fun W => ?_⟩
    rw [e, show Try.prog.elem 22 = 5 from rfl]
    by_cases hc : cap = lo
    · simp [sizeOf, typeInfo, hi0, sliced, hc]
    · simp [sizeOf, typeInfo, hi0, hz1, sliced, hc]
  · refine ⟨if cap = lo then some ad else some (ad.add lo), fun b off h hne => ?_, fun W => ?_⟩
    · rw [if_neg hne]
      simp only [Option.some.injEq] at h
      rw [h, plain_add]
    · rw [e, show Try.prog.elem 22 = 5 from rfl]
      by_cases hc : cap = lo
      · simp [sizeOf, typeInfo, hi0, sliced, hc]
      · simp [sizeOf, typeInfo, hi0, hz1, sliced, hc]
theorem rd_from {w : World} {B n cap lo : Nat} {a X : Option Addr} {xs : List Int} (h : Rd w B a n xs) (h1 : lo ≤ n) (h3 : n ≤ cap) (hX : ∀ b off, a = some ⟨b, off, none⟩ → cap ≠ lo → X = some ⟨b, off + lo, none⟩) : Rd w B X (n - lo) (xs.drop lo) := by
  by_cases hc : n = lo
  · rw [show n - lo = 0 from by omega]
    exact Rd.none_ X (List.drop_of_length_le (by rw [h.1]; omega))
  · obtain ⟨b, off, e, _⟩ := h.2.2 (by omega)
    rw [hX b off e (by omega)]
    subst e
    exact h.drop h1
end Go.Proofs.Ythmmafpmpnhleaa.Fbk
