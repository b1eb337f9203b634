/- An append that leaves what was cut out of the row readable; the history beside the row of all that was pushed. -/
import Derived.Test.YtjiofhlmfmhhmaaZh
set_option maxRecDepth 100000
namespace Go.Proofs.Ytjiofhlmfmhhmaa.Hst
open Go.RowKit
open Go.Proofs.Ytjiofhlmfmhhmaa.Arn
set_option linter.unusedVariables false

section
variable {α : Type} {L : Lay α} {w : World} {B base n c : Nat} {a A : Option Addr} {xs ys : List α}
/-- Rows that lie within A's first n, or in other blocks, read as they did. -/
def KeepRd (L : Lay α) (w w' : World) (A : Option Addr) (n : Nat) : Prop := ∀ (B' l : Nat) (X : Option Addr) (zs : List α), B' ≤ w.heap.size → RowRd L w B' X l zs → (∀ q o, A = some ⟨q, 0, none⟩ → X = some ⟨q, o, none⟩ → 0 < l → o + l * L.s ≤ n * L.s) → RowRd L w' B' X l zs
theorem append_keep {P : Program} {t ty : TypeId} {i0 : TypeInfo} {z : Value} {bytes m k : Nat} (ht : P.underlying t = some (.slice L.e)) (hi : P.info? L.e = some i0) (hz : i0.zero = some z) (hs : i0.size = L.s) (hby : i0.bytes = bytes) (hzs : z.cells.size = L.s)
    (ho : RowOwn L w base A n c xs) (hr : RowRd L w B a m ys) (hm : 0 < m) (hb : base ≤ w.heap.size) (h63 : n + m ≤ maxLen) (hbytes : (n + m) * bytes ≤ 140737488355328) :
    ∃ A' c' w', (Builtin.append_ #[t, t] ty #[.slice A n c, .slice a m k]).run P w = .ok (.slice A' (n + m) c') w' ∧ RowOwn L w' base A' (n + m) c' (xs ++ ys) ∧ Upd (fun q => A = some ⟨q, 0, none⟩) w w' ∧ KeepRd L w w' A n := by
  obtain ⟨hx, hn, hc, h⟩ := ho
  obtain ⟨b, off, rfl, _, hcell⟩ := hr.2 hm
  have hsmall : n + m ≤ 9223372036854775807 := by simp only [maxLen] at h63; omega
  have hl : (flat L ys).length = m * i0.size := by rw [flat_len, hr.1, hs]
  have hnews : ∀ j u, (flat L ys)[j]? = some u → w.cell? ((⟨b, off, none⟩ : Addr).add j) = some u := fun j u hu => by
    have hj := (List.getElem?_eq_some_iff.1 hu).1
    rw [flat_len, hr.1] at hj
    have hdm := Nat.div_add_mod j L.s
    have hq : j / L.s < ys.length := by rw [hr.1]; exact Nat.div_lt_of_lt_mul (by rw [Nat.mul_comm]; exact hj)
    have hr' : j % L.s < (L.cel ys[j / L.s]).length := by rw [L.len]; exact Nat.mod_lt _ L.pos
    have hg := flat_get L ys (j / L.s) (j % L.s) _ _ (List.getElem?_eq_getElem hq) (List.getElem?_eq_getElem hr')
    have he : j / L.s * L.s + j % L.s = j := by rw [Nat.mul_comm]; exact hdm
    rw [he, hu] at hg
    rw [plain_add, show off + j = off + j / L.s * L.s + j % L.s from by omega, hcell _ _ (List.getElem?_eq_getElem hq) _ _ (List.getElem?_eq_getElem hr'), hg]
  have hlen : (flat L xs ++ flat L ys).length = (n + m) * L.s := by rw [List.length_append, flat_len, flat_len, hx, hr.1, Nat.add_mul]
  have grown : ∀ (old : Nat), old < n + m →
      RowOwn L (w.drew.alloc (.cells ((flat L xs).toArray ++ (flat L ys).toArray ++ Builtin.zeroCells z.cells (grownCap w (n + m) old L.e - (n + m))) L.e)) base (some ⟨w.heap.size, 0, none⟩) (n + m) (grownCap w (n + m) old L.e) (xs ++ ys) ∧
      Below w.heap.size w (w.drew.alloc (.cells ((flat L xs).toArray ++ (flat L ys).toArray ++ Builtin.zeroCells z.cells (grownCap w (n + m) old L.e - (n + m))) L.e)) := by
    intro old hold
    have hge := grownCap_ge w (n + m) old L.e
    have hcm : grownCap w (n + m) old L.e ≤ maxLen := grownCap_le_maxLen w (n + m) old L.e h63
    refine ⟨⟨by rw [List.length_append, hx, hr.1], hge, hcm, .inr ⟨w.heap.size, (Builtin.zeroCells z.cells (grownCap w (n + m) old L.e - (n + m))).toList, rfl, hb, ?_, ?_⟩⟩, (Below.refl _ _).drew.alloc (Nat.le_refl _) _⟩
    · refine Eq.trans (heap_alloc_new w.drew _) ?_
      simp [flat]
    · rw [← flat_append, hlen, Array.length_toList, size_zeroCells, hzs, ← Nat.add_mul]
      congr 1
      omega
  rcases h with ⟨rfl, rfl, rfl⟩ | ⟨g, T, rfl, hg, hk, hT⟩
  · obtain rfl : xs = [] := List.eq_nil_of_length_eq_zero hx
    have hgr := grown 0 (by omega)
    have hrun := run_append_nil (P := P) w t ty L.e i0 z ht hi hz ⟨b, off, none⟩ m k (flat L ys) hl hnews hm (by omega) (by rw [hby]; rw [Nat.zero_add] at hbytes; omega)
    simp only [Nat.zero_add, flat, List.flatMap_nil, List.nil_append, Array.empty_append] at hgr hrun ⊢
    exact ⟨_, _, _, hrun, hgr.1, .of hgr.2, fun B' l X zs hB' hX _ => hX.below (hgr.2.mono hB')⟩
  · by_cases hroom : n + m ≤ c
    · have hf := run_firstCells_some (P := P) w i0.size m ⟨b, off, none⟩ m k (flat L ys) hl hnews
      have h2 : (flat L xs).length = n * L.s := by rw [flat_len, hx]
      have hfit : 0 + n * i0.size + (flat L ys).length ≤ (flat L xs ++ T).toArray.size := by
        rw [List.size_toArray, List.length_append, hl, hs]
        have : n * L.s + m * L.s ≤ c * L.s := by rw [← Nat.add_mul]; exact Nat.mul_le_mul_right _ hroom
        omega
      have hst := run_storeCells_at P g (0 + n * i0.size) L.e (flat L ys) 0 _ w hk (by simpa using hfit) (flat_one L ys)
      simp only [Nat.add_zero, Nat.zero_add] at hst
      have hrun : (Builtin.append_ #[t, t] ty #[.slice (some ⟨g, 0, none⟩) n c, .slice (some ⟨b, off, none⟩) m k]).run P w = .ok (.slice (some ⟨g, 0, none⟩) (n + m) c) (w.setRow g ((flat L xs ++ T).take (n * i0.size) ++ flat L ys ++ (flat L xs ++ T).drop (n * i0.size + (flat L ys).length)).toArray) := by
        simp [Builtin.append_, run_underlying ht, sizeOf, typeInfo, hi, Builtin.lenOf, hroom, hf, plain_add, hst]
      have e1 : (flat L xs ++ T).take (n * i0.size) = flat L xs := by
        rw [List.take_append_of_le_length (by rw [h2, hs]; exact Nat.le_refl _), List.take_of_length_le (by rw [h2, hs]; exact Nat.le_refl _)]
      have e2 : (flat L xs ++ T).drop (n * i0.size + (flat L ys).length) = T.drop (flat L ys).length := by
        rw [List.drop_append, List.drop_of_length_le (by rw [h2, hs]; omega), List.nil_append, h2, hs]
        congr 1
        omega
      have hnew : (w.setRow g ((flat L xs ++ T).take (n * i0.size) ++ flat L ys ++ (flat L xs ++ T).drop (n * i0.size + (flat L ys).length)).toArray).heap[g]? = some (.cells (flat L xs ++ flat L ys ++ T.drop (flat L ys).length).toArray L.e (0, 0)) := by
        rw [setRow_heap w g _ _ L.e _ hk, e1, e2]
      refine ⟨_, _, _, hrun, ⟨by rw [List.length_append, hx, hr.1], hroom, hc, .inr ⟨g, T.drop (flat L ys).length, rfl, hg, ?_, ?_⟩⟩, ⟨⟨rfl, rfl, rfl, by simp, fun i hi => absurd hi (Nat.not_lt_zero i)⟩, fun i _ hi => setRow_other w g i _ (fun e => hi (by rw [e]))⟩, ?_⟩
      · rw [hnew, ← flat_append]
      · rw [← flat_append, hlen, List.length_drop, hl, hs]
        have : n * L.s + m * L.s ≤ c * L.s := by rw [← Nat.add_mul]; exact Nat.mul_le_mul_right _ hroom
        rw [Nat.add_mul]
        omega
      · intro B' l X zs hB' hX hin
        refine ⟨hX.1, fun hp => ?_⟩
        obtain ⟨q, o, e, hlt, hcl⟩ := hX.2 hp
        refine ⟨q, o, e, hlt, fun i x hi j v hv => ?_⟩
        have h3 := hcl i x hi j v hv
        by_cases hq : q = g
        · subst hq
          have hil : i < l := by have := (List.getElem?_eq_some_iff.1 hi).1; rw [hX.1] at this; exact this
          have hjs : j < L.s := by have := (List.getElem?_eq_some_iff.1 hv).1; rw [L.len] at this; exact this
          have h4 := hin q o rfl e hp
          have h5 : (i + 1) * L.s ≤ l * L.s := Nat.mul_le_mul_right _ hil
          rw [Nat.add_mul] at h5
          have h6 : o + i * L.s + j < (flat L xs).length := by rw [h2]; omega
          rw [cell_of_row w q _ _ L.e (0, 0) hk, List.getElem?_toArray, List.getElem?_append_left h6] at h3
          rw [cell_of_row _ q _ _ L.e (0, 0) hnew, List.getElem?_toArray, List.append_assoc, List.getElem?_append_left h6]
          exact h3
        · rw [cell_setRow_other w g _ _ hq]
          exact h3
    · have holds : ∀ j u, (flat L xs)[j]? = some u → w.cell? ((⟨g, 0, none⟩ : Addr).add j) = some u := fun j u hu => by
        have hlt := (List.getElem?_eq_some_iff.1 hu).1
        rw [plain_add, cell_of_row w g _ _ L.e (0, 0) hk, List.getElem?_toArray, Nat.zero_add, List.getElem?_append_left hlt]
        exact hu
      have hgr := grown c (by omega)
      have hrun := run_append_grow (P := P) w t ty L.e i0 z ht hi hz ⟨g, 0, none⟩ n c (flat L xs) (by rw [flat_len, hx, hs]) holds ⟨b, off, none⟩ m k (flat L ys) hl hnews (by omega) (by omega) (growslice_fits (by omega) (by rw [hby]; exact hbytes))
      exact ⟨_, _, _, hrun, hgr.1, .of hgr.2, fun B' l X zs hB' hX _ => hX.below (hgr.2.mono hB')⟩
theorem wpList_append_keep {P : Program} {ops : Array Oper} {rest : List Oper} {o : Oper} {act : Act} {Q : Exit → Act → World → Prop} {t : TypeId} {i0 : TypeInfo} {z : Value} {bytes m k N : Nat} (hgd : Region.wanted o (yielded ops act.tmps) = true) (s x : Operand)
    (hop : o.op = .call { callee := .builtin .append, args := #[s, x], argTypes := #[t, t] }) (ht : P.underlying t = some (.slice L.e)) (hi : P.info? L.e = some i0) (hz : i0.zero = some z) (hsz : i0.size = L.s) (hby : i0.bytes = bytes) (hzs : z.cells.size = L.s)
    (zs : List α) (hN : n + m = N) (hzz : xs ++ ys = zs) (hs : act.eval s = .slice A n c) (hx : act.eval x = .slice a m k)
    (ho : RowOwn L w base A n c xs) (hr : RowRd L w B a m ys) (hm : 0 < m) (hb : base ≤ w.heap.size) (h63 : n + m ≤ maxLen) (hbytes : (n + m) * bytes ≤ 140737488355328)
    (h : ∀ A' c' w', RowOwn L w' base A' N c' zs → Upd (fun q => A = some ⟨q, 0, none⟩) w w' → KeepRd L w w' A n → wpList P ops Q rest (act.put o.dst (.slice A' N c')) w') : wpList P ops Q (o :: rest) act w := by
  subst hN
  subst hzz
  refine wpList_step fun K hK => ?_
  rw [if_pos hgd]
  obtain ⟨A', c', w', hrun, ho', hb', hd'⟩ := append_keep (k := k) (ty := o.type) ht hi hz hsz hby hzs ho hr hm hb h63 hbytes
  unfold Oper.wp execOp
  simp only [hop, resolve, invoke, builtin, Sem.run_bind, Sem.run_pure, Result.andThen_ok, List.map_toArray, List.map_cons, List.map_nil, hs, hx, hrun]
  exact hK _ _ (h A' c' w' ho' hb' hd')
end

/-- What is kept of all of G, the last one first. -/
def rv (C : Nat) (G : List En) : List En := G.reverse.take C
theorem rv_len {C k : Nat} {G : List En} (h : G.length = k) : (rv C G).length = k - (k - C) := by
  unfold rv
  rw [List.length_take, List.length_reverse, h]
  omega
theorem rv_rev {C k : Nat} {G : List En} (h : G.length = k) : (rv C G).reverse = G.drop (k - C) := by
  unfold rv
  rw [List.reverse_take, List.reverse_reverse, List.length_reverse, h]
theorem rv_of {C k : Nat} {G : List En} (h : G.length = k) : rv C G = (G.drop (k - C)).reverse := by rw [← rv_rev h, List.reverse_reverse]
theorem rv_push {C : Nat} {G : List En} (x : En) : (x :: rv C G).take C = rv C (G ++ [x]) := by
  unfold rv
  rw [take_push]
  simp
theorem rv_gone {C k : Nat} {G : List En} {x : En} (h : G.length = k) (hC : C ≤ k) : (G.drop (k - C) ++ [x])[0]? = some (goneV C (rv C G) x) := by
  cases C with
  | zero => rw [Nat.sub_zero, ← h, List.drop_length]; rfl
  | succ c =>
    obtain ⟨y, hy⟩ : ∃ y, G[k - (c + 1)]? = some y := ⟨_, List.getElem?_eq_getElem (by omega)⟩
    rw [gone_some x y (by
      unfold rv
      rw [List.getElem?_take, if_pos (Nat.lt_succ_self c), List.getElem?_reverse (by omega), h, show k - 1 - c = k - (c + 1) from by omega]
      exact hy), List.getElem?_append_left (by rw [List.length_drop]; omega), List.getElem?_drop, Nat.add_zero]
    exact hy

/-- A slice that was cut out of a row at base or above. -/
structure Vw (w : World) (base : Nat) (X : Option Addr) (l : Nat) (zs : List En) : Prop where
  rd : RowRd enL w w.heap.size X l zs
  lo : ∀ q o, X = some ⟨q, o, none⟩ → 0 < l → base ≤ q
section
variable {w w' : World} {base l : Nat} {X : Option Addr} {zs : List En} {S : Nat → Prop}
theorem Vw.bel (h : Vw w base X l zs) (hb : Below w.heap.size w w') : Vw w' base X l zs := ⟨(h.rd.below hb).more hb.size, h.lo⟩
theorem Vw.upd (h : Vw w base X l zs) (hu : Upd S w w') (hS : ∀ q, base ≤ q → ¬ S q) : Vw w' base X l zs := by
  refine ⟨⟨h.rd.1, fun hp => ?_⟩, h.lo⟩
  obtain ⟨q, o, e, hlt, hc⟩ := h.rd.2 hp
  refine ⟨q, o, e, Nat.lt_of_lt_of_le hlt hu.size, fun i x hi j v hv => ?_⟩
  have h1 := hc i x hi j v hv
  have h2 := hu.2 q hlt (hS q (h.lo q o e hp))
  unfold World.cell? at h1 ⊢
  simp only at h1 ⊢
  rw [h2]
  exact h1
end
/-- An act at block b. -/
def ABlk (w : World) (b : Nat) (x : Hact) : Prop := w.heap[b]? = some (hactO x)
section
variable {w w' : World} {b : Nat} {x : Hact} {S : Nat → Prop}
theorem ABlk.k0 (h : ABlk w b x) : w.cell? ⟨b, 0, none⟩ = some (.int .i64 x.kd) := by rw [cell_of_row w b 0 _ _ _ h]; rfl
theorem ABlk.c0 (h : ABlk w b x) : w.cell? ⟨b, 1, none⟩ = some (.int .u16 x.e.sq) := by rw [cell_of_row w b 1 _ _ _ h]; rfl
theorem ABlk.c1 (h : ABlk w b x) : w.cell? ⟨b, 2, none⟩ = some (.int .i64 x.e.sl) := by rw [cell_of_row w b 2 _ _ _ h]; rfl
theorem ABlk.c2 (h : ABlk w b x) : w.cell? ⟨b, 3, none⟩ = some (.int .u32 x.e.gn) := by rw [cell_of_row w b 3 _ _ _ h]; rfl
theorem ABlk.c3 (h : ABlk w b x) : w.cell? ⟨b, 4, none⟩ = some (.int .u16 x.e.ps) := by rw [cell_of_row w b 4 _ _ _ h]; rfl
theorem ABlk.c4 (h : ABlk w b x) : w.cell? ⟨b, 5, none⟩ = some (.int .u32 x.e.pt) := by rw [cell_of_row w b 5 _ _ _ h]; rfl
theorem ABlk.c5 (h : ABlk w b x) : w.cell? ⟨b, 6, none⟩ = some (.int .u32 x.e.pc) := by rw [cell_of_row w b 6 _ _ _ h]; rfl
theorem ABlk.c6 (h : ABlk w b x) : w.cell? ⟨b, 7, none⟩ = some (.int .u16 x.e.pf) := by rw [cell_of_row w b 7 _ _ _ h]; rfl
theorem ABlk.new (w : World) (x : Hact) : ABlk (w.alloc (hactO x)) w.heap.size x := heap_alloc_new w _
theorem ABlk.lt (h : ABlk w b x) : b < w.heap.size := lt_of_some h
theorem ABlk.more (h : ABlk w b x) (hb : Below w.heap.size w w') : ABlk w' b x := (hb.block b h.lt).trans h
theorem ABlk.upd (h : ABlk w b x) (hu : Upd S w w') (hS : ¬ S b) : ABlk w' b x := hu.keep h hS
end
section
variable {w0 w w' : World} {base b g C k c : Nat} {R G : List En} {A : Option Addr}
theorem Gs.find (h : Gs w0 w base b g C R A k c G) (sq : Int) : Calls Try.prog 11 #[.pointer (some ⟨b, 0, none⟩), .int .u16 sq] w fun e w' => e = .returned (.tuple #[enV ((findO R sq).getD en0), .bool (findO R sq).isSome]) ∧ Gs w0 w' base b g C R A k c G ∧ Below w.heap.size w w' := by
  refine (h.hl.find sq).mono ?_
  rintro e w' ⟨rfl, hr, hb⟩
  exact ⟨rfl, h.more hb, hb⟩
theorem Gs.pushU (h : Gs w0 w base b g C R A k c G) (y : En) : Calls Try.prog 10 #[.pointer (some ⟨b, 0, none⟩), enV y] w fun e w' => e = .returned (.tuple #[enV (goneV C R y), .bool (decide (C ≤ R.length))]) ∧ Gs w0 w' base b g C ((y :: R).take C) A k c G ∧ Upd (fun k => k = b ∨ k = g) w w' := by
  refine (h.hl.push y).mono ?_
  rintro e w' ⟨rfl, hr, hu⟩
  have hlo := h.lo
  exact ⟨rfl, ⟨hr, h.ro.upd hu (fun k hk => by have := (h.ro.lt_at hk).1; omega), ⟨hlo.1, hlo.2.1, hlo.2.2.1, Nat.le_trans hlo.2.2.2 hu.size⟩⟩, hu⟩
theorem Gs.clear (h : Gs w0 w base b g C R A k c G) : Calls Try.prog 14 #[.pointer (some ⟨b, 0, none⟩)] w fun e w' => ∃ A1 c1, e = .returned (.slice A1 R.length c1) ∧ RowRd enL w' w'.heap.size A1 R.length R.reverse ∧ Gs w0 w' base b g C [] A k c G ∧ Upd (fun k => k = b ∨ k = g) w w' := by
  refine h.hl.clear.mono ?_
  rintro e w' ⟨A1, c1, rfl, hr, hl, hu⟩
  have hlo := h.lo
  exact ⟨A1, c1, rfl, hr.rd, ⟨hl, h.ro.upd hu (fun k hk => by have := (h.ro.lt_at hk).1; omega), ⟨hlo.1, hlo.2.1, hlo.2.2.1, Nat.le_trans hlo.2.2.2 hu.size⟩⟩, hu⟩
theorem Gs.upd1 {v : Nat} (h : Gs w0 w base b g C R A k c G) (hu : Upd (fun q => q = v) w w') (hv : base ≤ v) (hA : A ≠ some ⟨v, 0, none⟩) : Gs w0 w' base b g C R A k c G := by
  have hlo := h.lo
  exact ⟨⟨h.hl.hi.upd hu (fun e => by omega) (fun e => by omega), h.hl.bel.trans (hu.below h.hl.bel.size (fun q e => by omega)), h.hl.lo⟩, h.ro.upd hu (fun q e e2 => hA (by rw [e, e2])), ⟨hlo.1, hlo.2.1, hlo.2.2.1, Nat.le_trans hlo.2.2.2 hu.size⟩⟩
theorem cell_heap {w w' : World} {q j : Nat} (h : w'.heap[q]? = w.heap[q]?) : w'.cell? ⟨q, j, none⟩ = w.cell? ⟨q, j, none⟩ := by
  unfold World.cell?
  simp only
  rw [h]
theorem row_first {w : World} {B q l : Nat} {zs : List En} {y : En} (h : RowRd enL w B (some ⟨q, 0, none⟩) (l + 1) zs) (hy : zs[0]? = some y) (j : Nat) (u : Value) (hu : (enL.cel y)[j]? = some u) : w.cell? ⟨q, j, none⟩ = some u := by
  obtain ⟨b, off, e, -, hc⟩ := h.2 (Nat.succ_pos l)
  simp only [Option.some.injEq, Addr.mk.injEq, and_true] at e
  obtain ⟨rfl, rfl⟩ := e
  have := hc 0 y hy j u hu
  rw [Nat.zero_mul, Nat.zero_add] at this
  exact this
theorem Gs.reset (h : Gs w0 w base b g C R A k c G) : Gs w0 w base b g C R none 0 0 [] := ⟨h.hl, RowOwn.nil _ _, h.lo⟩
/-- The reference's last of all that were pushed. -/
theorem Gs.last (h : Gs w0 w base b g C R A k c G) (m : Int) (hm1 : -9223372036854775808 ≤ m) (hm2 : m ≤ 9223372036854775807) (hC : capN m = C) (hk : k ≤ 1000) :
    Calls Try.prog 9 #[.slice A k c, .int .i64 m] w fun e w' => ∃ X c', e = .returned (.slice X (k - (k - C)) c') ∧ Vw w' base X (k - (k - C)) (G.drop (k - C)) ∧ (∀ q o, A = some ⟨q, 0, none⟩ → X = some ⟨q, o, none⟩ → 0 < k - (k - C) → o + (k - (k - C)) * 7 ≤ k * 7) ∧ Gs w0 w' base b g C R A k c G ∧ Below w.heap.size w w' := by
  refine (rlast_any w A k c w.heap.size G m h.ro.rd h.ro.2.1 (by omega) hm1 hm2).mono ?_
  rw [hC]
  rintro e w' ⟨X, c', rfl, -, hr, hX, hb⟩
  have hAk : 0 < k → ∃ q, A = some ⟨q, 0, none⟩ ∧ base ≤ q := fun hp => by
    obtain ⟨q, e, hq, -⟩ := Go.Proofs.Ytjiofhlmfmhhmaa.Arn.own_blk h.ro hp
    exact ⟨q, e, hq⟩
  refine ⟨X, c', rfl, ⟨(hr.below hb).more hb.size, fun q o e hp => ?_⟩, fun q o e1 e2 hp => ?_, h.more hb, hb⟩
  · obtain ⟨q', e', hq'⟩ := hAk (by omega)
    have := hX q' 0 e' hp
    rw [e] at this
    simp only [Option.some.injEq, Addr.mk.injEq] at this
    omega
  · have := hX q 0 e1 hp
    rw [e2] at this
    simp only [Option.some.injEq, Addr.mk.injEq] at this
    have := this.2.1
    omega
end
end Go.Proofs.Ytjiofhlmfmhhmaa.Hst
