/- The contract of sift.copiedItems. -/
import Derived.Test.YthmmafpmpnhleaaTc
set_option maxRecDepth 100000
namespace Go.Proofs.Ythmmafpmpnhleaa.Sft
open Go.RowKit
open Fbk (ILoc ItsRd ItsOwn its IRd INe w32L bloL pairL itmL ivC ivOf its_at)
set_option linter.unusedVariables false

theorem flat_set {α : Type} (L : Lay α) (T : List Value) : ∀ (qs : List α) (k j : Nat) (x y : α) (u : Value), qs[k]? = some x → j < L.s → (L.cel x).set j u = L.cel y → (flat L qs ++ T).set (k * L.s + j) u = flat L (qs.set k y) ++ T
  | [], k, j, x, y, u, h, _, _ => by simp at h
  | z :: r, 0, j, x, y, u, h, hj, hc => by
    simp only [List.getElem?_cons_zero, Option.some.injEq] at h
    subst h
    simp only [flat, List.flatMap_cons, List.set_cons_zero, List.append_assoc, Nat.zero_mul, Nat.zero_add]
    rw [List.set_append_left _ _ (by rw [L.len]; exact hj), hc]
  | z :: r, k + 1, j, x, y, u, h, hj, hc => by
    rw [List.getElem?_cons_succ] at h
    have ih := flat_set L T r k j x y u h hj hc
    simp only [flat, List.flatMap_cons, List.set_cons_succ, List.append_assoc] at ih ⊢
    rw [List.set_append_right _ _ (by rw [L.len, Nat.add_mul]; omega), L.len, show (k + 1) * L.s + j - L.s = k * L.s + j from by rw [Nat.add_mul]; omega, ih]
def IBd (i : Itm) : Prop := i.blocks.length * 28 ≤ 140737488355328 ∧ i.gone.length * 4 ≤ 140737488355328 ∧ i.pairs.length * 4 ≤ 140737488355328
section
variable {w : World} {base g n c k : Nat} {qs : List (Itm × ILoc)} {i : Itm} {l l' : ILoc}
theorem its_set {j : Nat} (h : ItsOwn w base (some ⟨g, 0, none⟩) n c qs) (hq : qs[k]? = some (i, l)) (u : Value) (hj : j < 10) (hc : (ivC (ivOf i l)).set j u = ivC (ivOf i l')) (hi : IRd w w.heap.size i l') (hne : INe g i l') :
    ItsOwn (w.setCell ⟨g, k * 10 + j, none⟩ u) base (some ⟨g, 0, none⟩) n c (qs.set k (i, l')) := by
  have hs : w.heap.size ≤ (w.setCell ⟨g, k * 10 + j, none⟩ u).heap.size := ((Below.refl 0 w).setCell (p := ⟨g, k * 10 + j, none⟩) (Nat.zero_le _) u).size
  have hst : ∀ p : Itm × ILoc, IRd w w.heap.size p.1 p.2 → INe g p.1 p.2 → IRd (w.setCell ⟨g, k * 10 + j, none⟩ u) (w.setCell ⟨g, k * 10 + j, none⟩ u).heap.size p.1 p.2 := fun p hp hn =>
    (hp.apart hn fun b _ hb => Below.heap_setCell w ⟨g, k * 10 + j, none⟩ u b hb).more hs
  have hall : ∀ p ∈ qs.set k (i, l'), IRd w w.heap.size p.1 p.2 ∧ INe g p.1 p.2 := fun p hp => by
    rcases List.mem_or_eq_of_mem_set hp with hp | rfl
    · exact ⟨h.each p hp, h.apart g rfl p hp⟩
    · exact ⟨hi, hne⟩
  refine ⟨?_, fun p hp => hst p (hall p hp).1 (hall p hp).2, fun g' e p hp => ?_⟩
  · obtain ⟨h1, h2, h3, h4⟩ := h.row
    refine ⟨by rw [List.length_set]; exact h1, h2, h3, ?_⟩
    rcases h4 with ⟨e, -⟩ | ⟨g', T, e, hg, hk, hl⟩
    · cases e
    · obtain rfl : g = g' := by simpa using e
      refine .inr ⟨g, T, rfl, hg, ?_, ?_⟩
      · have := heap_setCell_same w g (k * 10 + j) _ _ u hk
        rw [this, List.setIfInBounds_toArray]
        have hf := flat_set itmL T qs k j (i, l) (i, l') u hq hj hc
        rw [← hf]; rfl
      · rw [← hl, flat_len, flat_len, List.length_set]
  · obtain rfl : g = g' := by simpa using e
    exact (hall p hp).2
theorem its_map (h : qs[k]? = some (i, l)) : its (qs.set k (i, l')) = its qs := by
  have hk := (List.getElem?_eq_some_iff.1 h)
  apply List.ext_getElem?
  intro m
  simp only [its, List.map_set, List.getElem?_set, List.getElem?_map]
  by_cases hm : k = m
  · subst hm
    rw [if_pos rfl, h]
    simp [hk.1]
  · rw [if_neg hm]
theorem ne_of {α : Type} {L : Lay α} {b m c' : Nat} {A : Option Addr} {xs : List α} (h : RowOwn L w b A m c' xs) (hg : g < b) : ∀ off, A ≠ some ⟨g, off, none⟩ := fun off e => by
  rcases h.2.2.2 with ⟨rfl, -, -⟩ | ⟨g', T, rfl, hb, -⟩
  · cases e
  · simp only [Option.some.injEq, Addr.mk.injEq, and_true] at e; omega
theorem set_blocks {b c' : Nat} {A : Option Addr} (h : ItsOwn w base (some ⟨g, 0, none⟩) n c qs) (hq : qs[k]? = some (i, l)) (ho : RowOwn bloL w b A i.blocks.length c' i.blocks) (hg : g < b) :
    ItsOwn (w.setCell ⟨g, k * 10 + 6, none⟩ (.slice A i.blocks.length c')) base (some ⟨g, 0, none⟩) n c (qs.set k (i, { l with ba := A, bc := c' })) := by
  have hm := List.mem_of_getElem? hq
  have hr := h.each _ hm
  have hn := h.apart g rfl _ hm
  exact its_set h hq _ (by decide) rfl ⟨ho.rd, hr.gone, hr.pairs, hr.bn, hr.gn, hr.pn, ho.2.1, hr.gc, hr.pc⟩ ⟨fun _ => ne_of ho hg, hn.2.1, hn.2.2⟩
theorem set_gone {b c' : Nat} {A : Option Addr} (h : ItsOwn w base (some ⟨g, 0, none⟩) n c qs) (hq : qs[k]? = some (i, l)) (ho : RowOwn w32L w b A i.gone.length c' i.gone) (hg : g < b) :
    ItsOwn (w.setCell ⟨g, k * 10 + 7, none⟩ (.slice A i.gone.length c')) base (some ⟨g, 0, none⟩) n c (qs.set k (i, { l with ga := A, gc := c' })) := by
  have hm := List.mem_of_getElem? hq
  have hr := h.each _ hm
  have hn := h.apart g rfl _ hm
  exact its_set h hq _ (by decide) rfl ⟨hr.blocks, Fbk.rowRd_wd ho.rd hr.gone.2.1, hr.pairs, hr.bn, hr.gn, hr.pn, hr.bc, ho.2.1, hr.pc⟩ ⟨hn.1, fun _ => ne_of ho hg, hn.2.2⟩
theorem set_pairs {b c' : Nat} {A : Option Addr} (h : ItsOwn w base (some ⟨g, 0, none⟩) n c qs) (hq : qs[k]? = some (i, l)) (ho : RowOwn pairL w b A i.pairs.length c' i.pairs) (hg : g < b) :
    ItsOwn (w.setCell ⟨g, k * 10 + 9, none⟩ (.slice A i.pairs.length c')) base (some ⟨g, 0, none⟩) n c (qs.set k (i, { l with pa := A, pc := c' })) := by
  have hm := List.mem_of_getElem? hq
  have hr := h.each _ hm
  have hn := h.apart g rfl _ hm
  exact its_set h hq _ (by decide) rfl ⟨hr.blocks, hr.gone, ho.rd, hr.bn, hr.gn, hr.pn, hr.bc, hr.gc, ho.2.1⟩ ⟨hn.1, hn.2.1, fun _ => ne_of ho hg⟩
end
theorem own_at {w : World} {base g n c k : Nat} {qs : List (Itm × ILoc)} (h : ItsOwn w base (some ⟨g, 0, none⟩) n c qs) (hk : k < n) :
    ∃ i l, qs[k]? = some (i, l) ∧ i ∈ its qs ∧ IRd w w.heap.size i l ∧ g < w.heap.size ∧ w.cell? ⟨g, k * 10 + 6, none⟩ = some (.slice l.ba i.blocks.length l.bc) ∧ w.cell? ⟨g, k * 10 + 7, none⟩ = some (.slice l.ga i.gone.length l.gc) ∧
      w.cell? ⟨g, k * 10 + 9, none⟩ = some (.slice l.pa i.pairs.length l.pc) ∧ ∀ j, w.frozen? ⟨g, j, none⟩ = false := by
  obtain ⟨b, off, p, v, e, hb, hx, hm, rfl, hi, d0, d1, d2, d3, d4, d5, d6, d7, d8, d9⟩ := its_at h.rd hk
  obtain ⟨rfl, rfl⟩ : g = b ∧ 0 = off := by simpa using e
  rw [Nat.zero_add] at d6 d7 d9
  refine ⟨p.1, p.2, hx, List.mem_map.2 ⟨p, hm, rfl⟩, hi, hb, d6, d7, d9, fun j => ?_⟩
  rcases h.row.2.2.2 with ⟨e, -⟩ | ⟨g', T, e, -, hk, -⟩
  · cases e
  · obtain rfl : g = g' := by simpa using e
    exact frozen_of_row w g j _ _ hk

/-- Items of the call's own. -/
def RetC (w : World) (is : List Itm) (e : Ending) (w' : World) : Prop := ∃ A c ps, e = .returned (.slice A is.length c) ∧ its ps = is ∧ ItsOwn w' w.heap.size A is.length c ps ∧ Below w.heap.size w w'
set_option maxHeartbeats 4000000 in
theorem copiedItems_any (a : Option Addr) (n c B : Nat) (ps : List (Itm × ILoc)) (w : World) (hr : ItsRd w B a n ps) (hB : B ≤ w.heap.size) (hn : n * 120 ≤ 140737488355328) (hbd : ∀ i ∈ its ps, IBd i) :
    Calls Try.prog 30 #[.slice a n c] w (RetC w (its ps)) := by
  have CI := Lib.hid (copyI_any a n c B ps w hn hr.row)
  have HR := Lib.hid (hr.more hB)
  have HD := Lib.hid hbd
  have hlen := hr.len
  have hil : (its ps).length = n := by simp [its, hlen]
  have HL := Lib.hid hil
  clear hr hbd hil
  rcases Nat.eq_zero_or_pos n with h0 | h0
  · subst h0
    have HZ : Hid (∀ A c w1, RowOwn itmL w1 w.heap.size A 0 c ps → Below w.heap.size w w1 → RetC w (its ps) (.returned (.slice A 0 c)) w1) := fun A c w1 ho hb => by
      have e0 := HL.out
      have hp := List.eq_nil_of_length_eq_zero hlen
      subst hp
      exact ⟨A, c, [], rfl, rfl, ⟨ho, fun p hp => by simp at hp, fun g _ p hp => by simp at hp⟩, hb⟩
    go_enter Try.func30, Try.ntmps30
    go_wp2_with fail
    refine CI.out.mono ?_
    rintro e w1 ⟨A, c1, rfl, ho, hb⟩
    rw [hlen] at ho ⊢
    have HO := Lib.hid ho
    clear ho CI
    go_wp2
    go_loopw [8] (fun sk wx => sk = .int .i64 0 ∧ wx = w1) (fun _ _ => 0)
    case atStart => exact ⟨rfl, rfl⟩
    case round =>
      obtain ⟨rfl, rfl⟩ := hrel
      go_wp2
      go_ret
      exact HZ.out _ _ _ HO.out hb
  · go_enter Try.func30, Try.ntmps30
    go_wp2_with fail
    refine CI.out.mono ?_
    rintro e w1 ⟨A, c1, rfl, ho, hb⟩
    rw [hlen] at ho ⊢
    obtain ⟨g, hA, hg⟩ : ∃ g, A = some ⟨g, 0, none⟩ ∧ w.heap.size ≤ g := by
      rcases ho.2.2.2 with ⟨-, e, -⟩ | ⟨g, T, e, hg, -⟩
      · omega
      · exact ⟨g, e, hg⟩
    subst hA
    have HO : Hid (ItsOwn w1 w.heap.size (some ⟨g, 0, none⟩) n c1 ps) := ⟨ho, fun p hp => ((HR.out.each p hp).below hb).more hb.size, fun g' e p hp => by
      obtain rfl : g = g' := by simpa using e
      exact INe.of_ge (HR.out.each p hp) hg⟩
    have HZ : Hid (∀ W qs, its qs = its ps → ItsOwn W w.heap.size (some ⟨g, 0, none⟩) n c1 qs → Below w.heap.size w W → RetC w (its ps) (.returned (.slice (some ⟨g, 0, none⟩) n c1)) W) := fun W qs he ho hb =>
      ⟨_, c1, qs, by rw [HL.out], he, by rw [HL.out]; exact ho, hb⟩
    clear ho CI
    go_wp2
    go_loopw [8] (fun sk wx => ∃ k : Nat, k ≤ n ∧ sk = .int .i64 k ∧ Hid (∃ qs, its qs = its ps ∧ ItsOwn wx w.heap.size (some ⟨g, 0, none⟩) n c1 qs) ∧ Hid (Below w.heap.size w wx)) (fun sk _ => n - (intOf sk).toNat)
    case atStart => exact ⟨0, by omega, rfl, ⟨ps, rfl, HO.out⟩, hb⟩
    case round =>
      obtain ⟨k, hk, rfl, hqs, hbx⟩ := hrel
      rename World => wx
      obtain ⟨qs, he, ho⟩ := hqs.out
      have HE := Lib.hid he
      clear hqs he
      by_cases hlt : k < n
      · have HO0 := Lib.hid ho
        clear ho
        have HE0 := HE
        have HB0 := hbx
        obtain ⟨i0, l0, hx0, hm0, hi0, hg0, e6, e7, e9, -⟩ := own_at HO0.out hlt
        have d6 := e6
        have HI0 : Hid (IBd i0) := HD.out i0 (HE0.out ▸ hm0)
        have HX0 := Lib.hid hx0
        have HC0 := Lib.hid (copyB_any l0.ba i0.blocks.length l0.bc _ i0.blocks wx HI0.out.1 hi0.blocks)
        clear hx0 hm0 hi0 e6 e7 e9
        go_wp2_with fail
        refine HC0.out.mono ?_
        rintro e v0 ⟨A0, k0, rfl, ho0, hb0⟩
        obtain ⟨ia, la, -, -, -, -, e6, e7, e9, fz⟩ := own_at (HO0.out.bel hb0) hlt
        have f6 := fz (k * 10 + 6)
        have c6 := e6
        have HB1 := Lib.hid ((HB0.out.trans (hb0.mono HB0.out.size)).setCell (p := ⟨g, k * 10 + 6, none⟩) hg (.slice A0 i0.blocks.length k0))
        have ho' := set_blocks (HO0.out.bel hb0) HX0.out ho0 hg0
        have he' := (its_map HX0.out (l' := { l0 with ba := A0, bc := k0 })).trans HE0.out
        generalize qs.set k (i0, { l0 with ba := A0, bc := k0 }) = qs1 at ho' he'
        have HO1 := Lib.hid ho'
        have HE1 := Lib.hid he'
        clear fz e6 e7 e9 ho' he' ho0 hb0 HO0 HE0 HB0 HX0 HI0 HC0 d6 hg0
        obtain ⟨i1, l1, hx1, hm1, hi1, hg1, e6, e7, e9, -⟩ := own_at HO1.out hlt
        have d7 := e7
        have HI1 : Hid (IBd i1) := HD.out i1 (HE1.out ▸ hm1)
        have HX1 := Lib.hid hx1
        have HC1 := Lib.hid (copyW_any l1.ga i1.gone.length l1.gc _ i1.gone _ HI1.out.2.1 (wd_rowRd hi1.gone))
        clear hx1 hm1 hi1 e6 e7 e9
        go_wp2_with fail
        generalize v0.setCell ⟨g, k * 10 + 6, none⟩ (.slice A0 i0.blocks.length k0) = x1 at *
        clear c6 f6
        refine HC1.out.mono ?_
        rintro e v1 ⟨A1, k1, rfl, ho1, hb1⟩
        obtain ⟨ia, la, -, -, -, -, e6, e7, e9, fz⟩ := own_at (HO1.out.bel hb1) hlt
        have f7 := fz (k * 10 + 7)
        have c7 := e7
        have HB2 := Lib.hid ((HB1.out.trans (hb1.mono HB1.out.size)).setCell (p := ⟨g, k * 10 + 7, none⟩) hg (.slice A1 i1.gone.length k1))
        have ho' := set_gone (HO1.out.bel hb1) HX1.out ho1 hg1
        have he' := (its_map HX1.out (l' := { l1 with ga := A1, gc := k1 })).trans HE1.out
        generalize qs1.set k (i1, { l1 with ga := A1, gc := k1 }) = qs2 at ho' he'
        have HO2 := Lib.hid ho'
        have HE2 := Lib.hid he'
        clear fz e6 e7 e9 ho' he' ho1 hb1 HO1 HE1 HB1 HX1 HI1 HC1 d7 hg1
        obtain ⟨i2, l2, hx2, hm2, hi2, hg2, e6, e7, e9, -⟩ := own_at HO2.out hlt
        have d9 := e9
        have HI2 : Hid (IBd i2) := HD.out i2 (HE2.out ▸ hm2)
        have HX2 := Lib.hid hx2
        have HC2 := Lib.hid (copyP_any l2.pa i2.pairs.length l2.pc _ i2.pairs _ HI2.out.2.2 hi2.pairs)
        clear hx2 hm2 hi2 e6 e7 e9
        go_wp2_with fail
        generalize v1.setCell ⟨g, k * 10 + 7, none⟩ (.slice A1 i1.gone.length k1) = x2 at *
        clear c7 f7
        refine HC2.out.mono ?_
        rintro e v2 ⟨A2, k2, rfl, ho2, hb2⟩
        obtain ⟨ia, la, -, -, -, -, e6, e7, e9, fz⟩ := own_at (HO2.out.bel hb2) hlt
        have f9 := fz (k * 10 + 9)
        have c9 := e9
        have HB3 := Lib.hid ((HB2.out.trans (hb2.mono HB2.out.size)).setCell (p := ⟨g, k * 10 + 9, none⟩) hg (.slice A2 i2.pairs.length k2))
        have ho' := set_pairs (HO2.out.bel hb2) HX2.out ho2 hg2
        have he' := (its_map HX2.out (l' := { l2 with pa := A2, pc := k2 })).trans HE2.out
        generalize qs2.set k (i2, { l2 with pa := A2, pc := k2 }) = qs3 at ho' he'
        have HO3 := Lib.hid ho'
        have HE3 := Lib.hid he'
        clear fz e6 e7 e9 ho' he' ho2 hb2 HO2 HE2 HB2 HX2 HI2 HC2 d9 hg2
        go_wp2
        generalize v2.setCell ⟨g, k * 10 + 9, none⟩ (.slice A2 i2.pairs.length k2) = x3 at *
        go_roundw
        case rel => exact ⟨k + 1, by omega, by go_num, ⟨qs3, HE3.out, HO3.out⟩, HB3⟩
        case measure => simp [intOf]; omega
      · obtain rfl : k = n := by omega
        have HX := Lib.hid ho
        clear ho
        go_wp2
        go_ret
        exact HZ.out _ qs HE.out HX.out hbx.out
end Go.Proofs.Ythmmafpmpnhleaa.Sft
