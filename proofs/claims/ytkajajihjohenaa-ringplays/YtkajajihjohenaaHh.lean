/- The contract of the reference's Pop. -/
import Derived.Test.YtkajajihjohenaaHg
set_option maxRecDepth 100000
namespace Go.Proofs.Ytkajajihjohenaa.Rng
open Go.RowKit
open Go.Proofs.Ytkajajihjohenaa.Arn
set_option linter.unusedVariables false

/-- x[k:], and where it lies when nothing is left. -/
theorem rec_from1 {P : Program} {t e : TypeId} {i0 : TypeInfo} {s : Nat} (ht : P.underlying t = some (.slice (P.elem t))) (he : P.elem t = e) (hi : P.info? e = some i0) (hs : i0.size = s) (ad : Addr) (len cap k : Nat) (l : Int) (hl : l = k) (hk : k ≤ len) :
    ∃ X, (∀ b off, some ad = some ⟨b, off, none⟩ → cap ≠ k → X = some ⟨b, off + k * s, none⟩) ∧ (cap = k → X = some ad) ∧ ∀ W, (Instr.slice t (.slice (some ad) len cap) (some (.int .i64 l)) none none).run P W = .ok (.slice X (len - k) (cap - k)) W := by
  subst hl
  have q := fun W => run_slice_l (P := P) (w := W) (t := t) (a := some ad) (len := len) (cap := cap) (ht := ht) .i64 (k : Int) (by omega) (by omega)
  refine ⟨if cap = k then some ad else some (ad.add (k * s)), fun b off h hne => ?_, fun h => if_pos h, fun W => ?_⟩
  · rw [if_neg hne]
    simp only [Option.some.injEq] at h
    rw [h, plain_add]
  · rw [q, he]
    by_cases hc : cap = k
    · simp [sizeOf, typeInfo, hi, sliced, hc]
    · simp [sizeOf, typeInfo, hi, hs, sliced, hc]

set_option maxHeartbeats 4000000 in
theorem rpop_any (w : World) (base b N : Nat) (L : List Cl) (hA : RrIn w base b N L) (hbase : base ≤ b) :
    Calls Try.prog 11 #[.pointer (some ⟨b, 0, none⟩)] w fun e w' => e = .returned (.tuple #[clV (headV L), .bool (decide (0 < L.length))]) ∧ RrIn w' base b N L.tail ∧ Upd (fun k => k = b) w w' := by
  obtain ⟨A, c, hA⟩ := hA
  have HB := Lib.hid ((Below.refl w.heap.size w).alloc (Nat.le_refl _) (clO cl0))
  have D := Lib.hid (CBlk.new w cl0)
  have A1 := hA.bel HB.out
  have HBW := Lib.hid hA.lt
  have HA := Lib.hid hA
  clear hA
  rcases L with _ | ⟨x, r⟩
  · rw [show headV [] = cl0 from rfl, show decide (0 < ([] : List Cl).length) = false from rfl, show ([] : List Cl).tail = [] from rfl]
    have c1 : (w.alloc (clO cl0)).cell? ⟨b, 1, none⟩ = some (.slice A 0 c) := A1.c1
    clear A1
    have d0 := D.out.c0
    have d1 := D.out.c1
    have d2 := D.out.c2
    have d3 := D.out.c3
    have f0 := D.out.frozen 0
    have f1 := D.out.frozen 1
    have f2 := D.out.frozen 2
    have f3 := D.out.frozen 3
    go_enter Try.func11, Try.ntmps11
    go_wp2_with fail
    exact retC_at Try.results11 D.out ⟨rfl, ⟨A, c, HA.out.bel HB.out⟩, .of HB.out⟩
  · rw [show headV (x :: r) = x from rfl, show decide (0 < (x :: r).length) = true from by simp, show (x :: r).tail = r from rfl]
    obtain ⟨n, hn⟩ : ∃ n, r.length = n := ⟨_, rfl⟩
    have c1 : (w.alloc (clO cl0)).cell? ⟨b, 1, none⟩ = some (.slice A (n + 1) c) := by have := A1.c1; rw [List.length_cons, hn] at this; exact this
    have hrow : RowIn celL (w.alloc (clO cl0)) base A (n + 1) c (x :: r) := by have := A1.row; rw [List.length_cons, hn] at this; exact this
    obtain ⟨g, off, x', rfl, hgB, hx', e0, e1, e2, e3⟩ := cell_at hrow.rd (show 0 < n + 1 by omega)
    obtain rfl : x = x' := by simpa using hx'
    rw [Nat.zero_mul, Nat.add_zero] at e0 e1 e2 e3
    obtain ⟨i0, hi0, hz0, hz1, hz2⟩ := info_parts info_cel
    obtain ⟨X, hX, hX1, hf⟩ := rec_from1 (P := Try.prog) (t := 38) (e := 32) Try.underlying38 (by kernel_rfl) hi0 hz1 ⟨g, off, none⟩ (n + 1) c 1 1 rfl (by omega)
    rw [Nat.add_sub_cancel] at hf
    have HT := Lib.hid (fun (W : World) (h : RowIn celL W base (some ⟨g, off, none⟩) (n + 1) c (x :: r)) => RowIn.tail h hX hX1)
    have HR1 := Lib.hid hrow
    have HK1 : Hid ((w.alloc (clO cl0)).heap[b]? = some (.cells #[.int .i64 N, .slice (some ⟨g, off, none⟩) (n + 1) c] 40 (0, 0))) := by have := A1.blk; rw [List.length_cons, hn] at this; exact this
    have HN := Lib.hid hn
    have hgq : ∀ o, (⟨g, off, none⟩ : Addr) ≠ ⟨w.heap.size, o, none⟩ := fun o e => HA.out.row.new (Nat.le_refl _) (by have := hrow.2.1; omega) o (by rw [e])
    have HXQ : Hid (0 < c - 1 → ∀ o, X ≠ some ⟨w.heap.size, o, none⟩) := fun h o e => by
      rw [hX _ _ rfl (by omega)] at e
      simp only [Option.some.injEq, Addr.mk.injEq] at e
      exact hgq off (by rw [e.1])
    clear hi0 hz0 hz1 hz2 hX hX1 hx' hgB hrow A1 hn hgq
    obtain ⟨q, hq⟩ : ∃ q, w.heap.size = q := ⟨_, rfl⟩
    have HQ := Lib.hid hq
    rw [hq] at D HBW HXQ
    have hs1 : (w.alloc (clO cl0)).heap.size = q + 1 := by rw [← hq]; simp
    obtain ⟨w1, hw1⟩ : ∃ w1, w.alloc (clO cl0) = w1 := ⟨_, rfl⟩
    rw [hw1] at HB D c1 e0 e1 e2 e3 HR1 HK1 hs1
    have hbx : Below w1.heap.size w1 (w1.alloc (clO x)) := (Below.refl _ _).alloc (Nat.le_refl _) _
    have HB2 := Lib.hid (HB.out.trans (hbx.mono HB.out.size))
    have HR2 := Lib.hid (HR1.out.bel hbx)
    have HK2 := Lib.hid ((hbx.block b (lt_of_some HK1.out)).trans HK1.out)
    have D2 := Lib.hid (D.out.bel hbx D.out.lt)
    have D4 := Lib.hid (CBlk.new w1 x)
    have c2 : (w1.alloc (clO x)).cell? ⟨b, 1, none⟩ = some (.slice (some ⟨g, off, none⟩) (n + 1) c) := by rw [cell_of_row _ b 1 _ _ _ HK2.out]; rfl
    have fz : (w1.alloc (clO x)).frozen? ⟨b, 1, none⟩ = false := frozen_of_row _ b 1 _ _ HK2.out
    have D5 : Hid (CBlk (w1.alloc (clO x)) (q + 1) x) := by rw [← hs1]; exact D4.out
    have U3 : Upd (fun k => k = b) (w1.alloc (clO x)) ((w1.alloc (clO x)).setCell ⟨b, 1, none⟩ (.slice X n (c - 1))) := (Upd.refl (fun k => k = b) _).setCell (b := b) (i := 1) (.inl rfl) _
    have HK3 := Lib.hid (heap_setCell_same _ b 1 _ _ (.slice X n (c - 1)) HK2.out)
    have HR3 := Lib.hid (HT.out _ (HR2.out.set (i := 1) HK2.out (by decide) (.slice X n (c - 1))))
    have D6 := D2.out.upd U3 (by have := HBW.out; show ¬ (q = b); omega)
    have D7 := D5.out.upd U3 (by have := HBW.out; show ¬ (q + 1 = b); omega)
    have HU3 := Lib.hid ((Upd.of (S := fun k => k = b) HB2.out).setCell (b := b) (i := 1) (.inl rfl) (.slice X n (c - 1)))
    have d0 := D6.c0
    have d1 := D6.c1
    have d2 := D6.c2
    have d3 := D6.c3
    have f0 := D6.frozen 0
    have f1 := D6.frozen 1
    have f2 := D6.frozen 2
    have f3 := D6.frozen 3
    have v0 := D7.c0
    have v1 := D7.c1
    have v2 := D7.c2
    have v3 := D7.c3
    have HE : Hid (Upd (fun k => k = b) w ((((((w1.alloc (clO x)).setCell ⟨b, 1, none⟩ (.slice X n (c - 1))).setCell ⟨q, 0, none⟩ (.int .i64 x.1)).setCell ⟨q, 1, none⟩ (.int .i64 x.2.1)).setCell ⟨q, 2, none⟩ (.int .i64 x.2.2.1)).setCell ⟨q, 3, none⟩ (.int .u32 x.2.2.2))) := upd_put4 HU3.out (b := q) (i := 0) (.inr (by rw [HQ.out]; exact Nat.le_refl _)) x
    have D12 : Hid (CBlk ((((((w1.alloc (clO x)).setCell ⟨b, 1, none⟩ (.slice X n (c - 1))).setCell ⟨q, 0, none⟩ (.int .i64 x.1)).setCell ⟨q, 1, none⟩ (.int .i64 x.2.1)).setCell ⟨q, 2, none⟩ (.int .i64 x.2.2.1)).setCell ⟨q, 3, none⟩ (.int .u32 x.2.2.2)) q x) := D6.store x
    have U7 : Upd (fun k => k = q) ((w1.alloc (clO x)).setCell ⟨b, 1, none⟩ (.slice X n (c - 1))) ((((((w1.alloc (clO x)).setCell ⟨b, 1, none⟩ (.slice X n (c - 1))).setCell ⟨q, 0, none⟩ (.int .i64 x.1)).setCell ⟨q, 1, none⟩ (.int .i64 x.2.1)).setCell ⟨q, 2, none⟩ (.int .i64 x.2.2.1)).setCell ⟨q, 3, none⟩ (.int .u32 x.2.2.2)) := upd_put4 (Upd.refl (fun k => k = q) _) (b := q) (i := 0) (.inl rfl) x
    have HK7 := Lib.hid (U7.keep HK3.out (by have := HBW.out; show ¬ (b = q); omega))
    have HR7 : Hid (RowIn celL ((((((w1.alloc (clO x)).setCell ⟨b, 1, none⟩ (.slice X n (c - 1))).setCell ⟨q, 0, none⟩ (.int .i64 x.1)).setCell ⟨q, 1, none⟩ (.int .i64 x.2.1)).setCell ⟨q, 2, none⟩ (.int .i64 x.2.2.1)).setCell ⟨q, 3, none⟩ (.int .u32 x.2.2.2)) base X n (c - 1) r) := HR3.out.updN U7 HXQ.out
    clear U3 U7 D2 D4 D5 D6 D7 HK1 HK2 HK3 HR1 HR2 HR3 HU3 HB2 HB D HT hbx
    go_enter Try.func11, Try.ntmps11
    go_wp2_with fail
    generalize (((((w1.alloc (clO x)).setCell ⟨b, 1, none⟩ (.slice X n (c - 1))).setCell ⟨q, 0, none⟩ (.int .i64 x.1)).setCell ⟨q, 1, none⟩ (.int .i64 x.2.1)).setCell ⟨q, 2, none⟩ (.int .i64 x.2.2.1)).setCell ⟨q, 3, none⟩ (.int .u32 x.2.2.2) = w7 at *
    refine retC_at Try.results11 D12.out ⟨rfl, ⟨X, c - 1, ⟨?_, ?_, hbase⟩⟩, HE.out⟩
    · rw [HK7.out, HN.out]; rfl
    · rw [HN.out]; exact HR7.out
end Go.Proofs.Ytkajajihjohenaa.Rng
