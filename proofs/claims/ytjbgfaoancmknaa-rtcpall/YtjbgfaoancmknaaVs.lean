/- The law's shown: two items. -/
import Derived.Test.YtjbgfaoancmknaaVi
import Derived.Test.YtjbgfaoancmknaaVo
namespace Go.Proofs.Ytjbgfaoancmknaa.Fbk
open Go.RowKit
set_option linter.unusedVariables false

def i1 : Itm := ⟨203, 0, 0, 0, 0, 0, [], [5], 0, []⟩
def i2 : Itm := ⟨206, 1, 0, 0, 0, 0, [], [], 2, []⟩
theorem i12_ok : OkL [i1, i2] := by
  have z : ∀ x : Int, 0 ≤ x → x ≤ 4294967295 → U32 x := fun x h1 h2 => ⟨h1, h2⟩
  intro i hi
  simp only [List.mem_cons, List.not_mem_nil, or_false] at hi
  rcases hi with rfl | rfl
  · refine ⟨z _ (by decide) (by decide), by decide, z _ (by decide) (by decide), z _ (by decide) (by decide), z _ (by decide) (by decide), fun x hx => by simp [i1] at hx, fun x hx => ?_, z _ (by decide) (by decide), fun x hx => by simp [i1] at hx⟩
    simp only [i1, List.mem_cons, List.not_mem_nil, or_false] at hx
    subst hx
    exact z _ (by decide) (by decide)
  · exact ⟨z _ (by decide) (by decide), by decide, z _ (by decide) (by decide), z _ (by decide) (by decide), z _ (by decide) (by decide), fun x hx => by simp [i2] at hx, fun x hx => by simp [i2] at hx, z _ (by decide) (by decide), fun x hx => by simp [i2] at hx⟩
theorem i12_err : putLE [i1, i2] = 0 := by decide +kernel
theorem i12_put : putLB [i1, i2] = [129, 203, 0, 1, 0, 0, 0, 5, 129, 206, 0, 2, 0, 0, 0, 1, 0, 0, 0, 2] := by decide +kernel
abbrev so1 : Obj := .cells #[.int .u32 5] 28 (0, 0)
abbrev so2 (g : Nat) : Obj := .cells #[.int .i64 203, .int .u32 0, .int .u64 0, .int .u32 0, .int .u32 0, .int .u32 0, .slice none 0 0, .slice (some ⟨g, 0, none⟩) 1 1, .int .u32 0, .slice none 0 0, .int .i64 206, .int .u32 1, .int .u64 0, .int .u32 0, .int .u32 0, .int .u32 0, .slice none 0 0, .slice none 0 0, .int .u32 2, .slice none 0 0] 34 (0, 0)
def sps (g : Nat) : List (Itm × ILoc) := [(i1, ⟨none, 0, some ⟨g, 0, none⟩, 1, none, 0⟩), (i2, ⟨none, 0, none, 0, none, 0⟩)]
theorem sps_rd (w : World) : ItsRd ((w.alloc so1).alloc (so2 w.heap.size)) ((w.alloc so1).alloc (so2 w.heap.size)).heap.size (some ⟨w.heap.size + 1, 0, none⟩) 2 (sps w.heap.size) := by
  have h0 : (w.alloc so1).heap.size = w.heap.size + 1 := by simp
  have hb : Below (w.alloc so1).heap.size (w.alloc so1) ((w.alloc so1).alloc (so2 w.heap.size)) := (Below.refl _ _).alloc (Nat.le_refl _) _
  have hw : WBlk ((w.alloc so1).alloc (so2 w.heap.size)) w.heap.size [5] [] := (alloc_w1 w 5).below hb (by omega)
  have hr : ((w.alloc so1).alloc (so2 w.heap.size)).heap[w.heap.size + 1]? = some (.cells (flat itmL (sps w.heap.size)).toArray 34 (0, 0)) := by
    have := heap_alloc_new (w.alloc so1) (so2 w.heap.size)
    rw [h0] at this
    exact this
  refine ⟨rowRd_blk (L := itmL) hr rfl, fun p hp => ?_⟩
  simp only [sps, List.mem_cons, List.not_mem_nil, or_false] at hp
  rcases hp with rfl | rfl
  · exact ⟨RowRd.none_ _ rfl, hw.rd (by intro x hx; simp only [List.mem_cons, List.not_mem_nil, or_false] at hx; subst hx; decide) rfl, RowRd.none_ _ rfl, show i1.blocks.length ≤ 140737488351232 by decide, show i1.gone.length ≤ 140737488351232 by decide, show i1.pairs.length ≤ 140737488351232 by decide, Nat.le_refl _, Nat.le_refl _, Nat.le_refl _⟩
  · exact ⟨RowRd.none_ _ rfl, Wd.none_ _ rfl, RowRd.none_ _ rfl, by decide, by decide, by decide, Nat.le_refl _, Nat.le_refl _, Nat.le_refl _⟩
set_option maxRecDepth 100000 in
set_option maxHeartbeats 4000000 in
theorem shown_any (w : World) : Calls Try.prog 9 #[] w (RetB w true) := by
  obtain ⟨P, hP⟩ : ∃ P : List Int, P = putLB [i1, i2] := ⟨_, rfl⟩
  have hPl : P.length = 20 := by rw [hP, i12_put]; rfl
  obtain ⟨g1, g2, g3, g4, g5, -, -⟩ := putL_get i12_ok i12_err
  rw [← hP] at g1 g2 g3 g5
  have hb1 : Below w.heap.size w ((w.alloc so1).alloc (so2 w.heap.size)) := ((Below.refl w.heap.size w).alloc (Nat.le_refl _) so1).alloc (by simp) (so2 w.heap.size)
  have HB1 := Lib.hid hb1
  have HI1 := Lib.hid (sps_rd w)
  have CP : Hid (∀ W, ItsRd W W.heap.size (some ⟨w.heap.size + 1, 0, none⟩) 2 (sps w.heap.size) → Calls Try.prog 10 #[.slice (some ⟨w.heap.size + 1, 0, none⟩) 2 2] W (RetR W P 0)) := fun W h => by
    have := rc_put _ 2 2 W.heap.size (sps w.heap.size) W (by decide) h (Nat.le_refl _) i12_ok
    rw [show its (sps w.heap.size) = [i1, i2] from rfl, i12_err, ← hP] at this
    exact this
  have CZ : Hid (∀ W, ItsRd W W.heap.size (some ⟨w.heap.size + 1, 0, none⟩) 2 (sps w.heap.size) → Calls Try.prog 14 #[.slice (some ⟨w.heap.size + 1, 0, none⟩) 2 2] W (RetI W 20)) := fun W h => by
    have := rc_sizes _ 2 2 W.heap.size (sps w.heap.size) W (by decide) h (Nat.le_refl _) i12_ok
    rw [show its (sps w.heap.size) = [i1, i2] from rfl, g5, hPl] at this
    exact this
  have CG : Hid (∀ W A c, Rd W W.heap.size A 20 P → 20 ≤ c → Calls Try.prog 16 #[.slice A 20 c] W fun e w' => ∃ (b off c2 : Nat) (l1 l2 : ILoc), e = .returned (.tuple #[.slice (some ⟨b, off, none⟩) 2 c2, .int .i64 0]) ∧ ItsRd w' w'.heap.size (some ⟨b, off, none⟩) 2 [(i1, l1), (i2, l2)] ∧ Below W.heap.size W w') := fun W A c hr hc => by
    have := rc_get A 20 c _ P W hc hr (Nat.le_refl _)
    rw [g1, g2] at this
    refine this.mono ?_
    rintro e w' ⟨A2, c2, qs, rfl, hq, ho, hb⟩
    obtain ⟨p, q, rfl⟩ : ∃ p q, qs = [p, q] := by
      match qs, hq with
      | [p, q], _ => exact ⟨p, q, rfl⟩
    simp only [its, List.map_cons, List.map_nil, List.cons.injEq, and_true] at hq
    obtain ⟨hp1, hp2⟩ := hq
    obtain ⟨b, off, e, _⟩ := ho.rd.row.2 (by decide)
    subst e
    refine ⟨b, off, c2, p.2, q.2, rfl, ?_, hb⟩
    have := ho.rd
    rw [show p = (i1, p.2) from by rw [← hp1], show q = (i2, q.2) from by rw [← hp2]] at this
    exact this
  have HPL := Lib.hid hPl
  have HPS := Lib.hid (show strOfNums P = ⟨#[129, 203, 0, 1, 0, 0, 0, 5, 129, 206, 0, 2, 0, 0, 0, 1, 0, 0, 0, 2]⟩ from by rw [hP, i12_put]; rfl)
  clear hP hPl g1 g2 g3 g4 g5 hb1
  go_enter Try.func9, Try.ntmps9
  go_wp2_with fail
  refine (CP.out _ HI1.out).mono ?_
  rintro e w1 ⟨A, c, rfl, ho, hb1⟩
  rw [HPL.out] at ho
  rw [HPL.out]
  have H1 := Lib.hid (HB1.out.trans (hb1.mono HB1.out.size))
  have HI2 := Lib.hid ((HI1.out.below hb1).more hb1.size)
  have HR1 := Lib.hid ho.rd
  have HC := Lib.hid (show 20 ≤ c from ho.2.2.1)
  clear hb1 ho CP HI1 HB1
  go_wp2_with fail
  refine (CG.out _ _ _ HR1.out HC.out).mono ?_
  rintro e w2 ⟨b, off, c2, l1, l2, rfl, hq, hb2⟩
  have H2 := Lib.hid (H1.out.trans (hb2.mono H1.out.size))
  have HI3 := Lib.hid ((HI2.out.below hb2).more hb2.size)
  have R2 := (HR1.out.below hb2).more hb2.size
  have s1 : (convert 24 9 (.slice A 20 c)).run Try.prog w2 = .ok (.string ⟨#[129, 203, 0, 1, 0, 0, 0, 5, 129, 206, 0, 2, 0, 0, 0, 1, 0, 0, 0, 2]⟩) w2 := by
    have := str_run (c := c) R2
    rw [HPS.out] at this
    exact this
  obtain ⟨b', off', p, v, ea, hbB, hx, hm, hv, hi, y0, y1, y2, y3, y4, y5, y6, y7, y8, y9⟩ := its_at hq (show 1 < 2 by decide)
  simp only [Option.some.injEq, Addr.mk.injEq, and_true] at ea
  obtain ⟨rfl, rfl⟩ := ea
  have hx8 : v.media = 2 := by
    simp only [List.getElem?_cons_succ, List.getElem?_cons_zero, Option.some.injEq] at hx
    rw [hv, ← hx]; rfl
  rw [hx8] at y8
  have z8 : w2.cell? ⟨b, off + 10 + 8, none⟩ = some (.int .u32 2) := by simpa using y8
  have HQ := Lib.hid hq
  clear hb2 CG H1 HR1 hx hm hv hi y0 y1 y2 y3 y4 y5 y6 y7 y8 y9 hx8 hq R2 HI2
  go_wp2_with fail
  refine (CZ.out _ HI3.out).mono ?_
  rintro e w3 ⟨rfl, hb3⟩
  have H3 := Lib.hid (H2.out.trans (hb3.mono H2.out.size))
  have Q3 := (HQ.out.below hb3).more hb3.size
  obtain ⟨b', off', p, v, ea, hbB, hx, hm, hv, hi, y0, y1, y2, y3, y4, y5, y6, y7, y8, y9⟩ := its_at Q3 (show 0 < 2 by decide)
  simp only [Option.some.injEq, Addr.mk.injEq, and_true] at ea
  obtain ⟨rfl, rfl⟩ := ea
  simp only [List.getElem?_cons_zero, Option.some.injEq] at hx
  subst hx
  have CM : Hid (Calls Try.prog 12 #[itm v] w3 (RetB w3 true)) := by
    have := rc_may w3 i1 l1 w3.heap.size hi (Nat.le_refl _)
    rw [hv]
    exact this
  simp only [Nat.zero_mul, Nat.add_zero] at y0 y1 y2 y3 y4 y5 y6 y7 y8 y9
  clear hb3 CZ H2 HQ Q3 hv hi hm HI3 s1 z8
  go_wp2_with fail
  refine CM.out.mono ?_
  rintro e w4 ⟨rfl, hb4⟩
  have H4 := Lib.hid (H3.out.trans (hb4.mono H3.out.size))
  clear hb4 CM H3 y0 y1 y2 y3 y4 y5 y6 y7 y8 y9
  go_wp2
  go_ret
  exact ⟨rfl, H4.out⟩
end Go.Proofs.Ytjbgfaoancmknaa.Fbk
