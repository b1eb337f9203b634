/- The contract of patch.Of. -/
import Derived.Test.YtjmlimfheiogcaaNa
namespace Go.Proofs.Ytjmlimfheiogcaa.Pat
open Go.RowKit
set_option linter.unusedVariables false

def RetQ (w : World) (q t s f : Int) (ok : Bool) (e : Ending) (w' : World) : Prop := e = .returned (.tuple #[pch q t s f, .bool ok]) ∧ Below w.heap.size w w'
theorem retQ_at {w W : World} {b : Nat} {q t s f : Int} {ok : Bool} {tmps : Array Value} (D : QBlk W b q t s f) (hb : Below w.heap.size w W)
    (h2 : tmps[2]?.getD undef = .pointer (some ⟨b, 0, none⟩) := by rfl) (h3 : tmps[3]?.getD undef = .bool ok := by rfl) :
    bodyPost Try.prog Try.f14 (RetQ w q t s f ok) .ret ⟨tmps, []⟩ W := by
  have c0 := D.c0
  have c1 := D.c1
  have c2 := D.c2
  have c3 := D.c3
  exact bodyPost_ret (v := .tuple #[pch q t s f, .bool ok]) (by simp [results, Try.results14, go_sem, h2, h3, c0, c1, c2, c3]) rfl ⟨rfl, hb⟩
theorem DBlk.off4 {w : World} {p b : Nat} {l f : Int} {k s : Bool} (h : DBlk w p l k s f) (hp : p ≠ b) (u0 u1 u2 u3 : Value) :
    DBlk ((((w.setCell ⟨b, 0, none⟩ u0).setCell ⟨b, 1, none⟩ u1).setCell ⟨b, 2, none⟩ u2).setCell ⟨b, 3, none⟩ u3) p l k s f :=
  (Below.heap_setCell _ ⟨b, 3, none⟩ u3 p hp).trans ((Below.heap_setCell _ ⟨b, 2, none⟩ u2 p hp).trans ((Below.heap_setCell _ ⟨b, 1, none⟩ u1 p hp).trans ((Below.heap_setCell w ⟨b, 0, none⟩ u0 p hp).trans h)))
abbrev Q0 : Obj := .cells #[.int .u16 0, .int .u32 0, .int .u32 0, .int .u16 0] 26

set_option maxHeartbeats 1000000 in
theorem of_no (a : Option Addr) (len cap : Nat) (l f at_ : Int) (k s : Bool) (w : World)
    (CD : Hid (∀ W, Below w.heap.size w W → Calls Try.prog 24 #[.slice a len cap] W (RetT W l k s f at_ false))) :
    Calls Try.prog 14 #[.slice a len cap] w (RetQ w 0 0 0 0 false) := by
  go_enter Try.func14, Try.ntmps14
  go_wp2_with fail
  have hb0 := (Below.refl w.heap.size w).alloc (Nat.le_refl _) Q0
  refine (CD.out _ hb0).mono ?_
  rintro e w1 ⟨rfl, hb1⟩
  have D1 : QBlk w1 w.heap.size 0 0 0 0 := (QBlk.new w 0 0 0 0).below hb1 (by simp)
  have hb : Below w.heap.size w w1 := hb0.trans (hb1.mono (by simp))
  clear hb1 hb0 CD
  have D3 := D1.below ((Below.refl w1.heap.size w1).alloc (Nat.le_refl _) (.cells #[.int .i64 l, .bool k, .bool s, .int .u16 f] 52)) D1.lt
  have hb3 := hb.alloc hb.size (.cells #[.int .i64 l, .bool k, .bool s, .int .u16 f] 52)
  have hne : w1.heap.size ≠ w.heap.size := Nat.ne_of_gt D1.lt
  have f0 := D3.c0
  have f1 := D3.c1
  have f2 := D3.c2
  have f3 := D3.c3
  have g0 := D3.frozen 0
  have g1 := D3.frozen 1
  have g2 := D3.frozen 2
  have g3 := D3.frozen 3
  have HD := Lib.hid D3
  have HB := Lib.hid hb3
  clear D1 D3 hb hb3
  go_wp2
  exact retQ_at (HD.out.store 0 0 0 0) (below_dstore HB.out (Nat.le_refl _) _ _ _ _)

set_option maxHeartbeats 2000000 in
theorem of_yes (a : Option Addr) (len cap : Nat) (l f at_ n1 n2 n3 : Int) (k s : Bool) (w : World) (h1 : 0 ≤ n1 ∧ n1 ≤ 65535) (h2 : 0 ≤ n2 ∧ n2 ≤ 4294967295) (h3 : 0 ≤ n3 ∧ n3 ≤ 4294967295)
    (CD : Hid (∀ W, Below w.heap.size w W → Calls Try.prog 24 #[.slice a len cap] W (RetT W l k s f at_ true)))
    (C1 : Hid (∀ W, Below w.heap.size w W → Calls Try.prog 29 #[.slice a len cap, .int .i64 2, .int .i64 2] W fun e w' => e = .returned (.int .u64 n1) ∧ W = w'))
    (C2 : Hid (∀ W, Below w.heap.size w W → Calls Try.prog 29 #[.slice a len cap, .int .i64 4, .int .i64 4] W fun e w' => e = .returned (.int .u64 n2) ∧ W = w'))
    (C3 : Hid (∀ W, Below w.heap.size w W → Calls Try.prog 29 #[.slice a len cap, .int .i64 8, .int .i64 4] W fun e w' => e = .returned (.int .u64 n3) ∧ W = w')) :
    Calls Try.prog 14 #[.slice a len cap] w (RetQ w n1 n2 n3 f true) := by
  have e1 : IntKind.u16.wrap n1 = n1 := wrap16 n1 h1.1 h1.2
  have e2 : IntKind.u32.wrap n2 = n2 := by simp [IntKind.wrap, IntKind.bits, IntKind.signed]; omega
  have e3 : IntKind.u32.wrap n3 = n3 := by simp [IntKind.wrap, IntKind.bits, IntKind.signed]; omega
  clear h1 h2 h3
  go_enter Try.func14, Try.ntmps14
  go_wp2_with fail
  have hb0 := (Below.refl w.heap.size w).alloc (Nat.le_refl _) Q0
  refine (CD.out _ hb0).mono ?_
  rintro e w1 ⟨rfl, hb1⟩
  have D1 : QBlk w1 w.heap.size 0 0 0 0 := (QBlk.new w 0 0 0 0).below hb1 (by simp)
  have hb : Below w.heap.size w w1 := hb0.trans (hb1.mono (by simp))
  clear hb1 hb0 CD
  have D3 := D1.below ((Below.refl w1.heap.size w1).alloc (Nat.le_refl _) (.cells #[.int .i64 l, .bool k, .bool s, .int .u16 f] 52)) D1.lt
  have E3 := DBlk.new w1 l k s f
  have hb3 := hb.alloc hb.size (.cells #[.int .i64 l, .bool k, .bool s, .int .u16 f] 52)
  have hne : w1.heap.size ≠ w.heap.size := Nat.ne_of_gt D1.lt
  clear D1 hb
  go_wp2_with fail
  generalize w1.alloc (.cells #[.int .i64 l, .bool k, .bool s, .int .u16 f] 52) = w2 at *
  generalize w1.heap.size = p at *
  have hS : DBlk w2.drew p l k s f := E3
  have HQ : Hid (QBlk w2 w.heap.size 0 0 0 0) := D3
  have HB : Hid (Below w.heap.size w w2.drew) := hb3.drew
  clear hb3 D3 E3
  have c3 : ∀ W, DBlk W p l k s f → W.cell? ⟨p, 3, none⟩ = some (.int .u16 f) := fun W h => h.c3
  refine region_seq (fun W => DBlk W p l k s f) [(0, false), (3, false), (6, false), (9, false), (10, false), (1, true), (2, false), (4, true), (5, false), (7, true), (8, false), (11, false), (12, true), (13, false)] (by kernel_rfl) (by kernel_rfl) rfl (by kernel_rfl) ?_
  iterate 5 (refine seq_read (v := _) rfl (fun _ _ _ h => h) hS (Or.inl ⟨by rfl, fun W hW => by go_simp <;> with_reducible rfl⟩) ?_; simp only [Act.put, List.setIfInBounds_toArray, List.set_cons_zero, List.set_cons_succ])
  refine seq_do rfl (fun K hK => ?_)
  go_simp
  refine (C1.out _ HB.out).mono ?_
  rintro e w' ⟨rfl, rfl⟩
  refine hK.out _ _ (fun W => DBlk W p l k s f) (fun W h => h) hS ?_
  clear hK K
  iterate 1 (refine seq_read (v := _) rfl (fun _ _ _ h => h) hS (Or.inl ⟨by rfl, fun W hW => by go_simp <;> with_reducible rfl⟩) ?_; simp only [Act.put, List.setIfInBounds_toArray, List.set_cons_zero, List.set_cons_succ])
  refine seq_do rfl (fun K hK => ?_)
  go_simp
  refine (C2.out _ HB.out).mono ?_
  rintro e w' ⟨rfl, rfl⟩
  refine hK.out _ _ (fun W => DBlk W p l k s f) (fun W h => h) hS ?_
  clear hK K
  iterate 1 (refine seq_read (v := _) rfl (fun _ _ _ h => h) hS (Or.inl ⟨by rfl, fun W hW => by go_simp <;> with_reducible rfl⟩) ?_; simp only [Act.put, List.setIfInBounds_toArray, List.set_cons_zero, List.set_cons_succ])
  refine seq_do rfl (fun K hK => ?_)
  go_simp
  refine (C3.out _ HB.out).mono ?_
  rintro e w' ⟨rfl, rfl⟩
  refine hK.out _ _ (fun W => DBlk W p l k s f) (fun W h => h) hS ?_
  clear hK K
  iterate 2 (refine seq_read (v := _) rfl (fun _ _ _ h => h) hS (Or.inl ⟨by rfl, fun W hW => by go_simp <;> with_reducible rfl⟩) ?_; simp only [Act.put, List.setIfInBounds_toArray, List.set_cons_zero, List.set_cons_succ])
  clear c3
  have f0 := HQ.out.c0
  have f1 := HQ.out.c1
  have f2 := HQ.out.c2
  have f3 := HQ.out.c3
  have g0 := HQ.out.frozen 0
  have g1 := HQ.out.frozen 1
  have g2 := HQ.out.frozen 2
  have g3 := HQ.out.frozen 3
  refine seq_do rfl (fun K hK => ?_)
  go_simp
  have D4 := (show QBlk w2.drew w.heap.size 0 0 0 0 from HQ.out).store n1 n2 n3 f
  have hb4 := below_dstore HB.out (Nat.le_refl _) (.int .u16 n1) (.int .u32 n2) (.int .u32 n3) (.int .u16 f)
  have hS := DBlk.off4 hS hne (.int .u16 n1) (.int .u32 n2) (.int .u32 n3) (.int .u16 f)
  refine hK.out _ _ (fun W => DBlk W p l k s f) (fun W h => h) hS ?_
  clear hK K
  iterate 1 (refine seq_read (v := _) rfl (fun _ _ _ h => h) hS (Or.inl ⟨by rfl, fun W hW => by go_simp <;> with_reducible rfl⟩) ?_; simp only [Act.put, List.setIfInBounds_toArray, List.set_cons_zero, List.set_cons_succ])
  refine seq_end ?_
  clear f0 f1 f2 f3 g0 g1 g2 g3
  go_wp2
  exact retQ_at D4 hb4

def oQ (xs : List Int) : Int := if hasD xs then (pQ xs).seq else 0
def oT (xs : List Int) : Int := if hasD xs then (pQ xs).time else 0
def oS (xs : List Int) : Int := if hasD xs then (pQ xs).ssrc else 0
def oF (xs : List Int) : Int := if hasD xs then gF (pQ xs).pay else 0
theorem of_any (a : Option Addr) (len cap B : Nat) (xs : List Int) (w : World) (hl : len ≤ maxLen) (hlc : len ≤ cap) (hr : Rd w B a len xs) (hB : B ≤ w.heap.size) :
    Calls Try.prog 14 #[.slice a len cap] w (RetQ w (oQ xs) (oT xs) (oS xs) (oF xs) (hasD xs)) := by
  have CD := fun W (hW : Below w.heap.size w W) => descriptor_any a len cap B xs W hl hlc (hr.below (hW.mono hB)) (Nat.le_trans hB hW.size)
  unfold oQ oT oS oF
  by_cases h : hasD xs = true
  · obtain ⟨p1, p2⟩ := hasD_iff.1 h
    have h12 := (pE_ok p1).2.1
    have hx := hr.1
    rw [h, if_pos rfl, if_pos rfl, if_pos rfl, if_pos rfl]
    rw [h, dP, Rtp.gP, if_pos p1] at CD
    obtain ⟨k1, -, -, -⟩ := get_enc xs hr.2.1 p1
    have C := fun (i s : Nat) (h1 : 1 ≤ s) (h2 : s ≤ 8) (h3 : i + s ≤ xs.length) W (hW : Below w.heap.size w W) => by
      have := number_any a len cap B i s xs W hl hlc (hr.below (hW.mono hB))
      rw [Rtp.numGet_nb xs i s h1 h2 h3] at this
      exact this
    exact of_yes a len cap _ _ _ (pQ xs).seq (pQ xs).time (pQ xs).ssrc _ _ w ⟨k1.seq0, k1.seq1⟩ ⟨k1.time0, k1.time1⟩ ⟨k1.ssrc0, k1.ssrc1⟩ CD (C 2 2 (by decide) (by decide) (by omega)) (C 4 4 (by decide) (by decide) (by omega)) (C 8 4 (by decide) (by decide) (by omega))
  · have h' : hasD xs = false := Bool.eq_false_iff.2 h
    rw [h'] at CD ⊢
    exact of_no a len cap _ _ _ _ _ w CD
end Go.Proofs.Ytjmlimfheiogcaa.Pat
