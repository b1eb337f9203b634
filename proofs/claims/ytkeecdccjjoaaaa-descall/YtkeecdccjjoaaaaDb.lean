/- The contract of desc.Put. -/
import Derived.Test.YtkeecdccjjoaaaaDa
namespace Go.Proofs.Ytkeecdccjjoaaaa
open Go.RowKit
set_option linter.unusedVariables false

/-- A descriptor that lies at block b. -/
def DBlk (w : World) (b : Nat) (l : Int) (k s : Bool) (f : Int) : Prop := w.heap[b]? = some (.cells #[.int .i64 l, .bool k, .bool s, .int .u16 f] 24 (0, 0))
section
variable {w w' : World} {b B : Nat} {l f : Int} {k s : Bool}
theorem DBlk.new (w : World) (l : Int) (k s : Bool) (f : Int) : DBlk (w.alloc (.cells #[.int .i64 l, .bool k, .bool s, .int .u16 f] 24)) w.heap.size l k s f := heap_alloc_new w _
theorem DBlk.below (h : DBlk w b l k s f) (hb : Below B w w') (hg : b < B) : DBlk w' b l k s f := (hb.block b hg).trans h
theorem DBlk.lt (h : DBlk w b l k s f) : b < w.heap.size := by
  rcases Nat.lt_or_ge b w.heap.size with hlt | hge
  · exact hlt
  · unfold DBlk at h; rw [Array.getElem?_eq_none hge] at h; cases h
theorem DBlk.c0 (h : DBlk w b l k s f) : w.cell? ⟨b, 0, none⟩ = some (.int .i64 l) := cell_of_row w b 0 _ 24 (0, 0) h
theorem DBlk.c1 (h : DBlk w b l k s f) : w.cell? ⟨b, 1, none⟩ = some (.bool k) := cell_of_row w b 1 _ 24 (0, 0) h
theorem DBlk.c2 (h : DBlk w b l k s f) : w.cell? ⟨b, 2, none⟩ = some (.bool s) := cell_of_row w b 2 _ 24 (0, 0) h
theorem DBlk.c3 (h : DBlk w b l k s f) : w.cell? ⟨b, 3, none⟩ = some (.int .u16 f) := cell_of_row w b 3 _ 24 (0, 0) h
end

theorem wrap8 (n : Int) (h0 : 0 ≤ n) (h1 : n ≤ 255) : IntKind.u8.wrap n = n := by simp [IntKind.wrap, IntKind.bits, IntKind.signed]; omega
theorem wrap8m (n : Int) : IntKind.u8.wrap n = n % 256 := by simp [IntKind.wrap, IntKind.bits, IntKind.signed]

/-- A descriptor's bytes. -/
def putV (l : Int) (k s : Bool) (f : Int) : List Int := [firstV l k s, 90, f / 256, f % 256]
def PutRow (w : World) (xs : List Int) (e : Ending) (w' : World) : Prop := ∃ g, e = .returned (.slice (some ⟨g, 0, none⟩) 4 4) ∧ w.heap.size ≤ g ∧ Blk w' g xs [] ∧ Below w.heap.size w w'

set_option maxHeartbeats 1000000 in
theorem put_yes (l : Int) (k s : Bool) (f : Int) (w : World) (h0 : 0 ≤ l) (h2 : l ≤ 2) (hf0 : 0 ≤ f) (hf : f ≤ 65535) :
    Calls Try.prog 12 #[dsc l k s f] w (PutRow w (putV l k s f)) := by
  have CM : Hid (∀ W, Calls Try.prog 10 #[dsc l k s f] W fun e w' => e = .returned (.bool true) ∧ Below W.heap.size W w') := fun W => (show mayB l = true from by simp [mayB]; omega) ▸ may_any l k s f W
  obtain ⟨x, hx⟩ : ∃ x, firstV l k s = x := ⟨_, rfl⟩
  have CF : Hid (∀ W, Calls Try.prog 15 #[dsc l k s f] W fun e w' => e = .returned (.int .u8 x) ∧ Below W.heap.size W w') := fun W => hx ▸ first_any l k s f W h0 (by omega)
  have HX := Lib.hid hx
  clear hx
  go_enter Try.func12, Try.ntmps12
  go_wp2_with fail
  refine (CM.out _).mono ?_
  rintro e w1 ⟨rfl, hb1⟩
  have D1 : DBlk w1 w.heap.size l k s f := (DBlk.new w l k s f).below hb1 (by simp)
  have H1 : Hid (Below w.heap.size w w1) := ((Below.refl w.heap.size w).alloc (Nat.le_refl _) _).trans (hb1.mono (by simp))
  have hz : w.heap.size < w1.heap.size := D1.lt
  clear hb1
  have c0 : ∀ W, Below w1.heap.size w1 W → W.cell? ⟨w.heap.size, 0, none⟩ = some (.int .i64 l) := fun W hW => (D1.below hW D1.lt).c0
  have c1 : ∀ W, Below w1.heap.size w1 W → W.cell? ⟨w.heap.size, 1, none⟩ = some (.bool k) := fun W hW => (D1.below hW D1.lt).c1
  have c2 : ∀ W, Below w1.heap.size w1 W → W.cell? ⟨w.heap.size, 2, none⟩ = some (.bool s) := fun W hW => (D1.below hW D1.lt).c2
  have c3 : ∀ W, Below w1.heap.size w1 W → W.cell? ⟨w.heap.size, 3, none⟩ = some (.int .u16 f) := fun W hW => (D1.below hW D1.lt).c3
  clear D1
  go_wp2_with fail
  have hS : Below w1.heap.size w1 w1.drew := (Below.refl _ w1).drew
  refine region_seq (fun W => Below w1.heap.size w1 W) [(0, false), (2, false), (3, false), (4, false), (5, false), (6, false), (7, false), (8, false), (1, true), (9, true), (10, false)] (by kernel_rfl) (by kernel_rfl) rfl (by kernel_rfl) ?_
  iterate 8 (refine seq_read (v := _) rfl (fun _ _ _ h => h) hS (Or.inl ⟨by rfl, fun W hW => by go_simp <;> with_reducible rfl⟩) ?_; simp only [Act.put, List.setIfInBounds_toArray, List.set_cons_zero, List.set_cons_succ])
  refine seq_do rfl (fun K hK => ?_)
  go_simp
  refine (CF.out _).mono ?_
  rintro e w2 ⟨rfl, hb2⟩
  have hb12 : Below w1.heap.size w1 w2 := hS.trans hb2
  refine hK.out _ _ (fun W => Below w2.heap.size w2 W) (fun W hW => hb12.trans (hW.mono hb12.size)) (Below.refl _ _) ?_
  clear hK K c0 c1 c2 c3 hS
  refine seq_do rfl (fun K hK => ?_)
  go_simp
  rw [wrap8 (f / 256) (by omega) (by omega), wrap8m f]
  have hb3 : Below w2.heap.size w2 (w2.alloc (.cells #[.int .u8 x, .int .u8 90, .int .u8 (f / 256), .int .u8 (f % 256)] 5)) := (Below.refl _ _).alloc (Nat.le_refl _) _
  have HB := alloc_blk w2 [x, 90, f / 256, f % 256]
  refine hK.out _ _ (fun W => Below w2.heap.size w2 W) (fun W hW => hW) hb3 ?_
  clear hK K
  iterate 1 (refine seq_read (v := _) rfl (fun _ _ _ h => h) hb3 (Or.inl ⟨by rfl, fun W hW => by go_simp <;> with_reducible rfl⟩) ?_; simp only [Act.put, List.setIfInBounds_toArray, List.set_cons_zero, List.set_cons_succ])
  refine seq_end ?_
  go_wp2
  go_ret
  have hb : Below w.heap.size w w2 := H1.out.trans (hb12.mono H1.out.size)
  refine ⟨_, rfl, hb.size, ?_, hb.trans (hb3.mono hb.size)⟩
  rw [putV, HX.out]
  exact HB
end Go.Proofs.Ytkeecdccjjoaaaa
