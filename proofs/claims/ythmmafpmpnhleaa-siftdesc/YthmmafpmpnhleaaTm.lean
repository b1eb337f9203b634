/- Two results in cells, a packet and a descriptor: what stands behind their stores. No function of the program. -/
import Derived.Test.YthmmafpmpnhleaaKg
import Derived.Test.YthmmafpmpnhleaaDd
set_option maxRecDepth 100000
namespace Go.Proofs.Ythmmafpmpnhleaa.Sft
open Go.RowKit
open Rtp (PV pkt pobj PBlk pvOf PRd zpv Off)
set_option linter.unusedVariables false

abbrev D0 : Obj := .cells #[.int .i64 0, .bool false, .bool false, .int .u16 0] 35
theorem below_dstore {w w' : World} {B b : Nat} (hb : Below B w w') (hB : B ≤ b) (u0 u1 u2 u3 : Value) : Below B w ((((w'.setCell ⟨b, 0, none⟩ u0).setCell ⟨b, 1, none⟩ u1).setCell ⟨b, 2, none⟩ u2).setCell ⟨b, 3, none⟩ u3) :=
  (((hb.setCell (p := ⟨b, 0, none⟩) hB u0).setCell (p := ⟨b, 1, none⟩) hB u1).setCell (p := ⟨b, 2, none⟩) hB u2).setCell (p := ⟨b, 3, none⟩) hB u3
theorem ret_pd {F : Func} {W : World} {b d : Nat} {v : PV} {l f : Int} {k s : Bool} {n : Value} {tmps : Array Value} {R : Ending → World → Prop} (hf : F.results = #[.cell 2 33, .cell 3 35, .tmp 4]) (D : PBlk W b v) (E : DBlk W d l k s f) (hR : R (.returned (.tuple #[pkt v, dsc l k s f, n])) W)
    (h2 : tmps[2]?.getD undef = .pointer (some ⟨b, 0, none⟩) := by rfl) (h3 : tmps[3]?.getD undef = .pointer (some ⟨d, 0, none⟩) := by rfl) (h4 : tmps[4]?.getD undef = n := by rfl) :
    bodyPost Try.prog F R .ret ⟨tmps, []⟩ W := by
  obtain ⟨c0, c1, c2, c3, c4, c5, c6, c7, c8, c9, c10⟩ := D.cells
  have d0 := E.c0
  have d1 := E.c1
  have d2 := E.c2
  have d3 := E.c3
  exact bodyPost_ret (v := .tuple #[pkt v, dsc l k s f, n]) (by simp [results, hf, go_sem, h2, h3, h4, c0, c1, c2, c3, c4, c5, c6, c7, c8, c9, c10, d0, d1, d2, d3]) rfl hR
theorem DBlk.offb {w w' : World} {b q : Nat} {l f : Int} {k s : Bool} (h : DBlk w q l k s f) (hq : q ≠ b) (ho : Off b w w') : DBlk w' q l k s f := (ho q hq).trans h
theorem off_dstore (b : Nat) (w : World) (u0 u1 u2 u3 : Value) : Off b w ((((w.setCell ⟨b, 0, none⟩ u0).setCell ⟨b, 1, none⟩ u1).setCell ⟨b, 2, none⟩ u2).setCell ⟨b, 3, none⟩ u3) :=
  ((((Off.refl b w).set u0).set u1).set u2).set u3

theorem pdrew {w : World} {b : Nat} {v : PV} (h : PBlk w b v) : PBlk w.drew b v := h
theorem ddrew {w : World} {b : Nat} {l f : Int} {k s : Bool} (h : DBlk w b l k s f) : DBlk w.drew b l k s f := h
theorem prdrew {w : World} {p : Pkt} {lc : Rtp.Loc} (h : PRd w w.heap.size p lc) : PRd w.drew w.drew.heap.size p lc := ⟨h.csrc, h.ext, h.pay, h.cn, h.en, h.pn, h.cc, h.ec, h.pc⟩
theorem pundrew {w : World} {b : Nat} {v : PV} (h : PBlk w.drew b v) : PBlk w b v := h
theorem dundrew {w : World} {b : Nat} {l f : Int} {k s : Bool} (h : DBlk w.drew b l k s f) : DBlk w b l k s f := h
abbrev PW (w : World) (b : Nat) (v : PV) : World :=
  (((((((((((w.setCell ⟨b, 0, none⟩ (.bool v.mrk)).setCell ⟨b, 1, none⟩ (.int .i64 v.ty)).setCell ⟨b, 2, none⟩ (.int .u16 v.seq)).setCell ⟨b, 3, none⟩ (.int .u32 v.time)).setCell ⟨b, 4, none⟩ (.int .u32 v.ssrc)).setCell ⟨b, 5, none⟩ (.slice v.ca v.cn v.cc)).setCell ⟨b, 6, none⟩ (.bool v.he)).setCell ⟨b, 7, none⟩ (.int .u16 v.prof)).setCell ⟨b, 8, none⟩ (.slice v.ea v.en v.ec)).setCell ⟨b, 9, none⟩ (.slice v.pa v.pn v.pc)).setCell ⟨b, 10, none⟩ (.int .i64 v.pad))
abbrev DW (w : World) (b : Nat) (l : Int) (k s : Bool) (f : Int) : World := (((w.setCell ⟨b, 0, none⟩ (.int .i64 l)).setCell ⟨b, 1, none⟩ (.bool k)).setCell ⟨b, 2, none⟩ (.bool s)).setCell ⟨b, 3, none⟩ (.int .u16 f)
/-- The world in which the two results are written. -/
def MW (w : World) (b d : Nat) (v : PV) (l : Int) (k s : Bool) (f : Int) : World :=
  ((((((((((((((((w.setCell ⟨b, 0, none⟩ (.bool v.mrk)).setCell ⟨b, 1, none⟩ (.int .i64 v.ty)).setCell ⟨b, 2, none⟩ (.int .u16 v.seq)).setCell ⟨b, 3, none⟩ (.int .u32 v.time)).setCell ⟨b, 4, none⟩ (.int .u32 v.ssrc)).setCell ⟨b, 5, none⟩ (.slice v.ca v.cn v.cc)).setCell ⟨b, 6, none⟩ (.bool v.he)).setCell ⟨b, 7, none⟩ (.int .u16 v.prof)).setCell ⟨b, 8, none⟩ (.slice v.ea v.en v.ec)).setCell ⟨b, 9, none⟩ (.slice v.pa v.pn v.pc)).setCell ⟨b, 10, none⟩ (.int .i64 v.pad))).setCell ⟨d, 0, none⟩ (.int .i64 l)).setCell ⟨d, 1, none⟩ (.bool k)).setCell ⟨d, 2, none⟩ (.bool s)).setCell ⟨d, 3, none⟩ (.int .u16 f))
theorem MW_at {w w0 : World} {B b d : Nat} {v u : PV} {l l' f f' : Int} {k k' s s' : Bool} (D : PBlk w b v) (E : DBlk w d l k s f) (hbd : b ≠ d) (hb : Below B w0 w) (h1 : B ≤ b) (h2 : B ≤ d) :
    PBlk (MW w b d u l' k' s' f') b u ∧ DBlk (MW w b d u l' k' s' f') d l' k' s' f' ∧ Below B w0 (MW w b d u l' k' s' f') ∧ w.heap.size ≤ (MW w b d u l' k' s' f').heap.size ∧ ∀ i, i ≠ b → i ≠ d → (MW w b d u l' k' s' f').heap[i]? = w.heap[i]? :=
  ⟨Rtp.PBlk.offb (D.store u) hbd (off_dstore d _ _ _ _ _), (DBlk.offb E (Ne.symm hbd) (Rtp.off_pstore b w _ _ _ _ _ _ _ _ _ _ _)).store l' k' s' f', below_dstore (Rtp.below_pstore hb h1 _ _ _ _ _ _ _ _ _ _ _) h2 _ _ _ _,
    (below_dstore (Rtp.below_pstore (Below.refl 0 w) (Nat.zero_le _) _ _ _ _ _ _ _ _ _ _ _) (Nat.zero_le _) _ _ _ _).size, fun i h1 h2 => (off_dstore d _ _ _ _ _ i h2).trans (Rtp.off_pstore b w _ _ _ _ _ _ _ _ _ _ _ i h1)⟩

/-- Where nothing but zeros stands, zeros change nothing. -/
theorem MW_zero {w : World} {b d : Nat} (D : PBlk w b zpv) (E : DBlk w d 0 false false 0) (hbd : b ≠ d) (i : Nat) : (MW w b d zpv 0 false false 0).heap[i]? = w.heap[i]? := by
  obtain ⟨h1, h2, -, -, h5⟩ := MW_at (u := zpv) (l' := 0) (k' := false) (s' := false) (f' := 0) D E hbd (Below.refl 0 w) (Nat.zero_le _) (Nat.zero_le _)
  by_cases hb : i = b
  · subst hb; exact Eq.trans h1 (Eq.symm D)
  · by_cases hd : i = d
    · subst hd; exact Eq.trans h2 (Eq.symm E)
    · exact h5 i hb hd
end Go.Proofs.Ythmmafpmpnhleaa.Sft
