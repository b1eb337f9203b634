/- The contract of the reference's SameItems, of two rows that are alike. -/
import Derived.Test.YthmmafpmpnhleaaVb
import Derived.Test.YthmmafpmpnhleaaQn
set_option maxRecDepth 100000
namespace Go.Proofs.Ythmmafpmpnhleaa.Fbk
open Go.RowKit
set_option linter.unusedVariables false

def Bel (w W : World) : Prop := Below w.heap.size w W
set_option maxRecDepth 100000 in
set_option maxHeartbeats 8000000 in
theorem same_its (a a' : Option Addr) (n c c' : Nat) (ps qs : List (Itm × ILoc)) (w : World) (hl : n ≤ 140737488351232) (h1 : ItsRd w w.heap.size a n ps) (h2 : ItsRd w w.heap.size a' n qs) (he : its ps = its qs) :
    Calls Try.prog 14 #[.slice a n c, .slice a' n c'] w (RetB w true) := by
  have H1 := Lib.hid h1
  have H2 := Lib.hid h2
  have HE := Lib.hid he
  clear h1 h2 he
  go_enter Try.func14, Try.ntmps14
  go_wp2
  go_loopw [13] (fun sk wx => ∃ k : Nat, k ≤ n ∧ sk = .int .i64 k ∧ Hid (Below w.heap.size w wx)) (fun sk _ => n - (intOf sk).toNat)
  case atStart => exact ⟨0, by omega, rfl, Below.refl _ _⟩
  case round =>
    obtain ⟨k, hk, rfl, hb⟩ := hrel
    rename World => wx
    by_cases hlt : k < n
    · obtain ⟨b, off, p, v, ea, hbB, hx, hm, hv, hi, d0, d1, d2, d3, d4, d5, d6, d7, d8, d9⟩ := its_at H1.out hlt
      obtain ⟨b2, off2, p2, v2, ea2, hbB2, hx2, hm2, hv2, hi2, e0, e1, e2, e3, e4, e5, e6, e7, e8, e9⟩ := its_at H2.out hlt
      have hpp : p.1 = p2.1 := by
        have q1 : (its ps)[k]? = some p.1 := by simp [its, hx]
        have q2 : (its qs)[k]? = some p2.1 := by simp [its, hx2]
        rw [HE.out, q2] at q1
        exact (Option.some.inj q1).symm
      rw [← hpp] at hv2 hi2
      subst ea ea2
      have hS : Bel w wx.drew := hb.out.drew
      have CS : Hid (∀ W, Below w.heap.size w W → Calls Try.prog 31 #[itm v, itm v2] W (RetB W true)) := fun W hW => hv ▸ hv2 ▸ same_any W w.heap.size p.1 p.2 p2.2 (hi.below hW) (hi2.below hW) hW.size
      have x0 : ∀ W, Bel w W → W.cell? ⟨b, off + k * 10, none⟩ = some (.int .i64 v.kind) := fun W h => (Below.cell (p := ⟨b, off + k * 10, none⟩) h hbB).trans d0
      have x1 : ∀ W, Bel w W → W.cell? ⟨b, off + k * 10 + 1, none⟩ = some (.int .u32 v.ssrc) := fun W h => (Below.cell (p := ⟨b, off + k * 10 + 1, none⟩) h hbB).trans d1
      have x2 : ∀ W, Bel w W → W.cell? ⟨b, off + k * 10 + 2, none⟩ = some (.int .u64 v.ntp) := fun W h => (Below.cell (p := ⟨b, off + k * 10 + 2, none⟩) h hbB).trans d2
      have x3 : ∀ W, Bel w W → W.cell? ⟨b, off + k * 10 + 3, none⟩ = some (.int .u32 v.time) := fun W h => (Below.cell (p := ⟨b, off + k * 10 + 3, none⟩) h hbB).trans d3
      have x4 : ∀ W, Bel w W → W.cell? ⟨b, off + k * 10 + 4, none⟩ = some (.int .u32 v.pks) := fun W h => (Below.cell (p := ⟨b, off + k * 10 + 4, none⟩) h hbB).trans d4
      have x5 : ∀ W, Bel w W → W.cell? ⟨b, off + k * 10 + 5, none⟩ = some (.int .u32 v.ocs) := fun W h => (Below.cell (p := ⟨b, off + k * 10 + 5, none⟩) h hbB).trans d5
      have x6 : ∀ W, Bel w W → W.cell? ⟨b, off + k * 10 + 6, none⟩ = some (.slice v.ba v.bn v.bc) := fun W h => (Below.cell (p := ⟨b, off + k * 10 + 6, none⟩) h hbB).trans d6
      have x7 : ∀ W, Bel w W → W.cell? ⟨b, off + k * 10 + 7, none⟩ = some (.slice v.ga v.gn v.gc) := fun W h => (Below.cell (p := ⟨b, off + k * 10 + 7, none⟩) h hbB).trans d7
      have x8 : ∀ W, Bel w W → W.cell? ⟨b, off + k * 10 + 8, none⟩ = some (.int .u32 v.media) := fun W h => (Below.cell (p := ⟨b, off + k * 10 + 8, none⟩) h hbB).trans d8
      have x9 : ∀ W, Bel w W → W.cell? ⟨b, off + k * 10 + 9, none⟩ = some (.slice v.pa v.pn v.pc) := fun W h => (Below.cell (p := ⟨b, off + k * 10 + 9, none⟩) h hbB).trans d9
      have y0 : ∀ W, Bel w W → W.cell? ⟨b2, off2 + k * 10, none⟩ = some (.int .i64 v2.kind) := fun W h => (Below.cell (p := ⟨b2, off2 + k * 10, none⟩) h hbB2).trans e0
      have y1 : ∀ W, Bel w W → W.cell? ⟨b2, off2 + k * 10 + 1, none⟩ = some (.int .u32 v2.ssrc) := fun W h => (Below.cell (p := ⟨b2, off2 + k * 10 + 1, none⟩) h hbB2).trans e1
      have y2 : ∀ W, Bel w W → W.cell? ⟨b2, off2 + k * 10 + 2, none⟩ = some (.int .u64 v2.ntp) := fun W h => (Below.cell (p := ⟨b2, off2 + k * 10 + 2, none⟩) h hbB2).trans e2
      have y3 : ∀ W, Bel w W → W.cell? ⟨b2, off2 + k * 10 + 3, none⟩ = some (.int .u32 v2.time) := fun W h => (Below.cell (p := ⟨b2, off2 + k * 10 + 3, none⟩) h hbB2).trans e3
      have y4 : ∀ W, Bel w W → W.cell? ⟨b2, off2 + k * 10 + 4, none⟩ = some (.int .u32 v2.pks) := fun W h => (Below.cell (p := ⟨b2, off2 + k * 10 + 4, none⟩) h hbB2).trans e4
      have y5 : ∀ W, Bel w W → W.cell? ⟨b2, off2 + k * 10 + 5, none⟩ = some (.int .u32 v2.ocs) := fun W h => (Below.cell (p := ⟨b2, off2 + k * 10 + 5, none⟩) h hbB2).trans e5
      have y6 : ∀ W, Bel w W → W.cell? ⟨b2, off2 + k * 10 + 6, none⟩ = some (.slice v2.ba v2.bn v2.bc) := fun W h => (Below.cell (p := ⟨b2, off2 + k * 10 + 6, none⟩) h hbB2).trans e6
      have y7 : ∀ W, Bel w W → W.cell? ⟨b2, off2 + k * 10 + 7, none⟩ = some (.slice v2.ga v2.gn v2.gc) := fun W h => (Below.cell (p := ⟨b2, off2 + k * 10 + 7, none⟩) h hbB2).trans e7
      have y8 : ∀ W, Bel w W → W.cell? ⟨b2, off2 + k * 10 + 8, none⟩ = some (.int .u32 v2.media) := fun W h => (Below.cell (p := ⟨b2, off2 + k * 10 + 8, none⟩) h hbB2).trans e8
      have y9 : ∀ W, Bel w W → W.cell? ⟨b2, off2 + k * 10 + 9, none⟩ = some (.slice v2.pa v2.pn v2.pc) := fun W h => (Below.cell (p := ⟨b2, off2 + k * 10 + 9, none⟩) h hbB2).trans e9
      clear d0 d1 d2 d3 d4 d5 d6 d7 d8 d9 e0 e1 e2 e3 e4 e5 e6 e7 e8 e9 hv hv2 hi hi2 hx hx2 hm hm2 hpp
      have HB0 : Hid (Below w.heap.size w wx.drew) := hb.out.drew
      go_wp2_with fail
      refine region_seq (Bel w) [(0, false), (1, false), (2, false), (3, false), (4, false), (5, false), (6, false), (7, false), (8, true), (9, false)] (by kernel_rfl) (by kernel_rfl) rfl (by kernel_rfl) ?_
      generalize wx.drew = u0 at *
      iterate 8 (refine seq_read (v := _) rfl (fun _ _ _ h => h) hS (Or.inl ⟨by rfl, fun W hW => by go_simp <;> with_reducible rfl⟩) ?_; simp only [Act.put, List.setIfInBounds_toArray, List.set_cons_zero, List.set_cons_succ])
      clear x0 y0 x1 y1 x2 y2 x3 y3 x4 y4 x5 y5 x6 y6 x7 y7 x8 y8 x9 y9
      refine seq_do rfl (fun K hK => ?_)
      go_simp
      refine (CS.out _ HB0.out).mono ?_
      rintro e w2 ⟨rfl, hb2⟩
      have HB2 : Hid (Below w.heap.size w w2) := HB0.out.trans (hb2.mono HB0.out.size)
      have hS : Bel w w2 := HB2.out
      refine hK.out _ _ _ (fun W h => h) hS ?_
      clear hK K hb2 CS HB0
      iterate 1 (refine seq_read (v := _) rfl (fun _ _ _ h => h) hS (Or.inl ⟨by rfl, fun W hW => by go_simp <;> with_reducible rfl⟩) ?_; simp only [Act.put, List.setIfInBounds_toArray, List.set_cons_zero, List.set_cons_succ])
      refine seq_end ?_
      clear hS
      go_wp2
      go_roundw
      case rel => exact ⟨k + 1, by omega, by go_num, HB2⟩
      case measure => simp [intOf]; omega
    · obtain rfl : k = n := by omega
      go_wp2
      go_ret
      exact ⟨rfl, hb.out⟩
end Go.Proofs.Ythmmafpmpnhleaa.Fbk
