/- The contract of the reference's SameItem, of two items that are alike. -/
import Derived.Test.YthmmafpmpnhleaaQc
set_option maxRecDepth 100000
namespace Go.Proofs.Ythmmafpmpnhleaa.Fbk
open Go.RowKit
set_option linter.unusedVariables false

structure Sm (w : World) (v u : IV) (W : World) : Prop where
  below : Below w.heap.size w W
  one : IBlk W w.heap.size v
  two : IBlk W (w.heap.size + 1) u
set_option maxRecDepth 100000 in
set_option maxHeartbeats 16000000 in
theorem same_walk (v u : IV) (bn gn pn : Nat) (xs : List Blo) (gs : List Int) (ps : List (Int × Int)) (w : World) (hb1 : v.bn = bn) (hb2 : u.bn = bn) (hg1 : v.gn = gn) (hg2 : u.gn = gn) (hp1 : v.pn = pn) (hp2 : u.pn = pn)
    (e0 : u.kind = v.kind) (e1 : u.ssrc = v.ssrc) (e2 : u.ntp = v.ntp) (e3 : u.time = v.time) (e4 : u.pks = v.pks) (e5 : u.ocs = v.ocs) (e8 : u.media = v.media)
    (r1 : RowRd bloL w w.heap.size v.ba bn xs) (r2 : RowRd bloL w w.heap.size u.ba bn xs) (r3 : Wd w w.heap.size v.ga gn gs) (r4 : Wd w w.heap.size u.ga gn gs) (r5 : RowRd pairL w w.heap.size v.pa pn ps) (r6 : RowRd pairL w w.heap.size u.pa pn ps)
    (l1 : bn ≤ 140737488351232) (l2 : gn ≤ 140737488351232) (l3 : pn ≤ 140737488351232) :
    Calls Try.prog 31 #[itm v, itm u] w (RetB w true) := by
  have Hhb1 := Lib.hid hb1
  have Hhb2 := Lib.hid hb2
  have Hhg1 := Lib.hid hg1
  have Hhg2 := Lib.hid hg2
  have Hhp1 := Lib.hid hp1
  have Hhp2 := Lib.hid hp2
  have He0 := Lib.hid e0
  have He1 := Lib.hid e1
  have He2 := Lib.hid e2
  have He3 := Lib.hid e3
  have He4 := Lib.hid e4
  have He5 := Lib.hid e5
  have He8 := Lib.hid e8
  have Hr1 := Lib.hid r1
  have Hr2 := Lib.hid r2
  have Hr3 := Lib.hid r3
  have Hr4 := Lib.hid r4
  have Hr5 := Lib.hid r5
  have Hr6 := Lib.hid r6
  have S0 : Sm w v u ((w.alloc (iobj v)).alloc (iobj u)) := by
    have h1 := (Below.refl w.heap.size w).alloc (Nat.le_refl _) (iobj v)
    have h2 := (Below.refl (w.alloc (iobj v)).heap.size (w.alloc (iobj v))).alloc (Nat.le_refl _) (iobj u)
    refine ⟨h1.alloc h1.size _, (IBlk.new w v).bel h2, ?_⟩
    have := IBlk.new (w.alloc (iobj v)) u
    simpa using this
  have HS0 := Lib.hid S0
  have c6 := S0.one.c6
  have c7 := S0.one.c7
  have c9 := S0.one.c9
  have d6 := S0.two.c6
  have d7 := S0.two.c7
  have d9 := S0.two.c9
  rw [hb1] at c6
  rw [hb2] at d6
  rw [hg1] at c7
  rw [hg2] at d7
  rw [hp1] at c9
  rw [hp2] at d9
  clear S0 hb1 hb2 hg1 hg2 hp1 hp2 e0 e1 e2 e3 e4 e5 e8 r1 r2 r3 r4 r5 r6
  go_enter Try.func31, Try.ntmps31
  go_wp2
  clear c6 c7 c9 d6 d7 d9
  go_loopw [36] (fun sk wx => ∃ k : Nat, k ≤ bn ∧ sk = .int .i64 k ∧ Hid (Sm w v u wx)) (fun sk _ => bn - (intOf sk).toNat)
  case atStart => exact ⟨0, by omega, rfl, HS0.out⟩
  case round =>
    clear HS0
    obtain ⟨k, hk, rfl, hs⟩ := hrel
    rename World => wx
    by_cases hlt : k < bn
    · obtain ⟨b, off, x, ea, hbB, hx, x0, x1, x2, x3, x4, x5, x6⟩ := blo_at (Hr1.out.below hs.out.below) hlt
      obtain ⟨b2, off2, y, eb, hbB2, hy, y0, y1, y2, y3, y4, y5, y6⟩ := blo_at (Hr2.out.below hs.out.below) hlt
      obtain rfl : x = y := by rw [hx] at hy; exact Option.some.inj hy
      have hS : Sm w v u wx.drew := ⟨hs.out.below.drew, hs.out.one, hs.out.two⟩
      have HS1 := Lib.hid hS
      have k1 : ∀ W, Sm w v u W → W.cell? ⟨w.heap.size, 6, none⟩ = some (.slice (some ⟨b, off, none⟩) bn v.bc) := fun W h => by have := h.one.c6; rwa [Hhb1.out, ea] at this
      have k2 : ∀ W, Sm w v u W → W.cell? ⟨w.heap.size + 1, 6, none⟩ = some (.slice (some ⟨b2, off2, none⟩) bn u.bc) := fun W h => by have := h.two.c6; rwa [Hhb2.out, eb] at this
      have mx0 : ∀ W, Sm w v u W → W.cell? ⟨b, off + k * 7, none⟩ = some (.int .u32 x.ssrc) := fun W h => (h.below.cell (p := ⟨b, off + k * 7, none⟩) hbB).trans ((hs.out.below.cell (p := ⟨b, off + k * 7, none⟩) hbB).symm.trans x0)
      have my0 : ∀ W, Sm w v u W → W.cell? ⟨b2, off2 + k * 7, none⟩ = some (.int .u32 x.ssrc) := fun W h => (h.below.cell (p := ⟨b2, off2 + k * 7, none⟩) hbB2).trans ((hs.out.below.cell (p := ⟨b2, off2 + k * 7, none⟩) hbB2).symm.trans y0)
      have mx1 : ∀ W, Sm w v u W → W.cell? ⟨b, off + k * 7 + 1, none⟩ = some (.int .u8 x.lost) := fun W h => (h.below.cell (p := ⟨b, off + k * 7 + 1, none⟩) hbB).trans ((hs.out.below.cell (p := ⟨b, off + k * 7 + 1, none⟩) hbB).symm.trans x1)
      have my1 : ∀ W, Sm w v u W → W.cell? ⟨b2, off2 + k * 7 + 1, none⟩ = some (.int .u8 x.lost) := fun W h => (h.below.cell (p := ⟨b2, off2 + k * 7 + 1, none⟩) hbB2).trans ((hs.out.below.cell (p := ⟨b2, off2 + k * 7 + 1, none⟩) hbB2).symm.trans y1)
      have mx2 : ∀ W, Sm w v u W → W.cell? ⟨b, off + k * 7 + 2, none⟩ = some (.int .u32 x.total) := fun W h => (h.below.cell (p := ⟨b, off + k * 7 + 2, none⟩) hbB).trans ((hs.out.below.cell (p := ⟨b, off + k * 7 + 2, none⟩) hbB).symm.trans x2)
      have my2 : ∀ W, Sm w v u W → W.cell? ⟨b2, off2 + k * 7 + 2, none⟩ = some (.int .u32 x.total) := fun W h => (h.below.cell (p := ⟨b2, off2 + k * 7 + 2, none⟩) hbB2).trans ((hs.out.below.cell (p := ⟨b2, off2 + k * 7 + 2, none⟩) hbB2).symm.trans y2)
      have mx3 : ∀ W, Sm w v u W → W.cell? ⟨b, off + k * 7 + 3, none⟩ = some (.int .u32 x.high) := fun W h => (h.below.cell (p := ⟨b, off + k * 7 + 3, none⟩) hbB).trans ((hs.out.below.cell (p := ⟨b, off + k * 7 + 3, none⟩) hbB).symm.trans x3)
      have my3 : ∀ W, Sm w v u W → W.cell? ⟨b2, off2 + k * 7 + 3, none⟩ = some (.int .u32 x.high) := fun W h => (h.below.cell (p := ⟨b2, off2 + k * 7 + 3, none⟩) hbB2).trans ((hs.out.below.cell (p := ⟨b2, off2 + k * 7 + 3, none⟩) hbB2).symm.trans y3)
      have mx4 : ∀ W, Sm w v u W → W.cell? ⟨b, off + k * 7 + 4, none⟩ = some (.int .u32 x.jit) := fun W h => (h.below.cell (p := ⟨b, off + k * 7 + 4, none⟩) hbB).trans ((hs.out.below.cell (p := ⟨b, off + k * 7 + 4, none⟩) hbB).symm.trans x4)
      have my4 : ∀ W, Sm w v u W → W.cell? ⟨b2, off2 + k * 7 + 4, none⟩ = some (.int .u32 x.jit) := fun W h => (h.below.cell (p := ⟨b2, off2 + k * 7 + 4, none⟩) hbB2).trans ((hs.out.below.cell (p := ⟨b2, off2 + k * 7 + 4, none⟩) hbB2).symm.trans y4)
      have mx5 : ∀ W, Sm w v u W → W.cell? ⟨b, off + k * 7 + 5, none⟩ = some (.int .u32 x.last) := fun W h => (h.below.cell (p := ⟨b, off + k * 7 + 5, none⟩) hbB).trans ((hs.out.below.cell (p := ⟨b, off + k * 7 + 5, none⟩) hbB).symm.trans x5)
      have my5 : ∀ W, Sm w v u W → W.cell? ⟨b2, off2 + k * 7 + 5, none⟩ = some (.int .u32 x.last) := fun W h => (h.below.cell (p := ⟨b2, off2 + k * 7 + 5, none⟩) hbB2).trans ((hs.out.below.cell (p := ⟨b2, off2 + k * 7 + 5, none⟩) hbB2).symm.trans y5)
      have mx6 : ∀ W, Sm w v u W → W.cell? ⟨b, off + k * 7 + 6, none⟩ = some (.int .u32 x.delay) := fun W h => (h.below.cell (p := ⟨b, off + k * 7 + 6, none⟩) hbB).trans ((hs.out.below.cell (p := ⟨b, off + k * 7 + 6, none⟩) hbB).symm.trans x6)
      have my6 : ∀ W, Sm w v u W → W.cell? ⟨b2, off2 + k * 7 + 6, none⟩ = some (.int .u32 x.delay) := fun W h => (h.below.cell (p := ⟨b2, off2 + k * 7 + 6, none⟩) hbB2).trans ((hs.out.below.cell (p := ⟨b2, off2 + k * 7 + 6, none⟩) hbB2).symm.trans y6)
      clear ea eb x0 y0 x1 y1 x2 y2 x3 y3 x4 y4 x5 y5 x6 y6 hx hy
      go_wp2_with fail
      refine region_seq (Sm w v u) [(0, false), (1, false), (2, false), (3, false), (4, false), (5, false), (6, false), (7, false), (8, false), (9, false), (10, false)] (by kernel_rfl) (by kernel_rfl) rfl (by kernel_rfl) ?_
      iterate 11 (refine seq_read (v := _) rfl (fun _ _ _ h => h) hS (Or.inl ⟨by rfl, fun W hW => by go_simp <;> with_reducible rfl⟩) ?_; simp only [Act.put, List.setIfInBounds_toArray, List.set_cons_zero, List.set_cons_succ])
      refine seq_end ?_
      clear hS k1 k2 mx0 my0 mx1 my1 mx2 my2 mx3 my3 mx4 my4 mx5 my5 mx6 my6
      go_wp2
      go_roundw
      case rel => exact ⟨k + 1, by omega, by go_num, HS1.out⟩
      case measure => simp [intOf]; omega
    · obtain rfl : k = bn := by omega
      have c7 := hs.out.one.c7
      rw [Hhg1.out] at c7
      go_wp2
      clear c7
      go_loopw [54] (fun sk wx => ∃ k : Nat, k ≤ gn ∧ sk = .int .i64 k ∧ Hid (Sm w v u wx)) (fun sk _ => gn - (intOf sk).toNat)
      case atStart => exact ⟨0, by omega, rfl, hs.out⟩
      case round =>
        clear hs
        obtain ⟨k, hk, rfl, hs⟩ := hrel
        rename World => wx
        by_cases hlt : k < gn
        · obtain ⟨b, off, ea, hbB, hx⟩ := (Hr3.out.below hs.out.below).2.2 (by omega)
          obtain ⟨b2, off2, eb, hbB2, hy⟩ := (Hr4.out.below hs.out.below).2.2 (by omega)
          have x0 := hx k hlt
          have y0 := hy k hlt
          generalize gs.getD k 0 = x at *
          have hS : Sm w v u wx.drew := ⟨hs.out.below.drew, hs.out.one, hs.out.two⟩
          have HS1 := Lib.hid hS
          have k1 : ∀ W, Sm w v u W → W.cell? ⟨w.heap.size, 7, none⟩ = some (.slice (some ⟨b, off, none⟩) gn v.gc) := fun W h => by have := h.one.c7; rwa [Hhg1.out, ea] at this
          have k2 : ∀ W, Sm w v u W → W.cell? ⟨w.heap.size + 1, 7, none⟩ = some (.slice (some ⟨b2, off2, none⟩) gn u.gc) := fun W h => by have := h.two.c7; rwa [Hhg2.out, eb] at this
          have mx0 : ∀ W, Sm w v u W → W.cell? ⟨b, off + k, none⟩ = some (.int .u32 x) := fun W h => (h.below.cell (p := ⟨b, off + k, none⟩) hbB).trans ((hs.out.below.cell (p := ⟨b, off + k, none⟩) hbB).symm.trans x0)
          have my0 : ∀ W, Sm w v u W → W.cell? ⟨b2, off2 + k, none⟩ = some (.int .u32 x) := fun W h => (h.below.cell (p := ⟨b2, off2 + k, none⟩) hbB2).trans ((hs.out.below.cell (p := ⟨b2, off2 + k, none⟩) hbB2).symm.trans y0)
          clear ea eb x0 y0 hx hy
          go_wp2_with fail
          refine region_seq (Sm w v u) [(0, false), (1, false), (2, false), (3, false), (4, false), (5, false), (6, false), (7, false), (8, false), (9, false), (10, false)] (by kernel_rfl) (by kernel_rfl) rfl (by kernel_rfl) ?_
          iterate 11 (refine seq_read (v := _) rfl (fun _ _ _ h => h) hS (Or.inl ⟨by rfl, fun W hW => by go_simp <;> with_reducible rfl⟩) ?_; simp only [Act.put, List.setIfInBounds_toArray, List.set_cons_zero, List.set_cons_succ])
          refine seq_end ?_
          clear hS k1 k2 mx0 my0
          go_wp2
          go_roundw
          case rel => exact ⟨k + 1, by omega, by go_num, HS1.out⟩
          case measure => simp [intOf]; omega
        · obtain rfl : k = gn := by omega
          have c9 := hs.out.one.c9
          rw [Hhp1.out] at c9
          go_wp2
          clear c9
          go_loopw [72] (fun sk wx => ∃ k : Nat, k ≤ pn ∧ sk = .int .i64 k ∧ Hid (Sm w v u wx)) (fun sk _ => pn - (intOf sk).toNat)
          case atStart => exact ⟨0, by omega, rfl, hs.out⟩
          case round =>
            clear hs
            obtain ⟨k, hk, rfl, hs⟩ := hrel
            rename World => wx
            by_cases hlt : k < pn
            · obtain ⟨b, off, x, ea, hbB, hx, x0, x1⟩ := pair_at (Hr5.out.below hs.out.below) hlt
              obtain ⟨b2, off2, y, eb, hbB2, hy, y0, y1⟩ := pair_at (Hr6.out.below hs.out.below) hlt
              obtain rfl : x = y := by rw [hx] at hy; exact Option.some.inj hy
              have hS : Sm w v u wx.drew := ⟨hs.out.below.drew, hs.out.one, hs.out.two⟩
              have HS1 := Lib.hid hS
              have k1 : ∀ W, Sm w v u W → W.cell? ⟨w.heap.size, 9, none⟩ = some (.slice (some ⟨b, off, none⟩) pn v.pc) := fun W h => by have := h.one.c9; rwa [Hhp1.out, ea] at this
              have k2 : ∀ W, Sm w v u W → W.cell? ⟨w.heap.size + 1, 9, none⟩ = some (.slice (some ⟨b2, off2, none⟩) pn u.pc) := fun W h => by have := h.two.c9; rwa [Hhp2.out, eb] at this
              have mx0 : ∀ W, Sm w v u W → W.cell? ⟨b, off + k * 2, none⟩ = some (.int .u16 x.1) := fun W h => (h.below.cell (p := ⟨b, off + k * 2, none⟩) hbB).trans ((hs.out.below.cell (p := ⟨b, off + k * 2, none⟩) hbB).symm.trans x0)
              have my0 : ∀ W, Sm w v u W → W.cell? ⟨b2, off2 + k * 2, none⟩ = some (.int .u16 x.1) := fun W h => (h.below.cell (p := ⟨b2, off2 + k * 2, none⟩) hbB2).trans ((hs.out.below.cell (p := ⟨b2, off2 + k * 2, none⟩) hbB2).symm.trans y0)
              have mx1 : ∀ W, Sm w v u W → W.cell? ⟨b, off + k * 2 + 1, none⟩ = some (.int .u16 x.2) := fun W h => (h.below.cell (p := ⟨b, off + k * 2 + 1, none⟩) hbB).trans ((hs.out.below.cell (p := ⟨b, off + k * 2 + 1, none⟩) hbB).symm.trans x1)
              have my1 : ∀ W, Sm w v u W → W.cell? ⟨b2, off2 + k * 2 + 1, none⟩ = some (.int .u16 x.2) := fun W h => (h.below.cell (p := ⟨b2, off2 + k * 2 + 1, none⟩) hbB2).trans ((hs.out.below.cell (p := ⟨b2, off2 + k * 2 + 1, none⟩) hbB2).symm.trans y1)
              clear ea eb x0 y0 x1 y1 hx hy
              go_wp2_with fail
              refine region_seq (Sm w v u) [(0, false), (1, false), (2, false), (3, false), (4, false), (5, false), (6, false), (7, false), (8, false), (9, false), (10, false)] (by kernel_rfl) (by kernel_rfl) rfl (by kernel_rfl) ?_
              iterate 11 (refine seq_read (v := _) rfl (fun _ _ _ h => h) hS (Or.inl ⟨by rfl, fun W hW => by go_simp <;> with_reducible rfl⟩) ?_; simp only [Act.put, List.setIfInBounds_toArray, List.set_cons_zero, List.set_cons_succ])
              refine seq_end ?_
              clear hS k1 k2 mx0 my0 mx1 my1
              go_wp2
              go_roundw
              case rel => exact ⟨k + 1, by omega, by go_num, HS1.out⟩
              case measure => simp [intOf]; omega
            · obtain rfl : k = pn := by omega
              have c0 := hs.out.one.c0
              have d0 := hs.out.two.c0
              rw [He0.out] at d0
              have c1 := hs.out.one.c1
              have d1 := hs.out.two.c1
              rw [He1.out] at d1
              have c2 := hs.out.one.c2
              have d2 := hs.out.two.c2
              rw [He2.out] at d2
              have c3 := hs.out.one.c3
              have d3 := hs.out.two.c3
              rw [He3.out] at d3
              have c4 := hs.out.one.c4
              have d4 := hs.out.two.c4
              rw [He4.out] at d4
              have c5 := hs.out.one.c5
              have d5 := hs.out.two.c5
              rw [He5.out] at d5
              have c8 := hs.out.one.c8
              have d8 := hs.out.two.c8
              rw [He8.out] at d8
              go_wp2
              go_ret
              exact ⟨rfl, hs.out.below⟩
theorem same_any (w : World) (B : Nat) (i : Itm) (l l' : ILoc) (h : IRd w B i l) (h' : IRd w B i l') (hB : B ≤ w.heap.size) : Calls Try.prog 31 #[itm (ivOf i l), itm (ivOf i l')] w (RetB w true) :=
  same_walk (ivOf i l) (ivOf i l') i.blocks.length i.gone.length i.pairs.length i.blocks i.gone i.pairs w rfl rfl rfl rfl rfl rfl rfl rfl rfl rfl rfl rfl rfl (h.more hB).blocks (h'.more hB).blocks (h.more hB).gone (h'.more hB).gone (h.more hB).pairs (h'.more hB).pairs h.bn h.gn h.pn
end Go.Proofs.Ythmmafpmpnhleaa.Fbk
