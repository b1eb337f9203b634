/- The contract of rtp.putHead. -/
import Derived.Test.YtjmlimfheiogcaaKg
import Derived.Test.YtjmlimfheiogcaaKp
namespace Go.Proofs.Ytjmlimfheiogcaa.Rtp
open Go.RowKit
set_option linter.unusedVariables false

/-- What the head's bytes are, over a row. -/
theorem head_list (L : List Int) (F S seq time ssrc : Int) (h : 12 ≤ L.length) :
    written (written (written ((L.set 0 F).set 1 S) 2 2 0 seq) 4 4 0 time) 8 4 0 ssrc = [F, S] ++ (be 2 seq ++ (be 4 time ++ (be 4 ssrc ++ L.drop 12))) := by
  match L, h with
  | a0 :: a1 :: a2 :: a3 :: a4 :: a5 :: a6 :: a7 :: a8 :: a9 :: a10 :: a11 :: r, _ => simp [written, be]

theorem putHead_end (g len : Nat) (v : PV) (L : List Int) (F S : Int) (w : World) (hl : len ≤ 512) (h12 : 12 ≤ len) (hL : L.length = len)
    (hs : 0 ≤ v.seq ∧ v.seq ≤ 65535) (ht : 0 ≤ v.time ∧ v.time ≤ 4294967295) (hz : 0 ≤ v.ssrc ∧ v.ssrc ≤ 4294967295) :
    ∃ C1 C2 C3 : List Int, (∀ W, Blk W g ((L.set 0 F).set 1 S) [] → Calls Try.prog 27 #[.slice (some ⟨g, 0, none⟩) len len, .int .i64 2, .int .i64 2, .int .u64 v.seq] W fun e w' => e = .returned (.bool true) ∧ Blk w' g C1 [] ∧ W.grownBy w' (some g)) ∧
      (∀ W, Blk W g C1 [] → Calls Try.prog 27 #[.slice (some ⟨g, 0, none⟩) len len, .int .i64 4, .int .i64 4, .int .u64 v.time] W fun e w' => e = .returned (.bool true) ∧ Blk w' g C2 [] ∧ W.grownBy w' (some g)) ∧
      (∀ W, Blk W g C2 [] → Calls Try.prog 27 #[.slice (some ⟨g, 0, none⟩) len len, .int .i64 8, .int .i64 4, .int .u64 v.ssrc] W fun e w' => e = .returned (.bool true) ∧ Blk w' g C3 [] ∧ W.grownBy w' (some g)) ∧
      C3 = [F, S] ++ (be 2 v.seq ++ (be 4 v.time ++ (be 4 v.ssrc ++ L.drop 12))) := by
  have l0 : ((L.set 0 F).set 1 S).length = len := by simp [hL]
  have l1 : (written ((L.set 0 F).set 1 S) 2 2 0 v.seq).length = len := by rw [written_length _ _ _ _ _ (by omega) (by omega)]; exact l0
  have l2 : (written (written ((L.set 0 F).set 1 S) 2 2 0 v.seq) 4 4 0 v.time).length = len := by rw [written_length _ _ _ _ _ (by omega) (by omega)]; exact l1
  exact ⟨_, _, _, fun W h => fput g len 2 2 v.seq _ W hl l0 hs.1 (by omega) (by omega) (by omega) (by omega) h, fun W h => fput g len 4 4 v.time _ W hl l1 ht.1 (by omega) (by omega) (by omega) (by omega) h,
    fun W h => fput g len 8 4 v.ssrc _ W hl l2 hz.1 (by omega) (by omega) (by omega) (by omega) h, head_list L F S v.seq v.time v.ssrc (by omega)⟩

def firstV (v : PV) : Int := 128 + (if 0 < v.pad then 32 else 0) + (if v.he then 16 else 0) + v.cn
def secondV (v : PV) : Int := (if v.mrk then 128 else 0) + v.ty
theorem _root_.Go.Proofs.Ytjmlimfheiogcaa.Blk.cell_set {w : World} {g : Nat} {cs : List Int} {T : List Value} (h : Blk w g cs T) (i : Nat) (hi : i < cs.length) (x : Int) : (w.setCell ⟨g, i, none⟩ (.int .u8 x)).cell? ⟨g, i, none⟩ = some (.int .u8 x) := by
  have := (h.set_ i hi x).cell i (by rw [List.length_set]; exact hi)
  rw [this]; simp [List.getD_eq_getElem?_getD, hi]
theorem set_same (L : List Int) (i : Nat) (x y : Int) : (L.set i x).set i y = L.set i y := by simp

set_option maxHeartbeats 1000000 in
theorem putHead_000 (g len : Nat) (v : PV) (L : List Int) (w : World) (hl : len ≤ 512) (h12 : 12 ≤ len) (hL : L.length = len) (hg : Blk w g L []) (hcn : v.cn ≤ 15) (hty : 0 ≤ v.ty ∧ v.ty ≤ 127)
    (hs : 0 ≤ v.seq ∧ v.seq ≤ 65535) (ht : 0 ≤ v.time ∧ v.time ≤ 4294967295) (hz : 0 ≤ v.ssrc ∧ v.ssrc ≤ 4294967295) (hp : ¬ 0 < v.pad) (hh : v.he = false) (hm : v.mrk = false) :
    Calls Try.prog 52 #[.slice (some ⟨g, 0, none⟩) len len, pkt v] w (RetN w g ([firstV v, secondV v] ++ (be 2 v.seq ++ (be 4 v.time ++ (be 4 v.ssrc ++ L.drop 12))))) := by
  obtain ⟨F, hF⟩ : ∃ F : Int, F = 128 + v.cn := ⟨_, rfl⟩
  obtain ⟨S, hS⟩ : ∃ S : Int, S = v.ty := ⟨_, rfl⟩
  have hf : firstV v = F := by rw [firstV, hh, hF]; rw [if_neg hp]; simp
  have hsec : secondV v = S := by rw [secondV, hm, hS]; simp
  obtain ⟨C1, C2, C3, k1, k2, k3, hC⟩ := putHead_end g len v L F S w hl h12 hL hs ht hz
  rw [hf, hsec, ← hC]
  have K1 := Lib.hid k1
  have K2 := Lib.hid k2
  have K3 := Lib.hid k3
  have HH := Lib.hid hh
  have HM := Lib.hid hm
  have hgs : g < w.heap.size := hg.lt
  have hne : g ≠ w.heap.size := Nat.ne_of_lt hgs
  have hp0 : 0 < len := by omega
  have hp1 : 1 < len := by omega
  have hi1 : (1 : Int) < len := by omega
  have q0 : IntKind.u8.wrap (v.cn : Int) = v.cn := wrap8 _ (by omega) (by omega)
  have q1 : IntKind.u8.wrap v.ty = v.ty := wrap8 _ (by omega) (by omega)
  have p1 : IntKind.u64.wrap v.seq = v.seq := by simp [IntKind.wrap, IntKind.bits, IntKind.signed]; omega
  have p2 : IntKind.u64.wrap v.time = v.time := by simp [IntKind.wrap, IntKind.bits, IntKind.signed]; omega
  have p3 : IntKind.u64.wrap v.ssrc = v.ssrc := by simp [IntKind.wrap, IntKind.bits, IntKind.signed]; omega
  have hgs' := Lib.hid hgs
  have o0 := or_cc v.cn (by omega) (by omega)
  clear hf hsec hC k1 k2 k3 hh hm
  go_enter Try.func52, Try.ntmps52
  have B0 := hg.alloc (pobj v)
  have D0 := PBlk.new w v
  have G0 : Below g w (w.alloc (pobj v)) := ((Below.refl w.heap.size w).alloc (Nat.le_refl _) (pobj v)).mono (Nat.le_of_lt hgs)
  have B1 := B0.set_ 0 (by rw [hL]; omega) (128 + (v.cn : Int))
  have D1 := D0.off (p := ⟨g, 0, none⟩) hne (.int .u8 (128 + (v.cn : Int)))
  have G1 := G0.setCell (p := ⟨g, 0, none⟩) (Nat.le_refl _) (.int .u8 (128 + (v.cn : Int)))
  obtain ⟨n0, y0⟩ := (⟨_, B0.cell 0 (by rw [hL]; omega)⟩ : ∃ n, World.cell? _ ⟨g, 0, none⟩ = some (.int .u8 n))
  have z0 := B0.frozen 0
  have B2 := B1.set_ 1 (by simp only [List.length_set]; rw [hL]; omega) v.ty
  have D2 := D1.off (p := ⟨g, 1, none⟩) hne (.int .u8 v.ty)
  have G2 := G1.setCell (p := ⟨g, 1, none⟩) (Nat.le_refl _) (.int .u8 v.ty)
  obtain ⟨n1, y1⟩ := (⟨_, B1.cell 1 (by simp only [List.length_set]; rw [hL]; omega)⟩ : ∃ n, World.cell? _ ⟨g, 1, none⟩ = some (.int .u8 n))
  have z1 := B1.frozen 1
  have r0 := D0.c5
  have r1 := D1.c10
  have r2 := D1.c6
  rw [HH.out] at r2
  have r3 := D1.c1
  have r4 := D2.c0
  rw [HM.out] at r4
  have r5 := D2.c2
  clear HH HM
  have HBn := Lib.hid B2
  have HDn := Lib.hid D2
  have HGn := Lib.hid G2
  clear B0 D0 G0 B1 D1 G1 B2 D2 G2
  have HF := Lib.hid hF
  have HS := Lib.hid hS
  clear hF hS hg hgs hs ht hz
  go_wp2_with fail
  clear y0 z0
  clear y1 z1
  clear r0 r1 r2 r3 r4 r5 q0 q1 o0
  have BB : Blk _ g ((L.set 0 F).set 1 S) [] := (show ((L.set 0 (128 + (v.cn : Int))).set 1 v.ty) = (L.set 0 F).set 1 S from by rw [HF.out, HS.out]; try simp) ▸ HBn.out
  refine (K1.out _ BB).mono ?_
  rintro e w1 ⟨rfl, hk1, hg1⟩
  have E1 : PBlk w1 w.heap.size v := (hg1.block w.heap.size HDn.out.lt (by simp; omega)).trans HDn.out
  have H1 : Below g w w1 := HGn.out.trans (grown_below hg1 (Nat.le_of_lt BB.lt))
  clear hg1 BB HBn HDn HGn
  have r3 := E1.c3
  go_wp2_with fail
  clear r3
  refine (K2.out _ hk1).mono ?_
  rintro e w2 ⟨rfl, hk2, hg2⟩
  have E2 : PBlk w2 w.heap.size v := (hg2.block w.heap.size E1.lt (by simp; omega)).trans E1
  have H2 : Below g w w2 := H1.trans (grown_below hg2 (Nat.le_of_lt hk1.lt))
  clear hg2 hk1 E1 H1
  have r4 := E2.c4
  go_wp2_with fail
  clear r4
  refine (K3.out _ hk2).mono ?_
  rintro e w3 ⟨rfl, hk3, hg3⟩
  have H3 : Below g w w3 := H2.trans (grown_below hg3 (Nat.le_of_lt hk2.lt))
  go_wp2
  go_end0
  exact ⟨rfl, hk3, H3⟩

set_option maxHeartbeats 1000000 in
theorem putHead_001 (g len : Nat) (v : PV) (L : List Int) (w : World) (hl : len ≤ 512) (h12 : 12 ≤ len) (hL : L.length = len) (hg : Blk w g L []) (hcn : v.cn ≤ 15) (hty : 0 ≤ v.ty ∧ v.ty ≤ 127)
    (hs : 0 ≤ v.seq ∧ v.seq ≤ 65535) (ht : 0 ≤ v.time ∧ v.time ≤ 4294967295) (hz : 0 ≤ v.ssrc ∧ v.ssrc ≤ 4294967295) (hp : ¬ 0 < v.pad) (hh : v.he = false) (hm : v.mrk = true) :
    Calls Try.prog 52 #[.slice (some ⟨g, 0, none⟩) len len, pkt v] w (RetN w g ([firstV v, secondV v] ++ (be 2 v.seq ++ (be 4 v.time ++ (be 4 v.ssrc ++ L.drop 12))))) := by
  obtain ⟨F, hF⟩ : ∃ F : Int, F = 128 + v.cn := ⟨_, rfl⟩
  obtain ⟨S, hS⟩ : ∃ S : Int, S = v.ty + 128 := ⟨_, rfl⟩
  have hf : firstV v = F := by rw [firstV, hh, hF]; rw [if_neg hp]; simp
  have hsec : secondV v = S := by rw [secondV, hm, hS]; simp; omega
  obtain ⟨C1, C2, C3, k1, k2, k3, hC⟩ := putHead_end g len v L F S w hl h12 hL hs ht hz
  rw [hf, hsec, ← hC]
  have K1 := Lib.hid k1
  have K2 := Lib.hid k2
  have K3 := Lib.hid k3
  have HH := Lib.hid hh
  have HM := Lib.hid hm
  have hgs : g < w.heap.size := hg.lt
  have hne : g ≠ w.heap.size := Nat.ne_of_lt hgs
  have hp0 : 0 < len := by omega
  have hp1 : 1 < len := by omega
  have hi1 : (1 : Int) < len := by omega
  have q0 : IntKind.u8.wrap (v.cn : Int) = v.cn := wrap8 _ (by omega) (by omega)
  have q1 : IntKind.u8.wrap v.ty = v.ty := wrap8 _ (by omega) (by omega)
  have p1 : IntKind.u64.wrap v.seq = v.seq := by simp [IntKind.wrap, IntKind.bits, IntKind.signed]; omega
  have p2 : IntKind.u64.wrap v.time = v.time := by simp [IntKind.wrap, IntKind.bits, IntKind.signed]; omega
  have p3 : IntKind.u64.wrap v.ssrc = v.ssrc := by simp [IntKind.wrap, IntKind.bits, IntKind.signed]; omega
  have hgs' := Lib.hid hgs
  have o0 := or_cc v.cn (by omega) (by omega)
  have o3 := or_mrk v.ty hty.1 hty.2
  clear hf hsec hC k1 k2 k3 hh hm
  go_enter Try.func52, Try.ntmps52
  have B0 := hg.alloc (pobj v)
  have D0 := PBlk.new w v
  have G0 : Below g w (w.alloc (pobj v)) := ((Below.refl w.heap.size w).alloc (Nat.le_refl _) (pobj v)).mono (Nat.le_of_lt hgs)
  have B1 := B0.set_ 0 (by rw [hL]; omega) (128 + (v.cn : Int))
  have D1 := D0.off (p := ⟨g, 0, none⟩) hne (.int .u8 (128 + (v.cn : Int)))
  have G1 := G0.setCell (p := ⟨g, 0, none⟩) (Nat.le_refl _) (.int .u8 (128 + (v.cn : Int)))
  obtain ⟨n0, y0⟩ := (⟨_, B0.cell 0 (by rw [hL]; omega)⟩ : ∃ n, World.cell? _ ⟨g, 0, none⟩ = some (.int .u8 n))
  have z0 := B0.frozen 0
  have B2 := B1.set_ 1 (by simp only [List.length_set]; rw [hL]; omega) v.ty
  have D2 := D1.off (p := ⟨g, 1, none⟩) hne (.int .u8 v.ty)
  have G2 := G1.setCell (p := ⟨g, 1, none⟩) (Nat.le_refl _) (.int .u8 v.ty)
  obtain ⟨n1, y1⟩ := (⟨_, B1.cell 1 (by simp only [List.length_set]; rw [hL]; omega)⟩ : ∃ n, World.cell? _ ⟨g, 1, none⟩ = some (.int .u8 n))
  have z1 := B1.frozen 1
  have B3 := B2.set_ 1 (by simp only [List.length_set]; rw [hL]; omega) (v.ty + 128)
  have D3 := D2.off (p := ⟨g, 1, none⟩) hne (.int .u8 (v.ty + 128))
  have G3 := G2.setCell (p := ⟨g, 1, none⟩) (Nat.le_refl _) (.int .u8 (v.ty + 128))
  have y2 := B1.cell_set 1 (by simp only [List.length_set]; rw [hL]; omega) v.ty
  have z2 := B2.frozen 1
  have r0 := D0.c5
  have r1 := D1.c10
  have r2 := D1.c6
  rw [HH.out] at r2
  have r3 := D1.c1
  have r4 := D2.c0
  rw [HM.out] at r4
  have r5 := D3.c2
  clear HH HM
  have HBn := Lib.hid B3
  have HDn := Lib.hid D3
  have HGn := Lib.hid G3
  clear B0 D0 G0 B1 D1 G1 B2 D2 G2 B3 D3 G3
  have HF := Lib.hid hF
  have HS := Lib.hid hS
  clear hF hS hg hgs hs ht hz
  go_wp2_with fail
  clear y0 z0
  clear y1 z1
  clear y2 z2
  clear r0 r1 r2 r3 r4 r5 q0 q1 o0 o3
  have BB : Blk _ g ((L.set 0 F).set 1 S) [] := (show (((L.set 0 (128 + (v.cn : Int))).set 1 v.ty).set 1 (v.ty + 128)) = (L.set 0 F).set 1 S from by rw [HF.out, HS.out]; try simp) ▸ HBn.out
  refine (K1.out _ BB).mono ?_
  rintro e w1 ⟨rfl, hk1, hg1⟩
  have E1 : PBlk w1 w.heap.size v := (hg1.block w.heap.size HDn.out.lt (by simp; omega)).trans HDn.out
  have H1 : Below g w w1 := HGn.out.trans (grown_below hg1 (Nat.le_of_lt BB.lt))
  clear hg1 BB HBn HDn HGn
  have r3 := E1.c3
  go_wp2_with fail
  clear r3
  refine (K2.out _ hk1).mono ?_
  rintro e w2 ⟨rfl, hk2, hg2⟩
  have E2 : PBlk w2 w.heap.size v := (hg2.block w.heap.size E1.lt (by simp; omega)).trans E1
  have H2 : Below g w w2 := H1.trans (grown_below hg2 (Nat.le_of_lt hk1.lt))
  clear hg2 hk1 E1 H1
  have r4 := E2.c4
  go_wp2_with fail
  clear r4
  refine (K3.out _ hk2).mono ?_
  rintro e w3 ⟨rfl, hk3, hg3⟩
  have H3 : Below g w w3 := H2.trans (grown_below hg3 (Nat.le_of_lt hk2.lt))
  go_wp2
  go_end0
  exact ⟨rfl, hk3, H3⟩

set_option maxHeartbeats 1000000 in
theorem putHead_010 (g len : Nat) (v : PV) (L : List Int) (w : World) (hl : len ≤ 512) (h12 : 12 ≤ len) (hL : L.length = len) (hg : Blk w g L []) (hcn : v.cn ≤ 15) (hty : 0 ≤ v.ty ∧ v.ty ≤ 127)
    (hs : 0 ≤ v.seq ∧ v.seq ≤ 65535) (ht : 0 ≤ v.time ∧ v.time ≤ 4294967295) (hz : 0 ≤ v.ssrc ∧ v.ssrc ≤ 4294967295) (hp : ¬ 0 < v.pad) (hh : v.he = true) (hm : v.mrk = false) :
    Calls Try.prog 52 #[.slice (some ⟨g, 0, none⟩) len len, pkt v] w (RetN w g ([firstV v, secondV v] ++ (be 2 v.seq ++ (be 4 v.time ++ (be 4 v.ssrc ++ L.drop 12))))) := by
  obtain ⟨F, hF⟩ : ∃ F : Int, F = 144 + v.cn := ⟨_, rfl⟩
  obtain ⟨S, hS⟩ : ∃ S : Int, S = v.ty := ⟨_, rfl⟩
  have hf : firstV v = F := by rw [firstV, hh, hF]; rw [if_neg hp]; simp
  have hsec : secondV v = S := by rw [secondV, hm, hS]; simp
  obtain ⟨C1, C2, C3, k1, k2, k3, hC⟩ := putHead_end g len v L F S w hl h12 hL hs ht hz
  rw [hf, hsec, ← hC]
  have K1 := Lib.hid k1
  have K2 := Lib.hid k2
  have K3 := Lib.hid k3
  have HH := Lib.hid hh
  have HM := Lib.hid hm
  have hgs : g < w.heap.size := hg.lt
  have hne : g ≠ w.heap.size := Nat.ne_of_lt hgs
  have hp0 : 0 < len := by omega
  have hp1 : 1 < len := by omega
  have hi1 : (1 : Int) < len := by omega
  have q0 : IntKind.u8.wrap (v.cn : Int) = v.cn := wrap8 _ (by omega) (by omega)
  have q1 : IntKind.u8.wrap v.ty = v.ty := wrap8 _ (by omega) (by omega)
  have p1 : IntKind.u64.wrap v.seq = v.seq := by simp [IntKind.wrap, IntKind.bits, IntKind.signed]; omega
  have p2 : IntKind.u64.wrap v.time = v.time := by simp [IntKind.wrap, IntKind.bits, IntKind.signed]; omega
  have p3 : IntKind.u64.wrap v.ssrc = v.ssrc := by simp [IntKind.wrap, IntKind.bits, IntKind.signed]; omega
  have hgs' := Lib.hid hgs
  have o0 := or_cc v.cn (by omega) (by omega)
  have o2 := or_ext v.cn (by omega) (by omega)
  clear hf hsec hC k1 k2 k3 hh hm
  go_enter Try.func52, Try.ntmps52
  have B0 := hg.alloc (pobj v)
  have D0 := PBlk.new w v
  have G0 : Below g w (w.alloc (pobj v)) := ((Below.refl w.heap.size w).alloc (Nat.le_refl _) (pobj v)).mono (Nat.le_of_lt hgs)
  have B1 := B0.set_ 0 (by rw [hL]; omega) (128 + (v.cn : Int))
  have D1 := D0.off (p := ⟨g, 0, none⟩) hne (.int .u8 (128 + (v.cn : Int)))
  have G1 := G0.setCell (p := ⟨g, 0, none⟩) (Nat.le_refl _) (.int .u8 (128 + (v.cn : Int)))
  obtain ⟨n0, y0⟩ := (⟨_, B0.cell 0 (by rw [hL]; omega)⟩ : ∃ n, World.cell? _ ⟨g, 0, none⟩ = some (.int .u8 n))
  have z0 := B0.frozen 0
  have B2 := B1.set_ 0 (by simp only [List.length_set]; rw [hL]; omega) (144 + (v.cn : Int))
  have D2 := D1.off (p := ⟨g, 0, none⟩) hne (.int .u8 (144 + (v.cn : Int)))
  have G2 := G1.setCell (p := ⟨g, 0, none⟩) (Nat.le_refl _) (.int .u8 (144 + (v.cn : Int)))
  have y1 := B0.cell_set 0 (by rw [hL]; omega) (128 + (v.cn : Int))
  have z1 := B1.frozen 0
  have B3 := B2.set_ 1 (by simp only [List.length_set]; rw [hL]; omega) v.ty
  have D3 := D2.off (p := ⟨g, 1, none⟩) hne (.int .u8 v.ty)
  have G3 := G2.setCell (p := ⟨g, 1, none⟩) (Nat.le_refl _) (.int .u8 v.ty)
  obtain ⟨n2, y2⟩ := (⟨_, B2.cell 1 (by simp only [List.length_set]; rw [hL]; omega)⟩ : ∃ n, World.cell? _ ⟨g, 1, none⟩ = some (.int .u8 n))
  have z2 := B2.frozen 1
  have r0 := D0.c5
  have r1 := D1.c10
  have r2 := D1.c6
  rw [HH.out] at r2
  have r3 := D2.c1
  have r4 := D3.c0
  rw [HM.out] at r4
  have r5 := D3.c2
  clear HH HM
  have HBn := Lib.hid B3
  have HDn := Lib.hid D3
  have HGn := Lib.hid G3
  clear B0 D0 G0 B1 D1 G1 B2 D2 G2 B3 D3 G3
  have HF := Lib.hid hF
  have HS := Lib.hid hS
  clear hF hS hg hgs hs ht hz
  go_wp2_with fail
  clear y0 z0
  clear y1 z1
  clear y2 z2
  clear r0 r1 r2 r3 r4 r5 q0 q1 o0 o2
  have BB : Blk _ g ((L.set 0 F).set 1 S) [] := (show (((L.set 0 (128 + (v.cn : Int))).set 0 (144 + (v.cn : Int))).set 1 v.ty) = (L.set 0 F).set 1 S from by rw [HF.out, HS.out]; try simp) ▸ HBn.out
  refine (K1.out _ BB).mono ?_
  rintro e w1 ⟨rfl, hk1, hg1⟩
  have E1 : PBlk w1 w.heap.size v := (hg1.block w.heap.size HDn.out.lt (by simp; omega)).trans HDn.out
  have H1 : Below g w w1 := HGn.out.trans (grown_below hg1 (Nat.le_of_lt BB.lt))
  clear hg1 BB HBn HDn HGn
  have r3 := E1.c3
  go_wp2_with fail
  clear r3
  refine (K2.out _ hk1).mono ?_
  rintro e w2 ⟨rfl, hk2, hg2⟩
  have E2 : PBlk w2 w.heap.size v := (hg2.block w.heap.size E1.lt (by simp; omega)).trans E1
  have H2 : Below g w w2 := H1.trans (grown_below hg2 (Nat.le_of_lt hk1.lt))
  clear hg2 hk1 E1 H1
  have r4 := E2.c4
  go_wp2_with fail
  clear r4
  refine (K3.out _ hk2).mono ?_
  rintro e w3 ⟨rfl, hk3, hg3⟩
  have H3 : Below g w w3 := H2.trans (grown_below hg3 (Nat.le_of_lt hk2.lt))
  go_wp2
  go_end0
  exact ⟨rfl, hk3, H3⟩

set_option maxHeartbeats 1000000 in
theorem putHead_011 (g len : Nat) (v : PV) (L : List Int) (w : World) (hl : len ≤ 512) (h12 : 12 ≤ len) (hL : L.length = len) (hg : Blk w g L []) (hcn : v.cn ≤ 15) (hty : 0 ≤ v.ty ∧ v.ty ≤ 127)
    (hs : 0 ≤ v.seq ∧ v.seq ≤ 65535) (ht : 0 ≤ v.time ∧ v.time ≤ 4294967295) (hz : 0 ≤ v.ssrc ∧ v.ssrc ≤ 4294967295) (hp : ¬ 0 < v.pad) (hh : v.he = true) (hm : v.mrk = true) :
    Calls Try.prog 52 #[.slice (some ⟨g, 0, none⟩) len len, pkt v] w (RetN w g ([firstV v, secondV v] ++ (be 2 v.seq ++ (be 4 v.time ++ (be 4 v.ssrc ++ L.drop 12))))) := by
  obtain ⟨F, hF⟩ : ∃ F : Int, F = 144 + v.cn := ⟨_, rfl⟩
  obtain ⟨S, hS⟩ : ∃ S : Int, S = v.ty + 128 := ⟨_, rfl⟩
  have hf : firstV v = F := by rw [firstV, hh, hF]; rw [if_neg hp]; simp
  have hsec : secondV v = S := by rw [secondV, hm, hS]; simp; omega
  obtain ⟨C1, C2, C3, k1, k2, k3, hC⟩ := putHead_end g len v L F S w hl h12 hL hs ht hz
  rw [hf, hsec, ← hC]
  have K1 := Lib.hid k1
  have K2 := Lib.hid k2
  have K3 := Lib.hid k3
  have HH := Lib.hid hh
  have HM := Lib.hid hm
  have hgs : g < w.heap.size := hg.lt
  have hne : g ≠ w.heap.size := Nat.ne_of_lt hgs
  have hp0 : 0 < len := by omega
  have hp1 : 1 < len := by omega
  have hi1 : (1 : Int) < len := by omega
  have q0 : IntKind.u8.wrap (v.cn : Int) = v.cn := wrap8 _ (by omega) (by omega)
  have q1 : IntKind.u8.wrap v.ty = v.ty := wrap8 _ (by omega) (by omega)
  have p1 : IntKind.u64.wrap v.seq = v.seq := by simp [IntKind.wrap, IntKind.bits, IntKind.signed]; omega
  have p2 : IntKind.u64.wrap v.time = v.time := by simp [IntKind.wrap, IntKind.bits, IntKind.signed]; omega
  have p3 : IntKind.u64.wrap v.ssrc = v.ssrc := by simp [IntKind.wrap, IntKind.bits, IntKind.signed]; omega
  have hgs' := Lib.hid hgs
  have o0 := or_cc v.cn (by omega) (by omega)
  have o2 := or_ext v.cn (by omega) (by omega)
  have o3 := or_mrk v.ty hty.1 hty.2
  clear hf hsec hC k1 k2 k3 hh hm
  go_enter Try.func52, Try.ntmps52
  have B0 := hg.alloc (pobj v)
  have D0 := PBlk.new w v
  have G0 : Below g w (w.alloc (pobj v)) := ((Below.refl w.heap.size w).alloc (Nat.le_refl _) (pobj v)).mono (Nat.le_of_lt hgs)
  have B1 := B0.set_ 0 (by rw [hL]; omega) (128 + (v.cn : Int))
  have D1 := D0.off (p := ⟨g, 0, none⟩) hne (.int .u8 (128 + (v.cn : Int)))
  have G1 := G0.setCell (p := ⟨g, 0, none⟩) (Nat.le_refl _) (.int .u8 (128 + (v.cn : Int)))
  obtain ⟨n0, y0⟩ := (⟨_, B0.cell 0 (by rw [hL]; omega)⟩ : ∃ n, World.cell? _ ⟨g, 0, none⟩ = some (.int .u8 n))
  have z0 := B0.frozen 0
  have B2 := B1.set_ 0 (by simp only [List.length_set]; rw [hL]; omega) (144 + (v.cn : Int))
  have D2 := D1.off (p := ⟨g, 0, none⟩) hne (.int .u8 (144 + (v.cn : Int)))
  have G2 := G1.setCell (p := ⟨g, 0, none⟩) (Nat.le_refl _) (.int .u8 (144 + (v.cn : Int)))
  have y1 := B0.cell_set 0 (by rw [hL]; omega) (128 + (v.cn : Int))
  have z1 := B1.frozen 0
  have B3 := B2.set_ 1 (by simp only [List.length_set]; rw [hL]; omega) v.ty
  have D3 := D2.off (p := ⟨g, 1, none⟩) hne (.int .u8 v.ty)
  have G3 := G2.setCell (p := ⟨g, 1, none⟩) (Nat.le_refl _) (.int .u8 v.ty)
  obtain ⟨n2, y2⟩ := (⟨_, B2.cell 1 (by simp only [List.length_set]; rw [hL]; omega)⟩ : ∃ n, World.cell? _ ⟨g, 1, none⟩ = some (.int .u8 n))
  have z2 := B2.frozen 1
  have B4 := B3.set_ 1 (by simp only [List.length_set]; rw [hL]; omega) (v.ty + 128)
  have D4 := D3.off (p := ⟨g, 1, none⟩) hne (.int .u8 (v.ty + 128))
  have G4 := G3.setCell (p := ⟨g, 1, none⟩) (Nat.le_refl _) (.int .u8 (v.ty + 128))
  have y3 := B2.cell_set 1 (by simp only [List.length_set]; rw [hL]; omega) v.ty
  have z3 := B3.frozen 1
  have r0 := D0.c5
  have r1 := D1.c10
  have r2 := D1.c6
  rw [HH.out] at r2
  have r3 := D2.c1
  have r4 := D3.c0
  rw [HM.out] at r4
  have r5 := D4.c2
  clear HH HM
  have HBn := Lib.hid B4
  have HDn := Lib.hid D4
  have HGn := Lib.hid G4
  clear B0 D0 G0 B1 D1 G1 B2 D2 G2 B3 D3 G3 B4 D4 G4
  have HF := Lib.hid hF
  have HS := Lib.hid hS
  clear hF hS hg hgs hs ht hz
  go_wp2_with fail
  clear y0 z0
  clear y1 z1
  clear y2 z2
  clear y3 z3
  clear r0 r1 r2 r3 r4 r5 q0 q1 o0 o2 o3
  have BB : Blk _ g ((L.set 0 F).set 1 S) [] := (show ((((L.set 0 (128 + (v.cn : Int))).set 0 (144 + (v.cn : Int))).set 1 v.ty).set 1 (v.ty + 128)) = (L.set 0 F).set 1 S from by rw [HF.out, HS.out]; try simp) ▸ HBn.out
  refine (K1.out _ BB).mono ?_
  rintro e w1 ⟨rfl, hk1, hg1⟩
  have E1 : PBlk w1 w.heap.size v := (hg1.block w.heap.size HDn.out.lt (by simp; omega)).trans HDn.out
  have H1 : Below g w w1 := HGn.out.trans (grown_below hg1 (Nat.le_of_lt BB.lt))
  clear hg1 BB HBn HDn HGn
  have r3 := E1.c3
  go_wp2_with fail
  clear r3
  refine (K2.out _ hk1).mono ?_
  rintro e w2 ⟨rfl, hk2, hg2⟩
  have E2 : PBlk w2 w.heap.size v := (hg2.block w.heap.size E1.lt (by simp; omega)).trans E1
  have H2 : Below g w w2 := H1.trans (grown_below hg2 (Nat.le_of_lt hk1.lt))
  clear hg2 hk1 E1 H1
  have r4 := E2.c4
  go_wp2_with fail
  clear r4
  refine (K3.out _ hk2).mono ?_
  rintro e w3 ⟨rfl, hk3, hg3⟩
  have H3 : Below g w w3 := H2.trans (grown_below hg3 (Nat.le_of_lt hk2.lt))
  go_wp2
  go_end0
  exact ⟨rfl, hk3, H3⟩

set_option maxHeartbeats 1000000 in
theorem putHead_100 (g len : Nat) (v : PV) (L : List Int) (w : World) (hl : len ≤ 512) (h12 : 12 ≤ len) (hL : L.length = len) (hg : Blk w g L []) (hcn : v.cn ≤ 15) (hty : 0 ≤ v.ty ∧ v.ty ≤ 127)
    (hs : 0 ≤ v.seq ∧ v.seq ≤ 65535) (ht : 0 ≤ v.time ∧ v.time ≤ 4294967295) (hz : 0 ≤ v.ssrc ∧ v.ssrc ≤ 4294967295) (hp : 0 < v.pad) (hh : v.he = false) (hm : v.mrk = false) :
    Calls Try.prog 52 #[.slice (some ⟨g, 0, none⟩) len len, pkt v] w (RetN w g ([firstV v, secondV v] ++ (be 2 v.seq ++ (be 4 v.time ++ (be 4 v.ssrc ++ L.drop 12))))) := by
  obtain ⟨F, hF⟩ : ∃ F : Int, F = 160 + v.cn := ⟨_, rfl⟩
  obtain ⟨S, hS⟩ : ∃ S : Int, S = v.ty := ⟨_, rfl⟩
  have hf : firstV v = F := by rw [firstV, hh, hF]; rw [if_pos hp]; simp
  have hsec : secondV v = S := by rw [secondV, hm, hS]; simp
  obtain ⟨C1, C2, C3, k1, k2, k3, hC⟩ := putHead_end g len v L F S w hl h12 hL hs ht hz
  rw [hf, hsec, ← hC]
  have K1 := Lib.hid k1
  have K2 := Lib.hid k2
  have K3 := Lib.hid k3
  have HH := Lib.hid hh
  have HM := Lib.hid hm
  have hgs : g < w.heap.size := hg.lt
  have hne : g ≠ w.heap.size := Nat.ne_of_lt hgs
  have hp0 : 0 < len := by omega
  have hp1 : 1 < len := by omega
  have hi1 : (1 : Int) < len := by omega
  have q0 : IntKind.u8.wrap (v.cn : Int) = v.cn := wrap8 _ (by omega) (by omega)
  have q1 : IntKind.u8.wrap v.ty = v.ty := wrap8 _ (by omega) (by omega)
  have p1 : IntKind.u64.wrap v.seq = v.seq := by simp [IntKind.wrap, IntKind.bits, IntKind.signed]; omega
  have p2 : IntKind.u64.wrap v.time = v.time := by simp [IntKind.wrap, IntKind.bits, IntKind.signed]; omega
  have p3 : IntKind.u64.wrap v.ssrc = v.ssrc := by simp [IntKind.wrap, IntKind.bits, IntKind.signed]; omega
  have hgs' := Lib.hid hgs
  have o0 := or_cc v.cn (by omega) (by omega)
  have o1 := or_pad v.cn (by omega) (by omega)
  clear hf hsec hC k1 k2 k3 hh hm
  go_enter Try.func52, Try.ntmps52
  have B0 := hg.alloc (pobj v)
  have D0 := PBlk.new w v
  have G0 : Below g w (w.alloc (pobj v)) := ((Below.refl w.heap.size w).alloc (Nat.le_refl _) (pobj v)).mono (Nat.le_of_lt hgs)
  have B1 := B0.set_ 0 (by rw [hL]; omega) (128 + (v.cn : Int))
  have D1 := D0.off (p := ⟨g, 0, none⟩) hne (.int .u8 (128 + (v.cn : Int)))
  have G1 := G0.setCell (p := ⟨g, 0, none⟩) (Nat.le_refl _) (.int .u8 (128 + (v.cn : Int)))
  obtain ⟨n0, y0⟩ := (⟨_, B0.cell 0 (by rw [hL]; omega)⟩ : ∃ n, World.cell? _ ⟨g, 0, none⟩ = some (.int .u8 n))
  have z0 := B0.frozen 0
  have B2 := B1.set_ 0 (by simp only [List.length_set]; rw [hL]; omega) (160 + (v.cn : Int))
  have D2 := D1.off (p := ⟨g, 0, none⟩) hne (.int .u8 (160 + (v.cn : Int)))
  have G2 := G1.setCell (p := ⟨g, 0, none⟩) (Nat.le_refl _) (.int .u8 (160 + (v.cn : Int)))
  have y1 := B0.cell_set 0 (by rw [hL]; omega) (128 + (v.cn : Int))
  have z1 := B1.frozen 0
  have B3 := B2.set_ 1 (by simp only [List.length_set]; rw [hL]; omega) v.ty
  have D3 := D2.off (p := ⟨g, 1, none⟩) hne (.int .u8 v.ty)
  have G3 := G2.setCell (p := ⟨g, 1, none⟩) (Nat.le_refl _) (.int .u8 v.ty)
  obtain ⟨n2, y2⟩ := (⟨_, B2.cell 1 (by simp only [List.length_set]; rw [hL]; omega)⟩ : ∃ n, World.cell? _ ⟨g, 1, none⟩ = some (.int .u8 n))
  have z2 := B2.frozen 1
  have r0 := D0.c5
  have r1 := D1.c10
  have r2 := D2.c6
  rw [HH.out] at r2
  have r3 := D2.c1
  have r4 := D3.c0
  rw [HM.out] at r4
  have r5 := D3.c2
  clear HH HM
  have HBn := Lib.hid B3
  have HDn := Lib.hid D3
  have HGn := Lib.hid G3
  clear B0 D0 G0 B1 D1 G1 B2 D2 G2 B3 D3 G3
  have HF := Lib.hid hF
  have HS := Lib.hid hS
  clear hF hS hg hgs hs ht hz
  go_wp2_with fail
  clear y0 z0
  clear y1 z1
  clear y2 z2
  clear r0 r1 r2 r3 r4 r5 q0 q1 o0 o1
  have BB : Blk _ g ((L.set 0 F).set 1 S) [] := (show (((L.set 0 (128 + (v.cn : Int))).set 0 (160 + (v.cn : Int))).set 1 v.ty) = (L.set 0 F).set 1 S from by rw [HF.out, HS.out]; try simp) ▸ HBn.out
  refine (K1.out _ BB).mono ?_
  rintro e w1 ⟨rfl, hk1, hg1⟩
  have E1 : PBlk w1 w.heap.size v := (hg1.block w.heap.size HDn.out.lt (by simp; omega)).trans HDn.out
  have H1 : Below g w w1 := HGn.out.trans (grown_below hg1 (Nat.le_of_lt BB.lt))
  clear hg1 BB HBn HDn HGn
  have r3 := E1.c3
  go_wp2_with fail
  clear r3
  refine (K2.out _ hk1).mono ?_
  rintro e w2 ⟨rfl, hk2, hg2⟩
  have E2 : PBlk w2 w.heap.size v := (hg2.block w.heap.size E1.lt (by simp; omega)).trans E1
  have H2 : Below g w w2 := H1.trans (grown_below hg2 (Nat.le_of_lt hk1.lt))
  clear hg2 hk1 E1 H1
  have r4 := E2.c4
  go_wp2_with fail
  clear r4
  refine (K3.out _ hk2).mono ?_
  rintro e w3 ⟨rfl, hk3, hg3⟩
  have H3 : Below g w w3 := H2.trans (grown_below hg3 (Nat.le_of_lt hk2.lt))
  go_wp2
  go_end0
  exact ⟨rfl, hk3, H3⟩

set_option maxHeartbeats 1000000 in
theorem putHead_101 (g len : Nat) (v : PV) (L : List Int) (w : World) (hl : len ≤ 512) (h12 : 12 ≤ len) (hL : L.length = len) (hg : Blk w g L []) (hcn : v.cn ≤ 15) (hty : 0 ≤ v.ty ∧ v.ty ≤ 127)
    (hs : 0 ≤ v.seq ∧ v.seq ≤ 65535) (ht : 0 ≤ v.time ∧ v.time ≤ 4294967295) (hz : 0 ≤ v.ssrc ∧ v.ssrc ≤ 4294967295) (hp : 0 < v.pad) (hh : v.he = false) (hm : v.mrk = true) :
    Calls Try.prog 52 #[.slice (some ⟨g, 0, none⟩) len len, pkt v] w (RetN w g ([firstV v, secondV v] ++ (be 2 v.seq ++ (be 4 v.time ++ (be 4 v.ssrc ++ L.drop 12))))) := by
  obtain ⟨F, hF⟩ : ∃ F : Int, F = 160 + v.cn := ⟨_, rfl⟩
  obtain ⟨S, hS⟩ : ∃ S : Int, S = v.ty + 128 := ⟨_, rfl⟩
  have hf : firstV v = F := by rw [firstV, hh, hF]; rw [if_pos hp]; simp
  have hsec : secondV v = S := by rw [secondV, hm, hS]; simp; omega
  obtain ⟨C1, C2, C3, k1, k2, k3, hC⟩ := putHead_end g len v L F S w hl h12 hL hs ht hz
  rw [hf, hsec, ← hC]
  have K1 := Lib.hid k1
  have K2 := Lib.hid k2
  have K3 := Lib.hid k3
  have HH := Lib.hid hh
  have HM := Lib.hid hm
  have hgs : g < w.heap.size := hg.lt
  have hne : g ≠ w.heap.size := Nat.ne_of_lt hgs
  have hp0 : 0 < len := by omega
  have hp1 : 1 < len := by omega
  have hi1 : (1 : Int) < len := by omega
  have q0 : IntKind.u8.wrap (v.cn : Int) = v.cn := wrap8 _ (by omega) (by omega)
  have q1 : IntKind.u8.wrap v.ty = v.ty := wrap8 _ (by omega) (by omega)
  have p1 : IntKind.u64.wrap v.seq = v.seq := by simp [IntKind.wrap, IntKind.bits, IntKind.signed]; omega
  have p2 : IntKind.u64.wrap v.time = v.time := by simp [IntKind.wrap, IntKind.bits, IntKind.signed]; omega
  have p3 : IntKind.u64.wrap v.ssrc = v.ssrc := by simp [IntKind.wrap, IntKind.bits, IntKind.signed]; omega
  have hgs' := Lib.hid hgs
  have o0 := or_cc v.cn (by omega) (by omega)
  have o1 := or_pad v.cn (by omega) (by omega)
  have o3 := or_mrk v.ty hty.1 hty.2
  clear hf hsec hC k1 k2 k3 hh hm
  go_enter Try.func52, Try.ntmps52
  have B0 := hg.alloc (pobj v)
  have D0 := PBlk.new w v
  have G0 : Below g w (w.alloc (pobj v)) := ((Below.refl w.heap.size w).alloc (Nat.le_refl _) (pobj v)).mono (Nat.le_of_lt hgs)
  have B1 := B0.set_ 0 (by rw [hL]; omega) (128 + (v.cn : Int))
  have D1 := D0.off (p := ⟨g, 0, none⟩) hne (.int .u8 (128 + (v.cn : Int)))
  have G1 := G0.setCell (p := ⟨g, 0, none⟩) (Nat.le_refl _) (.int .u8 (128 + (v.cn : Int)))
  obtain ⟨n0, y0⟩ := (⟨_, B0.cell 0 (by rw [hL]; omega)⟩ : ∃ n, World.cell? _ ⟨g, 0, none⟩ = some (.int .u8 n))
  have z0 := B0.frozen 0
  have B2 := B1.set_ 0 (by simp only [List.length_set]; rw [hL]; omega) (160 + (v.cn : Int))
  have D2 := D1.off (p := ⟨g, 0, none⟩) hne (.int .u8 (160 + (v.cn : Int)))
  have G2 := G1.setCell (p := ⟨g, 0, none⟩) (Nat.le_refl _) (.int .u8 (160 + (v.cn : Int)))
  have y1 := B0.cell_set 0 (by rw [hL]; omega) (128 + (v.cn : Int))
  have z1 := B1.frozen 0
  have B3 := B2.set_ 1 (by simp only [List.length_set]; rw [hL]; omega) v.ty
  have D3 := D2.off (p := ⟨g, 1, none⟩) hne (.int .u8 v.ty)
  have G3 := G2.setCell (p := ⟨g, 1, none⟩) (Nat.le_refl _) (.int .u8 v.ty)
  obtain ⟨n2, y2⟩ := (⟨_, B2.cell 1 (by simp only [List.length_set]; rw [hL]; omega)⟩ : ∃ n, World.cell? _ ⟨g, 1, none⟩ = some (.int .u8 n))
  have z2 := B2.frozen 1
  have B4 := B3.set_ 1 (by simp only [List.length_set]; rw [hL]; omega) (v.ty + 128)
  have D4 := D3.off (p := ⟨g, 1, none⟩) hne (.int .u8 (v.ty + 128))
  have G4 := G3.setCell (p := ⟨g, 1, none⟩) (Nat.le_refl _) (.int .u8 (v.ty + 128))
  have y3 := B2.cell_set 1 (by simp only [List.length_set]; rw [hL]; omega) v.ty
  have z3 := B3.frozen 1
  have r0 := D0.c5
  have r1 := D1.c10
  have r2 := D2.c6
  rw [HH.out] at r2
  have r3 := D2.c1
  have r4 := D3.c0
  rw [HM.out] at r4
  have r5 := D4.c2
  clear HH HM
  have HBn := Lib.hid B4
  have HDn := Lib.hid D4
  have HGn := Lib.hid G4
  clear B0 D0 G0 B1 D1 G1 B2 D2 G2 B3 D3 G3 B4 D4 G4
  have HF := Lib.hid hF
  have HS := Lib.hid hS
  clear hF hS hg hgs hs ht hz
  go_wp2_with fail
  clear y0 z0
  clear y1 z1
  clear y2 z2
  clear y3 z3
  clear r0 r1 r2 r3 r4 r5 q0 q1 o0 o1 o3
  have BB : Blk _ g ((L.set 0 F).set 1 S) [] := (show ((((L.set 0 (128 + (v.cn : Int))).set 0 (160 + (v.cn : Int))).set 1 v.ty).set 1 (v.ty + 128)) = (L.set 0 F).set 1 S from by rw [HF.out, HS.out]; try simp) ▸ HBn.out
  refine (K1.out _ BB).mono ?_
  rintro e w1 ⟨rfl, hk1, hg1⟩
  have E1 : PBlk w1 w.heap.size v := (hg1.block w.heap.size HDn.out.lt (by simp; omega)).trans HDn.out
  have H1 : Below g w w1 := HGn.out.trans (grown_below hg1 (Nat.le_of_lt BB.lt))
  clear hg1 BB HBn HDn HGn
  have r3 := E1.c3
  go_wp2_with fail
  clear r3
  refine (K2.out _ hk1).mono ?_
  rintro e w2 ⟨rfl, hk2, hg2⟩
  have E2 : PBlk w2 w.heap.size v := (hg2.block w.heap.size E1.lt (by simp; omega)).trans E1
  have H2 : Below g w w2 := H1.trans (grown_below hg2 (Nat.le_of_lt hk1.lt))
  clear hg2 hk1 E1 H1
  have r4 := E2.c4
  go_wp2_with fail
  clear r4
  refine (K3.out _ hk2).mono ?_
  rintro e w3 ⟨rfl, hk3, hg3⟩
  have H3 : Below g w w3 := H2.trans (grown_below hg3 (Nat.le_of_lt hk2.lt))
  go_wp2
  go_end0
  exact ⟨rfl, hk3, H3⟩

set_option maxHeartbeats 1000000 in
theorem putHead_110 (g len : Nat) (v : PV) (L : List Int) (w : World) (hl : len ≤ 512) (h12 : 12 ≤ len) (hL : L.length = len) (hg : Blk w g L []) (hcn : v.cn ≤ 15) (hty : 0 ≤ v.ty ∧ v.ty ≤ 127)
    (hs : 0 ≤ v.seq ∧ v.seq ≤ 65535) (ht : 0 ≤ v.time ∧ v.time ≤ 4294967295) (hz : 0 ≤ v.ssrc ∧ v.ssrc ≤ 4294967295) (hp : 0 < v.pad) (hh : v.he = true) (hm : v.mrk = false) :
    Calls Try.prog 52 #[.slice (some ⟨g, 0, none⟩) len len, pkt v] w (RetN w g ([firstV v, secondV v] ++ (be 2 v.seq ++ (be 4 v.time ++ (be 4 v.ssrc ++ L.drop 12))))) := by
  obtain ⟨F, hF⟩ : ∃ F : Int, F = 176 + v.cn := ⟨_, rfl⟩
  obtain ⟨S, hS⟩ : ∃ S : Int, S = v.ty := ⟨_, rfl⟩
  have hf : firstV v = F := by rw [firstV, hh, hF]; rw [if_pos hp]; simp
  have hsec : secondV v = S := by rw [secondV, hm, hS]; simp
  obtain ⟨C1, C2, C3, k1, k2, k3, hC⟩ := putHead_end g len v L F S w hl h12 hL hs ht hz
  rw [hf, hsec, ← hC]
  have K1 := Lib.hid k1
  have K2 := Lib.hid k2
  have K3 := Lib.hid k3
  have HH := Lib.hid hh
  have HM := Lib.hid hm
  have hgs : g < w.heap.size := hg.lt
  have hne : g ≠ w.heap.size := Nat.ne_of_lt hgs
  have hp0 : 0 < len := by omega
  have hp1 : 1 < len := by omega
  have hi1 : (1 : Int) < len := by omega
  have q0 : IntKind.u8.wrap (v.cn : Int) = v.cn := wrap8 _ (by omega) (by omega)
  have q1 : IntKind.u8.wrap v.ty = v.ty := wrap8 _ (by omega) (by omega)
  have p1 : IntKind.u64.wrap v.seq = v.seq := by simp [IntKind.wrap, IntKind.bits, IntKind.signed]; omega
  have p2 : IntKind.u64.wrap v.time = v.time := by simp [IntKind.wrap, IntKind.bits, IntKind.signed]; omega
  have p3 : IntKind.u64.wrap v.ssrc = v.ssrc := by simp [IntKind.wrap, IntKind.bits, IntKind.signed]; omega
  have hgs' := Lib.hid hgs
  have o0 := or_cc v.cn (by omega) (by omega)
  have o1 := or_pad v.cn (by omega) (by omega)
  have o2 := or_both v.cn (by omega) (by omega)
  clear hf hsec hC k1 k2 k3 hh hm
  go_enter Try.func52, Try.ntmps52
  have B0 := hg.alloc (pobj v)
  have D0 := PBlk.new w v
  have G0 : Below g w (w.alloc (pobj v)) := ((Below.refl w.heap.size w).alloc (Nat.le_refl _) (pobj v)).mono (Nat.le_of_lt hgs)
  have B1 := B0.set_ 0 (by rw [hL]; omega) (128 + (v.cn : Int))
  have D1 := D0.off (p := ⟨g, 0, none⟩) hne (.int .u8 (128 + (v.cn : Int)))
  have G1 := G0.setCell (p := ⟨g, 0, none⟩) (Nat.le_refl _) (.int .u8 (128 + (v.cn : Int)))
  obtain ⟨n0, y0⟩ := (⟨_, B0.cell 0 (by rw [hL]; omega)⟩ : ∃ n, World.cell? _ ⟨g, 0, none⟩ = some (.int .u8 n))
  have z0 := B0.frozen 0
  have B2 := B1.set_ 0 (by simp only [List.length_set]; rw [hL]; omega) (160 + (v.cn : Int))
  have D2 := D1.off (p := ⟨g, 0, none⟩) hne (.int .u8 (160 + (v.cn : Int)))
  have G2 := G1.setCell (p := ⟨g, 0, none⟩) (Nat.le_refl _) (.int .u8 (160 + (v.cn : Int)))
  have y1 := B0.cell_set 0 (by rw [hL]; omega) (128 + (v.cn : Int))
  have z1 := B1.frozen 0
  have B3 := B2.set_ 0 (by simp only [List.length_set]; rw [hL]; omega) (176 + (v.cn : Int))
  have D3 := D2.off (p := ⟨g, 0, none⟩) hne (.int .u8 (176 + (v.cn : Int)))
  have G3 := G2.setCell (p := ⟨g, 0, none⟩) (Nat.le_refl _) (.int .u8 (176 + (v.cn : Int)))
  have y2 := B1.cell_set 0 (by simp only [List.length_set]; rw [hL]; omega) (160 + (v.cn : Int))
  have z2 := B2.frozen 0
  have B4 := B3.set_ 1 (by simp only [List.length_set]; rw [hL]; omega) v.ty
  have D4 := D3.off (p := ⟨g, 1, none⟩) hne (.int .u8 v.ty)
  have G4 := G3.setCell (p := ⟨g, 1, none⟩) (Nat.le_refl _) (.int .u8 v.ty)
  obtain ⟨n3, y3⟩ := (⟨_, B3.cell 1 (by simp only [List.length_set]; rw [hL]; omega)⟩ : ∃ n, World.cell? _ ⟨g, 1, none⟩ = some (.int .u8 n))
  have z3 := B3.frozen 1
  have r0 := D0.c5
  have r1 := D1.c10
  have r2 := D2.c6
  rw [HH.out] at r2
  have r3 := D3.c1
  have r4 := D4.c0
  rw [HM.out] at r4
  have r5 := D4.c2
  clear HH HM
  have HBn := Lib.hid B4
  have HDn := Lib.hid D4
  have HGn := Lib.hid G4
  clear B0 D0 G0 B1 D1 G1 B2 D2 G2 B3 D3 G3 B4 D4 G4
  have HF := Lib.hid hF
  have HS := Lib.hid hS
  clear hF hS hg hgs hs ht hz
  go_wp2_with fail
  clear y0 z0
  clear y1 z1
  clear y2 z2
  clear y3 z3
  clear r0 r1 r2 r3 r4 r5 q0 q1 o0 o1 o2
  have BB : Blk _ g ((L.set 0 F).set 1 S) [] := (show ((((L.set 0 (128 + (v.cn : Int))).set 0 (160 + (v.cn : Int))).set 0 (176 + (v.cn : Int))).set 1 v.ty) = (L.set 0 F).set 1 S from by rw [HF.out, HS.out]; try simp) ▸ HBn.out
  refine (K1.out _ BB).mono ?_
  rintro e w1 ⟨rfl, hk1, hg1⟩
  have E1 : PBlk w1 w.heap.size v := (hg1.block w.heap.size HDn.out.lt (by simp; omega)).trans HDn.out
  have H1 : Below g w w1 := HGn.out.trans (grown_below hg1 (Nat.le_of_lt BB.lt))
  clear hg1 BB HBn HDn HGn
  have r3 := E1.c3
  go_wp2_with fail
  clear r3
  refine (K2.out _ hk1).mono ?_
  rintro e w2 ⟨rfl, hk2, hg2⟩
  have E2 : PBlk w2 w.heap.size v := (hg2.block w.heap.size E1.lt (by simp; omega)).trans E1
  have H2 : Below g w w2 := H1.trans (grown_below hg2 (Nat.le_of_lt hk1.lt))
  clear hg2 hk1 E1 H1
  have r4 := E2.c4
  go_wp2_with fail
  clear r4
  refine (K3.out _ hk2).mono ?_
  rintro e w3 ⟨rfl, hk3, hg3⟩
  have H3 : Below g w w3 := H2.trans (grown_below hg3 (Nat.le_of_lt hk2.lt))
  go_wp2
  go_end0
  exact ⟨rfl, hk3, H3⟩

set_option maxHeartbeats 1000000 in
theorem putHead_111 (g len : Nat) (v : PV) (L : List Int) (w : World) (hl : len ≤ 512) (h12 : 12 ≤ len) (hL : L.length = len) (hg : Blk w g L []) (hcn : v.cn ≤ 15) (hty : 0 ≤ v.ty ∧ v.ty ≤ 127)
    (hs : 0 ≤ v.seq ∧ v.seq ≤ 65535) (ht : 0 ≤ v.time ∧ v.time ≤ 4294967295) (hz : 0 ≤ v.ssrc ∧ v.ssrc ≤ 4294967295) (hp : 0 < v.pad) (hh : v.he = true) (hm : v.mrk = true) :
    Calls Try.prog 52 #[.slice (some ⟨g, 0, none⟩) len len, pkt v] w (RetN w g ([firstV v, secondV v] ++ (be 2 v.seq ++ (be 4 v.time ++ (be 4 v.ssrc ++ L.drop 12))))) := by
  obtain ⟨F, hF⟩ : ∃ F : Int, F = 176 + v.cn := ⟨_, rfl⟩
  obtain ⟨S, hS⟩ : ∃ S : Int, S = v.ty + 128 := ⟨_, rfl⟩
  have hf : firstV v = F := by rw [firstV, hh, hF]; rw [if_pos hp]; simp
  have hsec : secondV v = S := by rw [secondV, hm, hS]; simp; omega
  obtain ⟨C1, C2, C3, k1, k2, k3, hC⟩ := putHead_end g len v L F S w hl h12 hL hs ht hz
  rw [hf, hsec, ← hC]
  have K1 := Lib.hid k1
  have K2 := Lib.hid k2
  have K3 := Lib.hid k3
  have HH := Lib.hid hh
  have HM := Lib.hid hm
  have hgs : g < w.heap.size := hg.lt
  have hne : g ≠ w.heap.size := Nat.ne_of_lt hgs
  have hp0 : 0 < len := by omega
  have hp1 : 1 < len := by omega
  have hi1 : (1 : Int) < len := by omega
  have q0 : IntKind.u8.wrap (v.cn : Int) = v.cn := wrap8 _ (by omega) (by omega)
  have q1 : IntKind.u8.wrap v.ty = v.ty := wrap8 _ (by omega) (by omega)
  have p1 : IntKind.u64.wrap v.seq = v.seq := by simp [IntKind.wrap, IntKind.bits, IntKind.signed]; omega
  have p2 : IntKind.u64.wrap v.time = v.time := by simp [IntKind.wrap, IntKind.bits, IntKind.signed]; omega
  have p3 : IntKind.u64.wrap v.ssrc = v.ssrc := by simp [IntKind.wrap, IntKind.bits, IntKind.signed]; omega
  have hgs' := Lib.hid hgs
  have o0 := or_cc v.cn (by omega) (by omega)
  have o1 := or_pad v.cn (by omega) (by omega)
  have o2 := or_both v.cn (by omega) (by omega)
  have o3 := or_mrk v.ty hty.1 hty.2
  clear hf hsec hC k1 k2 k3 hh hm
  go_enter Try.func52, Try.ntmps52
  have B0 := hg.alloc (pobj v)
  have D0 := PBlk.new w v
  have G0 : Below g w (w.alloc (pobj v)) := ((Below.refl w.heap.size w).alloc (Nat.le_refl _) (pobj v)).mono (Nat.le_of_lt hgs)
  have B1 := B0.set_ 0 (by rw [hL]; omega) (128 + (v.cn : Int))
  have D1 := D0.off (p := ⟨g, 0, none⟩) hne (.int .u8 (128 + (v.cn : Int)))
  have G1 := G0.setCell (p := ⟨g, 0, none⟩) (Nat.le_refl _) (.int .u8 (128 + (v.cn : Int)))
  obtain ⟨n0, y0⟩ := (⟨_, B0.cell 0 (by rw [hL]; omega)⟩ : ∃ n, World.cell? _ ⟨g, 0, none⟩ = some (.int .u8 n))
  have z0 := B0.frozen 0
  have B2 := B1.set_ 0 (by simp only [List.length_set]; rw [hL]; omega) (160 + (v.cn : Int))
  have D2 := D1.off (p := ⟨g, 0, none⟩) hne (.int .u8 (160 + (v.cn : Int)))
  have G2 := G1.setCell (p := ⟨g, 0, none⟩) (Nat.le_refl _) (.int .u8 (160 + (v.cn : Int)))
  have y1 := B0.cell_set 0 (by rw [hL]; omega) (128 + (v.cn : Int))
  have z1 := B1.frozen 0
  have B3 := B2.set_ 0 (by simp only [List.length_set]; rw [hL]; omega) (176 + (v.cn : Int))
  have D3 := D2.off (p := ⟨g, 0, none⟩) hne (.int .u8 (176 + (v.cn : Int)))
  have G3 := G2.setCell (p := ⟨g, 0, none⟩) (Nat.le_refl _) (.int .u8 (176 + (v.cn : Int)))
  have y2 := B1.cell_set 0 (by simp only [List.length_set]; rw [hL]; omega) (160 + (v.cn : Int))
  have z2 := B2.frozen 0
  have B4 := B3.set_ 1 (by simp only [List.length_set]; rw [hL]; omega) v.ty
  have D4 := D3.off (p := ⟨g, 1, none⟩) hne (.int .u8 v.ty)
  have G4 := G3.setCell (p := ⟨g, 1, none⟩) (Nat.le_refl _) (.int .u8 v.ty)
  obtain ⟨n3, y3⟩ := (⟨_, B3.cell 1 (by simp only [List.length_set]; rw [hL]; omega)⟩ : ∃ n, World.cell? _ ⟨g, 1, none⟩ = some (.int .u8 n))
  have z3 := B3.frozen 1
  have B5 := B4.set_ 1 (by simp only [List.length_set]; rw [hL]; omega) (v.ty + 128)
  have D5 := D4.off (p := ⟨g, 1, none⟩) hne (.int .u8 (v.ty + 128))
  have G5 := G4.setCell (p := ⟨g, 1, none⟩) (Nat.le_refl _) (.int .u8 (v.ty + 128))
  have y4 := B3.cell_set 1 (by simp only [List.length_set]; rw [hL]; omega) v.ty
  have z4 := B4.frozen 1
  have r0 := D0.c5
  have r1 := D1.c10
  have r2 := D2.c6
  rw [HH.out] at r2
  have r3 := D3.c1
  have r4 := D4.c0
  rw [HM.out] at r4
  have r5 := D5.c2
  clear HH HM
  have HBn := Lib.hid B5
  have HDn := Lib.hid D5
  have HGn := Lib.hid G5
  clear B0 D0 G0 B1 D1 G1 B2 D2 G2 B3 D3 G3 B4 D4 G4 B5 D5 G5
  have HF := Lib.hid hF
  have HS := Lib.hid hS
  clear hF hS hg hgs hs ht hz
  go_wp2_with fail
  clear y0 z0
  clear y1 z1
  clear y2 z2
  clear y3 z3
  clear y4 z4
  clear r0 r1 r2 r3 r4 r5 q0 q1 o0 o1 o2 o3
  have BB : Blk _ g ((L.set 0 F).set 1 S) [] := (show (((((L.set 0 (128 + (v.cn : Int))).set 0 (160 + (v.cn : Int))).set 0 (176 + (v.cn : Int))).set 1 v.ty).set 1 (v.ty + 128)) = (L.set 0 F).set 1 S from by rw [HF.out, HS.out]; try simp) ▸ HBn.out
  refine (K1.out _ BB).mono ?_
  rintro e w1 ⟨rfl, hk1, hg1⟩
  have E1 : PBlk w1 w.heap.size v := (hg1.block w.heap.size HDn.out.lt (by simp; omega)).trans HDn.out
  have H1 : Below g w w1 := HGn.out.trans (grown_below hg1 (Nat.le_of_lt BB.lt))
  clear hg1 BB HBn HDn HGn
  have r3 := E1.c3
  go_wp2_with fail
  clear r3
  refine (K2.out _ hk1).mono ?_
  rintro e w2 ⟨rfl, hk2, hg2⟩
  have E2 : PBlk w2 w.heap.size v := (hg2.block w.heap.size E1.lt (by simp; omega)).trans E1
  have H2 : Below g w w2 := H1.trans (grown_below hg2 (Nat.le_of_lt hk1.lt))
  clear hg2 hk1 E1 H1
  have r4 := E2.c4
  go_wp2_with fail
  clear r4
  refine (K3.out _ hk2).mono ?_
  rintro e w3 ⟨rfl, hk3, hg3⟩
  have H3 : Below g w w3 := H2.trans (grown_below hg3 (Nat.le_of_lt hk2.lt))
  go_wp2
  go_end0
  exact ⟨rfl, hk3, H3⟩

theorem putHead_any (g len : Nat) (v : PV) (L : List Int) (w : World) (hl : len ≤ 512) (h12 : 12 ≤ len) (hL : L.length = len) (hg : Blk w g L []) (hcn : v.cn ≤ 15) (hty : 0 ≤ v.ty ∧ v.ty ≤ 127)
    (hs : 0 ≤ v.seq ∧ v.seq ≤ 65535) (ht : 0 ≤ v.time ∧ v.time ≤ 4294967295) (hz : 0 ≤ v.ssrc ∧ v.ssrc ≤ 4294967295) :
    Calls Try.prog 52 #[.slice (some ⟨g, 0, none⟩) len len, pkt v] w (RetN w g ([firstV v, secondV v] ++ (be 2 v.seq ++ (be 4 v.time ++ (be 4 v.ssrc ++ L.drop 12))))) := by
  by_cases hp : 0 < v.pad <;> rcases hh : v.he with _ | _ <;> rcases hm : v.mrk with _ | _
  · exact putHead_100 g len v L w hl h12 hL hg hcn hty hs ht hz hp hh hm
  · exact putHead_101 g len v L w hl h12 hL hg hcn hty hs ht hz hp hh hm
  · exact putHead_110 g len v L w hl h12 hL hg hcn hty hs ht hz hp hh hm
  · exact putHead_111 g len v L w hl h12 hL hg hcn hty hs ht hz hp hh hm
  · exact putHead_000 g len v L w hl h12 hL hg hcn hty hs ht hz hp hh hm
  · exact putHead_001 g len v L w hl h12 hL hg hcn hty hs ht hz hp hh hm
  · exact putHead_010 g len v L w hl h12 hL hg hcn hty hs ht hz hp hh hm
  · exact putHead_011 g len v L w hl h12 hL hg hcn hty hs ht hz hp hh hm
end Go.Proofs.Ytjmlimfheiogcaa.Rtp
