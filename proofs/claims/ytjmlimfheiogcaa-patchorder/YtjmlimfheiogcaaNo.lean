/- The walk of PatchOrder: written by wip/gen/no.py. -/
import Derived.Test.YtjmlimfheiogcaaNj
namespace Go.Proofs.Ytjmlimfheiogcaa.Pat
open Go.RowKit
open Rtp (PV pkt pobj PBlk pvOf PRd zpv Off)
set_option linter.unusedVariables false

/-- 'n & 3' of any int. -/
theorem i64_and3 (n : Int) : bits .and .i64 n 3 = n % 4 := by
  have h3 : (BitVec.ofInt 64 3).toNat = 2 ^ 2 - 1 := by decide
  have key : (BitVec.ofInt 64 n &&& BitVec.ofInt 64 3).toNat = (n % ((2 ^ 64 : Nat) : Int)).toNat % 2 ^ 2 := by
    rw [BitVec.toNat_and, BitVec.toNat_ofInt, h3, Nat.and_two_pow_sub_one_eq_mod]
  show IntKind.i64.wrap ((BitVec.ofInt 64 n &&& BitVec.ofInt 64 3).toNat : Nat) = n % 4
  rw [key, IntKind.wrap_i64]
  omega

/-- The packet with those of the fields that were written so far. -/
def stP (p : Pkt) (q t r f : Int) (d0 d1 d2 d3 : Bool) : Pkt := { p with seq := cond d0 q p.seq, time := cond d1 t p.time, ssrc := cond d2 r p.ssrc, pay := cond d3 (hdF p 0 f).pay p.pay }
section
variable {b : List Int} {q t r f : Int} (hb : Bytes b) (h : hasD b = true) (hp : PF q t r f) (d0 d1 d2 d3 : Bool)
include hb h hp
theorem st_up : pE (enc (stP (pQ b) q t r f d0 d1 d2 d3)) = 0 ∧ pQ (enc (stP (pQ b) q t r f d0 d1 d2 d3)) = stP (pQ b) q t r f d0 d1 d2 d3 ∧ Bytes (enc (stP (pQ b) q t r f d0 d1 d2 d3)) ∧ hasD (enc (stP (pQ b) q t r f d0 d1 d2 d3)) = true := by
  obtain ⟨h1, h2⟩ := hasD_iff.1 h
  obtain ⟨k1, k2, -, -⟩ := get_enc b hb h1
  have hk := (hdF_ok k1 (l := 0) (f := f) (by decide) (by decide) hp.f0 hp.f1).pay
  have ho : (stP (pQ b) q t r f d0 d1 d2 d3).Ok := by
    refine ⟨?_, ?_, ?_, ?_, ?_, ?_, k1.csrc, k1.prof0, k1.prof1, k1.ext, ?_⟩
    · cases d0 with | false => exact k1.seq0 | true => exact hp.q0
    · cases d0 with | false => exact k1.seq1 | true => exact hp.q1
    · cases d1 with | false => exact k1.time0 | true => exact hp.t0
    · cases d1 with | false => exact k1.time1 | true => exact hp.t1
    · cases d2 with | false => exact k1.ssrc0 | true => exact hp.s0
    · cases d2 with | false => exact k1.ssrc1 | true => exact hp.s1
    · cases d3 with | false => exact k1.pay | true => exact hk
  have hm : (stP (pQ b) q t r f d0 d1 d2 d3).May := ⟨k2.ty0, k2.ty1, k2.mrk, k2.csrc, k2.ext, k2.he, k2.pad0, k2.pad1⟩
  have hl : (stP (pQ b) q t r f d0 d1 d2 d3).pay.length = (pQ b).pay.length := by
    cases d3
    · rfl
    · exact hdF_len h2 0 f
  obtain ⟨g1, g2, g3, -, -⟩ := up hb h1 _ ho hm rfl rfl rfl hl rfl
  refine ⟨g1, g2, g3, hasD_iff.2 ⟨g1, ?_⟩⟩
  rw [g2]
  cases d3
  · exact h2
  · exact (hdF_get (pQ b) (l := 0) (by decide) (by decide) hp.f0 hp.f1).2.2.2.2
theorem st_seq : seqL (enc (stP (pQ b) q t r f false d1 d2 d3)) q = enc (stP (pQ b) q t r f true d1 d2 d3) := by
  obtain ⟨g1, g2, -, -⟩ := st_up hb h hp false d1 d2 d3
  rw [seqL, if_pos g1, g2]; rfl
theorem st_time : timeL (enc (stP (pQ b) q t r f d0 false d2 d3)) t = enc (stP (pQ b) q t r f d0 true d2 d3) := by
  obtain ⟨g1, g2, -, -⟩ := st_up hb h hp d0 false d2 d3
  rw [timeL, if_pos g1, g2]; rfl
theorem st_ssrc : ssrcL (enc (stP (pQ b) q t r f d0 d1 false d3)) r = enc (stP (pQ b) q t r f d0 d1 true d3) := by
  obtain ⟨g1, g2, -, -⟩ := st_up hb h hp d0 d1 false d3
  rw [ssrcL, if_pos g1, g2]; rfl
theorem st_frame : frameL (enc (stP (pQ b) q t r f d0 d1 d2 false)) 0 f = enc (stP (pQ b) q t r f d0 d1 d2 true) := by
  obtain ⟨g1, g2, -, g4⟩ := st_up hb h hp d0 d1 d2 false
  rw [frameL, g4, if_pos (by decide), g2]; rfl
end
theorem st_all {b : List Int} {q t r f : Int} (h : hasD b = true) : enc (stP (pQ b) q t r f true true true true) = applyL b q t r f := by
  rw [applyL, h, if_pos rfl]; rfl
theorem st_none {b : List Int} {q t r f : Int} (hb : Bytes b) (h : hasD b = true) : enc (stP (pQ b) q t r f false false false false) = b := (get_enc b hb (hasD_iff.1 h).1).2.2.1

/-- Which fields are done: a row of four. -/
def ABlk (w : World) (b : Nat) (d0 d1 d2 d3 : Bool) : Prop := w.heap[b]? = some (.cells #[.bool d0, .bool d1, .bool d2, .bool d3] 49 (0, 0))
section
variable {w w' : World} {b B : Nat} {d0 d1 d2 d3 : Bool}
theorem ABlk.new (w : World) (d0 d1 d2 d3 : Bool) : ABlk (w.alloc (.cells #[.bool d0, .bool d1, .bool d2, .bool d3] 49)) w.heap.size d0 d1 d2 d3 := heap_alloc_new w _
theorem ABlk.lt (h : ABlk w b d0 d1 d2 d3) : b < w.heap.size := by
  rcases Nat.lt_or_ge b w.heap.size with hlt | hge
  · exact hlt
  · unfold ABlk at h; rw [Array.getElem?_eq_none hge] at h; cases h
theorem ABlk.c0 (h : ABlk w b d0 d1 d2 d3) : w.cell? ⟨b, 0, none⟩ = some (.bool d0) := cell_of_row w b 0 _ 49 (0, 0) h
theorem ABlk.c1 (h : ABlk w b d0 d1 d2 d3) : w.cell? ⟨b, 1, none⟩ = some (.bool d1) := cell_of_row w b 1 _ 49 (0, 0) h
theorem ABlk.c2 (h : ABlk w b d0 d1 d2 d3) : w.cell? ⟨b, 2, none⟩ = some (.bool d2) := cell_of_row w b 2 _ 49 (0, 0) h
theorem ABlk.c3 (h : ABlk w b d0 d1 d2 d3) : w.cell? ⟨b, 3, none⟩ = some (.bool d3) := cell_of_row w b 3 _ 49 (0, 0) h
theorem ABlk.frozen (h : ABlk w b d0 d1 d2 d3) (i : Nat) : w.frozen? ⟨b, i, none⟩ = false := frozen_of_row w b i _ 49 h
theorem ABlk.set0 (h : ABlk w b d0 d1 d2 d3) (y : Bool) : ABlk (w.setCell ⟨b, 0, none⟩ (.bool y)) b y d1 d2 d3 := heap_setCell_same w b 0 _ 49 (.bool y) h
theorem ABlk.set1 (h : ABlk w b d0 d1 d2 d3) (y : Bool) : ABlk (w.setCell ⟨b, 1, none⟩ (.bool y)) b d0 y d2 d3 := heap_setCell_same w b 1 _ 49 (.bool y) h
theorem ABlk.set2 (h : ABlk w b d0 d1 d2 d3) (y : Bool) : ABlk (w.setCell ⟨b, 2, none⟩ (.bool y)) b d0 d1 y d3 := heap_setCell_same w b 2 _ 49 (.bool y) h
theorem ABlk.set3 (h : ABlk w b d0 d1 d2 d3) (y : Bool) : ABlk (w.setCell ⟨b, 3, none⟩ (.bool y)) b d0 d1 d2 y := heap_setCell_same w b 3 _ 49 (.bool y) h
theorem ABlk.at {base n c : Nat} {A : Option Addr} {xs : List Int} (h : ABlk w b d0 d1 d2 d3) (ha : At A w w') (ho : Own w base A n c xs) : ABlk w' b d0 d1 d2 d3 :=
  (World.grownBy.block ha b h.lt (by
    rcases ho.2.2.2.2 with ⟨rfl, -, -⟩ | ⟨g, T, rfl, hg, hk, -⟩
    · simp
    · intro e
      simp only [Option.map_some, Option.some.injEq] at e
      subst e
      unfold ABlk at h
      unfold Blk at hk
      rw [h] at hk
      simp at hk)).trans h
theorem own_offA {base n c : Nat} {A : Option Addr} {xs : List Int} (ho : Own w base A n c xs) (h : ABlk w b d0 d1 d2 d3) (hO : Off b w w') : Own w' base A n c xs := by
  obtain ⟨h1, h2, h3, h4, h5⟩ := ho
  refine ⟨h1, h2, h3, h4, ?_⟩
  rcases h5 with h5 | ⟨g, T, rfl, hg, hk, hl⟩
  · exact .inl h5
  · refine .inr ⟨g, T, rfl, hg, (hO g ?_).trans hk, hl⟩
    rintro rfl
    unfold ABlk at h
    unfold Blk at hk
    rw [h] at hk
    simp at hk
end

set_option maxHeartbeats 4000000 in
theorem order_no (a oa : Option Addr) (len cap lo ocap : Nat) (q t r f : Int) (xs : List Int) (w : World) (HR : Hid (∀ W, Below w.heap.size w W → Rd W w.heap.size a len xs))
    (CC : Hid (∀ W, Below w.heap.size w W → Calls Try.prog 9 #[.slice a len cap] W (CopyRow W len xs)))
    (CA : Hid (∀ W base A c, Own W base A len c xs → Calls Try.prog 10 #[.slice A len c, pch q t r f] W (Wrote W base A len c xs false))) :
    Calls Try.prog 5 #[.slice a len cap, pch q t r f, .slice oa lo ocap] w (Rtp.RetB w true) := by
  go_enter Try.func5, Try.ntmps5
  go_wp2_with fail
  have hb0 := (Below.refl w.heap.size w).alloc (Nat.le_refl _) (.cells #[.int .u16 q, .int .u32 t, .int .u32 r, .int .u16 f] 26)
  have D0 := QBlk.new w q t r f
  refine (shown_any _).mono ?_
  rintro e w1 ⟨rfl, hb1⟩
  have D1 := D0.below hb1 D0.lt
  have B1 := hb0.trans (hb1.mono hb0.size)
  have hw1 := D1.lt
  clear hb0 hb1 D0
  go_wp2_with fail
  refine (CC.out _ B1).mono ?_
  rintro e w2 ⟨A2, c2, rfl, ho2, hb2⟩
  have D2 := D1.below hb2 hw1
  have B2 := B1.trans (hb2.mono B1.size)
  go_wp2_with fail
  refine (CC.out _ B2).mono ?_
  rintro e w3 ⟨A3, c3, rfl, ho3, hb3⟩
  have D3 := D2.below hb3 D2.lt
  have B3 := B2.trans (hb3.mono B2.size)
  have hc3 := ho2.below hb3 (Nat.le_refl _)
  have hz2 := hb2.size
  have hz3 := hb3.size
  clear D1 D2 hb2 hb3
  have m0 := D3.c0
  have m1 := D3.c1
  have m2 := D3.c2
  have m3 := D3.c3
  have HD3 := Lib.hid D3
  have H2 := Lib.hid ho2
  have H3 := Lib.hid ho3
  have HC3 := Lib.hid hc3
  clear D3 ho2 ho3 hc3
  go_wp2_with fail
  refine (CA.out w3 _ A2 c2 HC3.out).mono ?_
  rintro e w4 ⟨rfl, hc4, ha4⟩
  have hb4 : Below w1.heap.size w3 w4 := ha4.below H2.out (Nat.le_trans hz2 hz3)
  have B4 := B3.trans (hb4.mono B1.size)
  clear m0 m1 m2 m3
  have s1 := str_run hc4.rd (c := c2)
  have s2 := str_run (HR.out _ B4) (c := cap)
  have HB4 := Lib.hid B4
  clear hc4 ha4 hb4 B1 B2 B3 B4 HC3 HD3 H2 H3 hz2 hz3 hw1 CC CA
  go_wp2
  go_ret
  exact ⟨rfl, HB4.out⟩

set_option maxHeartbeats 20000000 in
theorem order_yes (a oa : Option Addr) (len cap lo ocap : Nat) (q t r f : Int) (xs cs : List Int) (L : Bool → Bool → Bool → Bool → List Int) (w : World) (hlo : lo ≤ 140737488351232) (hL0 : L false false false false = xs) (hL1 : L true true true true = cs)
    (HOR : Hid (∀ W, Below w.heap.size w W → ∀ i, i < lo → ∃ ob oo z, oa = some ⟨ob, oo, none⟩ ∧ W.cell? ⟨ob, oo + i, none⟩ = some (.int .i64 z)))
    (CC : Hid (∀ W, Below w.heap.size w W → Calls Try.prog 9 #[.slice a len cap] W (CopyRow W len xs)))
    (CA : Hid (∀ W base A c, Own W base A len c xs → Calls Try.prog 10 #[.slice A len c, pch q t r f] W (Wrote W base A len c cs true)))
    (K0 : Hid (∀ W base A c d1 d2 d3, Own W base A len c (L false d1 d2 d3) → Calls Try.prog 17 #[.slice A len c, .int .u16 q] W (Wrote W base A len c (L true d1 d2 d3) true)))
    (K1 : Hid (∀ W base A c d0 d2 d3, Own W base A len c (L d0 false d2 d3) → Calls Try.prog 18 #[.slice A len c, .int .u32 t] W (Wrote W base A len c (L d0 true d2 d3) true)))
    (K2 : Hid (∀ W base A c d0 d1 d3, Own W base A len c (L d0 d1 false d3) → Calls Try.prog 19 #[.slice A len c, .int .u32 r] W (Wrote W base A len c (L d0 d1 true d3) true)))
    (K3 : Hid (∀ W base A c d0 d1 d2, Own W base A len c (L d0 d1 d2 false) → Calls Try.prog 11 #[.slice A len c, .int .i64 0, .int .u16 f] W (Wrote W base A len c (L d0 d1 d2 true) true))) :
    Calls Try.prog 5 #[.slice a len cap, pch q t r f, .slice oa lo ocap] w (Rtp.RetB w true) := by
  have HL0 := Lib.hid hL0
  have HL1 := Lib.hid hL1
  clear hL0 hL1
  go_enter Try.func5, Try.ntmps5
  go_wp2_with fail
  have hb0 := (Below.refl w.heap.size w).alloc (Nat.le_refl _) (.cells #[.int .u16 q, .int .u32 t, .int .u32 r, .int .u16 f] 26)
  have D0 := QBlk.new w q t r f
  refine (shown_any _).mono ?_
  rintro e w1 ⟨rfl, hb1⟩
  have D1 := D0.below hb1 D0.lt
  have B1 := hb0.trans (hb1.mono hb0.size)
  have hw1 := D1.lt
  clear hb0 hb1 D0
  go_wp2_with fail
  refine (CC.out _ B1).mono ?_
  rintro e w2 ⟨A2, c2, rfl, ho2, hb2⟩
  have D2 := D1.below hb2 hw1
  have B2 := B1.trans (hb2.mono B1.size)
  go_wp2_with fail
  refine (CC.out _ B2).mono ?_
  rintro e w3 ⟨A3, c3, rfl, ho3, hb3⟩
  have D3 := D2.below hb3 D2.lt
  have B3 := B2.trans (hb3.mono B2.size)
  have hc3 := ho2.below hb3 (Nat.le_refl _)
  have hz2 := hb2.size
  have hz3 := hb3.size
  clear D1 D2 hb2 hb3
  have m0 := D3.c0
  have m1 := D3.c1
  have m2 := D3.c2
  have m3 := D3.c3
  have HD3 := Lib.hid D3
  have H2 := Lib.hid ho2
  have H3 := Lib.hid ho3
  have HC3 := Lib.hid hc3
  clear D3 ho2 ho3 hc3
  go_wp2_with fail
  refine (CA.out w3 _ A2 c2 HC3.out).mono ?_
  rintro e w4 ⟨rfl, hc4, ha4⟩
  have hb4 : Below w1.heap.size w3 w4 := ha4.below H2.out (Nat.le_trans hz2 hz3)
  have B4 := B3.trans (hb4.mono B1.size)
  clear m0 m1 m2 m3
  have HD4 := Lib.hid (HD3.out.below hb4 hw1)
  have HS4 := Lib.hid (ha4.keep H2.out H3.out (Nat.le_refl _))
  have hba := (Below.refl w4.heap.size w4).alloc (Nat.le_refl _) (.cells #[.bool false, .bool false, .bool false, .bool false] 49)
  have HA5 := Lib.hid (ABlk.new w4 false false false false)
  have HC5 := Lib.hid (hc4.below hba (Nat.le_refl _))
  have HS5 := Lib.hid (HS4.out.below hba (Nat.le_refl _))
  have HD5 := Lib.hid (HD4.out.below hba HD4.out.lt)
  have HB5 := Lib.hid (B4.trans (hba.mono B4.size))
  have HZ5 : Hid (w2.heap.size ≤ (w4.alloc (.cells #[.bool false, .bool false, .bool false, .bool false] 49)).heap.size) := Nat.le_trans hz3 (Nat.le_trans hb4.size hba.size)
  have HLT2 : Hid (∀ a, A2 = some a → a.block < w2.heap.size) := own_lt H2.out
  have HW2 : Hid (w.heap.size < w2.heap.size) := Nat.lt_of_lt_of_le hw1 hz2
  have HGD : Hid (w.heap.size ≤ w4.heap.size) := B4.size
  clear hc4 ha4 hb4 hba B1 B2 B3 B4 HC3 HD3 HD4 HS4 H2 hz2 hz3 CC CA
  go_wp2_with fail
  generalize w4.alloc (.cells #[.bool false, .bool false, .bool false, .bool false] 49) = w5 at *
  generalize w4.heap.size = gd at *
  go_loopw [10] (fun j wx => ∃ (i : Nat) (d0 d1 d2 d3 : Bool), i ≤ lo + 4 ∧ j = .int .i64 i ∧ Hid ((lo < i → d0 = true) ∧ (lo + 1 < i → d1 = true) ∧ (lo + 2 < i → d2 = true) ∧ (lo + 3 < i → d3 = true)) ∧ Hid (ABlk wx gd d0 d1 d2 d3) ∧ Hid (Own wx w2.heap.size A3 len c3 (L d0 d1 d2 d3)) ∧ Hid (Own wx w1.heap.size A2 len c2 cs) ∧ Hid (QBlk wx w.heap.size q t r f) ∧ Hid (Below w.heap.size w wx) ∧ Hid (w2.heap.size ≤ wx.heap.size)) (fun j _ => lo + 4 - (intOf j).toNat)
  case atStart => exact ⟨0, false, false, false, false, by omega, rfl, ⟨fun h => absurd h (by omega), fun h => absurd h (by omega), fun h => absurd h (by omega), fun h => absurd h (by omega)⟩, HA5.out, HL0.out ▸ HS5.out, HC5.out, HD5.out, HB5.out, HZ5.out⟩
  case round =>
    obtain ⟨i, d0, d1, d2, d3, hi, rfl, HF, HA, HS, HC, HD, HB, HZ⟩ := hrel
    rename World => wx
    clear HA5 HS5 HC5 HD5 HB5 HZ5
    by_cases hlt : i < lo + 4
    · have hlt' : (i : Int) < (lo : Int) + 4 := by omega
      have hkk : ∃ kk : Int, (kk = 0 ∨ kk = 1 ∨ kk = 2 ∨ kk = 3) ∧ ((i < lo ∧ ∃ ob oo z, oa = some ⟨ob, oo, none⟩ ∧ wx.cell? ⟨ob, oo + i, none⟩ = some (.int .i64 z) ∧ bits BinOp.and IntKind.i64 z 3 = kk) ∨ (lo ≤ i ∧ (i : Int) - lo = kk)) := by
        by_cases h : i < lo
        · obtain ⟨ob, oo, z, h1, h2⟩ := HOR.out wx HB.out i h
          exact ⟨z % 4, by omega, .inl ⟨h, ob, oo, z, h1, h2, i64_and3 z⟩⟩
        · exact ⟨(i : Int) - lo, by omega, .inr ⟨by omega, rfl⟩⟩
      obtain ⟨kk, hk, hw⟩ := hkk
      rcases hk with rfl | rfl | rfl | rfl
      · skip
        rcases d0 with _ | _
        · skip
          have a0 := HA.out.c0
          have b0 := HA.out.frozen 0
          rcases hw with ⟨hil, ob, oo, z, rfl, hz, hbz⟩ | ⟨hil, hbz⟩
          · skip
            have hil' : ((i : Int) - lo < 0) = True := by simp; omega
            have hil2 : (i : Int) < lo := by omega
            have hw1 : (i : Int) - lo = (i : Int) - lo := rfl
            clear hw1
            have HFN : Hid ((lo < i + 1 → true = true) ∧ (lo + 1 < i + 1 → d1 = true) ∧ (lo + 2 < i + 1 → d2 = true) ∧ (lo + 3 < i + 1 → d3 = true)) := ⟨fun _ => rfl, fun h => HF.out.2.1 (by omega), fun h => HF.out.2.2.1 (by omega), fun h => HF.out.2.2.2 (by omega)⟩
            have hO := (Off.refl gd wx).set (k := 0) (.bool true)
            have HA6 := Lib.hid (HA.out.set0 true)
            have HS6 := Lib.hid (own_offA HS.out HA.out hO)
            have HC6 := Lib.hid (own_offA HC.out HA.out hO)
            have hgd : w.heap.size ≠ gd := by
              intro e
              have h1 := HD.out
              have h2 := HA.out
              unfold QBlk at h1
              unfold ABlk at h2
              rw [e, h2] at h1
              simp at h1
            have D6 : QBlk (wx.setCell ⟨gd, 0, none⟩ (.bool true)) w.heap.size q t r f := (hO _ hgd).trans HD.out
            have HB6 : Hid (Below w.heap.size w (wx.setCell ⟨gd, 0, none⟩ (.bool true))) := HB.out.setCell (p := ⟨gd, 0, none⟩) HGD.out (.bool true)
            have HZ6 : Hid (w2.heap.size ≤ (wx.setCell ⟨gd, 0, none⟩ (.bool true)).heap.size) := Nat.le_trans HZ.out ((Below.refl 0 wx).setCell (p := ⟨gd, 0, none⟩) (Nat.zero_le _) (.bool true)).size
            have n0 := D6.c0
            have HD6 := Lib.hid D6
            have HN := Lib.hid hgd
            clear D6 hO HA HS HC HD HB HZ hgd
            go_wp2_with fail
            refine (K0.out _ _ A3 c3 d1 d2 d3 HS6.out).mono ?_
            rintro e w7 ⟨rfl, hs7, ha7⟩
            have hb7 : Below w2.heap.size _ w7 := ha7.below H3.out HZ6.out
            have HA7 := Lib.hid (HA6.out.at ha7 HS6.out)
            have HC7 := Lib.hid (ha7.keep' H3.out HC6.out HLT2.out)
            have HD7 := Lib.hid (HD6.out.below hb7 HW2.out)
            have HB7 := Lib.hid (HB6.out.trans (hb7.mono (Nat.le_of_lt HW2.out)))
            have HS7 := Lib.hid hs7
            have HZ7 : Hid (w2.heap.size ≤ w7.heap.size) := Nat.le_trans HZ6.out hb7.size
            clear hs7 ha7 hb7 HA6 HC6 HD6 HB6 HS6 n0 a0 b0
            go_wp2
            go_roundw
            case rel => exact ⟨i + 1, true, d1, d2, d3, by omega, by go_num, ⟨fun _ => rfl, HFN.out.2.1, HFN.out.2.2.1, HFN.out.2.2.2⟩, HA7.out, HS7.out, HC7.out, HD7.out, HB7.out, HZ7.out⟩
            case measure => simp [intOf]; omega
          · skip
            have hil2 : ¬ (i : Int) < lo := by omega
            have HFN : Hid ((lo < i + 1 → true = true) ∧ (lo + 1 < i + 1 → d1 = true) ∧ (lo + 2 < i + 1 → d2 = true) ∧ (lo + 3 < i + 1 → d3 = true)) := ⟨fun _ => rfl, fun h => HF.out.2.1 (by omega), fun h => HF.out.2.2.1 (by omega), fun h => HF.out.2.2.2 (by omega)⟩
            have hO := (Off.refl gd wx).set (k := 0) (.bool true)
            have HA6 := Lib.hid (HA.out.set0 true)
            have HS6 := Lib.hid (own_offA HS.out HA.out hO)
            have HC6 := Lib.hid (own_offA HC.out HA.out hO)
            have hgd : w.heap.size ≠ gd := by
              intro e
              have h1 := HD.out
              have h2 := HA.out
              unfold QBlk at h1
              unfold ABlk at h2
              rw [e, h2] at h1
              simp at h1
            have D6 : QBlk (wx.setCell ⟨gd, 0, none⟩ (.bool true)) w.heap.size q t r f := (hO _ hgd).trans HD.out
            have HB6 : Hid (Below w.heap.size w (wx.setCell ⟨gd, 0, none⟩ (.bool true))) := HB.out.setCell (p := ⟨gd, 0, none⟩) HGD.out (.bool true)
            have HZ6 : Hid (w2.heap.size ≤ (wx.setCell ⟨gd, 0, none⟩ (.bool true)).heap.size) := Nat.le_trans HZ.out ((Below.refl 0 wx).setCell (p := ⟨gd, 0, none⟩) (Nat.zero_le _) (.bool true)).size
            have n0 := D6.c0
            have HD6 := Lib.hid D6
            have HN := Lib.hid hgd
            clear D6 hO HA HS HC HD HB HZ hgd
            go_wp2_with fail
            refine (K0.out _ _ A3 c3 d1 d2 d3 HS6.out).mono ?_
            rintro e w7 ⟨rfl, hs7, ha7⟩
            have hb7 : Below w2.heap.size _ w7 := ha7.below H3.out HZ6.out
            have HA7 := Lib.hid (HA6.out.at ha7 HS6.out)
            have HC7 := Lib.hid (ha7.keep' H3.out HC6.out HLT2.out)
            have HD7 := Lib.hid (HD6.out.below hb7 HW2.out)
            have HB7 := Lib.hid (HB6.out.trans (hb7.mono (Nat.le_of_lt HW2.out)))
            have HS7 := Lib.hid hs7
            have HZ7 : Hid (w2.heap.size ≤ w7.heap.size) := Nat.le_trans HZ6.out hb7.size
            clear hs7 ha7 hb7 HA6 HC6 HD6 HB6 HS6 n0 a0 b0
            go_wp2
            go_roundw
            case rel => exact ⟨i + 1, true, d1, d2, d3, by omega, by go_num, ⟨fun _ => rfl, HFN.out.2.1, HFN.out.2.2.1, HFN.out.2.2.2⟩, HA7.out, HS7.out, HC7.out, HD7.out, HB7.out, HZ7.out⟩
            case measure => simp [intOf]; omega
        · skip
          have a0 := HA.out.c0
          have b0 := HA.out.frozen 0
          rcases hw with ⟨hil, ob, oo, z, rfl, hz, hbz⟩ | ⟨hil, hbz⟩
          · skip
            have hil' : ((i : Int) - lo < 0) = True := by simp; omega
            have hil2 : (i : Int) < lo := by omega
            have hw1 : (i : Int) - lo = (i : Int) - lo := rfl
            clear hw1
            have HFN : Hid ((lo < i + 1 → true = true) ∧ (lo + 1 < i + 1 → d1 = true) ∧ (lo + 2 < i + 1 → d2 = true) ∧ (lo + 3 < i + 1 → d3 = true)) := ⟨fun _ => rfl, fun h => HF.out.2.1 (by omega), fun h => HF.out.2.2.1 (by omega), fun h => HF.out.2.2.2 (by omega)⟩
            go_wp2
            go_roundw
            case rel => exact ⟨i + 1, true, d1, d2, d3, by omega, by go_num, ⟨fun _ => rfl, HFN.out.2.1, HFN.out.2.2.1, HFN.out.2.2.2⟩, HA.out, HS.out, HC.out, HD.out, HB.out, HZ.out⟩
            case measure => simp [intOf]; omega
          · skip
            have hil2 : ¬ (i : Int) < lo := by omega
            have HFN : Hid ((lo < i + 1 → true = true) ∧ (lo + 1 < i + 1 → d1 = true) ∧ (lo + 2 < i + 1 → d2 = true) ∧ (lo + 3 < i + 1 → d3 = true)) := ⟨fun _ => rfl, fun h => HF.out.2.1 (by omega), fun h => HF.out.2.2.1 (by omega), fun h => HF.out.2.2.2 (by omega)⟩
            go_wp2
            go_roundw
            case rel => exact ⟨i + 1, true, d1, d2, d3, by omega, by go_num, ⟨fun _ => rfl, HFN.out.2.1, HFN.out.2.2.1, HFN.out.2.2.2⟩, HA.out, HS.out, HC.out, HD.out, HB.out, HZ.out⟩
            case measure => simp [intOf]; omega
      · skip
        rcases d1 with _ | _
        · skip
          have a1 := HA.out.c1
          have b1 := HA.out.frozen 1
          rcases hw with ⟨hil, ob, oo, z, rfl, hz, hbz⟩ | ⟨hil, hbz⟩
          · skip
            have hil' : ((i : Int) - lo < 0) = True := by simp; omega
            have hil2 : (i : Int) < lo := by omega
            have hw1 : (i : Int) - lo = (i : Int) - lo := rfl
            clear hw1
            have HFN : Hid ((lo < i + 1 → d0 = true) ∧ (lo + 1 < i + 1 → true = true) ∧ (lo + 2 < i + 1 → d2 = true) ∧ (lo + 3 < i + 1 → d3 = true)) := ⟨fun h => HF.out.1 (by omega), fun _ => rfl, fun h => HF.out.2.2.1 (by omega), fun h => HF.out.2.2.2 (by omega)⟩
            have hO := (Off.refl gd wx).set (k := 1) (.bool true)
            have HA6 := Lib.hid (HA.out.set1 true)
            have HS6 := Lib.hid (own_offA HS.out HA.out hO)
            have HC6 := Lib.hid (own_offA HC.out HA.out hO)
            have hgd : w.heap.size ≠ gd := by
              intro e
              have h1 := HD.out
              have h2 := HA.out
              unfold QBlk at h1
              unfold ABlk at h2
              rw [e, h2] at h1
              simp at h1
            have D6 : QBlk (wx.setCell ⟨gd, 1, none⟩ (.bool true)) w.heap.size q t r f := (hO _ hgd).trans HD.out
            have HB6 : Hid (Below w.heap.size w (wx.setCell ⟨gd, 1, none⟩ (.bool true))) := HB.out.setCell (p := ⟨gd, 1, none⟩) HGD.out (.bool true)
            have HZ6 : Hid (w2.heap.size ≤ (wx.setCell ⟨gd, 1, none⟩ (.bool true)).heap.size) := Nat.le_trans HZ.out ((Below.refl 0 wx).setCell (p := ⟨gd, 1, none⟩) (Nat.zero_le _) (.bool true)).size
            have n1 := D6.c1
            have HD6 := Lib.hid D6
            have HN := Lib.hid hgd
            clear D6 hO HA HS HC HD HB HZ hgd
            go_wp2_with fail
            refine (K1.out _ _ A3 c3 d0 d2 d3 HS6.out).mono ?_
            rintro e w7 ⟨rfl, hs7, ha7⟩
            have hb7 : Below w2.heap.size _ w7 := ha7.below H3.out HZ6.out
            have HA7 := Lib.hid (HA6.out.at ha7 HS6.out)
            have HC7 := Lib.hid (ha7.keep' H3.out HC6.out HLT2.out)
            have HD7 := Lib.hid (HD6.out.below hb7 HW2.out)
            have HB7 := Lib.hid (HB6.out.trans (hb7.mono (Nat.le_of_lt HW2.out)))
            have HS7 := Lib.hid hs7
            have HZ7 : Hid (w2.heap.size ≤ w7.heap.size) := Nat.le_trans HZ6.out hb7.size
            clear hs7 ha7 hb7 HA6 HC6 HD6 HB6 HS6 n1 a1 b1
            go_wp2
            go_roundw
            case rel => exact ⟨i + 1, d0, true, d2, d3, by omega, by go_num, ⟨HFN.out.1, fun _ => rfl, HFN.out.2.2.1, HFN.out.2.2.2⟩, HA7.out, HS7.out, HC7.out, HD7.out, HB7.out, HZ7.out⟩
            case measure => simp [intOf]; omega
          · skip
            have hil2 : ¬ (i : Int) < lo := by omega
            have HFN : Hid ((lo < i + 1 → d0 = true) ∧ (lo + 1 < i + 1 → true = true) ∧ (lo + 2 < i + 1 → d2 = true) ∧ (lo + 3 < i + 1 → d3 = true)) := ⟨fun h => HF.out.1 (by omega), fun _ => rfl, fun h => HF.out.2.2.1 (by omega), fun h => HF.out.2.2.2 (by omega)⟩
            have hO := (Off.refl gd wx).set (k := 1) (.bool true)
            have HA6 := Lib.hid (HA.out.set1 true)
            have HS6 := Lib.hid (own_offA HS.out HA.out hO)
            have HC6 := Lib.hid (own_offA HC.out HA.out hO)
            have hgd : w.heap.size ≠ gd := by
              intro e
              have h1 := HD.out
              have h2 := HA.out
              unfold QBlk at h1
              unfold ABlk at h2
              rw [e, h2] at h1
              simp at h1
            have D6 : QBlk (wx.setCell ⟨gd, 1, none⟩ (.bool true)) w.heap.size q t r f := (hO _ hgd).trans HD.out
            have HB6 : Hid (Below w.heap.size w (wx.setCell ⟨gd, 1, none⟩ (.bool true))) := HB.out.setCell (p := ⟨gd, 1, none⟩) HGD.out (.bool true)
            have HZ6 : Hid (w2.heap.size ≤ (wx.setCell ⟨gd, 1, none⟩ (.bool true)).heap.size) := Nat.le_trans HZ.out ((Below.refl 0 wx).setCell (p := ⟨gd, 1, none⟩) (Nat.zero_le _) (.bool true)).size
            have n1 := D6.c1
            have HD6 := Lib.hid D6
            have HN := Lib.hid hgd
            clear D6 hO HA HS HC HD HB HZ hgd
            go_wp2_with fail
            refine (K1.out _ _ A3 c3 d0 d2 d3 HS6.out).mono ?_
            rintro e w7 ⟨rfl, hs7, ha7⟩
            have hb7 : Below w2.heap.size _ w7 := ha7.below H3.out HZ6.out
            have HA7 := Lib.hid (HA6.out.at ha7 HS6.out)
            have HC7 := Lib.hid (ha7.keep' H3.out HC6.out HLT2.out)
            have HD7 := Lib.hid (HD6.out.below hb7 HW2.out)
            have HB7 := Lib.hid (HB6.out.trans (hb7.mono (Nat.le_of_lt HW2.out)))
            have HS7 := Lib.hid hs7
            have HZ7 : Hid (w2.heap.size ≤ w7.heap.size) := Nat.le_trans HZ6.out hb7.size
            clear hs7 ha7 hb7 HA6 HC6 HD6 HB6 HS6 n1 a1 b1
            go_wp2
            go_roundw
            case rel => exact ⟨i + 1, d0, true, d2, d3, by omega, by go_num, ⟨HFN.out.1, fun _ => rfl, HFN.out.2.2.1, HFN.out.2.2.2⟩, HA7.out, HS7.out, HC7.out, HD7.out, HB7.out, HZ7.out⟩
            case measure => simp [intOf]; omega
        · skip
          have a1 := HA.out.c1
          have b1 := HA.out.frozen 1
          rcases hw with ⟨hil, ob, oo, z, rfl, hz, hbz⟩ | ⟨hil, hbz⟩
          · skip
            have hil' : ((i : Int) - lo < 0) = True := by simp; omega
            have hil2 : (i : Int) < lo := by omega
            have hw1 : (i : Int) - lo = (i : Int) - lo := rfl
            clear hw1
            have HFN : Hid ((lo < i + 1 → d0 = true) ∧ (lo + 1 < i + 1 → true = true) ∧ (lo + 2 < i + 1 → d2 = true) ∧ (lo + 3 < i + 1 → d3 = true)) := ⟨fun h => HF.out.1 (by omega), fun _ => rfl, fun h => HF.out.2.2.1 (by omega), fun h => HF.out.2.2.2 (by omega)⟩
            go_wp2
            go_roundw
            case rel => exact ⟨i + 1, d0, true, d2, d3, by omega, by go_num, ⟨HFN.out.1, fun _ => rfl, HFN.out.2.2.1, HFN.out.2.2.2⟩, HA.out, HS.out, HC.out, HD.out, HB.out, HZ.out⟩
            case measure => simp [intOf]; omega
          · skip
            have hil2 : ¬ (i : Int) < lo := by omega
            have HFN : Hid ((lo < i + 1 → d0 = true) ∧ (lo + 1 < i + 1 → true = true) ∧ (lo + 2 < i + 1 → d2 = true) ∧ (lo + 3 < i + 1 → d3 = true)) := ⟨fun h => HF.out.1 (by omega), fun _ => rfl, fun h => HF.out.2.2.1 (by omega), fun h => HF.out.2.2.2 (by omega)⟩
            go_wp2
            go_roundw
            case rel => exact ⟨i + 1, d0, true, d2, d3, by omega, by go_num, ⟨HFN.out.1, fun _ => rfl, HFN.out.2.2.1, HFN.out.2.2.2⟩, HA.out, HS.out, HC.out, HD.out, HB.out, HZ.out⟩
            case measure => simp [intOf]; omega
      · skip
        rcases d2 with _ | _
        · skip
          have a2 := HA.out.c2
          have b2 := HA.out.frozen 2
          rcases hw with ⟨hil, ob, oo, z, rfl, hz, hbz⟩ | ⟨hil, hbz⟩
          · skip
            have hil' : ((i : Int) - lo < 0) = True := by simp; omega
            have hil2 : (i : Int) < lo := by omega
            have hw1 : (i : Int) - lo = (i : Int) - lo := rfl
            clear hw1
            have HFN : Hid ((lo < i + 1 → d0 = true) ∧ (lo + 1 < i + 1 → d1 = true) ∧ (lo + 2 < i + 1 → true = true) ∧ (lo + 3 < i + 1 → d3 = true)) := ⟨fun h => HF.out.1 (by omega), fun h => HF.out.2.1 (by omega), fun _ => rfl, fun h => HF.out.2.2.2 (by omega)⟩
            have hO := (Off.refl gd wx).set (k := 2) (.bool true)
            have HA6 := Lib.hid (HA.out.set2 true)
            have HS6 := Lib.hid (own_offA HS.out HA.out hO)
            have HC6 := Lib.hid (own_offA HC.out HA.out hO)
            have hgd : w.heap.size ≠ gd := by
              intro e
              have h1 := HD.out
              have h2 := HA.out
              unfold QBlk at h1
              unfold ABlk at h2
              rw [e, h2] at h1
              simp at h1
            have D6 : QBlk (wx.setCell ⟨gd, 2, none⟩ (.bool true)) w.heap.size q t r f := (hO _ hgd).trans HD.out
            have HB6 : Hid (Below w.heap.size w (wx.setCell ⟨gd, 2, none⟩ (.bool true))) := HB.out.setCell (p := ⟨gd, 2, none⟩) HGD.out (.bool true)
            have HZ6 : Hid (w2.heap.size ≤ (wx.setCell ⟨gd, 2, none⟩ (.bool true)).heap.size) := Nat.le_trans HZ.out ((Below.refl 0 wx).setCell (p := ⟨gd, 2, none⟩) (Nat.zero_le _) (.bool true)).size
            have n2 := D6.c2
            have HD6 := Lib.hid D6
            have HN := Lib.hid hgd
            clear D6 hO HA HS HC HD HB HZ hgd
            go_wp2_with fail
            refine (K2.out _ _ A3 c3 d0 d1 d3 HS6.out).mono ?_
            rintro e w7 ⟨rfl, hs7, ha7⟩
            have hb7 : Below w2.heap.size _ w7 := ha7.below H3.out HZ6.out
            have HA7 := Lib.hid (HA6.out.at ha7 HS6.out)
            have HC7 := Lib.hid (ha7.keep' H3.out HC6.out HLT2.out)
            have HD7 := Lib.hid (HD6.out.below hb7 HW2.out)
            have HB7 := Lib.hid (HB6.out.trans (hb7.mono (Nat.le_of_lt HW2.out)))
            have HS7 := Lib.hid hs7
            have HZ7 : Hid (w2.heap.size ≤ w7.heap.size) := Nat.le_trans HZ6.out hb7.size
            clear hs7 ha7 hb7 HA6 HC6 HD6 HB6 HS6 n2 a2 b2
            go_wp2
            go_roundw
            case rel => exact ⟨i + 1, d0, d1, true, d3, by omega, by go_num, ⟨HFN.out.1, HFN.out.2.1, fun _ => rfl, HFN.out.2.2.2⟩, HA7.out, HS7.out, HC7.out, HD7.out, HB7.out, HZ7.out⟩
            case measure => simp [intOf]; omega
          · skip
            have hil2 : ¬ (i : Int) < lo := by omega
            have HFN : Hid ((lo < i + 1 → d0 = true) ∧ (lo + 1 < i + 1 → d1 = true) ∧ (lo + 2 < i + 1 → true = true) ∧ (lo + 3 < i + 1 → d3 = true)) := ⟨fun h => HF.out.1 (by omega), fun h => HF.out.2.1 (by omega), fun _ => rfl, fun h => HF.out.2.2.2 (by omega)⟩
            have hO := (Off.refl gd wx).set (k := 2) (.bool true)
            have HA6 := Lib.hid (HA.out.set2 true)
            have HS6 := Lib.hid (own_offA HS.out HA.out hO)
            have HC6 := Lib.hid (own_offA HC.out HA.out hO)
            have hgd : w.heap.size ≠ gd := by
              intro e
              have h1 := HD.out
              have h2 := HA.out
              unfold QBlk at h1
              unfold ABlk at h2
              rw [e, h2] at h1
              simp at h1
            have D6 : QBlk (wx.setCell ⟨gd, 2, none⟩ (.bool true)) w.heap.size q t r f := (hO _ hgd).trans HD.out
            have HB6 : Hid (Below w.heap.size w (wx.setCell ⟨gd, 2, none⟩ (.bool true))) := HB.out.setCell (p := ⟨gd, 2, none⟩) HGD.out (.bool true)
            have HZ6 : Hid (w2.heap.size ≤ (wx.setCell ⟨gd, 2, none⟩ (.bool true)).heap.size) := Nat.le_trans HZ.out ((Below.refl 0 wx).setCell (p := ⟨gd, 2, none⟩) (Nat.zero_le _) (.bool true)).size
            have n2 := D6.c2
            have HD6 := Lib.hid D6
            have HN := Lib.hid hgd
            clear D6 hO HA HS HC HD HB HZ hgd
            go_wp2_with fail
            refine (K2.out _ _ A3 c3 d0 d1 d3 HS6.out).mono ?_
            rintro e w7 ⟨rfl, hs7, ha7⟩
            have hb7 : Below w2.heap.size _ w7 := ha7.below H3.out HZ6.out
            have HA7 := Lib.hid (HA6.out.at ha7 HS6.out)
            have HC7 := Lib.hid (ha7.keep' H3.out HC6.out HLT2.out)
            have HD7 := Lib.hid (HD6.out.below hb7 HW2.out)
            have HB7 := Lib.hid (HB6.out.trans (hb7.mono (Nat.le_of_lt HW2.out)))
            have HS7 := Lib.hid hs7
            have HZ7 : Hid (w2.heap.size ≤ w7.heap.size) := Nat.le_trans HZ6.out hb7.size
            clear hs7 ha7 hb7 HA6 HC6 HD6 HB6 HS6 n2 a2 b2
            go_wp2
            go_roundw
            case rel => exact ⟨i + 1, d0, d1, true, d3, by omega, by go_num, ⟨HFN.out.1, HFN.out.2.1, fun _ => rfl, HFN.out.2.2.2⟩, HA7.out, HS7.out, HC7.out, HD7.out, HB7.out, HZ7.out⟩
            case measure => simp [intOf]; omega
        · skip
          have a2 := HA.out.c2
          have b2 := HA.out.frozen 2
          rcases hw with ⟨hil, ob, oo, z, rfl, hz, hbz⟩ | ⟨hil, hbz⟩
          · skip
            have hil' : ((i : Int) - lo < 0) = True := by simp; omega
            have hil2 : (i : Int) < lo := by omega
            have hw1 : (i : Int) - lo = (i : Int) - lo := rfl
            clear hw1
            have HFN : Hid ((lo < i + 1 → d0 = true) ∧ (lo + 1 < i + 1 → d1 = true) ∧ (lo + 2 < i + 1 → true = true) ∧ (lo + 3 < i + 1 → d3 = true)) := ⟨fun h => HF.out.1 (by omega), fun h => HF.out.2.1 (by omega), fun _ => rfl, fun h => HF.out.2.2.2 (by omega)⟩
            go_wp2
            go_roundw
            case rel => exact ⟨i + 1, d0, d1, true, d3, by omega, by go_num, ⟨HFN.out.1, HFN.out.2.1, fun _ => rfl, HFN.out.2.2.2⟩, HA.out, HS.out, HC.out, HD.out, HB.out, HZ.out⟩
            case measure => simp [intOf]; omega
          · skip
            have hil2 : ¬ (i : Int) < lo := by omega
            have HFN : Hid ((lo < i + 1 → d0 = true) ∧ (lo + 1 < i + 1 → d1 = true) ∧ (lo + 2 < i + 1 → true = true) ∧ (lo + 3 < i + 1 → d3 = true)) := ⟨fun h => HF.out.1 (by omega), fun h => HF.out.2.1 (by omega), fun _ => rfl, fun h => HF.out.2.2.2 (by omega)⟩
            go_wp2
            go_roundw
            case rel => exact ⟨i + 1, d0, d1, true, d3, by omega, by go_num, ⟨HFN.out.1, HFN.out.2.1, fun _ => rfl, HFN.out.2.2.2⟩, HA.out, HS.out, HC.out, HD.out, HB.out, HZ.out⟩
            case measure => simp [intOf]; omega
      · skip
        rcases d3 with _ | _
        · skip
          have a3 := HA.out.c3
          have b3 := HA.out.frozen 3
          rcases hw with ⟨hil, ob, oo, z, rfl, hz, hbz⟩ | ⟨hil, hbz⟩
          · skip
            have hil' : ((i : Int) - lo < 0) = True := by simp; omega
            have hil2 : (i : Int) < lo := by omega
            have hw1 : (i : Int) - lo = (i : Int) - lo := rfl
            clear hw1
            have HFN : Hid ((lo < i + 1 → d0 = true) ∧ (lo + 1 < i + 1 → d1 = true) ∧ (lo + 2 < i + 1 → d2 = true) ∧ (lo + 3 < i + 1 → true = true)) := ⟨fun h => HF.out.1 (by omega), fun h => HF.out.2.1 (by omega), fun h => HF.out.2.2.1 (by omega), fun _ => rfl⟩
            have hO := (Off.refl gd wx).set (k := 3) (.bool true)
            have HA6 := Lib.hid (HA.out.set3 true)
            have HS6 := Lib.hid (own_offA HS.out HA.out hO)
            have HC6 := Lib.hid (own_offA HC.out HA.out hO)
            have hgd : w.heap.size ≠ gd := by
              intro e
              have h1 := HD.out
              have h2 := HA.out
              unfold QBlk at h1
              unfold ABlk at h2
              rw [e, h2] at h1
              simp at h1
            have D6 : QBlk (wx.setCell ⟨gd, 3, none⟩ (.bool true)) w.heap.size q t r f := (hO _ hgd).trans HD.out
            have HB6 : Hid (Below w.heap.size w (wx.setCell ⟨gd, 3, none⟩ (.bool true))) := HB.out.setCell (p := ⟨gd, 3, none⟩) HGD.out (.bool true)
            have HZ6 : Hid (w2.heap.size ≤ (wx.setCell ⟨gd, 3, none⟩ (.bool true)).heap.size) := Nat.le_trans HZ.out ((Below.refl 0 wx).setCell (p := ⟨gd, 3, none⟩) (Nat.zero_le _) (.bool true)).size
            have n3 := D6.c3
            have HD6 := Lib.hid D6
            have HN := Lib.hid hgd
            clear D6 hO HA HS HC HD HB HZ hgd
            go_wp2_with fail
            refine (K3.out _ _ A3 c3 d0 d1 d2 HS6.out).mono ?_
            rintro e w7 ⟨rfl, hs7, ha7⟩
            have hb7 : Below w2.heap.size _ w7 := ha7.below H3.out HZ6.out
            have HA7 := Lib.hid (HA6.out.at ha7 HS6.out)
            have HC7 := Lib.hid (ha7.keep' H3.out HC6.out HLT2.out)
            have HD7 := Lib.hid (HD6.out.below hb7 HW2.out)
            have HB7 := Lib.hid (HB6.out.trans (hb7.mono (Nat.le_of_lt HW2.out)))
            have HS7 := Lib.hid hs7
            have HZ7 : Hid (w2.heap.size ≤ w7.heap.size) := Nat.le_trans HZ6.out hb7.size
            clear hs7 ha7 hb7 HA6 HC6 HD6 HB6 HS6 n3 a3 b3
            go_wp2
            go_roundw
            case rel => exact ⟨i + 1, d0, d1, d2, true, by omega, by go_num, ⟨HFN.out.1, HFN.out.2.1, HFN.out.2.2.1, fun _ => rfl⟩, HA7.out, HS7.out, HC7.out, HD7.out, HB7.out, HZ7.out⟩
            case measure => simp [intOf]; omega
          · skip
            have hil2 : ¬ (i : Int) < lo := by omega
            have HFN : Hid ((lo < i + 1 → d0 = true) ∧ (lo + 1 < i + 1 → d1 = true) ∧ (lo + 2 < i + 1 → d2 = true) ∧ (lo + 3 < i + 1 → true = true)) := ⟨fun h => HF.out.1 (by omega), fun h => HF.out.2.1 (by omega), fun h => HF.out.2.2.1 (by omega), fun _ => rfl⟩
            have hO := (Off.refl gd wx).set (k := 3) (.bool true)
            have HA6 := Lib.hid (HA.out.set3 true)
            have HS6 := Lib.hid (own_offA HS.out HA.out hO)
            have HC6 := Lib.hid (own_offA HC.out HA.out hO)
            have hgd : w.heap.size ≠ gd := by
              intro e
              have h1 := HD.out
              have h2 := HA.out
              unfold QBlk at h1
              unfold ABlk at h2
              rw [e, h2] at h1
              simp at h1
            have D6 : QBlk (wx.setCell ⟨gd, 3, none⟩ (.bool true)) w.heap.size q t r f := (hO _ hgd).trans HD.out
            have HB6 : Hid (Below w.heap.size w (wx.setCell ⟨gd, 3, none⟩ (.bool true))) := HB.out.setCell (p := ⟨gd, 3, none⟩) HGD.out (.bool true)
            have HZ6 : Hid (w2.heap.size ≤ (wx.setCell ⟨gd, 3, none⟩ (.bool true)).heap.size) := Nat.le_trans HZ.out ((Below.refl 0 wx).setCell (p := ⟨gd, 3, none⟩) (Nat.zero_le _) (.bool true)).size
            have n3 := D6.c3
            have HD6 := Lib.hid D6
            have HN := Lib.hid hgd
            clear D6 hO HA HS HC HD HB HZ hgd
            go_wp2_with fail
            refine (K3.out _ _ A3 c3 d0 d1 d2 HS6.out).mono ?_
            rintro e w7 ⟨rfl, hs7, ha7⟩
            have hb7 : Below w2.heap.size _ w7 := ha7.below H3.out HZ6.out
            have HA7 := Lib.hid (HA6.out.at ha7 HS6.out)
            have HC7 := Lib.hid (ha7.keep' H3.out HC6.out HLT2.out)
            have HD7 := Lib.hid (HD6.out.below hb7 HW2.out)
            have HB7 := Lib.hid (HB6.out.trans (hb7.mono (Nat.le_of_lt HW2.out)))
            have HS7 := Lib.hid hs7
            have HZ7 : Hid (w2.heap.size ≤ w7.heap.size) := Nat.le_trans HZ6.out hb7.size
            clear hs7 ha7 hb7 HA6 HC6 HD6 HB6 HS6 n3 a3 b3
            go_wp2
            go_roundw
            case rel => exact ⟨i + 1, d0, d1, d2, true, by omega, by go_num, ⟨HFN.out.1, HFN.out.2.1, HFN.out.2.2.1, fun _ => rfl⟩, HA7.out, HS7.out, HC7.out, HD7.out, HB7.out, HZ7.out⟩
            case measure => simp [intOf]; omega
        · skip
          have a3 := HA.out.c3
          have b3 := HA.out.frozen 3
          rcases hw with ⟨hil, ob, oo, z, rfl, hz, hbz⟩ | ⟨hil, hbz⟩
          · skip
            have hil' : ((i : Int) - lo < 0) = True := by simp; omega
            have hil2 : (i : Int) < lo := by omega
            have hw1 : (i : Int) - lo = (i : Int) - lo := rfl
            clear hw1
            have HFN : Hid ((lo < i + 1 → d0 = true) ∧ (lo + 1 < i + 1 → d1 = true) ∧ (lo + 2 < i + 1 → d2 = true) ∧ (lo + 3 < i + 1 → true = true)) := ⟨fun h => HF.out.1 (by omega), fun h => HF.out.2.1 (by omega), fun h => HF.out.2.2.1 (by omega), fun _ => rfl⟩
            go_wp2
            go_roundw
            case rel => exact ⟨i + 1, d0, d1, d2, true, by omega, by go_num, ⟨HFN.out.1, HFN.out.2.1, HFN.out.2.2.1, fun _ => rfl⟩, HA.out, HS.out, HC.out, HD.out, HB.out, HZ.out⟩
            case measure => simp [intOf]; omega
          · skip
            have hil2 : ¬ (i : Int) < lo := by omega
            have HFN : Hid ((lo < i + 1 → d0 = true) ∧ (lo + 1 < i + 1 → d1 = true) ∧ (lo + 2 < i + 1 → d2 = true) ∧ (lo + 3 < i + 1 → true = true)) := ⟨fun h => HF.out.1 (by omega), fun h => HF.out.2.1 (by omega), fun h => HF.out.2.2.1 (by omega), fun _ => rfl⟩
            go_wp2
            go_roundw
            case rel => exact ⟨i + 1, d0, d1, d2, true, by omega, by go_num, ⟨HFN.out.1, HFN.out.2.1, HFN.out.2.2.1, fun _ => rfl⟩, HA.out, HS.out, HC.out, HD.out, HB.out, HZ.out⟩
            case measure => simp [intOf]; omega
    · obtain rfl : i = lo + 4 := by omega
      obtain rfl : d0 = true := HF.out.1 (by omega)
      obtain rfl : d1 = true := HF.out.2.1 (by omega)
      obtain rfl : d2 = true := HF.out.2.2.1 (by omega)
      obtain rfl : d3 = true := HF.out.2.2.2 (by omega)
      have s1 := str_run HC.out.rd (c := c2)
      have s2 := str_run HS.out.rd (c := c3)
      rw [HL1.out] at s2
      have hlt' : ((lo + 4 : Nat) : Int) = (lo : Int) + 4 := by omega
      go_wp2
      go_ret
      exact ⟨rfl, HB.out⟩

theorem order_law (a oa : Option Addr) (len cap lo ocap : Nat) (q t r f : Int) (xs zs : List Int) (w : World) (hp : PF q t r f) (hl : len ≤ 140737488351232) (hlc : len ≤ cap) (hr : Rd w w.heap.size a len xs) (hlo : lo ≤ 140737488351232)
    (hor : 0 < lo → ∃ b off, oa = some ⟨b, off, none⟩ ∧ b < w.heap.size ∧ ∀ i, i < lo → w.cell? ⟨b, off + i, none⟩ = some (.int .i64 (zs.getD i 0))) :
    Calls Try.prog 5 #[.slice a len cap, pch q t r f, .slice oa lo ocap] w (Rtp.RetB w true) := by
  have CC := fun W (hW : Below w.heap.size w W) => copy_any a len cap _ xs W hl (hr.below hW)
  by_cases h : hasD xs = true
  · have hb := hr.2.1
    have CA := fun W base A c (ho : Own W base A len c xs) => h ▸ apply_own A len c base q t r f xs W ho hp
    refine order_yes a oa len cap lo ocap q t r f xs (applyL xs q t r f) (fun d0 d1 d2 d3 => enc (stP (pQ xs) q t r f d0 d1 d2 d3)) w hlo (st_none hb h) (st_all h) ?_ CC ?_ (fun W base A c d1 d2 d3 ho => ?_) (fun W base A c d0 d2 d3 ho => ?_) (fun W base A c d0 d1 d3 ho => ?_) (fun W base A c d0 d1 d2 ho => ?_)
    · intro W hW i hi
      obtain ⟨ob, oo, e, hlt, hc⟩ := hor (by omega)
      exact ⟨ob, oo, _, e, (hW.cell (p := ⟨ob, oo + i, none⟩) hlt).trans (hc i hi)⟩
    · intro W base A c ho
      have := apply_own A len c base q t r f xs W ho hp
      rw [h] at this
      exact this
    · have := seq_own A len c base q _ W ho hp.q0 hp.q1
      rw [st_seq hb h hp d1 d2 d3, media, decide_eq_true (st_up hb h hp false d1 d2 d3).1] at this
      exact this
    · have := time_own A len c base t _ W ho hp.t0 hp.t1
      rw [st_time hb h hp d0 d2 d3, media, decide_eq_true (st_up hb h hp d0 false d2 d3).1] at this
      exact this
    · have := ssrc_own A len c base r _ W ho hp.s0 hp.s1
      rw [st_ssrc hb h hp d0 d1 d3, media, decide_eq_true (st_up hb h hp d0 d1 false d3).1] at this
      exact this
    · have := frame_own A len c base 0 f _ W ho hp.f0 hp.f1
      rw [st_frame hb h hp d0 d1 d2, (st_up hb h hp d0 d1 d2 false).2.2.2] at this
      exact this
  · have h' : hasD xs = false := Bool.eq_false_iff.2 h
    refine order_no a oa len cap lo ocap q t r f xs w (fun W hW => hr.below hW) CC ?_
    intro W base A c ho
    have := apply_own A len c base q t r f xs W ho hp
    rw [h', applyL, h', if_neg (by decide)] at this
    exact this
end Go.Proofs.Ytjmlimfheiogcaa.Pat
