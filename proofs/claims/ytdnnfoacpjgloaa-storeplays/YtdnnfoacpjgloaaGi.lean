/- The store carried through a walk; the law's own sample, shown. · The contract of the laws' shown. -/
import Derived.Test.YtdnnfoacpjgloaaGf
set_option maxRecDepth 100000
namespace Go.Proofs.Ytdnnfoacpjgloaa.Stv
open Go.RowKit
open Arn (Slt Ar OkS Upd hnV hnO HBlk refsV callE keepL dropL freeN liveB newL)
open Pat (hasD applyL pch QBlk PF)
set_option linter.unusedVariables false

/-- The store as it stands in the course of a walk that began at w0. -/
structure Hold (w0 w : World) (b ba ga g : Nat) (L : List Slt) (D : List (List Int)) : Prop where
  st : Sto w b ba ga g L D
  bel : Below w0.heap.size w0 w
  bs : w0.heap.size ≤ b ∧ w0.heap.size ≤ ba ∧ w0.heap.size ≤ ga ∧ w0.heap.size ≤ g
section
variable {w0 w w' : World} {b ba ga g r : Nat} {L : List Slt} {D : List (List Int)} {s gn M : Int} {B n c : Nat} {a : Option Addr} {xs : List Int}
theorem Hold.more (h : Hold w0 w b ba ga g L D) (hb : Below w.heap.size w w') : Hold w0 w' b ba ga g L D := ⟨h.st.bel hb, h.bel.trans (hb.mono h.bel.size), h.bs⟩
theorem Hold.of_upd (h : Hold w0 w b ba ga g L D) {L' : List Slt} {D' : List (List Int)} (hs : Sto w' b ba ga g L' D') (hu : Upd (fun k => k = ga ∨ k = g) w w') : Hold w0 w' b ba ga g L' D' :=
  ⟨hs, h.bel.trans (hu.below h.bel.size (fun k hk => by have := h.bs; omega)), h.bs⟩
theorem Hold.hnd (h : Hold w0 w b ba ga g L D) (hb : HBlk w r s gn) (hu : Upd (fun k => k = ga ∨ k = g) w w') : HBlk w' r s gn := hb.upd hu (by
  rintro (rfl | rfl)
  · have := Eq.trans (Eq.symm h.st.ar.row) hb
    simp [Arn.rowO] at this
  · obtain ⟨cs, hk, -⟩ := h.st.rm
    have := hk.symm.trans hb
    simp at this)
theorem Hold.own (h : Hold w0 w b ba ga g L D) {base : Nat} (ho : Own w base a n c xs) (hu : Upd (fun k => k = ga ∨ k = g) w w') : Own w' base a n c xs := own_upd ho hu (by
  rintro k cs fz (rfl | rfl) hb
  · have := Eq.trans (Eq.symm h.st.ar.row) hb
    simp [Arn.rowO] at this
  · obtain ⟨cs, hk, -⟩ := h.st.rm
    have := hk.symm.trans hb
    simp at this)
theorem Hold.pch (h : Hold w0 w b ba ga g L D) {q t u f : Int} (hb : QBlk w r q t u f) (hu : Upd (fun k => k = ga ∨ k = g) w w') : QBlk w' r q t u f := hu.keep hb (by
  rintro (rfl | rfl)
  · have := Eq.trans (Eq.symm h.st.ar.row) hb
    simp [Arn.rowO] at this
  · obtain ⟨cs, hk, -⟩ := h.st.rm
    have := hk.symm.trans hb
    simp at this)
/-- Bytes that came in, or that the call made, may be put. -/
theorem Hold.arg (h : Hold w0 w b ba ga g L D) (hr : Rd w0 w0.heap.size a n xs) : ∀ W, Upd (· = ga) w W → Rd W W.heap.size a n xs := fun W hu =>
  ((hr.below h.bel).below (hu.below h.bel.size (fun k hk => by have := h.bs; omega))).more (Nat.le_trans h.bel.size hu.size)
theorem Hold.mine (h : Hold w0 w b ba ga g L D) {base : Nat} (ho : Own w base a n c xs) : ∀ W, Upd (· = ga) w W → Rd W W.heap.size a n xs := fun W hu => (h.own ho (hu.mono fun k hk => .inl hk)).rd
theorem Hold.put (h : Hold w0 w b ba ga g L D) (hL : L.length ≤ 1024) (hx : xs.length = n) (hr : ∀ W, Upd (· = ga) w W → Rd W W.heap.size a n xs) :
    Calls Try.prog 11 #[.pointer (some ⟨b, 0, none⟩), .slice a n c] w fun e w' => e = .returned (.tuple #[hnV (putH L n).1 (putH L n).2, .int .i64 (putE L n)]) ∧ Hold w0 w' b ba ga g (putL L n) (putD L D xs) ∧ Upd (fun k => k = ga ∨ k = g) w w' := by
  refine (put_st w b ba ga g n c a L D xs h.st hL hx hr).mono ?_
  rintro e w' ⟨rfl, hs, hu⟩
  exact ⟨rfl, h.of_upd hs hu, hu⟩
theorem Hold.patch (h : Hold w0 w b ba ga g L D) {q t u f : Int} (hL : L.length ≤ 1024) (hO : OkS M L) (hp : PF q t u f) :
    Calls Try.prog 17 #[.pointer (some ⟨b, 0, none⟩), hnV s gn, Pat.pch q t u f] w fun e w' => e = .returned (.int .i64 (patchE L D s gn)) ∧ Hold w0 w' b ba ga g L (patchD L D s gn q t u f) ∧ Upd (fun k => k = ga ∨ k = g) w w' := by
  refine (patch_st w b ba ga g L D s gn M q t u f h.st hL hO hp).mono ?_
  rintro e w' ⟨rfl, hs, hu⟩
  have hu' := hu.mono (T := fun k => k = ga ∨ k = g) fun k hk => .inr hk
  exact ⟨rfl, h.of_upd hs hu', hu'⟩
theorem Hold.keep (h : Hold w0 w b ba ga g L D) (hL : L.length ≤ 1024) (hO : OkS M L) (hM : M ≤ 4611686018427387904) :
    Calls Try.prog 13 #[.pointer (some ⟨b, 0, none⟩), hnV s gn] w fun e w' => e = .returned (.int .i64 (callE L s gn)) ∧ Hold w0 w' b ba ga g (keepL L s gn) D ∧ Upd (fun k => k = ga ∨ k = g) w w' := by
  refine (keep_st w b ba ga g L D s gn M h.st hL hO hM).mono ?_
  rintro e w' ⟨rfl, hs, hu⟩
  have hu' := hu.mono (T := fun k => k = ga ∨ k = g) fun k hk => .inl hk
  exact ⟨rfl, h.of_upd hs hu', hu'⟩
theorem Hold.drop (h : Hold w0 w b ba ga g L D) (hL : L.length ≤ 1024) (hO : OkS M L) (hM : M ≤ 4611686018427387904) :
    Calls Try.prog 15 #[.pointer (some ⟨b, 0, none⟩), hnV s gn] w fun e w' => e = .returned (.int .i64 (callE L s gn)) ∧ Hold w0 w' b ba ga g (dropL L s gn) D ∧ Upd (fun k => k = ga ∨ k = g) w w' := by
  refine (drop_st w b ba ga g L D s gn M h.st hL hO hM).mono ?_
  rintro e w' ⟨rfl, hs, hu⟩
  have hu' := hu.mono (T := fun k => k = ga ∨ k = g) fun k hk => .inl hk
  exact ⟨rfl, h.of_upd hs hu', hu'⟩
end
theorem new_hold (w0 w : World) (n : Int) (hb : Below w0.heap.size w0 w) (hw1 : -9223372036854775808 ≤ n) (hw2 : n ≤ 9223372036854775807) : Calls Try.prog 8 #[.int .i64 n] w fun e w' => ∃ b ba ga g, e = .returned (.pointer (some ⟨b, 0, none⟩)) ∧ Hold w0 w' b ba ga g (newL n) (List.replicate (newL n).length []) := by
  refine (new_st w n hw1 hw2).mono ?_
  rintro e w' ⟨b, ba, ga, g, rfl, hs, h1, h2, h3, h4, hB⟩
  have := hb.size
  exact ⟨b, ba, ga, g, rfl, hs, hb.trans (hB.mono hb.size), by omega, by omega, by omega, by omega⟩

def s0 : Pkt := ⟨false, 96, 0, 0, 0, [], false, 0, [], [0, 90, 0, 0], 0⟩
def sB : List Int := [128, 96, 0, 0, 0, 0, 0, 0, 0, 0, 0, 0, 0, 90, 0, 0]
def sP : List Int := [128, 96, 1, 2, 0, 0, 0, 0, 0, 0, 0, 0, 0, 90, 0, 0]
theorem s0_ok : s0.Ok := by
  refine ⟨by decide, by decide, by decide, by decide, by decide, by decide, Words.nil, by decide, by decide, Bytes.nil, ?_⟩
  intro x hx
  simp [s0] at hx
  omega
theorem s0_put : putB s0 = sB := by decide +kernel
theorem s0_err : Go.Proofs.Ytdnnfoacpjgloaa.putE s0 = 0 := by decide +kernel
theorem sB_has : hasD sB = true := by decide +kernel
theorem sB_app : applyL sB 258 0 0 0 = sP := by decide +kernel

set_option maxHeartbeats 4000000 in
theorem sample_any (w : World) : Calls Try.prog 28 #[] w (NewRow w sB) := by
  have CP : Hid (∀ W A c, Own W w.heap.size A 4 c [0, 90, 0, 0] → Calls Try.prog 45 #[.agg #[.bool false, .int .i64 96, .int .u16 0, .int .u32 0, .int .u32 0, .slice none 0 0, .bool false, .int .u16 0, .slice none 0 0, .slice A 4 c, .int .i64 0]] W (Rtp.RetR W sB 0)) := fun W A c ho => by
    have := Rtp.put_pkt W s0 ⟨none, 0, none, 0, A, c⟩ s0_ok (B := W.heap.size) ⟨Wd.none_ _ rfl, Rd.none_ _ rfl, ho.rd, by decide, by decide, by decide, Nat.le_refl _, Nat.le_refl _, ho.2.2.1⟩ (Nat.le_refl _)
    rw [s0_put, s0_err] at this
    exact this
  go_enter Try.func28, Try.ntmps28
  go_wp2_with fail
  refine (put_yes 0 false false 0 w (by decide) (by decide) (by decide) (by decide)).mono ?_
  rw [show putV 0 false false 0 = [0, 90, 0, 0] from by decide]
  rintro e w1 ⟨g, rfl, hg, hk1, hb1⟩
  have O1 : Own w1 w.heap.size (some ⟨g, 0, none⟩) 4 4 [0, 90, 0, 0] := Own.of_blk hk1 hg (by intro x hx; simp at hx; omega) rfl (by decide)
  have H1 := Lib.hid hb1
  have HO1 := Lib.hid O1
  clear hk1 hb1 O1
  go_wp2_with fail
  refine (CP.out w1 _ 4 HO1.out).mono ?_
  rintro e w4 ⟨A4, c4, rfl, ho4, hb4⟩
  have H4 : Hid (Own w4 w.heap.size A4 sB.length c4 sB ∧ Below w.heap.size w w4) := ⟨ho4.lower H1.out.size, H1.out.trans (hb4.mono H1.out.size)⟩
  clear ho4 hb4 CP
  go_wp2
  go_ret
  exact ⟨A4, c4, rfl, H4.out.1, H4.out.2⟩
end Go.Proofs.Ytdnnfoacpjgloaa.Stv

namespace Go.Proofs.Ytdnnfoacpjgloaa.Stv
open Go.RowKit
open Arn (Slt Ar OkS Upd hnV hnO HBlk refsV callE keepL dropL freeN liveB newL)
open Pat (hasD applyL pch QBlk PF)
set_option linter.unusedVariables false

theorem okS_1 (a b : Int) (h : (0 ≤ a ∧ a < 4294967296) ∧ (0 ≤ b ∧ b ≤ 9)) : OkS 9 [(a, b)] := fun x hx => by
  simp only [List.mem_cons, List.not_mem_nil, or_false] at hx
  subst hx; exact ⟨h.1, h.2.1, h.2.2⟩
theorem sP_len : sP.length = 16 := by decide
set_option maxHeartbeats 8000000 in
theorem shown_any (w : World) : Calls Try.prog 7 #[] w fun e w' => e = .returned (.bool true) ∧ Below w.heap.size w w' := by
  have CN : Hid (Calls Try.prog 8 #[.int .i64 1] w fun e w' => ∃ b ba ga g, e = .returned (.pointer (some ⟨b, 0, none⟩)) ∧ Hold w w' b ba ga g [(1, 0)] [[]]) := new_hold w w 1 (Below.refl _ _) (by decide) (by decide)
  have CU : Hid (∀ W b ba ga g A c, Hold w W b ba ga g [(1, 0)] [[]] → Own W w.heap.size A 16 c sB → Calls Try.prog 11 #[.pointer (some ⟨b, 0, none⟩), .slice A 16 c] W fun e w' => e = .returned (.tuple #[hnV 0 1, .int .i64 0]) ∧ Hold w w' b ba ga g [(1, 1)] [sB] ∧ Upd (fun k => k = ga ∨ k = g) W w') := fun W b ba ga g A c h ho => h.put (by decide) (by decide) (h.mine ho)
  have CP : Hid (∀ W b ba ga g, Hold w W b ba ga g [(1, 1)] [sB] → Calls Try.prog 17 #[.pointer (some ⟨b, 0, none⟩), hnV 0 1, pch 258 0 0 0] W fun e w' => e = .returned (.int .i64 0) ∧ Hold w w' b ba ga g [(1, 1)] [sP] ∧ Upd (fun k => k = ga ∨ k = g) W w') := fun W b ba ga g h => by
    have := h.patch (s := 0) (gn := 1) (q := 258) (t := 0) (u := 0) (f := 0) (by decide) (okS_1 1 1 (by decide)) ⟨by decide, by decide, by decide, by decide, by decide, by decide, by decide, by decide⟩
    have e := patch_yes (L := [(1, 1)]) (D := [sB]) (k := 0) (g := 1) 258 0 0 0 rfl (by decide) rfl rfl sB_has
    rw [show ((0 : Nat) : Int) = 0 from rfl] at e
    rw [e.1, e.2, sB_app] at this
    exact this
  have CB : Hid (∀ W b ba ga g, Hold w W b ba ga g [(1, 1)] [sP] → Calls Try.prog 19 #[.pointer (some ⟨b, 0, none⟩), hnV 0 1] W (Rtp.RetR W sP 0)) := fun W b ba ga g h => bytes_st W b ba ga g _ _ 0 1 9 h.st (by decide) (okS_1 1 1 (by decide))
  have CK : Hid (∀ W b ba ga g, Hold w W b ba ga g [(1, 1)] [sP] → Calls Try.prog 13 #[.pointer (some ⟨b, 0, none⟩), hnV 0 1] W fun e w' => e = .returned (.int .i64 0) ∧ Hold w w' b ba ga g [(1, 2)] [sP] ∧ Upd (fun k => k = ga ∨ k = g) W w') := fun W b ba ga g h => h.keep (s := 0) (gn := 1) (by decide) (okS_1 1 1 (by decide)) (by decide)
  have CP2 : Hid (∀ W b ba ga g, Hold w W b ba ga g [(1, 2)] [sP] → Calls Try.prog 17 #[.pointer (some ⟨b, 0, none⟩), hnV 0 1, pch 1 0 0 0] W fun e w' => e = .returned (.int .i64 11) ∧ Hold w w' b ba ga g [(1, 2)] [sP] ∧ Upd (fun k => k = ga ∨ k = g) W w') := fun W b ba ga g h => by
    have := h.patch (s := 0) (gn := 1) (q := 1) (t := 0) (u := 0) (f := 0) (by decide) (okS_1 1 2 (by decide)) ⟨by decide, by decide, by decide, by decide, by decide, by decide, by decide, by decide⟩
    have e := patch_many (L := [(1, 2)]) (D := [sP]) (k := 0) (g := 1) 1 0 0 0 rfl (by decide) (by decide)
    rw [show ((0 : Nat) : Int) = 0 from rfl] at e
    rw [e.1, e.2] at this
    exact this
  have CU2 : Hid (∀ W b ba ga g, Hold w W b ba ga g [(1, 2)] [sP] → Calls Try.prog 11 #[.pointer (some ⟨b, 0, none⟩), .slice none 0 0] W fun e w' => e = .returned (.tuple #[hnV 0 0, .int .i64 6]) ∧ Hold w w' b ba ga g [(1, 2)] [sP] ∧ Upd (fun k => k = ga ∨ k = g) W w') := fun W b ba ga g h => h.put (by decide) rfl (fun W _ => Rd.none_ _ rfl)
  have CR : Hid (∀ W b ba ga g, Hold w W b ba ga g [(1, 2)] [sP] → Calls Try.prog 21 #[.pointer (some ⟨b, 0, none⟩), hnV 0 1] W fun e w' => e = .returned (.int .i64 2) ∧ Below W.heap.size W w') := fun W b ba ga g h => refs_st W b ba ga g _ _ 0 1 9 h.st (by decide) (okS_1 1 2 (by decide))
  have CF : Hid (∀ W b ba ga g, Hold w W b ba ga g [(1, 2)] [sP] → Calls Try.prog 23 #[.pointer (some ⟨b, 0, none⟩)] W fun e w' => e = .returned (.int .i64 0) ∧ Below W.heap.size W w') := fun W b ba ga g h => free_st W b ba ga g _ _ h.st (by decide)
  go_enter Try.func7, Try.ntmps7
  go_wp2_with fail
  refine CN.out.mono ?_
  rintro e w1 ⟨b, ba, ga, g, rfl, h⟩
  have H1 := Lib.hid h
  clear h CN
  go_wp2_with fail
  refine (sample_any w1).mono ?_
  rintro e w2 ⟨A, c, rfl, ho, hb⟩
  have HO2 : Hid (Own w2 w.heap.size A 16 c sB) := ho.lower H1.out.bel.size
  have H2 := Lib.hid (H1.out.more hb)
  rw [show sB.length = 16 from rfl]
  clear ho hb H1
  go_wp2_with fail
  refine (CU.out w2 b ba ga g A c H2.out HO2.out).mono ?_
  rintro e w3 ⟨rfl, h, hu⟩
  have hb := (Below.refl w3.heap.size w3).alloc (Nat.le_refl _) (hnO 0 1)
  have H3 := Lib.hid (h.more hb)
  have HH3 := Lib.hid (HBlk.new w3 0 1)
  obtain ⟨w4, hw4⟩ : ∃ w4, w3.alloc (hnO 0 1) = w4 := ⟨_, rfl⟩
  obtain ⟨r, hr⟩ : ∃ r, w3.heap.size = r := ⟨_, rfl⟩
  rw [hw4] at H3 HH3
  rw [hr] at HH3
  clear h hu hb HO2 H2 CU
  have c0 := HH3.out.c0
  have c1 := HH3.out.c1
  go_wp2_with fail
  refine (CP.out w4 b ba ga g H3.out).mono ?_
  rintro e w5 ⟨rfl, h, hu⟩
  have H5 := Lib.hid h
  have HH5 := Lib.hid (H3.out.hnd HH3.out hu)
  clear hw4 c0 c1 h hu H3 HH3 CP
  have c0 := HH5.out.c0
  have c1 := HH5.out.c1
  go_wp2_with fail
  refine (CB.out w5 b ba ga g H5.out).mono ?_
  rintro e w6 ⟨A6, c6, rfl, ho, hb⟩
  have H6 := Lib.hid (H5.out.more hb)
  have HH6 := Lib.hid (HH5.out.bel hb HH5.out.lt)
  have HO6 := Lib.hid ho
  rw [sP_len] at HO6 ⊢
  clear c0 c1 ho hb H5 HH5 CB
  have c0 := HH6.out.c0
  have c1 := HH6.out.c1
  go_wp2_with fail
  refine (CK.out w6 b ba ga g H6.out).mono ?_
  rintro e w7 ⟨rfl, h, hu⟩
  have H7 := Lib.hid h
  have HH7 := Lib.hid (H6.out.hnd HH6.out hu)
  have HO7 := Lib.hid (H6.out.own HO6.out hu)
  clear c0 c1 h hu H6 HH6 HO6 CK
  have c0 := HH7.out.c0
  have c1 := HH7.out.c1
  go_wp2_with fail
  refine (CP2.out w7 b ba ga g H7.out).mono ?_
  rintro e w8 ⟨rfl, h, hu⟩
  have H8 := Lib.hid h
  have HH8 := Lib.hid (H7.out.hnd HH7.out hu)
  have HO8 := Lib.hid (H7.out.own HO7.out hu)
  clear c0 c1 h hu H7 HH7 HO7 CP2
  go_wp2_with fail
  refine (CU2.out w8 b ba ga g H8.out).mono ?_
  rintro e w9 ⟨rfl, h, hu⟩
  have hb := (Below.refl w9.heap.size w9).alloc (Nat.le_refl _) (hnO 0 0)
  have H9 := Lib.hid (h.more hb)
  have HH9 := Lib.hid ((H8.out.hnd HH8.out hu).bel hb (H8.out.hnd HH8.out hu).lt)
  have HO9 := Lib.hid ((H8.out.own HO8.out hu).below hb (Nat.le_refl _))
  have hne : w9.heap.size ≠ r := by have := (H8.out.hnd HH8.out hu).lt; omega
  clear h hu hb H8 HH8 HO8 CU2
  have c0 := HH9.out.c0
  have c1 := HH9.out.c1
  obtain ⟨bb, off, rfl, hbb, hc⟩ := HO9.out.rd.2.2 (by decide)
  have d2 := hc 2 (by decide)
  have d3 := hc 3 (by decide)
  rw [show sP.getD 2 0 = 1 from rfl] at d2
  rw [show sP.getD 3 0 = 2 from rfl] at d3
  clear hc
  go_wp2_with fail
  refine (CR.out _ b ba ga g H9.out).mono ?_
  rintro e w10 ⟨rfl, hb⟩
  have H10 := Lib.hid (H9.out.more hb)
  clear c0 c1 d2 d3 hb H9 HH9 HO9 CR
  go_wp2_with fail
  refine (CF.out _ b ba ga g H10.out).mono ?_
  rintro e w11 ⟨rfl, hb⟩
  have H11 := Lib.hid (H10.out.more hb)
  clear hb H10 CF
  go_wp2_with fail
  go_ret
  exact ⟨rfl, H11.out.bel⟩
end Go.Proofs.Ytdnnfoacpjgloaa.Stv
