/- The contract of rtcp.bytesOf. -/
import Derived.Test.YtjbgfaoancmknaaVg
namespace Go.Proofs.Ytjbgfaoancmknaa.Fbk
open Go.RowKit
set_option linter.unusedVariables false

theorem own_low {w : World} {base base' n c : Nat} {A : Option Addr} {xs : List Int} (h : Own w base A n c xs) (hb : base' ≤ base) : Own w base' A n c xs := by
  obtain ⟨h1, h2, h3, h4, h5⟩ := h
  refine ⟨h1, h2, h3, h4, ?_⟩
  rcases h5 with h | ⟨g, T, e, hg, r⟩
  · exact .inl h
  · exact .inr ⟨g, T, e, Nat.le_trans hb hg, r⟩
set_option maxHeartbeats 1000000 in
theorem bytes_203 (ssrc ntp time pks ocs : Int) (ba : Option Addr) (bn bc : Nat) (ga : Option Addr) (gn gc : Nat) (media : Int) (pa : Option Addr) (pn pc : Nat) (w : World) (ys : List Int)
    (CF : Hid (∀ W, Below w.heap.size w W → Calls Try.prog 29 #[itm ⟨203, ssrc, ntp, time, pks, ocs, ba, bn, bc, ga, gn, gc, media, pa, pn, pc⟩] W (NewRow W ys))) :
    Calls Try.prog 20 #[itm ⟨203, ssrc, ntp, time, pks, ocs, ba, bn, bc, ga, gn, gc, media, pa, pn, pc⟩] w (NewRow w ys) := by
  have HB := Lib.hid ((Below.refl w.heap.size w).alloc (Nat.le_refl _) (iobj ⟨203, ssrc, ntp, time, pks, ocs, ba, bn, bc, ga, gn, gc, media, pa, pn, pc⟩))
  have D := IBlk.new w ⟨203, ssrc, ntp, time, pks, ocs, ba, bn, bc, ga, gn, gc, media, pa, pn, pc⟩
  have c0 := D.c0
  have c1 := D.c1
  have c2 := D.c2
  have c3 := D.c3
  have c4 := D.c4
  have c5 := D.c5
  have c6 := D.c6
  have c7 := D.c7
  have c8 := D.c8
  have c9 := D.c9
  clear D
  go_enter Try.func20, Try.ntmps20
  go_wp2_with fail
  refine (CF.out _ HB.out).mono ?_
  rintro e w2 ⟨A, c, rfl, ho, hb2⟩
  have HB2 := Lib.hid (HB.out.trans (hb2.mono HB.out.size))
  have HO := Lib.hid (own_low ho HB.out.size)
  clear hb2 ho c0 c1 c2 c3 c4 c5 c6 c7 c8 c9
  go_wp2
  go_ret
  exact ⟨A, c, rfl, HO.out, HB2.out⟩
set_option maxHeartbeats 1000000 in
theorem bytes_205 (K : Int) (hK : K = 205 ∨ K = 206) (ssrc ntp time pks ocs : Int) (ba : Option Addr) (bn bc : Nat) (ga : Option Addr) (gn gc : Nat) (media : Int) (pa : Option Addr) (pn pc : Nat) (w : World) (ys : List Int)
    (CF : Hid (∀ W, Below w.heap.size w W → Calls Try.prog 30 #[itm ⟨K, ssrc, ntp, time, pks, ocs, ba, bn, bc, ga, gn, gc, media, pa, pn, pc⟩] W (NewRow W ys))) :
    Calls Try.prog 20 #[itm ⟨K, ssrc, ntp, time, pks, ocs, ba, bn, bc, ga, gn, gc, media, pa, pn, pc⟩] w (NewRow w ys) := by
  rcases hK with rfl | rfl
  case' inl =>
    have HB := Lib.hid ((Below.refl w.heap.size w).alloc (Nat.le_refl _) (iobj ⟨205, ssrc, ntp, time, pks, ocs, ba, bn, bc, ga, gn, gc, media, pa, pn, pc⟩))
    have D := IBlk.new w ⟨205, ssrc, ntp, time, pks, ocs, ba, bn, bc, ga, gn, gc, media, pa, pn, pc⟩
  case' inr =>
    have HB := Lib.hid ((Below.refl w.heap.size w).alloc (Nat.le_refl _) (iobj ⟨206, ssrc, ntp, time, pks, ocs, ba, bn, bc, ga, gn, gc, media, pa, pn, pc⟩))
    have D := IBlk.new w ⟨206, ssrc, ntp, time, pks, ocs, ba, bn, bc, ga, gn, gc, media, pa, pn, pc⟩
  all_goals
    have c0 := D.c0
    have c1 := D.c1
    have c2 := D.c2
    have c3 := D.c3
    have c4 := D.c4
    have c5 := D.c5
    have c6 := D.c6
    have c7 := D.c7
    have c8 := D.c8
    have c9 := D.c9
    clear D
    go_enter Try.func20, Try.ntmps20
    go_wp2_with fail
    refine (CF.out _ HB.out).mono ?_
    rintro e w2 ⟨A, c, rfl, ho, hb2⟩
    have HB2 := Lib.hid (HB.out.trans (hb2.mono HB.out.size))
    have HO := Lib.hid (own_low ho HB.out.size)
    clear hb2 ho c0 c1 c2 c3 c4 c5 c6 c7 c8 c9
    go_wp2
    go_ret
    exact ⟨A, c, rfl, HO.out, HB2.out⟩
set_option maxHeartbeats 1000000 in
theorem bytes_rest (v : IV) (ys : List Int) (n : Int) (w : World) (k2 : ¬ v.kind = 203) (k3 : ¬ v.kind = 205) (k4 : ¬ v.kind = 206) (CM : Hid (∀ W, Below w.heap.size w W → Calls Try.prog 31 #[itm v] W (RetR W ys n))) :
    Calls Try.prog 20 #[itm v] w (NewRow w ys) := by
  have b2 : (v.kind == 203) = false := by simpa using k2
  have b3 : (v.kind == 205) = false := by simpa using k3
  have b4 : (v.kind == 206) = false := by simpa using k4
  have HB := Lib.hid ((Below.refl w.heap.size w).alloc (Nat.le_refl _) (iobj v))
  have D := IBlk.new w v
  have c0 := D.c0
  have c1 := D.c1
  have c2 := D.c2
  have c3 := D.c3
  have c4 := D.c4
  have c5 := D.c5
  have c6 := D.c6
  have c7 := D.c7
  have c8 := D.c8
  have c9 := D.c9
  clear D
  go_enter Try.func20, Try.ntmps20
  go_wp2_with fail
  refine (CM.out _ HB.out).mono ?_
  rintro e w2 ⟨A, c, rfl, ho, hb2⟩
  have HB2 := Lib.hid (HB.out.trans (hb2.mono HB.out.size))
  have HO := Lib.hid (own_low ho HB.out.size)
  clear hb2 ho c0 c1 c2 c3 c4 c5 c6 c7 c8 c9
  go_wp2
  go_ret
  exact ⟨A, c, rfl, HO.out, HB2.out⟩
theorem enc_bye (i : Itm) (hk : i.kind = 203) (hM : MayI i) : encI i = ((be 1 (128 + (i.gone.length : Int)) ++ be 1 203) ++ be 2 (i.gone.length : Int)) ++ bes i.gone := by
  have hL := encI_203 i hk hM
  rcases hM with ⟨k, _⟩ | ⟨k, _⟩ | ⟨k, s, b, p, m, z, r1, r2⟩ | ⟨k, _⟩ | ⟨k, _⟩
  all_goals (try (exfalso; omega))
  have e : (bodyI i).length / 4 = i.gone.length := by rw [encI_length] at hL; omega
  rw [encI, e, be1 _ ⟨by omega, by omega⟩, be1 203 ⟨by omega, by omega⟩, be2 _ ⟨by omega, by omega⟩]
  simp [bodyI, cntI, hk, b, p, blosB, pairsB]
theorem enc_ask (i : Itm) (hk : i.kind = 205 ∨ i.kind = 206) (hM : MayI i) : encI i = ((((be 1 129 ++ be 1 i.kind) ++ be 2 ((2 + i.pairs.length : Nat) : Int)) ++ be 4 i.ssrc) ++ be 4 i.media) ++ pairsB i.pairs := by
  have hL := encI_205 i hk hM
  have e : (bodyI i).length / 4 = 2 + i.pairs.length := by rw [encI_length] at hL; omega
  rcases hM with ⟨k, _⟩ | ⟨k, _⟩ | ⟨k, _⟩ | ⟨k, s, b, g, r1, r2⟩ | ⟨k, s, b, g, p⟩
  all_goals (try (exfalso; omega))
  · rw [encI, e, be1 129 ⟨by omega, by omega⟩, be1 i.kind ⟨by omega, by omega⟩, be2 _ ⟨by omega, by omega⟩]
    simp [bodyI, cntI, k, b, g, bes, blosB]
  · rw [encI, e, be1 129 ⟨by omega, by omega⟩, be1 i.kind ⟨by omega, by omega⟩, be2 _ ⟨by omega, by rw [p]; simp⟩]
    simp [bodyI, cntI, k, b, g, bes, blosB]
theorem rc_bytes (w : World) (i : Itm) (l : ILoc) (B : Nat) (ho : i.Ok) (h : IRd w B i l) (hB : B ≤ w.heap.size) (hM : MayI i) : Calls Try.prog 20 #[itm (ivOf i l)] w (NewRow w (encI i)) := by
  have CS : ∀ W, Below w.heap.size w W → Calls Try.prog 25 #[itm (ivOf i l)] W (RetI W (encI i).length) := fun W hW => rc_size W i l B ho (h.below (hW.mono hB)) (Nat.le_trans hB hW.size) hM
  have hM' := hM
  by_cases k2 : i.kind = 203
  · rcases hM with ⟨k, _⟩ | ⟨k, _⟩ | ⟨k, s, b, p, m, z, r1, r2⟩ | ⟨k, _⟩ | ⟨k, _⟩
    all_goals (try (exfalso; omega))
    have e := encI_203 i k2 hM'
    have e2 := enc_bye i k2 hM'
    have CF : ∀ W, Below w.heap.size w W → Calls Try.prog 29 #[itm (ivOf i l)] W (NewRow W (encI i)) := fun W hW =>
      farewell_any (ivOf i l) B i.gone.length (encI i).length i.gone W k2 rfl r1 r2 (by rw [e]; omega) (h.below (hW.mono hB)).gone (Nat.le_trans hB hW.size) ho.gone (fun W' hW' => CS W' (hW.trans (hW'.mono hW.size))) _ e2
    rw [ivOf, k2] at CF ⊢
    exact bytes_203 i.ssrc i.ntp i.time i.pks i.ocs l.ba i.blocks.length l.bc l.ga i.gone.length l.gc i.media l.pa i.pairs.length l.pc w _ CF
  by_cases k3 : i.kind = 205 ∨ i.kind = 206
  · have hp : i.pairs.length ≤ 16 := by
      rcases hM with ⟨k, _⟩ | ⟨k, _⟩ | ⟨k, _⟩ | ⟨k, s, b, g, r1, r2⟩ | ⟨k, s, b, g, p⟩
      all_goals (try (exfalso; omega))
      · exact r2
      · rw [p]; simp
    have e := encI_205 i k3 hM'
    have e2 := enc_ask i k3 hM'
    have CF : ∀ W, Below w.heap.size w W → Calls Try.prog 30 #[itm (ivOf i l)] W (NewRow W (encI i)) := fun W hW =>
      question_any (ivOf i l) B i.pairs.length (encI i).length i.pairs W k3 rfl hp (by rw [e]; omega) (h.below (hW.mono hB)).pairs (Nat.le_trans hB hW.size) ho.pairs ho.ssrc ho.media (fun W' hW' => CS W' (hW.trans (hW'.mono hW.size))) _ e2
    exact bytes_205 i.kind k3 i.ssrc i.ntp i.time i.pks i.ocs l.ba i.blocks.length l.bc l.ga i.gone.length l.gc i.media l.pa i.pairs.length l.pc w _ CF
  have e : putRB i = encI i := by
    have hr : isRep i.kind = true := by
      rcases hM with ⟨k, _⟩ | ⟨k, _⟩ | ⟨k, _⟩ | ⟨k, _⟩ | ⟨k, _⟩ <;> simp [isRep, k] <;> omega
    rw [putRB, putRE, hr, (mayI_iff i).2 hM]; rfl
  rw [← e]
  exact bytes_rest (ivOf i l) (putRB i) (putRE i) w k2 (fun h => k3 (.inl h)) (fun h => k3 (.inr h)) (fun W hW => put_itm W i l B ho (h.below (hW.mono hB)) (Nat.le_trans hB hW.size))
end Go.Proofs.Ytjbgfaoancmknaa.Fbk
