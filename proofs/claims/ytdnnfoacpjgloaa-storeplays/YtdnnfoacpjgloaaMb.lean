/- The contract of the reference's Put; the walk of RtpAll. -/
import Derived.Test.YtdnnfoacpjgloaaMa
import Derived.Test.YtdnnfoacpjgloaaKt
set_option maxRecDepth 100000
namespace Go.Proofs.Ytdnnfoacpjgloaa.Rtp
open Go.RowKit
set_option linter.unusedVariables false

set_option maxHeartbeats 1000000 in
theorem rput_none (v : PV) (w : World) (CM : Hid (∀ W, Calls Try.prog 60 #[pkt v] W (RetB W false))) : Calls Try.prog 44 #[pkt v] w (RetR w [] 1) := by
  have hb : Below w.heap.size w (w.alloc (pobj v)) := (Below.refl _ _).alloc (Nat.le_refl _) _
  go_enter Try.func44, Try.ntmps44
  go_wp2_with fail
  refine (CM.out _).mono ?_
  rintro e w1 ⟨rfl, hb1⟩
  go_wp2
  go_ret2
  exact ⟨none, 0, rfl, Own.nil _ _, hb.trans (hb1.mono hb.size)⟩
set_option maxHeartbeats 1000000 in
theorem rput_more (v : PV) (n : Int) (w : World) (hn : 512 < n) (CM : Hid (∀ W, Calls Try.prog 60 #[pkt v] W (RetB W true))) (CS : Hid (∀ W, Calls Try.prog 61 #[pkt v] W (RetI W n))) :
    Calls Try.prog 44 #[pkt v] w (RetR w [] 5) := by
  have hb : Below w.heap.size w (w.alloc (pobj v)) := (Below.refl _ _).alloc (Nat.le_refl _) _
  go_enter Try.func44, Try.ntmps44
  go_wp2_with fail
  refine (CM.out _).mono ?_
  rintro e w1 ⟨rfl, hb1⟩
  have D1 : PBlk w1 w.heap.size v := (PBlk.new w v).below hb1 (by simp)
  have B1 := Lib.hid (hb.trans (hb1.mono hb.size))
  obtain ⟨d0, d1, d2, d3, d4, d5, d6, d7, d8, d9, d10⟩ := D1.cells
  clear hb hb1 CM
  go_wp2_with fail
  clear d0 d1 d2 d3 d4 d5 d6 d7 d8 d9 d10
  refine (CS.out _).mono ?_
  rintro e w2 ⟨rfl, hb2⟩
  go_wp2
  go_ret2
  exact ⟨none, 0, rfl, Own.nil _ _, B1.out.trans (hb2.mono B1.out.size)⟩

theorem rput_pkt (w : World) (B : Nat) (p : Pkt) (l : Loc) (ho : p.Ok) (hr : PRd w B p l) (hB : B ≤ w.heap.size) : Calls Try.prog 44 #[pkt (pvOf p l)] w (RetR w (putB p) (putE p)) := by
  have hr := hr.more hB
  have CM := fun W => rmay_pkt W p l hr.en
  have CS := fun W => rsize_pkt W p l hr.en hr.pn
  unfold putB putE
  unfold sizeP at CS
  cases hm : mayPB p
  · rw [hm] at CM
    exact rput_none (pvOf p l) w CM
  · rw [hm] at CM
    rw [hm, if_pos rfl] at CS
    rw [if_pos rfl, if_pos rfl]
    have hmay := (mayPB_iff p).1 hm
    by_cases h512 : 512 < lenP p
    · rw [if_pos h512, if_pos h512]
      exact rput_more (pvOf p l) (lenP p) w h512 CM CS
    · rw [if_neg h512, if_neg h512]
      have hle := lenP_eq p hmay
      obtain ⟨N, hN⟩ : ∃ N : Nat, (N : Int) = lenP p := ⟨(enc p).length, hle⟩
      rw [← hN] at CS
      have hel := enc_length p hmay
      have hl12 := headB_length p
      have hxl := extB_length p
      have hp0 := hmay.pad0
      have hp1 := hmay.pad1
      have hty0 := hmay.ty0
      have hty1 := hmay.ty1
      have hcn := hmay.csrc
      have hen : p.ext.length ≤ 512 := by
        cases hx : p.he
        · rw [(hmay.he hx).1]; simp
        · rw [hx, if_pos rfl] at hxl; omega
      have fb := first_bd hmay
      have sb := second_bd hmay
      have hfin : enc p = ([first p, second p] ++ be 2 p.seq ++ be 4 p.time ++ be 4 p.ssrc ++ bes p.csrc) ++ extB p ++ p.pay ++ padB p.pad := by simp [enc, headB]
      have hfst : first p = 128 + (if 0 < p.pad then 32 else 0) + (if p.he then 16 else 0) + p.csrc.length := rfl
      have hsnd : second p = (if p.mrk then 128 else 0) + p.ty := rfl
      by_cases hp : 0 < p.pad <;> cases hx : p.he <;> cases hk : p.mrk
      all_goals
        rw [hx] at hfst
        rw [hk] at hsnd
      · rw [if_pos hp] at hfst
        exact rput_100 (pvOf p l) N 0 p.csrc p.ext p.pay (first p) (second p) w (by rw [hfst]; show 128 + (p.csrc.length : Int) + 32 = _; simp; omega) (by rw [hsnd]; show p.ty = _; simp) (by omega) (by omega) hcn ⟨hty0, hty1⟩ ⟨hp0, hp1⟩ ⟨ho.seq0, ho.seq1⟩ ⟨ho.time0, ho.time1⟩ ⟨ho.ssrc0, ho.ssrc1⟩ ⟨ho.prof0, ho.prof1⟩ hen (show p.pay.length ≤ 512 by omega) hp hx hk (by omega) CM CS hr.csrc hr.ext hr.pay _ (by rw [hfin, extB, hx, padB, if_pos hp]; simp [pvOf])
      · rw [if_pos hp] at hfst
        exact rput_101 (pvOf p l) N 0 p.csrc p.ext p.pay (first p) (second p) w (by rw [hfst]; show 128 + (p.csrc.length : Int) + 32 = _; simp; omega) (by rw [hsnd]; show p.ty + 128 = _; simp; omega) (by omega) (by omega) hcn ⟨hty0, hty1⟩ ⟨hp0, hp1⟩ ⟨ho.seq0, ho.seq1⟩ ⟨ho.time0, ho.time1⟩ ⟨ho.ssrc0, ho.ssrc1⟩ ⟨ho.prof0, ho.prof1⟩ hen (show p.pay.length ≤ 512 by omega) hp hx hk (by omega) CM CS hr.csrc hr.ext hr.pay _ (by rw [hfin, extB, hx, padB, if_pos hp]; simp [pvOf])
      · rw [if_pos hp] at hfst
        exact rput_110 (pvOf p l) N 0 p.csrc p.ext p.pay (first p) (second p) w (by rw [hfst]; show 128 + (p.csrc.length : Int) + 32 + 16 = _; simp; omega) (by rw [hsnd]; show p.ty = _; simp) (by omega) (by omega) hcn ⟨hty0, hty1⟩ ⟨hp0, hp1⟩ ⟨ho.seq0, ho.seq1⟩ ⟨ho.time0, ho.time1⟩ ⟨ho.ssrc0, ho.ssrc1⟩ ⟨ho.prof0, ho.prof1⟩ hen (show p.pay.length ≤ 512 by omega) hp hx hk (by omega) CM CS hr.csrc hr.ext hr.pay _ (by rw [hfin, extB, hx, padB, if_pos hp]; simp [pvOf])
      · rw [if_pos hp] at hfst
        exact rput_111 (pvOf p l) N 0 p.csrc p.ext p.pay (first p) (second p) w (by rw [hfst]; show 128 + (p.csrc.length : Int) + 32 + 16 = _; simp; omega) (by rw [hsnd]; show p.ty + 128 = _; simp; omega) (by omega) (by omega) hcn ⟨hty0, hty1⟩ ⟨hp0, hp1⟩ ⟨ho.seq0, ho.seq1⟩ ⟨ho.time0, ho.time1⟩ ⟨ho.ssrc0, ho.ssrc1⟩ ⟨ho.prof0, ho.prof1⟩ hen (show p.pay.length ≤ 512 by omega) hp hx hk (by omega) CM CS hr.csrc hr.ext hr.pay _ (by rw [hfin, extB, hx, padB, if_pos hp]; simp [pvOf])
      · rw [if_neg hp] at hfst
        exact rput_000 (pvOf p l) N 0 p.csrc p.ext p.pay (first p) (second p) w (by rw [hfst]; show 128 + (p.csrc.length : Int) = _; simp) (by rw [hsnd]; show p.ty = _; simp) (by omega) (by omega) hcn ⟨hty0, hty1⟩ ⟨hp0, hp1⟩ ⟨ho.seq0, ho.seq1⟩ ⟨ho.time0, ho.time1⟩ ⟨ho.ssrc0, ho.ssrc1⟩ ⟨ho.prof0, ho.prof1⟩ hen (show p.pay.length ≤ 512 by omega) hp hx hk (by omega) CM CS hr.csrc hr.ext hr.pay _ (by rw [hfin, extB, hx, padB, if_neg hp]; simp [pvOf])
      · rw [if_neg hp] at hfst
        exact rput_001 (pvOf p l) N 0 p.csrc p.ext p.pay (first p) (second p) w (by rw [hfst]; show 128 + (p.csrc.length : Int) = _; simp) (by rw [hsnd]; show p.ty + 128 = _; simp; omega) (by omega) (by omega) hcn ⟨hty0, hty1⟩ ⟨hp0, hp1⟩ ⟨ho.seq0, ho.seq1⟩ ⟨ho.time0, ho.time1⟩ ⟨ho.ssrc0, ho.ssrc1⟩ ⟨ho.prof0, ho.prof1⟩ hen (show p.pay.length ≤ 512 by omega) hp hx hk (by omega) CM CS hr.csrc hr.ext hr.pay _ (by rw [hfin, extB, hx, padB, if_neg hp]; simp [pvOf])
      · rw [if_neg hp] at hfst
        exact rput_010 (pvOf p l) N 0 p.csrc p.ext p.pay (first p) (second p) w (by rw [hfst]; show 128 + (p.csrc.length : Int) + 16 = _; simp; omega) (by rw [hsnd]; show p.ty = _; simp) (by omega) (by omega) hcn ⟨hty0, hty1⟩ ⟨hp0, hp1⟩ ⟨ho.seq0, ho.seq1⟩ ⟨ho.time0, ho.time1⟩ ⟨ho.ssrc0, ho.ssrc1⟩ ⟨ho.prof0, ho.prof1⟩ hen (show p.pay.length ≤ 512 by omega) hp hx hk (by omega) CM CS hr.csrc hr.ext hr.pay _ (by rw [hfin, extB, hx, padB, if_neg hp]; simp [pvOf])
      · rw [if_neg hp] at hfst
        exact rput_011 (pvOf p l) N 0 p.csrc p.ext p.pay (first p) (second p) w (by rw [hfst]; show 128 + (p.csrc.length : Int) + 16 = _; simp; omega) (by rw [hsnd]; show p.ty + 128 = _; simp; omega) (by omega) (by omega) hcn ⟨hty0, hty1⟩ ⟨hp0, hp1⟩ ⟨ho.seq0, ho.seq1⟩ ⟨ho.time0, ho.time1⟩ ⟨ho.ssrc0, ho.ssrc1⟩ ⟨ho.prof0, ho.prof1⟩ hen (show p.pay.length ≤ 512 by omega) hp hx hk (by omega) CM CS hr.csrc hr.ext hr.pay _ (by rw [hfin, extB, hx, padB, if_neg hp]; simp [pvOf])

end Go.Proofs.Ytdnnfoacpjgloaa.Rtp
