/- The contract of the reference's Put; the walk of RtpAll. -/
import Derived.Test.YtiamdaeodkiccaaMa00
import Derived.Test.YtiamdaeodkiccaaMa01
import Derived.Test.YtiamdaeodkiccaaMa10
import Derived.Test.YtiamdaeodkiccaaMa11
import Derived.Test.YtiamdaeodkiccaaKv
namespace Go.Proofs.Ytiamdaeodkiccaa.Rtp
open Go.RowKit
set_option linter.unusedVariables false

set_option maxHeartbeats 1000000 in
theorem rput_none (v : PV) (w : World) (CM : Hid (∀ W, Calls Try.prog 14 #[pkt v] W (RetB W false))) : Calls Try.prog 12 #[pkt v] w (RetR w [] 1) := by
  have hb : Below w.heap.size w (w.alloc (pobj v)) := (Below.refl _ _).alloc (Nat.le_refl _) _
  go_enter Try.func12, Try.ntmps12
  go_wp2_with fail
  refine (CM.out _).mono ?_
  rintro e w1 ⟨rfl, hb1⟩
  go_wp2
  go_ret2
  exact ⟨none, 0, rfl, Own.nil _ _, hb.trans (hb1.mono hb.size)⟩
set_option maxHeartbeats 1000000 in
theorem rput_more (v : PV) (n : Int) (w : World) (hn : 512 < n) (CM : Hid (∀ W, Calls Try.prog 14 #[pkt v] W (RetB W true))) (CS : Hid (∀ W, Calls Try.prog 16 #[pkt v] W (RetI W n))) :
    Calls Try.prog 12 #[pkt v] w (RetR w [] 5) := by
  have hb : Below w.heap.size w (w.alloc (pobj v)) := (Below.refl _ _).alloc (Nat.le_refl _) _
  go_enter Try.func12, Try.ntmps12
  go_wp2_with fail
  refine (CM.out _).mono ?_
  rintro e w1 ⟨rfl, hb1⟩
  have D1 : PBlk w1 w.heap.size v := (PBlk.new w v).below hb1 (by simp)
  have B1 := Lib.hid (hb.trans (hb1.mono hb.size))
  have d0 := D1.c0
  have d1 := D1.c1
  have d2 := D1.c2
  have d3 := D1.c3
  have d4 := D1.c4
  have d5 := D1.c5
  have d6 := D1.c6
  have d7 := D1.c7
  have d8 := D1.c8
  have d9 := D1.c9
  have d10 := D1.c10
  clear hb hb1 CM
  go_wp2_with fail
  clear d0 d1 d2 d3 d4 d5 d6 d7 d8 d9 d10
  refine (CS.out _).mono ?_
  rintro e w2 ⟨rfl, hb2⟩
  go_wp2
  go_ret2
  exact ⟨none, 0, rfl, Own.nil _ _, B1.out.trans (hb2.mono B1.out.size)⟩

theorem rput_pkt (w : World) (B : Nat) (p : Pkt) (l : Loc) (ho : p.Ok) (hr : PRd w B p l) (hB : B ≤ w.heap.size) : Calls Try.prog 12 #[pkt (pvOf p l)] w (RetR w (putB p) (putE p)) := by
  have hr := hr.more hB
  have CM := fun W => rmay_pkt W p l hr.en
  have CS := fun W => rsize_pkt W p l hr.en hr.pn
  unfold putB putE
  unfold sizeP at CS
  cases hm : mayPB p
  · rw [hm] at CM
    exact rput_none (pvOf p l) w CM
  · rw [hm] at CM
    rw [hm, if_pos rfl] at CS
    rw [if_pos rfl, if_pos rfl]
    have hmay := (mayPB_iff p).1 hm
    by_cases h512 : 512 < lenP p
    · rw [if_pos h512, if_pos h512]
      exact rput_more (pvOf p l) (lenP p) w h512 CM CS
    · rw [if_neg h512, if_neg h512]
      have hle := lenP_eq p hmay
      obtain ⟨N, hN⟩ : ∃ N : Nat, (N : Int) = lenP p := ⟨(enc p).length, hle⟩
      rw [← hN] at CS
      have hel := enc_length p hmay
      have hl12 := headB_length p
      have hxl := extB_length p
      have hp0 := hmay.pad0
      have hp1 := hmay.pad1
      have hty0 := hmay.ty0
      have hty1 := hmay.ty1
      have hcn := hmay.csrc
      have hen : p.ext.length ≤ 512 := by
        cases hx : p.he
        · rw [(hmay.he hx).1]; simp
        · rw [hx, if_pos rfl] at hxl; omega
      have fb := first_bd hmay
      have sb := second_bd hmay
      have hfin : enc p = ([first p, second p] ++ be 2 p.seq ++ be 4 p.time ++ be 4 p.ssrc ++ bes p.csrc) ++ extB p ++ p.pay ++ padB p.pad := by simp [enc, headB]
      have hfst : first p = 128 + (if 0 < p.pad then 32 else 0) + (if p.he then 16 else 0) + p.csrc.length := rfl
      have hsnd : second p = (if p.mrk then 128 else 0) + p.ty := rfl
      by_cases hp : 0 < p.pad <;> cases hx : p.he <;> cases hk : p.mrk
      all_goals
        rw [hx] at hfst
        rw [hk] at hsnd
      · rw [if_pos hp] at hfst
        exact rput_100 (pvOf p l) N 0 p.csrc p.ext p.pay (first p) (second p) w (by rw [hfst]; show 128 + (p.csrc.length : Int) + 32 = _; simp; omega) (by rw [hsnd]; show p.ty = _; simp) (by omega) (by omega) hcn ⟨hty0, hty1⟩ ⟨hp0, hp1⟩ ⟨ho.seq0, ho.seq1⟩ ⟨ho.time0, ho.time1⟩ ⟨ho.ssrc0, ho.ssrc1⟩ ⟨ho.prof0, ho.prof1⟩ hen (show p.pay.length ≤ 512 by omega) hp hx hk (by omega) CM CS hr.csrc hr.ext hr.pay _ (by rw [hfin, extB, hx, padB, if_pos hp]; simp [pvOf])
      · rw [if_pos hp] at hfst
        exact rput_101 (pvOf p l) N 0 p.csrc p.ext p.pay (first p) (second p) w (by rw [hfst]; show 128 + (p.csrc.length : Int) + 32 = _; simp; omega) (by rw [hsnd]; show p.ty + 128 = _; simp; omega) (by omega) (by omega) hcn ⟨hty0, hty1⟩ ⟨hp0, hp1⟩ ⟨ho.seq0, ho.seq1⟩ ⟨ho.time0, ho.time1⟩ ⟨ho.ssrc0, ho.ssrc1⟩ ⟨ho.prof0, ho.prof1⟩ hen (show p.pay.length ≤ 512 by omega) hp hx hk (by omega) CM CS hr.csrc hr.ext hr.pay _ (by rw [hfin, extB, hx, padB, if_pos hp]; simp [pvOf])
      · rw [if_pos hp] at hfst
        exact rput_110 (pvOf p l) N 0 p.csrc p.ext p.pay (first p) (second p) w (by rw [hfst]; show 128 + (p.csrc.length : Int) + 32 + 16 = _; simp; omega) (by rw [hsnd]; show p.ty = _; simp) (by omega) (by omega) hcn ⟨hty0, hty1⟩ ⟨hp0, hp1⟩ ⟨ho.seq0, ho.seq1⟩ ⟨ho.time0, ho.time1⟩ ⟨ho.ssrc0, ho.ssrc1⟩ ⟨ho.prof0, ho.prof1⟩ hen (show p.pay.length ≤ 512 by omega) hp hx hk (by omega) CM CS hr.csrc hr.ext hr.pay _ (by rw [hfin, extB, hx, padB, if_pos hp]; simp [pvOf])
      · rw [if_pos hp] at hfst
        exact rput_111 (pvOf p l) N 0 p.csrc p.ext p.pay (first p) (second p) w (by rw [hfst]; show 128 + (p.csrc.length : Int) + 32 + 16 = _; simp; omega) (by rw [hsnd]; show p.ty + 128 = _; simp; omega) (by omega) (by omega) hcn ⟨hty0, hty1⟩ ⟨hp0, hp1⟩ ⟨ho.seq0, ho.seq1⟩ ⟨ho.time0, ho.time1⟩ ⟨ho.ssrc0, ho.ssrc1⟩ ⟨ho.prof0, ho.prof1⟩ hen (show p.pay.length ≤ 512 by omega) hp hx hk (by omega) CM CS hr.csrc hr.ext hr.pay _ (by rw [hfin, extB, hx, padB, if_pos hp]; simp [pvOf])
      · rw [if_neg hp] at hfst
        exact rput_000 (pvOf p l) N 0 p.csrc p.ext p.pay (first p) (second p) w (by rw [hfst]; show 128 + (p.csrc.length : Int) = _; simp) (by rw [hsnd]; show p.ty = _; simp) (by omega) (by omega) hcn ⟨hty0, hty1⟩ ⟨hp0, hp1⟩ ⟨ho.seq0, ho.seq1⟩ ⟨ho.time0, ho.time1⟩ ⟨ho.ssrc0, ho.ssrc1⟩ ⟨ho.prof0, ho.prof1⟩ hen (show p.pay.length ≤ 512 by omega) hp hx hk (by omega) CM CS hr.csrc hr.ext hr.pay _ (by rw [hfin, extB, hx, padB, if_neg hp]; simp [pvOf])
      · rw [if_neg hp] at hfst
        exact rput_001 (pvOf p l) N 0 p.csrc p.ext p.pay (first p) (second p) w (by rw [hfst]; show 128 + (p.csrc.length : Int) = _; simp) (by rw [hsnd]; show p.ty + 128 = _; simp; omega) (by omega) (by omega) hcn ⟨hty0, hty1⟩ ⟨hp0, hp1⟩ ⟨ho.seq0, ho.seq1⟩ ⟨ho.time0, ho.time1⟩ ⟨ho.ssrc0, ho.ssrc1⟩ ⟨ho.prof0, ho.prof1⟩ hen (show p.pay.length ≤ 512 by omega) hp hx hk (by omega) CM CS hr.csrc hr.ext hr.pay _ (by rw [hfin, extB, hx, padB, if_neg hp]; simp [pvOf])
      · rw [if_neg hp] at hfst
        exact rput_010 (pvOf p l) N 0 p.csrc p.ext p.pay (first p) (second p) w (by rw [hfst]; show 128 + (p.csrc.length : Int) + 16 = _; simp; omega) (by rw [hsnd]; show p.ty = _; simp) (by omega) (by omega) hcn ⟨hty0, hty1⟩ ⟨hp0, hp1⟩ ⟨ho.seq0, ho.seq1⟩ ⟨ho.time0, ho.time1⟩ ⟨ho.ssrc0, ho.ssrc1⟩ ⟨ho.prof0, ho.prof1⟩ hen (show p.pay.length ≤ 512 by omega) hp hx hk (by omega) CM CS hr.csrc hr.ext hr.pay _ (by rw [hfin, extB, hx, padB, if_neg hp]; simp [pvOf])
      · rw [if_neg hp] at hfst
        exact rput_011 (pvOf p l) N 0 p.csrc p.ext p.pay (first p) (second p) w (by rw [hfst]; show 128 + (p.csrc.length : Int) + 16 = _; simp; omega) (by rw [hsnd]; show p.ty + 128 = _; simp; omega) (by omega) (by omega) hcn ⟨hty0, hty1⟩ ⟨hp0, hp1⟩ ⟨ho.seq0, ho.seq1⟩ ⟨ho.time0, ho.time1⟩ ⟨ho.ssrc0, ho.ssrc1⟩ ⟨ho.prof0, ho.prof1⟩ hen (show p.pay.length ≤ 512 by omega) hp hx hk (by omega) CM CS hr.csrc hr.ext hr.pay _ (by rw [hfin, extB, hx, padB, if_neg hp]; simp [pvOf])

set_option maxHeartbeats 4000000 in
theorem all_walk (v : PV) (ys : List Int) (n z : Int) (mb : Bool) (m : Nat) (hm : ys.length = m) (w : World)
    (CP : Hid (∀ W, Below w.heap.size w W → Calls Try.prog 11 #[pkt v] W (RetR W ys n))) (CQ : Hid (∀ W, Below w.heap.size w W → Calls Try.prog 12 #[pkt v] W (RetR W ys n)))
    (CM : Hid (∀ W, Calls Try.prog 13 #[pkt v] W (RetB W mb))) (CN : Hid (∀ W, Calls Try.prog 14 #[pkt v] W (RetB W mb)))
    (CS : Hid (∀ W, Calls Try.prog 15 #[pkt v] W (RetI W z))) (CT : Hid (∀ W, Calls Try.prog 16 #[pkt v] W (RetI W z))) :
    Calls Try.prog 3 #[pkt v] w (RetB w true) := by
  have hb0 := (Below.refl w.heap.size w).alloc (Nat.le_refl _) (pobj v)
  have HM := Lib.hid hm
  clear hm
  go_enter Try.func3, Try.ntmps3
  go_wp2_with fail
  refine (shown_any _).mono ?_
  rintro e w1 ⟨rfl, hb1⟩
  have D1 : PBlk w1 w.heap.size v := (PBlk.new w v).below hb1 (by simp)
  have H1 := Lib.hid (hb0.trans (hb1.mono hb0.size))
  clear hb0 hb1
  have d0 := D1.c0
  have d1 := D1.c1
  have d2 := D1.c2
  have d3 := D1.c3
  have d4 := D1.c4
  have d5 := D1.c5
  have d6 := D1.c6
  have d7 := D1.c7
  have d8 := D1.c8
  have d9 := D1.c9
  have d10 := D1.c10
  go_wp2_with fail
  clear d0 d1 d2 d3 d4 d5 d6 d7 d8 d9 d10
  refine (CP.out _ H1.out).mono ?_
  rintro e w2 ⟨A, c, rfl, ho, hb2⟩
  rw [HM.out] at ho ⊢
  have D2 : PBlk w2 w.heap.size v := D1.below hb2 D1.lt
  have H2 := Lib.hid (H1.out.trans (hb2.mono H1.out.size))
  have HR2 := Lib.hid ho.rd
  clear hb2 D1 H1 ho CP
  have d0 := D2.c0
  have d1 := D2.c1
  have d2 := D2.c2
  have d3 := D2.c3
  have d4 := D2.c4
  have d5 := D2.c5
  have d6 := D2.c6
  have d7 := D2.c7
  have d8 := D2.c8
  have d9 := D2.c9
  have d10 := D2.c10
  go_wp2_with fail
  clear d0 d1 d2 d3 d4 d5 d6 d7 d8 d9 d10
  refine (CQ.out _ H2.out).mono ?_
  rintro e w3 ⟨A', c', rfl, ho3, hb3⟩
  rw [HM.out] at ho3 ⊢
  have D3 : PBlk w3 w.heap.size v := D2.below hb3 D2.lt
  have H3 := Lib.hid (H2.out.trans (hb3.mono H2.out.size))
  have s1 : ∀ W, Below w3.heap.size w3 W → (convert 25 9 (.slice A m c)).run Try.prog W = .ok (.string (strOfNums ys)) W := fun W hW => str_run (((HR2.out.below hb3).more hb3.size).below hW)
  have s2 : ∀ W, Below w3.heap.size w3 W → (convert 25 9 (.slice A' m c')).run Try.prog W = .ok (.string (strOfNums ys)) W := fun W hW => str_run (ho3.rd.below hW)
  clear hb3 D2 H2 ho3 HR2 CQ
  go_wp2_with fail
  have hS : Below w3.heap.size w3 w3.drew := (Below.refl _ w3).drew
  have c0 : ∀ W, Below w3.heap.size w3 W → W.cell? ⟨w.heap.size, 0, none⟩ = some (.bool v.mrk) := fun W hW => (D3.below hW D3.lt).c0
  have c1 : ∀ W, Below w3.heap.size w3 W → W.cell? ⟨w.heap.size, 1, none⟩ = some (.int .i64 v.ty) := fun W hW => (D3.below hW D3.lt).c1
  have c2 : ∀ W, Below w3.heap.size w3 W → W.cell? ⟨w.heap.size, 2, none⟩ = some (.int .u16 v.seq) := fun W hW => (D3.below hW D3.lt).c2
  have c3 : ∀ W, Below w3.heap.size w3 W → W.cell? ⟨w.heap.size, 3, none⟩ = some (.int .u32 v.time) := fun W hW => (D3.below hW D3.lt).c3
  have c4 : ∀ W, Below w3.heap.size w3 W → W.cell? ⟨w.heap.size, 4, none⟩ = some (.int .u32 v.ssrc) := fun W hW => (D3.below hW D3.lt).c4
  have c5 : ∀ W, Below w3.heap.size w3 W → W.cell? ⟨w.heap.size, 5, none⟩ = some (.slice v.ca v.cn v.cc) := fun W hW => (D3.below hW D3.lt).c5
  have c6 : ∀ W, Below w3.heap.size w3 W → W.cell? ⟨w.heap.size, 6, none⟩ = some (.bool v.he) := fun W hW => (D3.below hW D3.lt).c6
  have c7 : ∀ W, Below w3.heap.size w3 W → W.cell? ⟨w.heap.size, 7, none⟩ = some (.int .u16 v.prof) := fun W hW => (D3.below hW D3.lt).c7
  have c8 : ∀ W, Below w3.heap.size w3 W → W.cell? ⟨w.heap.size, 8, none⟩ = some (.slice v.ea v.en v.ec) := fun W hW => (D3.below hW D3.lt).c8
  have c9 : ∀ W, Below w3.heap.size w3 W → W.cell? ⟨w.heap.size, 9, none⟩ = some (.slice v.pa v.pn v.pc) := fun W hW => (D3.below hW D3.lt).c9
  have c10 : ∀ W, Below w3.heap.size w3 W → W.cell? ⟨w.heap.size, 10, none⟩ = some (.int .i64 v.pad) := fun W hW => (D3.below hW D3.lt).c10
  refine region_seq (fun W => Below w3.heap.size w3 W) [(0, false), (1, false), (2, false), (3, false), (4, false), (5, false), (6, false), (7, false), (8, false), (9, false), (10, false), (11, false), (13, false), (12, true), (14, true), (15, false), (16, false), (17, false), (18, false), (20, false), (19, true), (21, true), (22, false), (23, false), (24, false)] (by kernel_rfl) (by kernel_rfl) rfl (by kernel_rfl) ?_
  iterate 13 (refine seq_read (v := _) rfl (fun _ _ _ h => h) hS (Or.inl ⟨by rfl, fun W hW => by go_simp <;> with_reducible rfl⟩) ?_; simp only [Act.put, List.setIfInBounds_toArray, List.set_cons_zero, List.set_cons_succ])
  refine seq_do rfl (fun K hK => ?_)
  go_simp
  refine (CM.out _).mono ?_
  rintro e w4 ⟨rfl, hb4⟩
  have hS := hS.trans (hb4.mono hS.size)
  refine hK.out _ _ (fun W => Below w3.heap.size w3 W) (fun W h => h) hS ?_
  clear hK K hb4
  refine seq_do rfl (fun K hK => ?_)
  go_simp
  refine (CN.out _).mono ?_
  rintro e w5 ⟨rfl, hb5⟩
  have hS := hS.trans (hb5.mono hS.size)
  refine hK.out _ _ (fun W => Below w3.heap.size w3 W) (fun W h => h) hS ?_
  clear hK K hb5
  iterate 5 (refine seq_read (v := _) rfl (fun _ _ _ h => h) hS (Or.inl ⟨by rfl, fun W hW => by go_simp <;> with_reducible rfl⟩) ?_; simp only [Act.put, List.setIfInBounds_toArray, List.set_cons_zero, List.set_cons_succ])
  refine seq_do rfl (fun K hK => ?_)
  go_simp
  refine (CS.out _).mono ?_
  rintro e w6 ⟨rfl, hb6⟩
  have hS := hS.trans (hb6.mono hS.size)
  refine hK.out _ _ (fun W => Below w3.heap.size w3 W) (fun W h => h) hS ?_
  clear hK K hb6
  refine seq_do rfl (fun K hK => ?_)
  go_simp
  refine (CT.out _).mono ?_
  rintro e w7 ⟨rfl, hb7⟩
  have hS := hS.trans (hb7.mono hS.size)
  refine hK.out _ _ (fun W => Below w3.heap.size w3 W) (fun W h => h) hS ?_
  clear hK K hb7
  iterate 3 (refine seq_read (v := _) rfl (fun _ _ _ h => h) hS (Or.inl ⟨by rfl, fun W hW => by go_simp <;> with_reducible rfl⟩) ?_; simp only [Act.put, List.setIfInBounds_toArray, List.set_cons_zero, List.set_cons_succ])
  refine seq_end ?_
  clear c0 c1 c2 c3 c4 c5 c6 c7 c8 c9 c10 s1 s2
  go_wp2
  go_ret
  exact ⟨rfl, H3.out.trans (hS.mono H3.out.size)⟩

theorem all_law (p : Pkt) (l : Loc) (w : World) (ho : p.Ok) (hr : PRd w w.heap.size p l) : Calls Try.prog 3 #[pkt (pvOf p l)] w (RetB w true) :=
  all_walk (pvOf p l) (putB p) (putE p) (sizeP p) (mayPB p) _ rfl w (fun W hW => put_pkt W p l ho (hr.below hW) hW.size) (fun W hW => rput_pkt W w.heap.size p l ho (hr.below hW) hW.size)
    (fun W => may_pkt W p l hr.en) (fun W => rmay_pkt W p l hr.en) (fun W => size_pkt W p l hr.en hr.pn) (fun W => rsize_pkt W p l hr.en hr.pn)
end Go.Proofs.Ytiamdaeodkiccaa.Rtp
