/- The walk of ReportCut. -/
import Derived.Test.YtamihjhhpedgcaaQo
namespace Go.Proofs.Ytamihjhhpedgcaa.Fbk
open Go.RowKit
set_option linter.unusedVariables false

set_option maxHeartbeats 4000000 in
theorem cut_out (v : IV) (ys : List Int) (n k : Int) (m : Nat) (hm : ys.length = m) (w : World) (h : n ≠ 0 ∨ (n = 0 ∧ k < 0) ∨ (n = 0 ∧ ¬ k < 0 ∧ (m : Int) ≤ k))
    (CS : Hid (∀ W, Calls Try.prog 7 #[] W (RetB W true)))
    (CP : Hid (∀ W, Below w.heap.size w W → Calls Try.prog 8 #[itm v] W (RetR W ys n))) :
    Calls Try.prog 6 #[itm v, .int .i64 k] w (RetB w true) := by
  have HM := Lib.hid hm
  have HB := Lib.hid ((Below.refl w.heap.size w).alloc (Nat.le_refl _) (iobj v))
  have HD := Lib.hid (IBlk.new w v)
  clear hm
  rcases h with h | ⟨rfl, h⟩ | ⟨rfl, h, h2⟩
  case' inl => have h' : (n != 0) = true := by simpa using h
  all_goals
    go_enter Try.func6, Try.ntmps6
    go_wp2_with fail
    refine (CS.out _).mono ?_
    rintro e w1 ⟨rfl, hb1⟩
    have HB1 := Lib.hid (HB.out.trans (hb1.mono HB.out.size))
    have D1 := HD.out.bel hb1
    have c0 := D1.c0
    have c1 := D1.c1
    have c2 := D1.c2
    have c3 := D1.c3
    have c4 := D1.c4
    have c5 := D1.c5
    have c6 := D1.c6
    have c7 := D1.c7
    have c8 := D1.c8
    have c9 := D1.c9
    clear hb1 D1 HD HB CS
    go_wp2_with fail
    refine (CP.out _ HB1.out).mono ?_
    rintro e w2 ⟨A, c, rfl, ho2, hb2⟩
    rw [HM.out]
    have HB2 := Lib.hid (HB1.out.trans (hb2.mono HB1.out.size))
    clear c0 c1 c2 c3 c4 c5 c6 c7 c8 c9 hb2 ho2 HB1 CP
    go_wp2
    go_ret
    exact ⟨rfl, HB2.out⟩
set_option maxHeartbeats 4000000 in
theorem cut_in (v : IV) (ys : List Int) (k m : Nat) (hm : ys.length = m) (hk : k < m) (hm2 : m ≤ 1000) (w : World)
    (CS : Hid (∀ W, Calls Try.prog 7 #[] W (RetB W true)))
    (CP : Hid (∀ W, Below w.heap.size w W → Calls Try.prog 8 #[itm v] W (RetR W ys 0)))
    (CG : Hid (∀ W A c, Rd W W.heap.size A k (ys.take k) → k ≤ c → Calls Try.prog 13 #[.slice A k c] W fun e w' => ∃ ba bc ga gc pa pc, e = .returned (.tuple #[itm ⟨0, 0, 0, 0, 0, 0, ba, 0, bc, ga, 0, gc, 0, pa, 0, pc⟩, .int .i64 0, .int .i64 2]) ∧ Below W.heap.size W w')) :
    Calls Try.prog 6 #[itm v, .int .i64 k] w (RetB w true) := by
  have HM := Lib.hid hm
  have HB := Lib.hid ((Below.refl w.heap.size w).alloc (Nat.le_refl _) (iobj v))
  have HD := Lib.hid (IBlk.new w v)
  have h1 : ¬ (k : Int) < 0 := by omega
  have h2 : ¬ (m : Int) ≤ k := by omega
  clear hm
  go_enter Try.func6, Try.ntmps6
  go_wp2_with fail
  refine (CS.out _).mono ?_
  rintro e w1 ⟨rfl, hb1⟩
  have HB1 := Lib.hid (HB.out.trans (hb1.mono HB.out.size))
  have D1 := HD.out.bel hb1
  have c0 := D1.c0
  have c1 := D1.c1
  have c2 := D1.c2
  have c3 := D1.c3
  have c4 := D1.c4
  have c5 := D1.c5
  have c6 := D1.c6
  have c7 := D1.c7
  have c8 := D1.c8
  have c9 := D1.c9
  clear hb1 D1 HD HB CS
  go_wp2_with fail
  refine (CP.out _ HB1.out).mono ?_
  rintro e w2 ⟨A, c, rfl, ho2, hb2⟩
  rw [HM.out] at ho2
  rw [HM.out]
  have HB2 := Lib.hid (HB1.out.trans (hb2.mono HB1.out.size))
  have HC := Lib.hid (show k ≤ c from by have := ho2.2.2.1; omega)
  have HR := Lib.hid (ho2.rd.take (show k ≤ m from by omega))
  have s0 := fun W => cut_to A m c k k rfl HC.out W
  clear c0 c1 c2 c3 c4 c5 c6 c7 c8 c9 hb2 ho2 HB1 CP
  go_wp2_with fail
  refine (CG.out _ _ _ HR.out HC.out).mono ?_
  rintro e w3 ⟨ba, bc, ga, gc, pa, pc, rfl, hb3⟩
  have HB3 := Lib.hid (HB2.out.trans (hb3.mono HB2.out.size))
  clear s0 hb3
  go_wp2
  go_ret
  exact ⟨rfl, HB3.out.alloc HB3.out.size _⟩
theorem reportCut_walk (i : Itm) (l : ILoc) (n : Int) (w : World) (ho : i.Ok) (hr : IRd w w.heap.size i l) : Calls Try.prog 6 #[itm (ivOf i l), .int .i64 n] w (RetB w true) := by
  have CP : ∀ W, Below w.heap.size w W → Calls Try.prog 8 #[itm (ivOf i l)] W (RetR W (putRB i) (putRE i)) := fun W hW => put_itm W i l _ ho (hr.below hW) hW.size
  by_cases h0 : putRE i = 0
  · by_cases h1 : 0 ≤ n ∧ n < (putRB i).length
    · obtain ⟨k, rfl⟩ := Int.eq_ofNat_of_zero_le h1.1
      obtain ⟨_, _, _, hby, hlen⟩ := put_get ho h0 []
      have hk : k < (putRB i).length := by omega
      have e1 := cut_short h0 k hk
      refine cut_in (ivOf i l) (putRB i) k _ rfl hk hlen w (fun W => shown_any W) (fun W hW => by have := CP W hW; rwa [h0] at this) (fun W A c hrd hc => ?_)
      have := get_any A k c _ _ W (by unfold maxLen; omega) hc hrd (Nat.le_refl _)
      rw [gRV, gRN, e1, if_neg (by decide), if_neg (by decide)] at this
      refine this.mono ?_
      rintro e w' ⟨⟨ba, bc, ga, gc, pa, pc⟩, rfl, _, h2⟩
      exact ⟨ba, bc, ga, gc, pa, pc, rfl, h2⟩
    · exact cut_out (ivOf i l) (putRB i) 0 n _ rfl w (by omega) (fun W => shown_any W) (fun W hW => by have := CP W hW; rwa [h0] at this)
  · exact cut_out (ivOf i l) (putRB i) (putRE i) n _ rfl w (.inl h0) (fun W => shown_any W) (fun W hW => CP W hW)
end Go.Proofs.Ytamihjhhpedgcaa.Fbk
