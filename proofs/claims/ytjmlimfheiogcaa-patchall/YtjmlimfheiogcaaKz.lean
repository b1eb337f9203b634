/- The contracts of the reference's MayPacket, Size. -/
import Derived.Test.YtjmlimfheiogcaaKr
namespace Go.Proofs.Ytjmlimfheiogcaa.Rtp
open Go.RowKit
set_option linter.unusedVariables false

/-- The first of the reference's two questions. -/
def refA (v : PV) : Bool := decide (v.ty < 0) || decide (127 < v.ty) || (v.mrk && decide (64 ≤ v.ty) && decide (v.ty ≤ 95)) || decide (15 < v.cn) || decide (v.en % 4 ≠ 0)
def refB (v : PV) : Bool := (v.he || (decide (v.en = 0) && decide (v.prof = 0))) && decide (0 ≤ v.pad) && decide (v.pad ≤ 255)
theorem refAB (p : Pkt) (l : Loc) : (!refA (pvOf p l) && refB (pvOf p l)) = mayPB p := by
  unfold refA refB mayPB pvOf
  generalize p.ext.length = en
  generalize p.csrc.length = cn
  cases p.mrk <;> cases p.he <;> rw [Bool.eq_iff_iff] <;> simp <;> omega

set_option maxHeartbeats 4000000 in
theorem rmay_a (v : PV) (w : World) (hl : v.en ≤ 140737488351232) (h : refA v = true) : Calls Try.prog 32 #[pkt v] w (RetB w false) := by
  obtain ⟨mrk, ty, seq, time, ssrc, ca, cn, cc, he, prof, ea, en, ec, pa, pn, pc, pad⟩ := v
  simp only [refA, Bool.or_eq_true, Bool.and_eq_true, decide_eq_true_eq] at h hl
  have q : (en : Int).tmod 4 = en % 4 := Int.tmod_eq_emod_of_nonneg (by omega)
  by_cases h1 : ty < 0
  · go_enter Try.func32, Try.ntmps32
    go_wp2
    go_ret
    exact ⟨rfl, (Below.refl _ _).alloc (Nat.le_refl _) _⟩
  · by_cases h2 : 127 < ty
    · go_enter Try.func32, Try.ntmps32
      go_wp2
      go_ret
      exact ⟨rfl, (Below.refl _ _).alloc (Nat.le_refl _) _⟩
    · have hwy : (mrk = true ∧ 64 ≤ ty ∧ ty ≤ 95) ∨ (mrk = false ∧ (15 < cn ∨ (¬ 15 < cn ∧ en % 4 ≠ 0))) ∨ (mrk = true ∧ ¬ 64 ≤ ty ∧ (15 < cn ∨ (¬ 15 < cn ∧ en % 4 ≠ 0))) ∨ (mrk = true ∧ 64 ≤ ty ∧ ¬ ty ≤ 95 ∧ (15 < cn ∨ (¬ 15 < cn ∧ en % 4 ≠ 0))) := by
        cases mrk <;> simp at h ⊢ <;> omega
      rcases hwy with ⟨rfl, h3, h4⟩ | ⟨rfl, h5⟩ | ⟨rfl, h3, h5⟩ | ⟨rfl, h3, h4, h5⟩
      · go_enter Try.func32, Try.ntmps32
        go_wp2
        go_ret
        exact ⟨rfl, (Below.refl _ _).alloc (Nat.le_refl _) _⟩
      all_goals
        rcases h5 with h5 | ⟨h5, h6⟩
        case' inl => have h5' : (15 : Int) < cn := by omega
        case' inr =>
          have h5' : ¬ (15 : Int) < cn := by omega
          have h6' : ((en : Int) % 4 != 0) = true := by simp; omega
        all_goals
          clear h
          go_enter Try.func32, Try.ntmps32
          go_wp2
          go_ret
          exact ⟨rfl, (Below.refl _ _).alloc (Nat.le_refl _) _⟩

set_option maxHeartbeats 8000000 in
theorem rmay_b (v : PV) (w : World) (hl : v.en ≤ 140737488351232) (h : refA v = false) : Calls Try.prog 32 #[pkt v] w (RetB w (refB v)) := by
  obtain ⟨mrk, ty, seq, time, ssrc, ca, cn, cc, he, prof, ea, en, ec, pa, pn, pc, pad⟩ := v
  simp only [refA, Bool.or_eq_false_iff, decide_eq_false_iff_not] at h hl
  obtain ⟨⟨⟨⟨h1, h2⟩, h3⟩, h4⟩, h5⟩ := h
  have q : (en : Int).tmod 4 = en % 4 := Int.tmod_eq_emod_of_nonneg (by omega)
  have h4' : ¬ (15 : Int) < cn := by omega
  have h5' : ((en : Int) % 4 != 0) = false := by simp; omega
  have hB : refB ⟨mrk, ty, seq, time, ssrc, ca, cn, cc, he, prof, ea, en, ec, pa, pn, pc, pad⟩ = ((he || (decide (en = 0) && decide (prof = 0))) && decide (0 ≤ pad) && decide (pad ≤ 255)) := rfl
  rw [hB]
  have hwy : mrk = false ∨ (mrk = true ∧ ¬ 64 ≤ ty) ∨ (mrk = true ∧ 64 ≤ ty ∧ ¬ ty ≤ 95) := by
    cases mrk
    · exact .inl rfl
    · simp at h3; simp; omega
  have hex : he = true ∨ (he = false ∧ ¬ en = 0) ∨ (he = false ∧ en = 0) := by
    cases he
    · by_cases h0 : en = 0
      · exact .inr (.inr ⟨rfl, h0⟩)
      · exact .inr (.inl ⟨rfl, h0⟩)
    · exact .inl rfl
  clear h3 h4 h5 hB
  rcases hex with rfl | ⟨rfl, h0⟩ | ⟨rfl, rfl⟩
  case' inr.inl => have h0' : ¬ (en : Int) = 0 := by omega
  case' inl =>
    by_cases hp : 0 ≤ pad
  case' inr.inr =>
    by_cases hpr : prof = 0
    case' pos =>
      by_cases hp : 0 ≤ pad
  all_goals
    rcases hwy with rfl | ⟨rfl, h6⟩ | ⟨rfl, h6, h7⟩
    all_goals
      go_enter Try.func32, Try.ntmps32
      go_wp2
      go_ret
      exact ⟨ret_bool (by simp [*] <;> omega), (Below.refl _ _).alloc (Nat.le_refl _) _⟩

theorem rmay_pkt (w : World) (p : Pkt) (l : Loc) (hl : p.ext.length ≤ 140737488351232) : Calls Try.prog 32 #[pkt (pvOf p l)] w (RetB w (mayPB p)) := by
  rw [← refAB p l]
  cases h : refA (pvOf p l)
  · exact rmay_b (pvOf p l) w hl h
  · exact rmay_a (pvOf p l) w hl h

set_option maxHeartbeats 1000000 in
theorem rsize_any (v : PV) (w : World) (m : Bool) (hl : v.en ≤ 140737488351232) (hp : v.pn ≤ 140737488351232) (CM : ∀ W, Calls Try.prog 32 #[pkt v] W (RetB W m)) (hmb : m = true → v.cn ≤ 15 ∧ 0 ≤ v.pad ∧ v.pad ≤ 255) :
    Calls Try.prog 33 #[pkt v] w (RetI w (if m then lenV v else 0)) := by
  have hb : Below w.heap.size w (w.alloc (pobj v)) := (Below.refl _ _).alloc (Nat.le_refl _) _
  rcases m with _ | _
  · have HM := Lib.hid CM
    clear CM hmb
    go_enter Try.func33, Try.ntmps33
    go_wp2_with fail
    refine (HM.out _).mono ?_
    rintro e w1 ⟨rfl, hb1⟩
    go_wp2
    go_ret
    exact ⟨rfl, hb.trans (hb1.mono hb.size)⟩
  · obtain ⟨h1, h2, h3⟩ := hmb rfl
    have HM := Lib.hid CM
    clear CM hmb
    rcases hh : v.he with _ | _
    case' false => have HL := Lib.hid (show lenV v = 12 + 4 * v.cn + v.pn + v.pad from by simp [lenV, hh])
    case' true => have HL := Lib.hid (show lenV v = 12 + 4 * v.cn + v.pn + v.pad + (4 + v.en) from by simp [lenV, hh])
    all_goals
      have HH := Lib.hid hh
      clear hh
      go_enter Try.func33, Try.ntmps33
      go_wp2_with fail
      refine (HM.out _).mono ?_
      rintro e w1 ⟨rfl, hb1⟩
      have D1 : PBlk w1 w.heap.size v := (PBlk.new w v).below hb1 (by simp)
      have c5 := D1.c5
      have c6 := D1.c6
      rw [HH.out] at c6
      have c8 := D1.c8
      have c9 := D1.c9
      have c10 := D1.c10
      clear D1
      go_wp2
      go_ret
      exact ⟨ret_int (by rw [HL.out]), hb.trans (hb1.mono hb.size)⟩
theorem rsize_pkt (w : World) (p : Pkt) (l : Loc) (he : p.ext.length ≤ 140737488351232) (hp : p.pay.length ≤ 140737488351232) : Calls Try.prog 33 #[pkt (pvOf p l)] w (RetI w (sizeP p)) := by
  have := rsize_any (pvOf p l) w (mayPB p) he hp (fun W => rmay_pkt W p l he) (fun h => by have hm := (mayPB_iff p).1 h; exact ⟨hm.csrc, hm.pad0, hm.pad1⟩)
  rw [lenV_of] at this
  exact this
end Go.Proofs.Ytjmlimfheiogcaa.Rtp
