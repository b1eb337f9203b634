/- Of what was read: it may be, it is short, it is written as it was. Plain; and SiftBack, walked. -/
import Derived.Test.YthmmafpmpnhleaaTg
set_option maxRecDepth 100000
namespace Go.Proofs.Ythmmafpmpnhleaa.Sft
open Go.RowKit
open Rtp (PV pkt pobj PBlk pvOf PRd zpv Off)
open Fbk (ILoc IRd ItsRd ItsOwn its OkL MayL putLB putLE getLE getLV)
set_option linter.unusedVariables false

theorem may_short {is : List Itm} (h : MayL is) (hl : is.length ≤ 8) : EvBd (.feed is) := by
  refine ⟨by omega, fun i hi => ?_⟩
  rcases h i hi with ⟨-, h1, h2, -, h3, -⟩ | ⟨-, -, h1, h2, -, h3, -⟩ | ⟨-, -, h1, h2, -, -, -, h3⟩ | ⟨-, -, h1, h2, -, h3⟩ | ⟨-, -, h1, h2, h3⟩
  all_goals (simp only [h1, h2, List.length_nil]; first | omega | (simp only [h3, List.length_nil]; omega))
theorem descB_self {ys : List Int} (h : gE ys = 0) : descB ys (gL ys) (gK ys) (gS ys) (gF ys) = true := by simp [descB, deq, h]
theorem ofV_no {xs : List Int} (h : ofE xs ≠ 0) : ofV xs = .none := by
  unfold ofE at h
  unfold ofV
  split
  · rfl
  · rename_i h5
    rw [if_neg h5] at h
    split
    · rfl
    · rename_i h2
      rw [if_neg h2] at h
      split
      · rename_i hs
        rw [if_pos hs] at h
        rw [feeV, if_neg h]
      · rename_i hs
        rw [if_neg hs] at h
        rw [medV, if_neg h]
/-- What there is of bytes that are an event. -/
theorem of_ok {xs : List Int} (hb : Bytes xs) : EvOk (ofV xs) ∧ EvBd (ofV xs) ∧ (ofE xs = 0 → bytE (ofV xs) = 0 ∧ bytB (ofV xs) = xs) := by
  by_cases h : ofE xs = 0
  · unfold ofE at h
    unfold ofV
    split at h
    · omega
    · rename_i h5
      rw [if_neg h5]
      split at h
      · omega
      · rename_i h2
        rw [if_neg h2]
        split at h
        · rename_i hs
          rw [if_pos hs, feeV, if_pos h]
          obtain ⟨-, -, g3, g4, -, g6, g7, g8⟩ := Fbk.getLE_ok hb h
          exact ⟨g4, may_short g3 g6, fun _ => ⟨g7, g8⟩⟩
        · rename_i hs
          rw [if_neg hs, medV, if_pos h]
          unfold medE at h
          split at h
          · rename_i hp
            obtain ⟨g1, g2, g3⟩ := Rtp.get_put hb hp
            obtain ⟨-, m, -, -⟩ := get_enc xs hb hp
            refine ⟨g1, by have := m.csrc; show _ * 4 ≤ _; omega, fun _ => ⟨?_, ?_⟩⟩
            · simp only [bytE, descB_self h, if_true]; exact g2
            · simp only [bytB, descB_self h, if_true]; exact g3
          · rename_i hp
            exact absurd h hp
  · rw [ofV_no h]
    exact ⟨trivial, trivial, fun e => absurd e h⟩

set_option maxHeartbeats 4000000 in
theorem back_law (a : Option Addr) (len cap : Nat) (xs : List Int) (w : World) (hl : len ≤ 140737488351232) (hlc : len ≤ cap) (hr : Rd w w.heap.size a len xs) :
    Calls Try.prog 4 #[.slice a len cap] w (Rtp.RetB w true) := by
  have CO : Hid (∀ W, Below w.heap.size w W → Calls Try.prog 9 #[.slice a len cap] W (RetE W (ofV xs) (ofE xs))) := fun W hW => of_any a len cap w.heap.size xs W (by unfold maxLen; omega) hlc (hr.below hW) hW.size
  have SX : Hid (∀ W, Below w.heap.size w W → (convert 22 9 (.slice a len cap)).run Try.prog W = .ok (.string (strOfNums xs)) W) := fun W hW => str_run (hr.below hW)
  obtain ⟨o1, o2, o3⟩ := of_ok hr.2.1
  by_cases h : ofE xs = 0
  · obtain ⟨g1, g2⟩ := o3 h
    rw [h] at CO
    have CB : Hid (∀ W V, EvRd W W.heap.size (ofV xs) V → Calls Try.prog 15 #[V] W (Fbk.RetR W xs 0)) := fun W V hv => by
      have := bytes_any W _ V hv o1 o2
      rw [g1, g2] at this
      exact this
    clear g1 g2 o1 o2 o3 h hr
    generalize ofV xs = ev at *
    go_enter Try.func4, Try.ntmps4
    go_wp2_with fail
    refine (shown_any _).mono ?_
    rintro e w1 ⟨rfl, hb1⟩
    go_wp2_with fail
    refine (CO.out _ hb1).mono ?_
    rintro e w2 ⟨V, rfl, hv, hb2⟩
    have HB2 := Lib.hid (hb1.trans (hb2.mono hb1.size))
    have HV := Lib.hid hv
    clear hb1 hb2 hv CO
    go_wp2_with fail
    refine (CB.out w2 V HV.out).mono ?_
    rintro e w3 ⟨A, c, rfl, ho, hb3⟩
    have HB3 := Lib.hid (HB2.out.trans (hb3.mono HB2.out.size))
    have s1 := SX.out w3 HB3.out
    have s2 : (convert 22 9 (.slice A xs.length c)).run Try.prog w3 = .ok (.string (strOfNums xs)) w3 := str_run ho.rd
    clear hb3 ho CB SX HV HB2
    generalize xs.length = m at *
    go_wp2
    go_ret
    exact ⟨rfl, HB3.out⟩
  · rw [ofV_no h] at CO o1 o2
    have hn : (ofE xs != 0) = true := by simpa using h
    have CB : Hid (∀ W, Calls Try.prog 15 #[.nilIface] W (Fbk.RetR W [] 4)) := fun W => bytes_any W _ _ .none o1 o2
    generalize ofE xs = n at *
    clear o1 o2 o3 h hr SX
    go_enter Try.func4, Try.ntmps4
    go_wp2_with fail
    refine (shown_any _).mono ?_
    rintro e w1 ⟨rfl, hb1⟩
    go_wp2_with fail
    refine (CO.out _ hb1).mono ?_
    rintro e w2 ⟨V, rfl, hv, hb2⟩
    have HB2 := Lib.hid (hb1.trans (hb2.mono hb1.size))
    cases hv
    clear hb1 hb2 CO
    go_wp2_with fail
    refine (CB.out w2).mono ?_
    rintro e w3 ⟨A, c, rfl, ho, hb3⟩
    have HB3 := Lib.hid (HB2.out.trans (hb3.mono HB2.out.size))
    clear hb3 ho CB HB2
    go_wp2
    go_ret
    exact ⟨rfl, HB3.out⟩
end Go.Proofs.Ythmmafpmpnhleaa.Sft
