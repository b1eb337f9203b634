/- The contracts of nack.Has and of the law's 'same'. -/
import Derived.Test.YtmgpphgiigppgaaUd
namespace Go.Proofs.Ytmgpphgiigppgaa.Nck
open Go.RowKit Go.Proofs.Ytmgpphgiigppgaa.Fbk
set_option linter.unusedVariables false

theorem mem_expand (s : Int) : ∀ xs : List (Int × Int), s ∈ expand xs ↔ ∃ x ∈ xs, s ∈ exp1 x
  | [] => by simp [expand]
  | x :: r => by rw [expand, List.mem_append, mem_expand s r]; simp
set_option maxHeartbeats 4000000 in
theorem has_any (a : Option Addr) (cap B : Nat) (xs : List (Int × Int)) (s : Int) (w : World) (hl : xs.length ≤ 1099511627776) (hr : RowRd pairL w B a xs.length xs) (hB : B ≤ w.heap.size) (hok : ∀ x ∈ xs, U16 x.1 ∧ U16 x.2) (hs : U16 s) :
    Calls Try.prog 14 #[.slice a xs.length cap, .int .u16 s] w fun e w' => e = .returned (.bool (decide (s ∈ expand xs))) ∧ Below w.heap.size w w' := by
  have HR := Lib.hid hr
  have HO := Lib.hid hok
  have HS := Lib.hid hs
  obtain ⟨n, hn⟩ : ∃ n, xs.length = n := ⟨_, rfl⟩
  have HN := Lib.hid hn
  rw [hn] at HR hl ⊢
  clear hr hok hn hs
  go_enter Try.func14, Try.ntmps14
  go_wp2
  go_loopw [9] (fun sk wx => ∃ (k : Nat), k ≤ n ∧ sk = .int .i64 k ∧ Hid (∀ x ∈ xs.take k, asksB x s = false) ∧ Hid (Below w.heap.size w wx)) (fun sk _ => n - (intOf sk).toNat)
  case atStart => exact ⟨0, by omega, rfl, fun x hx => by simp at hx, Below.refl _ _⟩
  case round =>
    obtain ⟨k, hk, rfl, hno, hb⟩ := hrel
    rename World => wx
    by_cases hlt : k < n
    · obtain ⟨b, off, x, rfl, hbB, hx, c0, c1⟩ := pair_at (HR.out.below (hb.out.mono hB)) hlt
      have hm := List.mem_of_getElem? hx
      have hxo := HO.out x hm
      have HT := Lib.hid (take_snoc' xs k x hx)
      have HA := Lib.hid (asks_mem x s hxo.1 HS.out)
      have HM := Lib.hid hm
      have CA : Hid (∀ W, Calls Try.prog 19 #[prV x, .int .u16 s] W fun e w' => e = .returned (.bool (asksB x s)) ∧ Below W.heap.size W w') := fun W => asks_any x s W hxo.1 hxo.2 HS.out
      clear hx hm hxo
      obtain ⟨bb, hbb⟩ : ∃ bb, asksB x s = bb := ⟨_, rfl⟩
      rw [hbb] at CA HA
      have HBB := Lib.hid hbb
      clear hbb
      obtain ⟨x0, x1⟩ := x
      simp only at c0 c1
      have d0 : (wx.alloc (pairO (x0, x1))).cell? ⟨wx.heap.size, 0, none⟩ = some (.int .u16 x0) := (PrBlk.new wx (x0, x1)).c0
      have d1 : (wx.alloc (pairO (x0, x1))).cell? ⟨wx.heap.size, 1, none⟩ = some (.int .u16 x1) := (PrBlk.new wx (x0, x1)).c1
      have HB : Hid (Below w.heap.size w (wx.alloc (pairO (x0, x1)))) := hb.out.alloc hb.out.size _
      go_wp2_with fail
      refine (CA.out _).mono ?_
      rintro e w2 ⟨rfl, h2⟩
      have HB2 : Hid (Below w.heap.size w w2) := HB.out.trans (h2.mono HB.out.size)
      clear h2 HB CA
      cases bb with
      | true =>
        have hin : s ∈ expand xs := (mem_expand s xs).2 ⟨_, HM.out, of_decide_eq_true HA.out.symm⟩
        have HD := Lib.hid (show decide (s ∈ expand xs) = true from by simp [hin])
        clear hin
        go_wp2
        go_ret
        refine ⟨?_, HB2⟩
        rw [HD.out]; rfl
      | false =>
        go_wp2_with fail
        go_roundw
        case rel =>
          refine ⟨k + 1, by omega, by go_num, Lib.hid ?_, HB2⟩
          intro y hy
          rw [HT.out, List.mem_append, List.mem_singleton] at hy
          rcases hy with hy | rfl
          · exact hno.out y hy
          · exact HBB.out
        case measure => simp [intOf]; omega
    · obtain rfl : k = n := by omega
      have HD := Lib.hid (show decide (s ∈ expand xs) = false from by
        have h := hno.out
        rw [List.take_of_length_le (by rw [HN.out]; exact Nat.le_refl _)] at h
        rw [decide_eq_false_iff_not, mem_expand]
        rintro ⟨x, hx, hsx⟩
        have h1 := asks_mem x s (HO.out x hx).1 HS.out
        rw [h x hx] at h1
        simp [hsx] at h1)
      go_wp2
      go_ret
      refine ⟨?_, hb⟩
      rw [HD.out]; rfl
set_option maxHeartbeats 4000000 in
theorem same_any (a b : Option Addr) (ca cb Ba Bb : Nat) (xs ys : List Int) (w : World) (hr : RowRd w16L w Ba a xs.length xs) (hs : RowRd w16L w Bb b ys.length ys) (hA : Ba ≤ w.heap.size) (hB : Bb ≤ w.heap.size) (hl : xs.length ≤ 140737488355328) (hl2 : ys.length ≤ 140737488355328) :
    Calls Try.prog 13 #[.slice a xs.length ca, .slice b ys.length cb] w fun e w' => e = .returned (.bool (decide (xs = ys))) ∧ Below w.heap.size w w' := by
  have HR := Lib.hid hr
  have HS := Lib.hid hs
  obtain ⟨n, hn⟩ : ∃ n, xs.length = n := ⟨_, rfl⟩
  obtain ⟨m, hm⟩ : ∃ m, ys.length = m := ⟨_, rfl⟩
  have HN := Lib.hid hn
  have HM := Lib.hid hm
  rw [hn] at HR hl ⊢
  rw [hm] at HS hl2 ⊢
  clear hr hs hn hm
  by_cases hnm : n = m
  · subst hnm
    go_enter Try.func13, Try.ntmps13
    go_wp2
    go_loopw [13] (fun sk wx => ∃ (k : Nat), k ≤ n ∧ sk = .int .i64 k ∧ Hid (xs.take k = ys.take k) ∧ Hid (Below w.heap.size w wx)) (fun sk _ => n - (intOf sk).toNat)
    case atStart => exact ⟨0, by omega, rfl, by simp [Lib.hid], Below.refl _ _⟩
    case round =>
      obtain ⟨k, hk, rfl, hno, hb⟩ := hrel
      rename World => wx
      by_cases hlt : k < n
      · obtain ⟨b1, o1, x, rfl, h1, hx, c0⟩ := u16_at (HR.out.below (hb.out.mono hA)) hlt
        obtain ⟨b2, o2, y, rfl, h2, hy, c1⟩ := u16_at (HS.out.below (hb.out.mono hB)) hlt
        have HX := Lib.hid (And.intro hx hy)
        have HT1 := Lib.hid (take_snoc' xs k x hx)
        have HT2 := Lib.hid (take_snoc' ys k y hy)
        clear hx hy
        obtain ⟨d, hd⟩ : ∃ d, (x != y) = d := ⟨_, rfl⟩
        have HD := Lib.hid hd
        have hS : (fun W : World => W.cell? ⟨b1, o1 + k, none⟩ = some (.int .u16 x) ∧ W.cell? ⟨b2, o2 + k, none⟩ = some (.int .u16 y)) wx.drew := ⟨c0, c1⟩
        have f1 : ∀ W : World, W.cell? ⟨b1, o1 + k, none⟩ = some (.int .u16 x) ∧ W.cell? ⟨b2, o2 + k, none⟩ = some (.int .u16 y) → W.cell? ⟨b1, o1 + k, none⟩ = some (.int .u16 x) := fun W h => h.1
        have f2 : ∀ W : World, W.cell? ⟨b1, o1 + k, none⟩ = some (.int .u16 x) ∧ W.cell? ⟨b2, o2 + k, none⟩ = some (.int .u16 y) → W.cell? ⟨b2, o2 + k, none⟩ = some (.int .u16 y) := fun W h => h.2
        clear c0 c1
        go_wp2_with fail
        refine region_seq (fun W : World => W.cell? ⟨b1, o1 + k, none⟩ = some (.int .u16 x) ∧ W.cell? ⟨b2, o2 + k, none⟩ = some (.int .u16 y)) [(0, false), (1, false), (2, false), (3, false), (4, false), (5, false), (6, false), (7, false), (8, false)] (by kernel_rfl) (by kernel_rfl) rfl (by kernel_rfl) ?_
        iterate 9 (refine seq_read (v := _) rfl (fun _ _ _ h => h) hS (Or.inl ⟨by rfl, fun W hW => by have g1 := f1 W hW; have g2 := f2 W hW; go_simp <;> with_reducible rfl⟩) ?_; simp only [Act.put, List.setIfInBounds_toArray, List.set_cons_zero, List.set_cons_succ])
        refine seq_end ?_
        clear hS f1 f2
        cases d with
        | true =>
          go_wp2
          go_ret
          refine ⟨?_, hb.out.drew⟩
          have : decide (xs = ys) = false := by
            rw [decide_eq_false_iff_not]
            rintro rfl
            have h := HX.out
            rw [h.1] at h
            have h2 := h.2
            simp only [Option.some.injEq] at h2
            subst h2
            have h3 := HD.out
            simp at h3
          rw [this]; rfl
        | false =>
          go_wp2_with fail
          go_roundw
          case rel =>
            refine ⟨k + 1, by omega, by go_num, Lib.hid ?_, hb.out.drew⟩
            have h3 : x = y := by simpa using HD.out
            rw [HT1.out, HT2.out, hno.out, h3]
          case measure => simp [intOf]; omega
      · obtain rfl : k = n := by omega
        have HD := Lib.hid (show decide (xs = ys) = true from by
          have h := hno.out
          rw [List.take_of_length_le (by rw [HN.out]; exact Nat.le_refl _), List.take_of_length_le (by rw [HM.out]; exact Nat.le_refl _)] at h
          simp [h])
        go_wp2
        go_ret
        refine ⟨?_, hb⟩
        rw [HD.out]; rfl
  · have HD := Lib.hid (show decide (xs = ys) = false from by
      rw [decide_eq_false_iff_not]
      rintro rfl
      exact hnm (HN.out.symm.trans HM.out))
    go_enter Try.func13, Try.ntmps13
    go_wp2
    go_ret
    refine ⟨?_, Below.refl _ _⟩
    rw [HD.out]; rfl
end Go.Proofs.Ytmgpphgiigppgaa.Nck
