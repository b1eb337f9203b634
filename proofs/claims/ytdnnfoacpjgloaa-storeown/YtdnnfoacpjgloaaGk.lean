/- StoreOwn, walked. -/
import Derived.Test.YtdnnfoacpjgloaaGj
set_option maxRecDepth 100000
namespace Go.Proofs.Ytdnnfoacpjgloaa.Stv
open Go.RowKit
open Arn (Slt Ar OkS Upd hnV hnO HBlk refsV callE keepL dropL freeN liveB newL)
open Pat (hasD applyL pch QBlk PF)
set_option linter.unusedVariables false

section
variable {w0 w : World} {b ba ga g r gA : Nat} {L : List Slt} {D : List (List Int)} {s gn : Int} {xs : List Int} {T : List Value}
/-- A store into a row of bytes of the call's own. -/
theorem Hold.off (h : Hold w0 w b ba ga g L D) (hk : Blk w gA xs T) (hA : w0.heap.size ≤ gA) (i : Nat) (u : Value) : Hold w0 (w.setCell ⟨gA, i, none⟩ u) b ba ga g L D := by
  have hu : Upd (· = gA) w (w.setCell ⟨gA, i, none⟩ u) := (Upd.refl (· = gA) w).setCell (b := gA) (i := i) (.inl rfl) u
  obtain ⟨cs, hc, -⟩ := h.st.rm
  refine ⟨h.st.upd hu ?_ ?_ ?_ ?_, h.bel.trans (hu.below h.bel.size (fun k hk => hk ▸ hA)), h.bs⟩
  · rintro rfl
    have := h.st.blk.symm.trans hk
    simp at this
  · rintro rfl
    have := h.st.ar.blk.symm.trans hk
    simp at this
  · rintro rfl
    have := Eq.trans (Eq.symm h.st.ar.row) hk
    simp [Arn.rowO] at this
  · rintro rfl
    have := hc.symm.trans hk
    simp at this
theorem hnd_off (h : HBlk w r s gn) (hk : Blk w gA xs T) (i : Nat) (u : Value) : HBlk (w.setCell ⟨gA, i, none⟩ u) r s gn :=
  h.upd ((Upd.refl (· = gA) w).setCell (b := gA) (i := i) (.inl rfl) u) (by
    rintro rfl
    have := Eq.trans (Eq.symm h) hk
    simp at this)
end
theorem own_at {w : World} {base n c k : Nat} {A : Option Addr} {xs : List Int} (h : Own w base A n c xs) (hk : k < n) : ∃ g T, A = some ⟨g, 0, none⟩ ∧ base ≤ g ∧ Blk w g xs T ∧ ∀ y : Int, 0 ≤ y → y ≤ 255 → Own (w.setCell ⟨g, k, none⟩ (.int .u8 y)) base A n c (xs.set k y) := by
  obtain ⟨h1, h2, h3, h4, h5⟩ := h
  rcases h5 with ⟨-, e, -⟩ | ⟨g, T, rfl, hg, hb, hl⟩
  · omega
  · refine ⟨g, T, rfl, hg, hb, fun y h0 h5 => ⟨by rw [List.length_set]; exact h1, ?_, h3, h4, .inr ⟨g, T, rfl, hg, hb.set_ k (by omega) y, by rw [List.length_set]; exact hl⟩⟩⟩
    intro z hz
    rcases List.mem_or_eq_of_mem_set hz with hz | rfl
    · exact h2 z hz
    · exact ⟨h0, h5⟩
theorem bump (y : Int) (h0 : 0 ≤ y) (h1 : y ≤ 255) : 0 ≤ IntKind.u8.wrap (y + 1) ∧ IntKind.u8.wrap (y + 1) ≤ 255 := by
  have : IntKind.u8.wrap (y + 1) = (y + 1) % 256 := by simp [IntKind.wrap, IntKind.bits, IntKind.signed]
  rw [this]; omega

set_option maxHeartbeats 8000000 in
theorem own_law (a : Option Addr) (n cap : Nat) (xs : List Int) (w : World) (hl : n ≤ 140737488351232) (hlc : n ≤ cap) (hr : Rd w w.heap.size a n xs) :
    Calls Try.prog 4 #[.slice a n cap] w fun e w' => e = .returned (.bool true) ∧ Below w.heap.size w w' := by
  have CS : Hid (∀ W, Calls Try.prog 7 #[] W fun e w' => e = .returned (.bool true) ∧ Below W.heap.size W w') := fun W => shown_any W
  have CN : Hid (∀ W, Below w.heap.size w W → Calls Try.prog 8 #[.int .i64 2] W fun e w' => ∃ b ba ga g, e = .returned (.pointer (some ⟨b, 0, none⟩)) ∧ Hold w w' b ba ga g [(1, 0), (1, 0)] [[], []]) := fun W hW => new_hold w W 2 hW (by decide) (by decide)
  have hx := hr.1
  have HR := Lib.hid hr
  clear hr
  by_cases h5 : 512 < n
  · have CU : Hid (∀ W b ba ga g A c, Hold w W b ba ga g [(1, 0), (1, 0)] [[], []] → Own W w.heap.size A n c xs → Calls Try.prog 11 #[.pointer (some ⟨b, 0, none⟩), .slice A n c] W fun e w' => e = .returned (.tuple #[hnV 0 0, .int .i64 5]) ∧ Hold w w' b ba ga g [(1, 0), (1, 0)] [[], []] ∧ Upd (fun k => k = ga ∨ k = g) W w') := fun W b ba ga g A c h ho => by
      have := h.put (c := c) (by decide) hx (h.mine ho)
      rw [putH, putE, putL, putD, hx, if_pos h5, if_pos h5, if_pos h5, if_pos h5] at this
      exact this
    have CF : Hid (∀ W b ba ga g, Hold w W b ba ga g [(1, 0), (1, 0)] [[], []] → Calls Try.prog 23 #[.pointer (some ⟨b, 0, none⟩)] W fun e w' => e = .returned (.int .i64 2) ∧ Below W.heap.size W w') := fun W b ba ga g h => free_st W b ba ga g _ _ h.st (by decide)
    have hd : decide ((512 : Int) < n) = true := by simp; omega
    clear h5
    go_enter Try.func4, Try.ntmps4
    go_wp2_with fail
    refine (CS.out _).mono ?_
    rintro e w1 ⟨rfl, hb1⟩
    have HB1 := Lib.hid hb1
    clear hb1 CS
    go_wp2_with fail
    refine (CN.out _ HB1.out).mono ?_
    rintro e w2 ⟨b, ba, ga, g, rfl, h⟩
    have H2 := Lib.hid h
    have HR2 := Lib.hid (HR.out.below h.bel)
    clear h HB1 CN
    go_wp2_with (at_builtin; refine wpList_append_bytes rfl (.const (.slice none 0 0)) (.tmp 16) rfl w2.heap.size _ 0 0 n cap n _ _ [] xs xs (Nat.zero_add _) rfl rfl rfl (Own.nil _ _) HR2.out (Nat.le_refl _) (by omega) ?_
                 intro A c w3 ho hb)
    have HO3 : Hid (Own w3 w.heap.size A n c xs) := ho.lower H2.out.bel.size
    have H3 := Lib.hid (H2.out.more hb)
    clear ho hb H2 HR2
    refine (CU.out w3 b ba ga g A c H3.out HO3.out).mono ?_
    rintro e w4 ⟨rfl, h, hu⟩
    have hb := (Below.refl w4.heap.size w4).alloc (Nat.le_refl _) (hnO 0 0)
    have H4 := Lib.hid (h.more hb)
    clear h hu hb HO3 H3 CU
    go_wp2_with fail
    refine (CF.out _ b ba ga g H4.out).mono ?_
    rintro e w5 ⟨rfl, hb⟩
    have H5 := Lib.hid (H4.out.more hb)
    clear hb H4 CF
    go_wp2_with fail
    go_ret
    exact ⟨rfl, H5.out.bel⟩
  · have CU : Hid (∀ W b ba ga g A c, Hold w W b ba ga g [(1, 0), (1, 0)] [[], []] → Own W w.heap.size A n c xs → Calls Try.prog 11 #[.pointer (some ⟨b, 0, none⟩), .slice A n c] W fun e w' => e = .returned (.tuple #[hnV 0 1, .int .i64 0]) ∧ Hold w w' b ba ga g [(1, 1), (1, 0)] [xs, []] ∧ Upd (fun k => k = ga ∨ k = g) W w') := fun W b ba ga g A c h ho => by
      have := h.put (c := c) (by decide) hx (h.mine ho)
      rw [putH, putE, putL, putD, hx, if_neg h5, if_neg h5, if_neg h5, if_neg h5] at this
      exact this
    have CB : Hid (∀ W b ba ga g, Hold w W b ba ga g [(1, 1), (1, 0)] [xs, []] → Calls Try.prog 19 #[.pointer (some ⟨b, 0, none⟩), hnV 0 1] W fun e w' => ∃ A c, e = .returned (.tuple #[.slice A n c, .int .i64 0]) ∧ Own w' W.heap.size A n c xs ∧ Below W.heap.size W w') := fun W b ba ga g h => by
      have hO : OkS 9 [(1, 1), (1, 0)] := fun x hx => by
        simp only [List.mem_cons, List.not_mem_nil, or_false] at hx
        rcases hx with rfl | rfl
        · decide
        · decide
      have := bytes_st W b ba ga g _ _ 0 1 9 h.st (by decide) hO
      rw [show bytesV [(1, 1), (1, 0)] [xs, []] 0 1 = xs from rfl] at this
      subst hx
      exact this
    have hd : decide ((512 : Int) < n) = false := by simp; omega
    have hn5 : n ≤ 512 := by omega
    clear h5
    go_enter Try.func4, Try.ntmps4
    go_wp2_with fail
    refine (CS.out _).mono ?_
    rintro e w1 ⟨rfl, hb1⟩
    have HB1 := Lib.hid hb1
    clear hb1 CS
    go_wp2_with fail
    refine (CN.out _ HB1.out).mono ?_
    rintro e w2 ⟨b, ba, ga, g, rfl, h⟩
    have H2 := Lib.hid h
    have HR2 := Lib.hid (HR.out.below h.bel)
    clear h HB1 CN
    go_wp2_with (at_builtin; refine wpList_append_bytes rfl (.const (.slice none 0 0)) (.tmp 16) rfl w2.heap.size _ 0 0 n cap n _ _ [] xs xs (Nat.zero_add _) rfl rfl rfl (Own.nil _ _) HR2.out (Nat.le_refl _) (by omega) ?_
                 intro A c w3 ho hb)
    have HO3 : Hid (Own w3 w.heap.size A n c xs) := ho.lower H2.out.bel.size
    have H3 := Lib.hid (H2.out.more hb)
    clear ho hb H2 HR2
    refine (CU.out w3 b ba ga g A c H3.out HO3.out).mono ?_
    rintro e w4 ⟨rfl, h, hu⟩
    have hb := (Below.refl w4.heap.size w4).alloc (Nat.le_refl _) (hnO 0 1)
    have H4 := Lib.hid (h.more hb)
    have HH4 := Lib.hid (HBlk.new w4 0 1)
    have HO4 := Lib.hid ((H3.out.own HO3.out hu).below hb (Nat.le_refl _))
    obtain ⟨w5, hw5⟩ : ∃ w5, w4.alloc (hnO 0 1) = w5 := ⟨_, rfl⟩
    obtain ⟨r, hrr⟩ : ∃ r, w4.heap.size = r := ⟨_, rfl⟩
    rw [hw5] at H4 HH4 HO4
    rw [hrr] at HH4
    clear h hu hb HO3 H3 CU
    go_wp2
    go_loopw [36] (fun si wx => ∃ (k : Nat) (ys : List Int), k ≤ n ∧ si = .int .i64 k ∧ Hid (Own wx w.heap.size A n c ys) ∧ Hid (Hold w wx b ba ga g [(1, 1), (1, 0)] [xs, []]) ∧ Hid (HBlk wx r 0 1)) (fun si _ => n - (intOf si).toNat)
    case atStart => exact ⟨0, xs, by omega, rfl, HO4, H4, HH4⟩
    case round =>
      obtain ⟨k, ys, hk, rfl, ho, h, hh⟩ := hrel
      rename World => wx
      by_cases hlt : k < n
      · have hdk : decide (k < n) = true := by simp; exact hlt
        obtain ⟨gA, T, rfl, hgA, hb, hst⟩ := own_at ho.out hlt
        have hc := hb.cell k (by rw [ho.out.len]; exact hlt)
        have hf := hb.frozen k
        obtain ⟨y, hy⟩ : ∃ y, ys.getD k 0 = y := ⟨_, rfl⟩
        have hby := ho.out.bytes.getD k
        rw [hy] at hc hby
        obtain ⟨q0, q1⟩ := bump y hby.1 hby.2
        have HO := Lib.hid (hst _ q0 q1)
        have HH := Lib.hid (h.out.off hb hgA k (.int .u8 (IntKind.u8.wrap (y + 1))))
        have HHH := Lib.hid (hnd_off hh.out hb k (.int .u8 (IntKind.u8.wrap (y + 1))))
        clear ho h hh hst hb hw5 H4 HH4 HO4 hby
        go_wp2_with fail
        go_roundw
        case rel => exact ⟨k + 1, _, by omega, by go_num, HO, HH, HHH⟩
        case measure => simp [intOf]; omega
      · obtain rfl : k = n := by omega
        have hdk : decide (k < k) = false := by simp
        clear hw5 H4 HH4 HO4 ho
        have c0 := hh.out.c0
        have c1 := hh.out.c1
        go_wp2_with fail
        refine (CB.out wx b ba ga g h.out).mono ?_
        rintro e w6 ⟨A6, c6, rfl, ho6, hb6⟩
        have H6 := Lib.hid (h.out.more hb6)
        have HH6 := Lib.hid (hh.out.bel hb6 hh.out.lt)
        have HO6 : Hid (Own w6 w.heap.size A6 k c6 xs) := ho6.lower h.out.bel.size
        have s1 := str_run (c := c6) HO6.out.rd
        have s2 := str_run (c := cap) (HR.out.below H6.out.bel)
        clear h hh ho6 hb6 c0 c1 hlt hdk
        go_wp2
        go_loopw [67] (fun si wy => ∃ (j : Nat) (ys : List Int), j ≤ k ∧ si = .int .i64 j ∧ Hid (Own wy w.heap.size A6 k c6 ys) ∧ Hid (Hold w wy b ba ga g [(1, 1), (1, 0)] [xs, []]) ∧ Hid (HBlk wy r 0 1)) (fun si _ => k - (intOf si).toNat)
        case atStart => exact ⟨0, xs, by omega, rfl, HO6, H6, HH6⟩
        case round =>
          obtain ⟨j, zs, hj, rfl, ho, h, hh⟩ := hrel
          rename World => wy
          clear s1 s2 HO6 H6 HH6
          by_cases hlt : j < k
          · have hdk : decide (j < k) = true := by simp; exact hlt
            obtain ⟨gA, T, rfl, hgA, hb, hst⟩ := own_at ho.out hlt
            have hc := hb.cell j (by rw [ho.out.len]; exact hlt)
            have hf := hb.frozen j
            obtain ⟨y, hy⟩ : ∃ y, zs.getD j 0 = y := ⟨_, rfl⟩
            have hby := ho.out.bytes.getD j
            rw [hy] at hc hby
            obtain ⟨q0, q1⟩ := bump y hby.1 hby.2
            have HO := Lib.hid (hst _ q0 q1)
            have HH := Lib.hid (h.out.off hb hgA j (.int .u8 (IntKind.u8.wrap (y + 1))))
            have HHH := Lib.hid (hnd_off hh.out hb j (.int .u8 (IntKind.u8.wrap (y + 1))))
            clear ho h hh hst hb hby
            go_wp2_with fail
            go_roundw
            case rel => exact ⟨j + 1, _, by omega, by go_num, HO, HH, HHH⟩
            case measure => simp [intOf]; omega
          · obtain rfl : j = k := by omega
            have hdk : decide (j < j) = false := by simp
            clear ho
            have c0 := hh.out.c0
            have c1 := hh.out.c1
            go_wp2_with fail
            refine (CB.out wy b ba ga g h.out).mono ?_
            rintro e w8 ⟨A8, c8, rfl, ho8, hb8⟩
            have H8 := Lib.hid (h.out.more hb8)
            have HO8 := Lib.hid ho8.rd
            have s1 := str_run (c := c8) HO8.out
            have s2 := str_run (c := cap) (HR.out.below H8.out.bel)
            clear h hh ho8 hb8 c0 c1
            go_wp2_with fail
            go_ret
            exact ⟨rfl, H8.out.bel⟩
end Go.Proofs.Ytdnnfoacpjgloaa.Stv
