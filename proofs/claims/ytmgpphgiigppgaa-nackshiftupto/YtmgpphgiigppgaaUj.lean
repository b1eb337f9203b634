/- NackShift walked: pairs moved by as much ask for numbers moved by as much. -/
import Derived.Test.YtmgpphgiigppgaaUh
namespace Go.Proofs.Ytmgpphgiigppgaa.Nck
open Go.RowKit Go.Proofs.Ytmgpphgiigppgaa.Fbk
set_option linter.unusedVariables false

set_option maxHeartbeats 4000000 in
theorem shift_any (a : Option Addr) (cap B : Nat) (xs : List (Int × Int)) (k : Int) (w : World) (hl : xs.length ≤ 1048576) (hr : RowRd pairL w B a xs.length xs) (hB : B ≤ w.heap.size) (hok : ∀ x ∈ xs, U16 x.1 ∧ U16 x.2) (hk : U16 k) :
    Calls Try.prog 6 #[.slice a xs.length cap, .int .u16 k] w fun e w' => e = .returned (.bool true) ∧ Below w.heap.size w w' := by
  obtain ⟨i0, hi0, hz0, hz1, hz2⟩ := info_parts infoP
  have HI := Lib.hid (And.intro hi0 (And.intro hz0 (And.intro hz1 hz2)))
  clear hi0 hz0 hz1 hz2
  have HR := Lib.hid hr
  have HO := Lib.hid hok
  have HKK := Lib.hid hk
  obtain ⟨n, hn⟩ : ∃ n, xs.length = n := ⟨_, rfl⟩
  have HN := Lib.hid hn
  rw [hn] at HR hl ⊢
  clear hr hok hn hk
  go_enter Try.func6, Try.ntmps6
  go_wp2_with fail
  refine (shown_any w).mono ?_
  rintro e w0 ⟨rfl, hb0⟩
  have HB0 := Lib.hid hb0
  clear hb0
  obtain ⟨mv, hmv⟩ : ∃ mv : Int × Int → Int × Int, mv = fun p => ((p.1 + k) % 65536, p.2) := ⟨_, rfl⟩
  have HMV := Lib.hid hmv
  clear hmv
  go_wp2_with fail
  go_loopw [5, 15] (fun sl sk wx => ∃ (j : Nat) (A : Option Addr) (c : Nat), j ≤ n ∧ sk = .int .i64 j ∧ sl = .slice A j c ∧ Hid (RowOwn pairL wx w.heap.size A j c ((xs.take j).map mv)) ∧ Hid (Below w.heap.size w wx)) (fun _ sk _ => n - (intOf sk).toNat)
  case atStart => exact ⟨0, none, 0, by omega, rfl, rfl, RowOwn.nil _ _, HB0⟩
  case round =>
    clear HB0
    obtain ⟨j, A, c, hj, rfl, rfl, ho, hb⟩ := hrel
    rename World => wx
    by_cases hlt : j < n
    · obtain ⟨b, off, x, rfl, hbB, hx, c0, c1⟩ := pair_at (HR.out.below (hb.out.mono hB)) hlt
      have HT := Lib.hid (show (xs.take (j + 1)).map mv = (xs.take j).map mv ++ [mv x] from by rw [take_snoc' xs j x hx, List.map_append]; rfl)
      have hmx : mv x = ((x.1 + k) % 65536, x.2) := by rw [HMV.out]
      rw [hmx] at HT
      clear hx hmx
      obtain ⟨x0, x1⟩ := x
      simp only at c0 c1 HT
      have q1 : IntKind.u16.wrap (x0 + k) = (x0 + k) % 65536 := wrap16 _
      generalize (x0 + k) % 65536 = z at *
      have d0 : (wx.alloc (pairO (x0, x1))).cell? ⟨wx.heap.size, 0, none⟩ = some (.int .u16 x0) := (PrBlk.new wx (x0, x1)).c0
      have d1 : (wx.alloc (pairO (x0, x1))).cell? ⟨wx.heap.size, 1, none⟩ = some (.int .u16 x1) := (PrBlk.new wx (x0, x1)).c1
      have HB1 : Hid (Below w.heap.size w (wx.alloc (pairO (x0, x1)))) := hb.out.alloc hb.out.size _
      have HB2 : Hid (Below w.heap.size w ((wx.alloc (pairO (x0, x1))).alloc (pairO (z, x1)))) := HB1.out.alloc HB1.out.size _
      have HO1 : Hid (RowOwn pairL (wx.alloc (pairO (x0, x1))) w.heap.size A j c ((xs.take j).map mv)) := ho.out.bel ((Below.refl _ _).alloc (Nat.le_refl _) _)
      have HO2 : Hid (RowOwn pairL ((wx.alloc (pairO (x0, x1))).alloc (pairO (z, x1))) w.heap.size A j c ((xs.take j).map mv)) := HO1.out.bel ((Below.refl _ _).alloc (Nat.le_refl _) _)
      have R2 := Lib.hid (one_pair (wx.alloc (pairO (x0, x1))) (z, x1))
      rw [show (wx.alloc (pairO (x0, x1))).heap.size = wx.heap.size + 1 from by simp] at R2
      clear HB1 HO1 ho
      go_wp2_with (at_builtin; refine wpList_append_keep (L := pairL) (N := j + 1) rfl (.tmp 19) (.tmp 27) rfl Try.underlying22 HI.out.1 HI.out.2.1 HI.out.2.2.1 HI.out.2.2.2 rfl ((xs.take (j + 1)).map mv) rfl HT.out.symm rfl rfl HO2.out R2.out HB2.out.size (by unfold maxLen; omega) (by omega) ?_; intro A4 e4 w4 ho4 hb4 hk4)
      go_roundw
      case rel => exact ⟨j + 1, A4, e4, by omega, by go_num, rfl, ho4, HB2.out.trans hb4⟩
      case measure => simp [intOf]; omega
    · obtain rfl : j = n := by omega
      have hox := ho.out
      rw [List.take_of_length_le (by rw [HN.out]; exact Nat.le_refl _)] at hox
      have HM := Lib.hid hox
      clear hox ho hlt hj
      have C1 : Hid (Calls Try.prog 9 #[.slice a j cap] wx fun e w' => New16 wx (expand xs) e w') := by
        have := expand_any a cap B xs wx (by have := HN.out; omega) (by rw [HN.out]; exact HR.out.below (hb.out.mono hB)) (Nat.le_trans hB hb.out.size) HO.out
        rw [HN.out] at this
        exact this
      go_wp2_with fail
      refine C1.out.mono ?_
      rintro e w2 ⟨A2, c2, rfl, ho2, hb2⟩
      have HX2 := Lib.hid ho2
      have HB2 := Lib.hid (hb.out.trans (hb2.mono hb.out.size))
      have hmo := HM.out.bel hb2
      have C2 : Hid (Calls Try.prog 9 #[.slice A j c] w2 fun e w' => New16 w2 ((expand xs).map (fun x => (x + k) % 65536)) e w') := by
        have hlm : (xs.map mv).length = j := hmo.1
        have := expand_any A c w2.heap.size (xs.map mv) w2 (by omega) (by rw [hlm]; exact hmo.rd) (Nat.le_refl _) (by
          intro x hx
          rw [HMV.out] at hx
          obtain ⟨p, hp, rfl⟩ := List.mem_map.1 hx
          exact ⟨⟨by show 0 ≤ (p.1 + k) % 65536; omega, by show (p.1 + k) % 65536 ≤ 65535; omega⟩, (HO.out p hp).2⟩)
        rw [hlm, HMV.out, expand_move] at this
        exact this
      clear C1 ho2 hb2 hb HM hmo
      obtain ⟨E, hE⟩ : ∃ E, expand xs = E := ⟨_, rfl⟩
      have hEl := expand_len_le xs
      rw [HN.out, hE] at hEl
      rw [hE] at HX2 C2 ⊢
      clear hE
      obtain ⟨L, hL⟩ : ∃ L, E.length = L := ⟨_, rfl⟩
      rw [hL] at hEl HX2 ⊢
      go_wp2_with fail
      refine C2.out.mono ?_
      rintro e w3 ⟨A3, c3, rfl, ho3, hb3⟩
      rw [List.length_map, hL] at ho3 ⊢
      have HX3 := Lib.hid (HX2.out.bel hb3)
      have HY3 := Lib.hid ho3
      have HB3 := Lib.hid (HB2.out.trans (hb3.mono HB2.out.size))
      clear C2 HX2 HB2 hb3 ho3 hL
      go_wp2_with fail
      go_loopw [41] (fun sj wy => ∃ i : Nat, i ≤ L ∧ sj = .int .i64 i ∧ Hid (Below w3.heap.size w3 wy)) (fun sj _ => L - (intOf sj).toNat)
      case atStart => exact ⟨0, by omega, rfl, Below.refl _ _⟩
      case round =>
        obtain ⟨i, hi, rfl, hb4⟩ := hrel
        rename World => wy
        have HB4 := Lib.hid (HB3.out.trans (hb4.out.mono HB3.out.size))
        by_cases hil : i < L
        · obtain ⟨g1, o1, e, rfl, _, he, c0⟩ := u16_at (HX3.out.bel hb4.out).rd hil
          obtain ⟨g2, o2, y, rfl, _, hy, c1⟩ := u16_at (HY3.out.bel hb4.out).rd hil
          have hye : y = (e + k) % 65536 := by
            rw [List.getElem?_map, he] at hy
            simpa using hy.symm
          have q1 : IntKind.u16.wrap (e + k) = y := by rw [wrap16, hye]
          clear he hy hye
          have hS : (fun W : World => W.cell? ⟨g1, o1 + i, none⟩ = some (.int .u16 e) ∧ W.cell? ⟨g2, o2 + i, none⟩ = some (.int .u16 y)) wy.drew := ⟨c0, c1⟩
          clear c0 c1
          go_wp2_with fail
          refine region_seq (fun W : World => W.cell? ⟨g1, o1 + i, none⟩ = some (.int .u16 e) ∧ W.cell? ⟨g2, o2 + i, none⟩ = some (.int .u16 y)) [(0, false), (1, false), (2, false), (3, false), (4, false), (5, false), (6, false), (7, false), (8, false), (9, false), (10, false)] (by kernel_rfl) (by kernel_rfl) rfl (by kernel_rfl) ?_
          iterate 11 (refine seq_read (v := _) rfl (fun _ _ _ h => h) hS (Or.inl ⟨by rfl, fun W hW => by have g1 := hW.1; have g2 := hW.2; go_simp <;> with_reducible rfl⟩) ?_; simp only [Act.put, List.setIfInBounds_toArray, List.set_cons_zero, List.set_cons_succ])
          refine seq_end ?_
          clear hS
          go_wp2_with fail
          go_roundw
          case rel => exact ⟨i + 1, by omega, by go_num, hb4.out.drew⟩
          case measure => simp [intOf]; omega
        · obtain rfl : i = L := by omega
          go_wp2_with fail
          go_ret
          exact ⟨rfl, HB4⟩
end Go.Proofs.Ytmgpphgiigppgaa.Nck
