/- The contract of the reference's Get whatever the bytes; the walk of RtpGets. -/
import Derived.Test.YtiamdaeodkiccaaMd0
import Derived.Test.YtiamdaeodkiccaaMd1
import Derived.Test.YtiamdaeodkiccaaKv
namespace Go.Proofs.Ytiamdaeodkiccaa.Rtp
open Go.RowKit
set_option linter.unusedVariables false

theorem rget_any (a : Option Addr) (len cap B : Nat) (xs : List Int) (w : World) (hl : len ≤ maxLen) (hlc : len ≤ cap) (hr : Rd w B a len xs) (hB : B ≤ w.heap.size) :
    Calls Try.prog 18 #[.slice a len cap] w (RRet w (gP xs) (gF xs) (gT xs) (pE xs)) := by
  have hr := hr.more hB
  have hx := hr.1
  have hby := hr.2.1
  have errs : ∀ n, pE xs = n → n ≠ 0 → RRet w zeroPkt 0 0 n = RRet w (gP xs) (gF xs) (gT xs) (pE xs) := by
    intro n h h0
    rw [gP, gF, gT, h, if_neg h0, if_neg h0, if_neg h0]
  by_cases h512 : 512 < len
  · rw [← errs 5 (by rw [pE, if_pos (by omega)]) (by decide)]
    exact rget_long a len cap w h512
  · by_cases h12 : len < 12
    · rw [← errs 2 (by rw [pE, if_neg (by omega), if_pos (by omega)]) (by decide)]
      exact rget_few a len cap w h12
    · obtain ⟨b, off, rfl, hlt, hcell⟩ := hr.2.2 (by omega)
      have c0 := hcell 0 (by omega)
      have c1 := hcell 1 (by omega)
      rw [Nat.add_zero] at c0
      have b0 := hby.getD 0
      have b1 := hby.getD 1
      by_cases hv : xs.getD 0 0 / 64 = 2
      · by_cases hk : 192 ≤ xs.getD 1 0 ∧ xs.getD 1 0 ≤ 223
        · rw [← errs 4 (by rw [pE, if_neg (by omega), if_neg (by omega), if_neg (by omega), if_pos hk]) (by decide)]
          exact rget_kind b off len cap _ _ w (by omega) (by omega) hlt c0 c1 (by omega) (by omega) hk.1 hk.2
        · have hE0 : hE xs = 0 := by rw [hE, if_neg (by omega), if_neg (by omega), if_neg (by omega), if_neg hk]
          have hpt := pE_tail xs hby hE0
          have n1 := nb_bd xs hby 2 2
          have n2 := nb_bd xs hby 4 4
          have n3 := nb_bd xs hby 8 4
          have n4 := nb_bd xs hby (12 + 4 * ccN xs) 2
          have n5 := nb_bd xs hby (12 + 4 * ccN xs + 2) 2
          have hcn : ccN xs ≤ 15 := by unfold ccN; omega
          have hat1 : at1 xs = 12 + 4 * ccN xs := rfl
          have hat2 : at2 xs = (if hasX xs then 12 + 4 * ccN xs + 4 + 4 * (nb xs (12 + 4 * ccN xs + 2) 2).toNat else 12 + 4 * ccN xs) := rfl
          have CR : ∀ W i s, Below w.heap.size w W → 1 ≤ s → s ≤ 8 → i + s ≤ len → Calls Try.prog 31 #[.slice (some ⟨b, off, none⟩) len cap, .int .i64 (i : Nat), .int .i64 (s : Nat)] W fun e w' => e = .returned (.int .u64 (nb xs i s)) ∧ W = w' :=
            fun W i s hW h1 h2 h3 => read_nb _ len cap w.heap.size i s xs W hl hlc (hr.below hW) h1 h2 h3
          have HW : ∀ i, 0 ≤ nb xs i 4 ∧ nb xs i 4 ≤ 4294967295 := fun i => by have := nb_bd xs hby i 4; omega
          have E2 : len < 12 + 4 * ccN xs → ∀ W, Below w.heap.size w W → RRet w (gP xs) (gF xs) (gT xs) (pE xs) (.returned (.tuple #[pkt zpv, .int .i64 0, .int .i64 0, .int .i64 2])) W := fun h W hW => by
            rw [← errs 2 (by rw [hpt, if_pos (by rw [inB, decide_eq_false (by omega)]; rfl)]) (by decide)]
            exact RRet.none_ hW
          have E3 : hasX xs = true → (len < 12 + 4 * ccN xs + 4 ∨ len < 12 + 4 * ccN xs + 4 + 4 * (nb xs (12 + 4 * ccN xs + 2) 2).toNat) → ∀ W, Below w.heap.size w W → RRet w (gP xs) (gF xs) (gT xs) (pE xs) (.returned (.tuple #[pkt zpv, .int .i64 0, .int .i64 0, .int .i64 2])) W := fun hX h W hW => by
            rw [hX, if_pos rfl] at hat2
            rw [← errs 2 (by rw [hpt, if_pos (by rw [inB, decide_eq_false (show ¬ at2 xs ≤ xs.length by omega)]; simp)]) (by decide)]
            exact RRet.none_ hW
          have hin : at2 xs ≤ len → inB xs = true := fun h => by
            rw [inB]
            cases hX : hasX xs
            · rw [hX] at hat2
              simp at hat2
              simp; omega
            · rw [hX, if_pos rfl] at hat2
              simp; omega
          have E4 : ∀ at_, at_ = (if hasX xs then 12 + 4 * ccN xs + 4 + 4 * (nb xs (12 + 4 * ccN xs + 2) 2).toNat else 12 + 4 * ccN xs) → at_ ≤ len → hasP xs = true → pdB (xs.drop at_) = false → ∀ W, Below w.heap.size w W →
              RRet w (gP xs) (gF xs) (gT xs) (pE xs) (.returned (.tuple #[pkt zpv, .int .i64 0, .int .i64 0, .int .i64 1])) W := fun at_ h1 h2 h3 h4 W hW => by
            rw [← hat2] at h1
            subst h1
            rw [← errs 1 (by rw [hpt, hin h2, if_neg (by decide), h3, h4]; rfl) (by decide)]
            exact RRet.none_ hW
          have E5 : ∀ at_ A1 k1 A2 k2 A3 k3 W (t : Nat) (pad : Int), at_ = (if hasX xs then 12 + 4 * ccN xs + 4 + 4 * (nb xs (12 + 4 * ccN xs + 2) 2).toNat else 12 + 4 * ccN xs) → (hasP xs = false → t = len ∧ pad = 0) → (hasP xs = true → pdB (xs.drop at_) = true ∧ pad = lastB (xs.drop at_) ∧ (t : Int) = len - pad) → at_ ≤ t → t ≤ len →
              OwnW W (w.heap.size + 2) A1 (ccN xs) k1 (wordsAt xs 12 (ccN xs)) → Own W (w.heap.size + 2) A2 (if hasX xs then 4 * (nb xs (12 + 4 * ccN xs + 2) 2).toNat else 0) k2 (if hasX xs then (xs.drop (12 + 4 * ccN xs + 4)).take (4 * (nb xs (12 + 4 * ccN xs + 2) 2).toNat) else []) → Own W (w.heap.size + 2) A3 (t - at_) k3 ((xs.drop at_).take (t - at_)) → Below w.heap.size w W →
              RRet w (gP xs) (gF xs) (gT xs) (pE xs) (.returned (.tuple #[pkt ⟨decide (128 ≤ xs.getD 1 0), xs.getD 1 0 % 128, nb xs 2 2, nb xs 4 4, nb xs 8 4, A1, ccN xs, k1, hasX xs, (if hasX xs then nb xs (12 + 4 * ccN xs) 2 else 0), A2, (if hasX xs then 4 * (nb xs (12 + 4 * ccN xs + 2) 2).toNat else 0), k2, A3, t - at_, k3, pad⟩, .int .i64 (at_ : Nat), .int .i64 (t : Nat), .int .i64 0])) W := by
            intro at_ A1 k1 A2 k2 A3 k3 W t pad h1 h2 h3 h4 h5 o1 o2 o3 hW
            rw [← hat2] at h1
            subst h1
            have hp0 : pE xs = 0 := by
              rw [hpt, hin (by omega), if_neg (by decide)]
              cases hP : hasP xs
              · rfl
              · rw [(h3 hP).1]; rfl
            have hpad : pad = (padN xs : Int) ∧ padN xs ≤ len ∧ t = len - padN xs := by
              cases hP : hasP xs
              · have e : padN xs = 0 := by rw [padN, hP]; rfl
                have := h2 hP
                rw [e]
                exact ⟨by omega, by omega, by omega⟩
              · obtain ⟨k1, k2, k3⟩ := h3 hP
                have e := padding_off xs hby (by omega) hP k1
                rw [pdN, k1, if_pos rfl, ← k2] at e
                exact ⟨e, by omega, by omega⟩
            obtain ⟨hpad1, hpad2, rfl⟩ := hpad
            have hcs : (pQ xs).csrc.length = ccN xs := wordsAt_length xs _ _
            have hes : (pQ xs).ext.length = (if hasX xs then 4 * (nb xs (12 + 4 * ccN xs + 2) 2).toNat else 0) := o2.1
            have hps : (pQ xs).pay = (xs.drop (at2 xs)).take (len - padN xs - at2 xs) := by rw [← hx]; rfl
            have hpl : (pQ xs).pay.length = len - padN xs - at2 xs := by rw [hps]; exact o3.1
            rw [gP, gF, gT, hp0, if_pos rfl, if_pos rfl, if_pos rfl]
            refine ⟨⟨A1, k1, A2, k2, A3, k3⟩, ?_, ⟨?_, ?_, ?_, ?_, ?_, ?_, ?_, ?_, ?_⟩, hW⟩
            · have e1 : pvOf (pQ xs) ⟨A1, k1, A2, k2, A3, k3⟩ = ⟨decide (128 ≤ xs.getD 1 0), xs.getD 1 0 % 128, nb xs 2 2, nb xs 4 4, nb xs 8 4, A1, ccN xs, k1, hasX xs, (if hasX xs then nb xs (12 + 4 * ccN xs) 2 else 0), A2, (if hasX xs then 4 * (nb xs (12 + 4 * ccN xs + 2) 2).toNat else 0), k2, A3, len - padN xs - at2 xs, k3, pad⟩ := by
                rw [pvOf, hcs, hes, hpl, hpad1]; rfl
              rw [e1, show (xs.length : Int) - padN xs = ((len - padN xs : Nat) : Int) from by omega]
            · rw [hcs]; exact o1.rd
            · rw [hes]; exact o2.rd
            · rw [hpl, hps]; exact o3.rd
            · rw [hcs]; omega
            · rw [hes]; split <;> omega
            · rw [hpl]; omega
            · rw [hcs]; exact o1.2.2.1
            · rw [hes]; exact o2.2.2.1
            · rw [hpl]; exact o3.2.2.1
          rcases Decidable.em (192 ≤ xs.getD 1 0) with h19 | h19
          · exact rget_rest1 b off len cap (ccN xs) _ _ _ _ _ _ _ xs w _ (by omega) (by omega) hlc hlt (by omega) (by omega) (fun h => hk ⟨h19, h⟩) rfl rfl (by omega) (by unfold ccN; omega) hcn (by omega) (by omega) (by omega) c0 c1 CR b1 rfl rfl rfl HW _ (nb xs (12 + 4 * ccN xs + 2) 2).toNat 0 rfl rfl (by omega) rfl (by omega) (by omega) hr E2 E3 E4 E5
          · exact rget_rest0 b off len cap (ccN xs) _ _ _ _ _ _ _ xs w _ (by omega) (by omega) hlc hlt (by omega) (by omega) h19 rfl rfl (by omega) (by unfold ccN; omega) hcn (by omega) (by omega) (by omega) c0 c1 CR b1 rfl rfl rfl HW _ (nb xs (12 + 4 * ccN xs + 2) 2).toNat 0 rfl rfl (by omega) rfl (by omega) (by omega) hr E2 E3 E4 E5
      · rw [← errs 1 (by rw [pE, if_neg (by omega), if_neg (by omega), if_pos hv]) (by decide)]
        exact rget_form b off len cap _ w (by omega) (by omega) hlt c0 (by omega)

set_option maxHeartbeats 4000000 in
theorem gets_walk (a : Option Addr) (len cap : Nat) (p : Pkt) (f t n : Int) (w : World)
    (CG : Hid (∀ W, Below w.heap.size w W → Calls Try.prog 17 #[.slice a len cap] W (GRet W p n))) (CR : Hid (∀ W, Below w.heap.size w W → Calls Try.prog 18 #[.slice a len cap] W (RRet W p f t n)))
    (CO : Hid (∀ W, Below w.heap.size w W → Calls Try.prog 19 #[.slice a len cap] W (RetO W f t n))) :
    Calls Try.prog 4 #[.slice a len cap] w (RetB w true) := by
  go_enter Try.func4, Try.ntmps4
  go_wp2_with fail
  refine (shown_any _).mono ?_
  rintro e w1 ⟨rfl, hb1⟩
  go_wp2_with fail
  refine (CG.out _ hb1).mono ?_
  rintro e w2 ⟨l, rfl, hq, hb2⟩
  obtain ⟨v, hv⟩ : ∃ v, pvOf p l = v := ⟨_, rfl⟩
  rw [hv]
  have hb3 := (Below.refl w2.heap.size w2).alloc (Nat.le_refl _) (pobj v)
  have H3 := Lib.hid ((hb1.trans (hb2.mono hb1.size)).trans (hb3.mono (Nat.le_trans hb1.size hb2.size)))
  have D3 := PBlk.new w2 v
  have Q3 := Lib.hid ((hq.below hb3).more hb3.size)
  clear hb1 hb2 hb3 CG hq
  go_wp2_with fail
  generalize w2.alloc (pobj v) = w3 at *
  generalize w2.heap.size = q at *
  refine (CR.out _ H3.out).mono ?_
  rintro e w4 ⟨l', rfl, hq', hb4⟩
  obtain ⟨u, hu⟩ : ∃ u, pvOf p l' = u := ⟨_, rfl⟩
  rw [hu]
  have hb5 := (Below.refl w4.heap.size w4).alloc (Nat.le_refl _) (pobj u)
  have hb35 := hb4.trans (hb5.mono hb4.size)
  have H5 := Lib.hid (H3.out.trans (hb35.mono H3.out.size))
  have D5 := D3.below hb35 D3.lt
  have E5 := PBlk.new w4 u
  have Q5 := Lib.hid ((Q3.out.below hb35).more hb35.size)
  have Q6 := Lib.hid ((hq'.below hb5).more hb5.size)
  clear hb4 hb5 hb35 CR hq' H3 D3 Q3
  go_wp2_with fail
  generalize w4.alloc (pobj u) = w5 at *
  generalize w4.heap.size = q2 at *
  refine (CO.out _ H5.out).mono ?_
  rintro e w6 ⟨rfl, hb6⟩
  have H6 := Lib.hid (H5.out.trans (hb6.mono H5.out.size))
  have D6 := D5.below hb6 D5.lt
  have E6 := E5.below hb6 E5.lt
  have C := same_any w6 w6.heap.size p l l' ((Q5.out.below hb6).more hb6.size) ((Q6.out.below hb6).more hb6.size) (Nat.le_refl _)
  rw [hv, hu] at C
  have HC := Lib.hid C
  clear hb6 CO H5 D5 E5 Q5 Q6 C hv hu
  have d0 := D6.c0
  have d1 := D6.c1
  have d2 := D6.c2
  have d3 := D6.c3
  have d4 := D6.c4
  have d5 := D6.c5
  have d6 := D6.c6
  have d7 := D6.c7
  have d8 := D6.c8
  have d9 := D6.c9
  have d10 := D6.c10
  have e0 := E6.c0
  have e1 := E6.c1
  have e2 := E6.c2
  have e3 := E6.c3
  have e4 := E6.c4
  have e5 := E6.c5
  have e6 := E6.c6
  have e7 := E6.c7
  have e8 := E6.c8
  have e9 := E6.c9
  have e10 := E6.c10
  go_wp2_with fail
  refine HC.out.mono ?_
  rintro e w7 ⟨rfl, hb7⟩
  clear d0 d1 d2 d3 d4 d5 d6 d7 d8 d9 d10 e0 e1 e2 e3 e4 e5 e6 e7 e8 e9 e10
  go_wp2
  go_ret
  exact ⟨rfl, H6.out.trans (hb7.mono H6.out.size)⟩

theorem gets_law (a : Option Addr) (len cap : Nat) (xs : List Int) (w : World) (hl : len ≤ 140737488351232) (hlc : len ≤ cap) (hr : Rd w w.heap.size a len xs) :
    Calls Try.prog 4 #[.slice a len cap] w (RetB w true) :=
  gets_walk a len cap (gP xs) (gF xs) (gT xs) (pE xs) w (fun W hW => get_any a len cap w.heap.size xs W (by unfold maxLen; omega) hlc (hr.below hW) hW.size)
    (fun W hW => rget_any a len cap w.heap.size xs W (by unfold maxLen; omega) hlc (hr.below hW) hW.size) (fun W hW => offset_any a len cap w.heap.size xs W (by unfold maxLen; omega) hlc (hr.below hW) hW.size)
end Go.Proofs.Ytiamdaeodkiccaa.Rtp
