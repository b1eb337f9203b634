/- The contract of the reference's Get whatever the bytes; the walk of RtpGets. -/
import Derived.Test.YtdnnfoacpjgloaaMd0
import Derived.Test.YtdnnfoacpjgloaaMd1
import Derived.Test.YtdnnfoacpjgloaaKt
import Derived.Test.YtdnnfoacpjgloaaKn
set_option maxRecDepth 100000
namespace Go.Proofs.Ytdnnfoacpjgloaa.Rtp
open Go.RowKit
set_option linter.unusedVariables false

def RNew (w : World) (p : Pkt) (f t n : Int) (e : Ending) (w' : World) : Prop :=
  ∃ l, e = .returned (.tuple #[pkt (pvOf p l), .int .i64 f, .int .i64 t, .int .i64 n]) ∧ PRd w' w'.heap.size p l ∧ PNw w.heap.size p l ∧ Below w.heap.size w w'
theorem RNew.zero {w : World} {f t n : Int} {e : Ending} {w' : World} (h : RRet w zeroPkt f t n e w') : RNew w zeroPkt f t n e w' := by
  obtain ⟨l, h1, h2, h3⟩ := h
  exact ⟨l, h1, h2, PNw.zero _ _, h3⟩
theorem rget_new (a : Option Addr) (len cap B : Nat) (xs : List Int) (w : World) (hl : len ≤ maxLen) (hlc : len ≤ cap) (hr : Rd w B a len xs) (hB : B ≤ w.heap.size) :
    Calls Try.prog 56 #[.slice a len cap] w (RNew w (gP xs) (gF xs) (gT xs) (pE xs)) := by
  have hr := hr.more hB
  have hx := hr.1
  have hby := hr.2.1
  have errs : ∀ n, pE xs = n → n ≠ 0 → RNew w zeroPkt 0 0 n = RNew w (gP xs) (gF xs) (gT xs) (pE xs) := by
    intro n h h0
    rw [gP, gF, gT, h, if_neg h0, if_neg h0, if_neg h0]
  by_cases h512 : 512 < len
  · rw [← errs 5 (by rw [pE, if_pos (by omega)]) (by decide)]
    exact (rget_long a len cap w h512).mono fun _ _ => RNew.zero
  · by_cases h12 : len < 12
    · rw [← errs 2 (by rw [pE, if_neg (by omega), if_pos (by omega)]) (by decide)]
      exact (rget_few a len cap w h12).mono fun _ _ => RNew.zero
    · obtain ⟨b, off, rfl, hlt, hcell⟩ := hr.2.2 (by omega)
      have c0 := hcell 0 (by omega)
      have c1 := hcell 1 (by omega)
      rw [Nat.add_zero] at c0
      have b0 := hby.getD 0
      have b1 := hby.getD 1
      by_cases hv : xs.getD 0 0 / 64 = 2
      · by_cases hk : 192 ≤ xs.getD 1 0 ∧ xs.getD 1 0 ≤ 223
        · rw [← errs 4 (by rw [pE, if_neg (by omega), if_neg (by omega), if_neg (by omega), if_pos hk]) (by decide)]
          exact (rget_kind b off len cap _ _ w (by omega) (by omega) hlt c0 c1 (by omega) (by omega) hk.1 hk.2).mono fun _ _ => RNew.zero
        · have hE0 : hE xs = 0 := by rw [hE, if_neg (by omega), if_neg (by omega), if_neg (by omega), if_neg hk]
          have hpt := pE_tail xs hby hE0
          have n1 := nb_bd xs hby 2 2
          have n2 := nb_bd xs hby 4 4
          have n3 := nb_bd xs hby 8 4
          have n4 := nb_bd xs hby (12 + 4 * ccN xs) 2
          have n5 := nb_bd xs hby (12 + 4 * ccN xs + 2) 2
          have hcn : ccN xs ≤ 15 := by unfold ccN; omega
          have hat1 : at1 xs = 12 + 4 * ccN xs := rfl
          have hat2 : at2 xs = (if hasX xs then 12 + 4 * ccN xs + 4 + 4 * (nb xs (12 + 4 * ccN xs + 2) 2).toNat else 12 + 4 * ccN xs) := rfl
          have CR : ∀ W i s, Below w.heap.size w W → 1 ≤ s → s ≤ 8 → i + s ≤ len → Calls Try.prog 73 #[.slice (some ⟨b, off, none⟩) len cap, .int .i64 (i : Nat), .int .i64 (s : Nat)] W fun e w' => e = .returned (.int .u64 (nb xs i s)) ∧ W = w' :=
            fun W i s hW h1 h2 h3 => read_nb _ len cap w.heap.size i s xs W hl hlc (hr.below hW) h1 h2 h3
          have HW : ∀ i, 0 ≤ nb xs i 4 ∧ nb xs i 4 ≤ 4294967295 := fun i => by have := nb_bd xs hby i 4; omega
          have E2 : len < 12 + 4 * ccN xs → ∀ W, Below w.heap.size w W → RNew w (gP xs) (gF xs) (gT xs) (pE xs) (.returned (.tuple #[pkt zpv, .int .i64 0, .int .i64 0, .int .i64 2])) W := fun h W hW => by
            rw [← errs 2 (by rw [hpt, if_pos (by rw [inB, decide_eq_false (by omega)]; rfl)]) (by decide)]
            exact RNew.zero (RRet.none_ hW)
          have E3 : hasX xs = true → (len < 12 + 4 * ccN xs + 4 ∨ len < 12 + 4 * ccN xs + 4 + 4 * (nb xs (12 + 4 * ccN xs + 2) 2).toNat) → ∀ W, Below w.heap.size w W → RNew w (gP xs) (gF xs) (gT xs) (pE xs) (.returned (.tuple #[pkt zpv, .int .i64 0, .int .i64 0, .int .i64 2])) W := fun hX h W hW => by
            rw [hX, if_pos rfl] at hat2
            rw [← errs 2 (by rw [hpt, if_pos (by rw [inB, decide_eq_false (show ¬ at2 xs ≤ xs.length by omega)]; simp)]) (by decide)]
            exact RNew.zero (RRet.none_ hW)
          have hin : at2 xs ≤ len → inB xs = true := fun h => by
            rw [inB]
            cases hX : hasX xs
            · rw [hX] at hat2
              simp at hat2
              simp; omega
            · rw [hX, if_pos rfl] at hat2
              simp; omega
          have E4 : ∀ at_, at_ = (if hasX xs then 12 + 4 * ccN xs + 4 + 4 * (nb xs (12 + 4 * ccN xs + 2) 2).toNat else 12 + 4 * ccN xs) → at_ ≤ len → hasP xs = true → pdB (xs.drop at_) = false → ∀ W, Below w.heap.size w W →
              RNew w (gP xs) (gF xs) (gT xs) (pE xs) (.returned (.tuple #[pkt zpv, .int .i64 0, .int .i64 0, .int .i64 1])) W := fun at_ h1 h2 h3 h4 W hW => by
            rw [← hat2] at h1
            subst h1
            rw [← errs 1 (by rw [hpt, hin h2, if_neg (by decide), h3, h4]; rfl) (by decide)]
            exact RNew.zero (RRet.none_ hW)
          have E5 : ∀ at_ A1 k1 A2 k2 A3 k3 W (t : Nat) (pad : Int), at_ = (if hasX xs then 12 + 4 * ccN xs + 4 + 4 * (nb xs (12 + 4 * ccN xs + 2) 2).toNat else 12 + 4 * ccN xs) → (hasP xs = false → t = len ∧ pad = 0) → (hasP xs = true → pdB (xs.drop at_) = true ∧ pad = lastB (xs.drop at_) ∧ (t : Int) = len - pad) → at_ ≤ t → t ≤ len →
              OwnW W (w.heap.size + 2) A1 (ccN xs) k1 (wordsAt xs 12 (ccN xs)) → Own W (w.heap.size + 2) A2 (if hasX xs then 4 * (nb xs (12 + 4 * ccN xs + 2) 2).toNat else 0) k2 (if hasX xs then (xs.drop (12 + 4 * ccN xs + 4)).take (4 * (nb xs (12 + 4 * ccN xs + 2) 2).toNat) else []) → Own W (w.heap.size + 2) A3 (t - at_) k3 ((xs.drop at_).take (t - at_)) → Below w.heap.size w W →
              RNew w (gP xs) (gF xs) (gT xs) (pE xs) (.returned (.tuple #[pkt ⟨decide (128 ≤ xs.getD 1 0), xs.getD 1 0 % 128, nb xs 2 2, nb xs 4 4, nb xs 8 4, A1, ccN xs, k1, hasX xs, (if hasX xs then nb xs (12 + 4 * ccN xs) 2 else 0), A2, (if hasX xs then 4 * (nb xs (12 + 4 * ccN xs + 2) 2).toNat else 0), k2, A3, t - at_, k3, pad⟩, .int .i64 (at_ : Nat), .int .i64 (t : Nat), .int .i64 0])) W := by
            intro at_ A1 k1 A2 k2 A3 k3 W t pad h1 h2 h3 h4 h5 o1 o2 o3 hW
            rw [← hat2] at h1
            subst h1
            have hp0 : pE xs = 0 := by
              rw [hpt, hin (by omega), if_neg (by decide)]
              cases hP : hasP xs
              · rfl
              · rw [(h3 hP).1]; rfl
            have hpad : pad = (padN xs : Int) ∧ padN xs ≤ len ∧ t = len - padN xs := by
              cases hP : hasP xs
              · have e : padN xs = 0 := by rw [padN, hP]; rfl
                have := h2 hP
                rw [e]
                exact ⟨by omega, by omega, by omega⟩
              · obtain ⟨k1, k2, k3⟩ := h3 hP
                have e := padding_off xs hby (by omega) hP k1
                rw [pdN, k1, if_pos rfl, ← k2] at e
                exact ⟨e, by omega, by omega⟩
            obtain ⟨hpad1, hpad2, rfl⟩ := hpad
            have hcs : (pQ xs).csrc.length = ccN xs := wordsAt_length xs _ _
            have hes : (pQ xs).ext.length = (if hasX xs then 4 * (nb xs (12 + 4 * ccN xs + 2) 2).toNat else 0) := o2.1
            have hps : (pQ xs).pay = (xs.drop (at2 xs)).take (len - padN xs - at2 xs) := by rw [← hx]; rfl
            have hpl : (pQ xs).pay.length = len - padN xs - at2 xs := by rw [hps]; exact o3.1
            rw [gP, gF, gT, hp0, if_pos rfl, if_pos rfl, if_pos rfl]
            refine ⟨⟨A1, k1, A2, k2, A3, k3⟩, ?_, ⟨?_, ?_, ?_, ?_, ?_, ?_, ?_, ?_, ?_⟩, ⟨?_, ?_, ?_⟩, hW⟩
            · have e1 : pvOf (pQ xs) ⟨A1, k1, A2, k2, A3, k3⟩ = ⟨decide (128 ≤ xs.getD 1 0), xs.getD 1 0 % 128, nb xs 2 2, nb xs 4 4, nb xs 8 4, A1, ccN xs, k1, hasX xs, (if hasX xs then nb xs (12 + 4 * ccN xs) 2 else 0), A2, (if hasX xs then 4 * (nb xs (12 + 4 * ccN xs + 2) 2).toNat else 0), k2, A3, len - padN xs - at2 xs, k3, pad⟩ := by
                rw [pvOf, hcs, hes, hpl, hpad1]; rfl
              rw [e1, show (xs.length : Int) - padN xs = ((len - padN xs : Nat) : Int) from by omega]
            · rw [hcs]; exact o1.rd
            · rw [hes]; exact o2.rd
            · rw [hpl, hps]; exact o3.rd
            · rw [hcs]; omega
            · rw [hes]; split <;> omega
            · rw [hpl]; omega
            · rw [hcs]; exact o1.2.2.1
            · rw [hes]; exact o2.2.2.1
            · rw [hpl]; exact o3.2.2.1
            · rw [hcs]
              intro hp
              rcases o1.2.2.2.2 with ⟨-, h0, -⟩ | ⟨g, T, h0, hg, -, -⟩
              · omega
              · exact ⟨_, h0, by simp; omega⟩
            · rw [hes]
              intro hp
              rcases o2.2.2.2.2 with ⟨-, h0, -⟩ | ⟨g, T, h0, hg, -, -⟩
              · omega
              · exact ⟨_, h0, by simp; omega⟩
            · rw [hpl]
              intro hp
              rcases o3.2.2.2.2 with ⟨-, h0, -⟩ | ⟨g, T, h0, hg, -, -⟩
              · omega
              · exact ⟨_, h0, by simp; omega⟩
          rcases Decidable.em (192 ≤ xs.getD 1 0) with h19 | h19
          · exact rget_rest1 b off len cap (ccN xs) _ _ _ _ _ _ _ xs w _ (by omega) (by omega) hlc hlt (by omega) (by omega) (fun h => hk ⟨h19, h⟩) rfl rfl (by omega) (by unfold ccN; omega) hcn (by omega) (by omega) (by omega) c0 c1 CR b1 rfl rfl rfl HW _ (nb xs (12 + 4 * ccN xs + 2) 2).toNat 0 rfl rfl (by omega) rfl (by omega) (by omega) hr E2 E3 E4 E5
          · exact rget_rest0 b off len cap (ccN xs) _ _ _ _ _ _ _ xs w _ (by omega) (by omega) hlc hlt (by omega) (by omega) h19 rfl rfl (by omega) (by unfold ccN; omega) hcn (by omega) (by omega) (by omega) c0 c1 CR b1 rfl rfl rfl HW _ (nb xs (12 + 4 * ccN xs + 2) 2).toNat 0 rfl rfl (by omega) rfl (by omega) (by omega) hr E2 E3 E4 E5
      · rw [← errs 1 (by rw [pE, if_neg (by omega), if_neg (by omega), if_pos hv]) (by decide)]
        exact (rget_form b off len cap _ w (by omega) (by omega) hlt c0 (by omega)).mono fun _ _ => RNew.zero

theorem rget_any (a : Option Addr) (len cap B : Nat) (xs : List Int) (w : World) (hl : len ≤ maxLen) (hlc : len ≤ cap) (hr : Rd w B a len xs) (hB : B ≤ w.heap.size) :
    Calls Try.prog 56 #[.slice a len cap] w (RRet w (gP xs) (gF xs) (gT xs) (pE xs)) :=
  (rget_new a len cap B xs w hl hlc hr hB).mono fun _ _ ⟨l, h1, h2, _, h3⟩ => ⟨l, h1, h2, h3⟩
end Go.Proofs.Ytdnnfoacpjgloaa.Rtp
