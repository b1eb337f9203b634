/- The reference's Media whatever the bytes; its PatchOf; the law's own copied. -/
import Derived.Test.YtdnnfoacpjgloaaNf
set_option maxRecDepth 100000
namespace Go.Proofs.Ytdnnfoacpjgloaa.Pat
open Go.RowKit
open Rtp (PV pkt pobj PBlk pvOf PRd zpv Off)
set_option linter.unusedVariables false

def mP (xs : List Int) : Pkt := if hasD xs then pQ xs else zeroPkt
def mE (xs : List Int) : Int := if pE xs = 0 then gE (pQ xs).pay else pE xs
theorem mE_iff (xs : List Int) : mE xs = 0 ↔ hasD xs = true := by
  rw [hasD_iff, mE]
  by_cases h : pE xs = 0
  · rw [if_pos h, gE_iff]; exact ⟨fun q => ⟨h, q⟩, fun q => q.2⟩
  · rw [if_neg h]; exact ⟨fun q => absurd q h, fun q => absurd q.1 h⟩
theorem media_any (a : Option Addr) (len cap B : Nat) (xs : List Int) (w : World) (hl : len ≤ maxLen) (hlc : len ≤ cap) (hr : Rd w B a len xs) (hB : B ≤ w.heap.size) :
    Calls Try.prog 42 #[.slice a len cap] w (RetM w (mP xs) (gL (mP xs).pay) (gK (mP xs).pay) (gS (mP xs).pay) (gF (mP xs).pay) (mE xs)) := by
  have CG : Hid (∀ W, Below w.heap.size w W → Calls Try.prog 56 #[.slice a len cap] W (Rtp.RNew W (Rtp.gP xs) (Rtp.gF xs) (Rtp.gT xs) (pE xs))) := fun W hW => Rtp.rget_new a len cap B xs W hl hlc (hr.below (hW.mono hB)) (Nat.le_trans hB hW.size)
  by_cases h : pE xs = 0
  · have CD : Hid (∀ W A n c B, Rd W B A n (pQ xs).pay → n ≤ c → n ≤ maxLen → B ≤ W.heap.size → Calls Try.prog 57 #[.slice A n c] W (RetG W (gL (pQ xs).pay) (gK (pQ xs).pay) (gS (pQ xs).pay) (gF (pQ xs).pay) (gE (pQ xs).pay))) :=
      fun W A n c B h1 h2 h3 h4 => rget_any A n c B _ W h3 h2 h1 h4
    rw [Rtp.gP, if_pos h, h] at CG
    rw [mE, if_pos h]
    by_cases hg : gOk (pQ xs).pay = true
    · rw [(gE_iff _).2 hg] at CD ⊢
      rw [mP, hasD_iff.2 ⟨h, hg⟩, if_pos rfl]
      exact media_yes a len cap _ _ _ _ _ _ _ w CG CD
    · have hh : hasD xs = false := by rw [hasD, Bool.eq_false_iff.2 hg, Bool.and_false]
      rw [mP, hh, if_neg (by decide)]
      exact media_bad a len cap _ _ _ _ _ _ _ _ w (by simpa using fun q => hg ((gE_iff _).1 q)) CG CD
  · have hh : hasD xs = false := by rw [hasD, decide_eq_false h, Bool.false_and]
    rw [mE, if_neg h, mP, hh, if_neg (by decide)]
    exact media_none a len cap _ _ _ _ w (by simpa using h) CG


end Go.Proofs.Ytdnnfoacpjgloaa.Pat
