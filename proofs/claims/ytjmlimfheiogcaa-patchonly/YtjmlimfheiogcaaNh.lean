/- The reference's Media whatever the bytes; its PatchOf; the law's own copied. -/
import Derived.Test.YtjmlimfheiogcaaNf
namespace Go.Proofs.Ytjmlimfheiogcaa.Pat
open Go.RowKit
open Rtp (PV pkt pobj PBlk pvOf PRd zpv Off)
set_option linter.unusedVariables false

def mP (xs : List Int) : Pkt := if hasD xs then pQ xs else zeroPkt
def mE (xs : List Int) : Int := if pE xs = 0 then gE (pQ xs).pay else pE xs
theorem mE_iff (xs : List Int) : mE xs = 0 ↔ hasD xs = true := by
  rw [hasD_iff, mE]
  by_cases h : pE xs = 0
  · rw [if_pos h, gE_iff]; exact ⟨fun q => ⟨h, q⟩, fun q => q.2⟩
  · rw [if_neg h]; exact ⟨fun q => absurd q h, fun q => absurd q.1 h⟩
theorem media_any (a : Option Addr) (len cap B : Nat) (xs : List Int) (w : World) (hl : len ≤ maxLen) (hlc : len ≤ cap) (hr : Rd w B a len xs) (hB : B ≤ w.heap.size) :
    Calls Try.prog 21 #[.slice a len cap] w (RetM w (mP xs) (gL (mP xs).pay) (gK (mP xs).pay) (gS (mP xs).pay) (gF (mP xs).pay) (mE xs)) := by
  have CG : Hid (∀ W, Below w.heap.size w W → Calls Try.prog 16 #[.slice a len cap] W (Rtp.RNew W (Rtp.gP xs) (Rtp.gF xs) (Rtp.gT xs) (pE xs))) := fun W hW => Rtp.rget_new a len cap B xs W hl hlc (hr.below (hW.mono hB)) (Nat.le_trans hB hW.size)
  by_cases h : pE xs = 0
  · have CD : Hid (∀ W A n c B, Rd W B A n (pQ xs).pay → n ≤ c → n ≤ maxLen → B ≤ W.heap.size → Calls Try.prog 35 #[.slice A n c] W (RetG W (gL (pQ xs).pay) (gK (pQ xs).pay) (gS (pQ xs).pay) (gF (pQ xs).pay) (gE (pQ xs).pay))) :=
      fun W A n c B h1 h2 h3 h4 => rget_any A n c B _ W h3 h2 h1 h4
    rw [Rtp.gP, if_pos h, h] at CG
    rw [mE, if_pos h]
    by_cases hg : gOk (pQ xs).pay = true
    · rw [(gE_iff _).2 hg] at CD ⊢
      rw [mP, hasD_iff.2 ⟨h, hg⟩, if_pos rfl]
      exact media_yes a len cap _ _ _ _ _ _ _ w CG CD
    · have hh : hasD xs = false := by rw [hasD, Bool.eq_false_iff.2 hg, Bool.and_false]
      rw [mP, hh, if_neg (by decide)]
      exact media_bad a len cap _ _ _ _ _ _ _ _ w (by simpa using fun q => hg ((gE_iff _).1 q)) CG CD
  · have hh : hasD xs = false := by rw [hasD, decide_eq_false h, Bool.false_and]
    rw [mE, if_neg h, mP, hh, if_neg (by decide)]
    exact media_none a len cap _ _ _ _ w (by simpa using h) CG

theorem rretQ_at {w W : World} {b : Nat} {q t s f : Int} {ok : Bool} {tmps : Array Value} (D : QBlk W b q t s f) (hb : Below w.heap.size w W)
    (h2 : tmps[2]?.getD undef = .pointer (some ⟨b, 0, none⟩) := by rfl) (h3 : tmps[3]?.getD undef = .bool ok := by rfl) :
    bodyPost Try.prog Try.f15 (RetQ w q t s f ok) .ret ⟨tmps, []⟩ W := by
  have c0 := D.c0
  have c1 := D.c1
  have c2 := D.c2
  have c3 := D.c3
  exact bodyPost_ret (v := .tuple #[pch q t s f, .bool ok]) (by simp [results, Try.results15, go_sem, h2, h3, c0, c1, c2, c3]) rfl ⟨rfl, hb⟩

set_option maxHeartbeats 2000000 in
theorem patchOf_no (a : Option Addr) (len cap : Nat) (p : Pkt) (l f n : Int) (k s : Bool) (w : World) (hn : (n != 0) = true)
    (CM : Hid (∀ W, Below w.heap.size w W → Calls Try.prog 21 #[.slice a len cap] W (RetM W p l k s f n))) :
    Calls Try.prog 15 #[.slice a len cap] w (RetQ w 0 0 0 0 false) := by
  go_enter Try.func15, Try.ntmps15
  go_wp2_with fail
  have hb0 := (Below.refl w.heap.size w).alloc (Nat.le_refl _) Q0
  refine (CM.out _ hb0).mono ?_
  rintro e w1 ⟨lc, rfl, -, hb1⟩
  obtain ⟨v, hv⟩ : ∃ v, pvOf p lc = v := ⟨_, rfl⟩
  rw [hv]
  have D1 : QBlk w1 w.heap.size 0 0 0 0 := (QBlk.new w 0 0 0 0).below hb1 (by simp)
  have hb : Below w.heap.size w w1 := hb0.trans (hb1.mono (by simp))
  have hb2 := (Below.refl w1.heap.size w1).alloc (Nat.le_refl _) (pobj v)
  have hb3 := hb2.alloc hb2.size (.cells #[.int .i64 l, .bool k, .bool s, .int .u16 f] 52)
  have D3 := D1.below hb3 D1.lt
  have HB := Lib.hid (hb.trans (hb3.mono hb.size))
  have hne : w1.heap.size ≠ w.heap.size := Nat.ne_of_gt D1.lt
  have hne1 : w1.heap.size + 1 ≠ w.heap.size := by have := D1.lt; omega
  clear hb hb0 hb1 hb2 hb3 D1 CM hv
  have f0 := D3.c0
  have f1 := D3.c1
  have f2 := D3.c2
  have f3 := D3.c3
  have g0 := D3.frozen 0
  have g1 := D3.frozen 1
  have g2 := D3.frozen 2
  have g3 := D3.frozen 3
  have HD := Lib.hid D3
  clear D3
  go_wp2
  exact rretQ_at (HD.out.store 0 0 0 0) (below_dstore HB.out (Nat.le_refl _) _ _ _ _)
set_option maxHeartbeats 2000000 in
theorem patchOf_yes (a : Option Addr) (len cap : Nat) (p : Pkt) (l f : Int) (k s : Bool) (w : World)
    (CM : Hid (∀ W, Below w.heap.size w W → Calls Try.prog 21 #[.slice a len cap] W (RetM W p l k s f 0))) :
    Calls Try.prog 15 #[.slice a len cap] w (RetQ w p.seq p.time p.ssrc f true) := by
  go_enter Try.func15, Try.ntmps15
  go_wp2_with fail
  have hb0 := (Below.refl w.heap.size w).alloc (Nat.le_refl _) Q0
  refine (CM.out _ hb0).mono ?_
  rintro e w1 ⟨lc, rfl, -, hb1⟩
  obtain ⟨v, hv⟩ : ∃ v, pvOf p lc = v := ⟨_, rfl⟩
  rw [hv]
  have D1 : QBlk w1 w.heap.size 0 0 0 0 := (QBlk.new w 0 0 0 0).below hb1 (by simp)
  have hb : Below w.heap.size w w1 := hb0.trans (hb1.mono (by simp))
  have hb2 := (Below.refl w1.heap.size w1).alloc (Nat.le_refl _) (pobj v)
  have hb3 := hb2.alloc hb2.size (.cells #[.int .i64 l, .bool k, .bool s, .int .u16 f] 52)
  have D3 := D1.below hb3 D1.lt
  have HB := Lib.hid (hb.trans (hb3.mono hb.size))
  have hne : w1.heap.size ≠ w.heap.size := Nat.ne_of_gt D1.lt
  have hne1 : w1.heap.size + 1 ≠ w.heap.size := by have := D1.lt; omega
  have HS : Hid (p.seq = v.seq ∧ p.time = v.time ∧ p.ssrc = v.ssrc) := by subst hv; exact ⟨rfl, rfl, rfl⟩
  clear hb hb0 hb1 hb2 hb3 D1 CM hv
  have f0 := D3.c0
  have f1 := D3.c1
  have f2 := D3.c2
  have f3 := D3.c3
  have g0 := D3.frozen 0
  have g1 := D3.frozen 1
  have g2 := D3.frozen 2
  have g3 := D3.frozen 3
  have HD := Lib.hid D3
  clear D3
  go_wp2
  rw [HS.out.1, HS.out.2.1, HS.out.2.2]
  exact rretQ_at (HD.out.store v.seq v.time v.ssrc f) (below_dstore HB.out (Nat.le_refl _) _ _ _ _)
theorem patchOf_any (a : Option Addr) (len cap B : Nat) (xs : List Int) (w : World) (hl : len ≤ maxLen) (hlc : len ≤ cap) (hr : Rd w B a len xs) (hB : B ≤ w.heap.size) :
    Calls Try.prog 15 #[.slice a len cap] w (RetQ w (oQ xs) (oT xs) (oS xs) (oF xs) (hasD xs)) := by
  have CM := fun W (hW : Below w.heap.size w W) => media_any a len cap B xs W hl hlc (hr.below (hW.mono hB)) (Nat.le_trans hB hW.size)
  unfold oQ oT oS oF
  by_cases h : hasD xs = true
  · rw [mP, (mE_iff xs).2 h, h, if_pos rfl] at CM
    rw [h, if_pos rfl, if_pos rfl, if_pos rfl, if_pos rfl]
    exact patchOf_yes a len cap _ _ _ _ _ w CM
  · have h' : hasD xs = false := Bool.eq_false_iff.2 h
    rw [h']
    exact patchOf_no a len cap _ _ _ _ _ _ w (by simpa using fun q => h ((mE_iff xs).1 q)) CM
theorem copied_any (a : Option Addr) (len cap B : Nat) (xs : List Int) (w : World) (hl : len ≤ 140737488351232) (hr : Rd w B a len xs) :
    Calls Try.prog 9 #[.slice a len cap] w (NewRow w xs) := by
  have fin0 : Hid (∀ A c w1, Own w1 w.heap.size A len c xs → Below w.heap.size w w1 → NewRow w xs (.returned (.slice A len c)) w1) := by
    intro A c w1 ho hb
    obtain rfl := hr.1
    exact ⟨A, c, rfl, ho, hb⟩
  go_enter Try.func9, Try.ntmps9
  go_wp2_with (at_builtin; refine wpList_append_bytes rfl (.const (.slice none 0 0)) (.tmp 3) rfl _ B 0 0 len cap len none a [] xs xs (Nat.zero_add _) rfl rfl rfl (Own.nil _ _) hr (Nat.le_refl _) (by omega) ?_
               intro A c w1 ho hb)
  go_ret
  exact fin0.out A c w1 ho hb
end Go.Proofs.Ytjmlimfheiogcaa.Pat
