/- The walk of DescTurn. -/
import Derived.Test.YtkeecdccjjoaaaaDg
namespace Go.Proofs.Ytkeecdccjjoaaaa
open Go.RowKit
set_option linter.unusedVariables false

set_option maxHeartbeats 1000000 in
theorem turn_no (l : Int) (k s : Bool) (f : Int) (a : Option Addr) (len cap : Nat) (w : World) (hm : mayB l = false) :
    Calls Try.prog 4 #[dsc l k s f, .slice a len cap] w fun e w' => e = .returned (.bool true) ∧ Below w.heap.size w w' := by
  have CP : Hid (∀ W, Calls Try.prog 12 #[dsc l k s f] W fun e w' => e = .returned (.slice none 0 0) ∧ Below W.heap.size W w') := fun W => put_no l k s f W hm
  have CM : Hid (∀ W, Calls Try.prog 10 #[dsc l k s f] W fun e w' => e = .returned (.bool false) ∧ Below W.heap.size W w') := fun W => hm ▸ may_any l k s f W
  clear hm
  go_enter Try.func4, Try.ntmps4
  go_wp2_with fail
  refine (shown_any _).mono ?_
  rintro e w1 ⟨rfl, hb1⟩
  have D1 : DBlk w1 w.heap.size l k s f := (DBlk.new w l k s f).below hb1 (by simp)
  have H1 : Hid (Below w.heap.size w w1) := (box w l k s f).trans (hb1.mono (by simp))
  clear hb1
  have c0 := D1.c0
  have c1 := D1.c1
  have c2 := D1.c2
  have c3 := D1.c3
  go_wp2_with fail
  refine (CP.out _).mono ?_
  rintro e w2 ⟨rfl, hb2⟩
  have D2 := D1.below hb2 D1.lt
  have H2 : Hid (Below w.heap.size w w2) := H1.out.trans (hb2.mono H1.out.size)
  clear hb2 D1 H1 c0 c1 c2 c3
  have c0 := D2.c0
  have c1 := D2.c1
  have c2 := D2.c2
  have c3 := D2.c3
  go_wp2_with fail
  refine (CM.out _).mono ?_
  rintro e w3 ⟨rfl, hb3⟩
  go_wp2
  go_ret
  exact ⟨rfl, H2.out.trans (hb3.mono H2.out.size)⟩

theorem form_put (l : Int) (k s : Bool) (h0 : 0 ≤ l) (h2 : l ≤ 2) : firstV l k s % 4 = l ∧ keyV (firstV l k s) = k ∧ staV (firstV l k s) = s ∧ formB (firstV l k s) 90 = true := by
  obtain rfl | rfl | rfl : l = 0 ∨ l = 1 ∨ l = 2 := by omega
  all_goals (cases k <;> cases s <;> decide +kernel)
/-- What is put is read, whatever is behind it. -/
theorem put_get (l : Int) (k s : Bool) (f : Int) (ys : List Int) (h0 : 0 ≤ l) (h2 : l ≤ 2) (hf0 : 0 ≤ f) (hf : f ≤ 65535) :
    gL (putV l k s f ++ ys) = l ∧ gK (putV l k s f ++ ys) = k ∧ gS (putV l k s f ++ ys) = s ∧ gF (putV l k s f ++ ys) = f ∧ gE (putV l k s f ++ ys) = 0 := by
  obtain ⟨e1, e2, e3, e4⟩ := form_put l k s h0 h2
  have ho : gOk (putV l k s f ++ ys) = true := by
    show (decide (4 ≤ (putV l k s f ++ ys).length) && formB (firstV l k s) 90) = true
    rw [e4, Bool.and_true]
    simp [putV]
  refine ⟨?_, ?_, ?_, ?_, ?_⟩
  · rw [gL, ho]; exact e1
  · rw [gK, ho]; exact e2
  · rw [gS, ho]; exact e3
  · rw [gF, ho]
    show f / 256 * 256 + f % 256 = f
    omega
  · rw [gE, if_neg (by simp [putV])]
    show (if formB (firstV l k s) 90 = true then (0 : Int) else 1) = 0
    rw [e4]; rfl
theorem putV_bytes (l : Int) (k s : Bool) (f : Int) (h0 : 0 ≤ l) (h2 : l ≤ 2) (hf0 : 0 ≤ f) (hf : f ≤ 65535) : Bytes (putV l k s f) := by
  have := firstV_bd h0 (show l ≤ 3 by omega) k s
  intro x hx
  simp only [putV, List.mem_cons, List.not_mem_nil, or_false] at hx
  omega

set_option maxHeartbeats 1000000 in
theorem turn_yes (l : Int) (k s : Bool) (f : Int) (a : Option Addr) (len cap : Nat) (ys : List Int) (w : World) (h0 : 0 ≤ l) (h2 : l ≤ 2) (hf0 : 0 ≤ f) (hf : f ≤ 65535) (hl : len ≤ 140737488351232) (hr : Rd w w.heap.size a len ys) :
    Calls Try.prog 4 #[dsc l k s f, .slice a len cap] w fun e w' => e = .returned (.bool true) ∧ Below w.heap.size w w' := by
  obtain ⟨xs, hx⟩ : ∃ xs, putV l k s f = xs := ⟨_, rfl⟩
  have CP : Hid (∀ W, Calls Try.prog 12 #[dsc l k s f] W (PutRow W xs)) := fun W => hx ▸ put_yes l k s f W h0 h2 hf0 hf
  have CM : Hid (∀ W, Calls Try.prog 10 #[dsc l k s f] W fun e w' => e = .returned (.bool true) ∧ Below W.heap.size W w') := fun W => (show mayB l = true from by simp [mayB]; omega) ▸ may_any l k s f W
  have HB : Hid (Bytes xs) := hx ▸ putV_bytes l k s f h0 h2 hf0 hf
  have HL : Hid (xs.length = 4) := by show _ = _; rw [← hx]; rfl
  have CG : Hid (∀ W A c, Rd W W.heap.size A (4 + len) (xs ++ ys) → Calls Try.prog 8 #[.slice A (4 + len) c] W (RetG W l k s f 0)) := fun W A c h => by
    have := get_any A (4 + len) c W.heap.size (xs ++ ys) W (by unfold maxLen; omega) h (Nat.le_refl _)
    obtain ⟨e1, e2, e3, e4, e5⟩ := put_get l k s f ys h0 h2 hf0 hf
    rw [hx] at e1 e2 e3 e4 e5
    rw [e1, e2, e3, e4, e5] at this
    exact this
  have HR := Lib.hid hr
  clear hx hr
  go_enter Try.func4, Try.ntmps4
  go_wp2_with fail
  refine (shown_any _).mono ?_
  rintro e w1 ⟨rfl, hb1⟩
  have D1 : DBlk w1 w.heap.size l k s f := (DBlk.new w l k s f).below hb1 (by simp)
  have H1 : Hid (Below w.heap.size w w1) := (box w l k s f).trans (hb1.mono (by simp))
  clear hb1
  have c0 := D1.c0
  have c1 := D1.c1
  have c2 := D1.c2
  have c3 := D1.c3
  go_wp2_with fail
  refine (CP.out _).mono ?_
  rintro e w2 ⟨g, rfl, hg, hk2, hb2⟩
  have D2 := D1.below hb2 D1.lt
  have H2 : Hid (Below w.heap.size w w2) := H1.out.trans (hb2.mono H1.out.size)
  have R2 : Rd w2 w2.heap.size (some ⟨g, 0, none⟩) 4 xs := hk2.rd HB.out HL.out
  clear hb2 D1 H1 c0 c1 c2 c3 hk2 hg
  have c0 := D2.c0
  have c1 := D2.c1
  have c2 := D2.c2
  have c3 := D2.c3
  go_wp2_with fail
  refine (CM.out _).mono ?_
  rintro e w3 ⟨rfl, hb3⟩
  have D3 := D2.below hb3 D2.lt
  have H3 : Hid (Below w.heap.size w w3) := H2.out.trans (hb3.mono H2.out.size)
  have R3 := (R2.below hb3).more hb3.size
  clear hb3 D2 H2 R2 c0 c1 c2 c3
  go_wp2_with (first
    | (at_builtin; refine wpList_append_bytes rfl (.const (.slice none 0 0)) (.tmp 19) rfl w3.heap.size w3.heap.size 0 0 4 4 4 none _ [] xs xs (Nat.zero_add _) rfl rfl rfl (Own.nil _ _) R3 (Nat.le_refl _) (by omega) ?_; intro A c w4 ho4 hb4
       have HR4 : Hid (Rd w4 w.heap.size a len ys) := HR.out.below (H3.out.trans (hb4.mono H3.out.size)))
    | (at_builtin; refine wpList_append_bytes rfl (.tmp 20) (.tmp 21) rfl w3.heap.size w.heap.size 4 c len cap (4 + len) A a xs ys (xs ++ ys) rfl rfl rfl rfl ho4 HR4.out hb4.size (by omega) ?_; intro A5 c5 w5 ho5 hb5)
    | fail)
  have H5 : Hid (Below w.heap.size w w5) := H3.out.trans ((hb4.trans hb5).mono H3.out.size)
  have D5 : DBlk w5 w.heap.size l k s f := D3.below (hb4.trans hb5) D3.lt
  have R5 := ho5.rd
  clear ho5 ho4 hb4 hb5 HR4 R3 D3 H3
  refine (CG.out _ _ _ R5).mono ?_
  rintro e w6 ⟨rfl, hb6⟩
  have H6 : Hid (Below w.heap.size w w6) := H5.out.trans (hb6.mono H5.out.size)
  have D6 := D5.below hb6 D5.lt
  clear hb6 H5 D5 R5
  have D7 := D6.below (box w6 l k s f) D6.lt
  have c0 := D7.c0
  have c1 := D7.c1
  have c2 := D7.c2
  have c3 := D7.c3
  clear D7 D6
  go_wp2
  go_ret
  exact ⟨rfl, H6.out.alloc H6.out.size _⟩

theorem turn_law (l : Int) (k s : Bool) (f : Int) (a : Option Addr) (len cap : Nat) (ys : List Int) (w : World) (hf0 : 0 ≤ f) (hf : f ≤ 65535) (hl : len ≤ 140737488351232) (hr : Rd w w.heap.size a len ys) :
    Calls Try.prog 4 #[dsc l k s f, .slice a len cap] w fun e w' => e = .returned (.bool true) ∧ Below w.heap.size w w' := by
  rcases hm : mayB l with _ | _
  · exact turn_no l k s f a len cap w hm
  · obtain ⟨h0, h2⟩ := mayB_t hm
    exact turn_yes l k s f a len cap ys w h0 h2 hf0 hf hl hr
end Go.Proofs.Ytkeecdccjjoaaaa
