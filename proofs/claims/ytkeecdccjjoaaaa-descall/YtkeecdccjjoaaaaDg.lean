/- The walk of DescShort. -/
import Derived.Test.YtkeecdccjjoaaaaDf
namespace Go.Proofs.Ytkeecdccjjoaaaa
open Go.RowKit
set_option linter.unusedVariables false

theorem box (w : World) (l : Int) (k s : Bool) (f : Int) : Below w.heap.size w (w.alloc (.cells #[.int .i64 l, .bool k, .bool s, .int .u16 f] 24)) := (Below.refl _ _).alloc (Nat.le_refl _) _

set_option maxHeartbeats 1000000 in
theorem short_no (l : Int) (k s : Bool) (f n : Int) (w : World) (hm : mayB l = false) :
    Calls Try.prog 6 #[dsc l k s f, .int .i64 n] w fun e w' => e = .returned (.bool true) ∧ Below w.heap.size w w' := by
  have CP : Hid (∀ W, Calls Try.prog 12 #[dsc l k s f] W fun e w' => e = .returned (.slice none 0 0) ∧ Below W.heap.size W w') := fun W => put_no l k s f W hm
  clear hm
  go_enter Try.func6, Try.ntmps6
  go_wp2_with fail
  refine (shown_any _).mono ?_
  rintro e w1 ⟨rfl, hb1⟩
  have D1 : DBlk w1 w.heap.size l k s f := (DBlk.new w l k s f).below hb1 (by simp)
  have H1 : Hid (Below w.heap.size w w1) := (box w l k s f).trans (hb1.mono (by simp))
  clear hb1
  have c0 := D1.c0
  have c1 := D1.c1
  have c2 := D1.c2
  have c3 := D1.c3
  go_wp2_with fail
  refine (CP.out _).mono ?_
  rintro e w2 ⟨rfl, hb2⟩
  go_wp2
  go_ret
  exact ⟨rfl, H1.out.trans (hb2.mono H1.out.size)⟩

set_option maxHeartbeats 1000000 in
theorem short_out (l : Int) (k s : Bool) (f n : Int) (w : World) (h0 : 0 ≤ l) (h2 : l ≤ 2) (hf0 : 0 ≤ f) (hf : f ≤ 65535) (hn : ¬ 0 ≤ n ∨ 3 < n) :
    Calls Try.prog 6 #[dsc l k s f, .int .i64 n] w fun e w' => e = .returned (.bool true) ∧ Below w.heap.size w w' := by
  have CP : Hid (∀ W, Calls Try.prog 12 #[dsc l k s f] W (PutRow W (putV l k s f))) := fun W => put_yes l k s f W h0 h2 hf0 hf
  rcases hn with hn | hn
  · have hn' : n < 0 := by omega
    go_enter Try.func6, Try.ntmps6
    go_wp2_with fail
    refine (shown_any _).mono ?_
    rintro e w1 ⟨rfl, hb1⟩
    have D1 : DBlk w1 w.heap.size l k s f := (DBlk.new w l k s f).below hb1 (by simp)
    have H1 : Hid (Below w.heap.size w w1) := (box w l k s f).trans (hb1.mono (by simp))
    clear hb1
    have c0 := D1.c0
    have c1 := D1.c1
    have c2 := D1.c2
    have c3 := D1.c3
    go_wp2_with fail
    refine (CP.out _).mono ?_
    rintro e w2 ⟨g, rfl, hg, hk2, hb2⟩
    go_wp2
    go_ret
    exact ⟨rfl, H1.out.trans (hb2.mono H1.out.size)⟩
  · have hn' : ¬ n < 0 := by omega
    go_enter Try.func6, Try.ntmps6
    go_wp2_with fail
    refine (shown_any _).mono ?_
    rintro e w1 ⟨rfl, hb1⟩
    have D1 : DBlk w1 w.heap.size l k s f := (DBlk.new w l k s f).below hb1 (by simp)
    have H1 : Hid (Below w.heap.size w w1) := (box w l k s f).trans (hb1.mono (by simp))
    clear hb1
    have c0 := D1.c0
    have c1 := D1.c1
    have c2 := D1.c2
    have c3 := D1.c3
    go_wp2_with fail
    refine (CP.out _).mono ?_
    rintro e w2 ⟨g, rfl, hg, hk2, hb2⟩
    go_wp2
    go_ret
    exact ⟨rfl, H1.out.trans (hb2.mono H1.out.size)⟩

set_option maxHeartbeats 1000000 in
theorem short_in (l : Int) (k s : Bool) (f : Int) (n : Nat) (w : World) (h0 : 0 ≤ l) (h2 : l ≤ 2) (hf0 : 0 ≤ f) (hf : f ≤ 65535) (hn : n < 4) :
    Calls Try.prog 6 #[dsc l k s f, .int .i64 n] w fun e w' => e = .returned (.bool true) ∧ Below w.heap.size w w' := by
  have CP : Hid (∀ W, Calls Try.prog 12 #[dsc l k s f] W (PutRow W (putV l k s f))) := fun W => put_yes l k s f W h0 h2 hf0 hf
  have h3 : (n : Int) ≤ 3 := by omega
  have h4 : (n : Int) ≤ 4 := by omega
  have h5 : n ≤ 4 := by omega
  go_enter Try.func6, Try.ntmps6
  go_wp2_with fail
  refine (shown_any _).mono ?_
  rintro e w1 ⟨rfl, hb1⟩
  have D1 : DBlk w1 w.heap.size l k s f := (DBlk.new w l k s f).below hb1 (by simp)
  have H1 : Hid (Below w.heap.size w w1) := (box w l k s f).trans (hb1.mono (by simp))
  clear hb1
  have c0 := D1.c0
  have c1 := D1.c1
  have c2 := D1.c2
  have c3 := D1.c3
  go_wp2_with fail
  refine (CP.out _).mono ?_
  rintro e w2 ⟨g, rfl, hg, hk2, hb2⟩
  have H2 : Hid (Below w.heap.size w w2) := H1.out.trans (hb2.mono H1.out.size)
  clear hb2 hk2 hg
  go_wp2_with fail
  refine (get_short _ n _ w2 hn).mono ?_
  rintro e w3 ⟨rfl, hb3⟩
  have H3 : Hid (Below w.heap.size w w3) := H2.out.trans (hb3.mono H2.out.size)
  clear hb3
  go_wp2
  go_ret
  exact ⟨rfl, H3.out.alloc H3.out.size _⟩

theorem short_law (l : Int) (k s : Bool) (f n : Int) (w : World) (hf0 : 0 ≤ f) (hf : f ≤ 65535) :
    Calls Try.prog 6 #[dsc l k s f, .int .i64 n] w fun e w' => e = .returned (.bool true) ∧ Below w.heap.size w w' := by
  rcases hm : mayB l with _ | _
  · exact short_no l k s f n w hm
  · obtain ⟨h0, h2⟩ := mayB_t hm
    by_cases hn : 0 ≤ n ∧ n ≤ 3
    · obtain ⟨i, rfl⟩ := Int.eq_ofNat_of_zero_le hn.1
      exact short_in l k s f i w h0 h2 hf0 hf (by omega)
    · exact short_out l k s f n w h0 h2 hf0 hf (by omega)
end Go.Proofs.Ytkeecdccjjoaaaa
