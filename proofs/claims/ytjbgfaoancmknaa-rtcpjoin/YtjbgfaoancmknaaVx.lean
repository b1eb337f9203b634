/- The walk of RtcpJoin. -/
import Derived.Test.YtjbgfaoancmknaaVs
import Derived.Test.YtjbgfaoancmknaaVq
namespace Go.Proofs.Ytjbgfaoancmknaa.Fbk
open Go.RowKit
set_option linter.unusedVariables false

theorem ItsOwn.ge {w : World} {base n c g : Nat} {A : Option Addr} {ps : List (Itm × ILoc)} (h : ItsOwn w base A n c ps) (e : A = some ⟨g, 0, none⟩) : base ≤ g := by
  rcases h.row.2.2.2 with ⟨rfl, -, -⟩ | ⟨g', T, e', hb, -, -⟩
  · cases e
  · rw [e] at e'
    simp only [Option.some.injEq, Addr.mk.injEq, and_true] at e'
    omega
/-- What two rows of bytes that are items are, one behind the other. -/
theorem join_get {xs ys : List Int} (hx : Bytes xs) (hy : Bytes ys) (h1 : getLE xs = 0) (h2 : getLE ys = 0) :
    getLE (xs ++ ys) = (if 512 < xs.length + ys.length then 5 else if (getLV xs).length + (getLV ys).length ≤ 8 then 0 else 3) ∧ (xs.length + ys.length ≤ 512 → (getLV xs).length + (getLV ys).length ≤ 8 → getLV (xs ++ ys) = getLV xs ++ getLV ys) := by
  obtain ⟨a1, a2, a3, a4, a5, a6, -, -⟩ := getLE_ok hx h1
  obtain ⟨b1, b2, b3, b4, b5, b6, -, -⟩ := getLE_ok hy h2
  have hM : MayL (getLV xs ++ getLV ys) := fun i hi => by rcases List.mem_append.1 hi with h | h; exact a3 i h; exact b3 i h
  have hO : OkL (getLV xs ++ getLV ys) := fun i hi => by rcases List.mem_append.1 hi with h | h; exact a4 i h; exact b4 i h
  have hne : getLV xs ++ getLV ys ≠ [] := by intro h; have := congrArg List.length h; rw [List.length_append, List.length_nil] at this; omega
  obtain ⟨e1, e2⟩ := getL_enc hne hM hO
  rw [encL_append, a2, b2] at e1 e2
  simp only [List.length_append] at e1 e2
  exact ⟨e1, e2⟩
set_option maxRecDepth 100000 in
set_option maxHeartbeats 8000000 in
theorem rtcpJoin_walk (a1 a2 : Option Addr) (n1 c1 n2 c2 : Nat) (xs ys : List Int) (w : World) (hx : Rd w w.heap.size a1 n1 xs) (hy : Rd w w.heap.size a2 n2 ys) (hc1 : n1 ≤ c1) (hc2 : n2 ≤ c2) :
    Calls Try.prog 7 #[.slice a1 n1 c1, .slice a2 n2 c2] w (RetB w true) := by
  have CS : Hid (∀ W, Calls Try.prog 9 #[] W (RetB W true)) := fun W => shown_any W
  have CX : Hid (∀ W, Below w.heap.size w W → Calls Try.prog 16 #[.slice a1 n1 c1] W (RetIts W (getLV xs) (getLE xs))) := fun W hW => rc_get a1 n1 c1 w.heap.size xs W hc1 (hx.below hW) hW.size
  have CY : Hid (∀ W, Below w.heap.size w W → Calls Try.prog 16 #[.slice a2 n2 c2] W (RetIts W (getLV ys) (getLE ys))) := fun W hW => rc_get a2 n2 c2 w.heap.size ys W hc2 (hy.below hW) hW.size
  have HX := Lib.hid hx
  have HY := Lib.hid hy
  by_cases hb : getLE xs = 0 ∧ getLE ys = 0
  · obtain ⟨h1, h2⟩ := hb
    obtain ⟨j1, j2⟩ := join_get hx.2.1 hy.2.1 h1 h2
    obtain ⟨k1, -, -, -, -, k6, -, -⟩ := getLE_ok hx.2.1 h1
    obtain ⟨m1, -, -, -, -, m6, -, -⟩ := getLE_ok hy.2.1 h2
    rw [hx.1] at j1 j2 k1
    rw [hy.1] at j1 j2 m1
    obtain ⟨N1, hN1⟩ : ∃ N, (getLV xs).length = N := ⟨_, rfl⟩
    obtain ⟨N2, hN2⟩ : ∃ N, (getLV ys).length = N := ⟨_, rfl⟩
    have HN1 := Lib.hid hN1
    have HN2 := Lib.hid hN2
    rw [hN1] at j1 j2 k6
    rw [hN2] at j1 j2 m6
    rw [h1] at CX
    rw [h2] at CY
    have CG : Hid (∀ W A c, Rd W W.heap.size A (n1 + n2) (xs ++ ys) → n1 + n2 ≤ c → Calls Try.prog 16 #[.slice A (n1 + n2) c] W (RetIts W (getLV (xs ++ ys)) (getLE (xs ++ ys)))) := fun W A c h hc => rc_get A (n1 + n2) c W.heap.size (xs ++ ys) W hc h (Nat.le_refl _)
    have CQ : Hid (∀ W A B N cA cB ps qs, N ≤ 16 → ItsRd W W.heap.size A N ps → ItsRd W W.heap.size B N qs → its ps = its qs → Calls Try.prog 18 #[.slice A N cA, .slice B N cB] W (RetB W true)) := fun W A B N cA cB ps qs hN h1 h2 he => same_its A B N cA cB ps qs W (by omega) h1 h2 he
    obtain ⟨S, hS⟩ : ∃ S, n1 + n2 = S := ⟨_, rfl⟩
    have HS := Lib.hid hS
    have hSi : (n1 : Int) + n2 = S := by omega
    have hNi : ∃ T : Nat, N1 + N2 = T := ⟨_, rfl⟩
    obtain ⟨T, hT⟩ := hNi
    have HT := Lib.hid hT
    have hTi : (N1 : Int) + N2 = T := by omega
    rw [hS] at j1 j2 CG
    rw [hT] at j1 j2
    have HJ1 := Lib.hid j1
    have HJ2 := Lib.hid j2
    clear hx hy h1 h2 j1 j2 hN1 hN2
    go_enter Try.func7, Try.ntmps7
    go_wp2_with fail
    refine (CS.out _).mono ?_
    rintro e w1 ⟨rfl, hb1⟩
    have HB1 := Lib.hid hb1
    clear hb1 CS
    go_wp2_with fail
    refine (CX.out _ HB1.out).mono ?_
    rintro e w2 ⟨A1, d1, ps, rfl, hq, ho, hb2⟩
    rw [HN1.out] at ho ⊢
    have HB2 := Lib.hid (HB1.out.trans (hb2.mono HB1.out.size))
    have HO1 := Lib.hid ho.rd
    have HQ1 := Lib.hid hq
    clear hb2 ho hq HB1 CX
    go_wp2_with fail
    refine (CY.out _ HB2.out).mono ?_
    rintro e w3 ⟨A2, d2, qs, rfl, hq, ho, hb3⟩
    rw [HN2.out] at ho ⊢
    have HB3 := Lib.hid (HB2.out.trans (hb3.mono HB2.out.size))
    have HP3 := Lib.hid ((HO1.out.below hb3).more hb3.size)
    have HO2 := Lib.hid ho.rd
    have HQ2 := Lib.hid hq
    clear hb3 ho hq HB2 CY HO1
    have HO0 := Lib.hid (Own.nil w3 w3.heap.size)
    have HX3 := Lib.hid ((HX.out.below HB3.out).more HB3.out.size)
    have HY3 := Lib.hid ((HY.out.below HB3.out).more HB3.out.size)
    clear HX HY
    go_wp2_with (at_builtin; first
      | (refine wpList_append_bytes rfl _ (.tmp 30) rfl w3.heap.size w3.heap.size 0 0 n1 c1 n1 none a1 [] xs xs (Nat.zero_add _) rfl rfl rfl HO0.out HX3.out (Nat.le_refl _) (by omega) ?_
         intro A3 d3 w4 ho4 hb4
         have HO4 := Lib.hid ho4
         have HB4 := Lib.hid hb4
         have HY4 := Lib.hid (HY3.out.below hb4)
         clear ho4 hb4)
      | (refine wpList_append_bytes rfl (.tmp 31) (.tmp 32) rfl w3.heap.size w3.heap.size n1 d3 n2 c2 S A3 a2 xs ys (xs ++ ys) HS.out rfl rfl rfl HO4.out HY4.out HB4.out.size (by omega) ?_
         intro A5 d5 w5 ho5 hb5
         have HO5 := Lib.hid ho5.rd
         have HC5 := Lib.hid (show S ≤ d5 from ho5.2.2.1)
         have HB5 := Lib.hid (HB4.out.trans hb5)
         clear ho5 hb5 HO4 HB4 HY4))
    clear HO0 HX3 HY3
    refine (CG.out _ _ _ HO5.out HC5.out).mono ?_
    rintro e w6 ⟨A6, d6, zs, rfl, hq, ho, hb6⟩
    have hB6 : Below w3.heap.size w3 w6 := HB5.out.trans (hb6.mono HB5.out.size)
    have HB6 := Lib.hid (HB3.out.trans (hB6.mono HB3.out.size))
    have HP6 := Lib.hid ((HP3.out.below hB6).more hB6.size)
    have HR6 := Lib.hid ((HO2.out.below hB6).more hB6.size)
    have HQ6 := Lib.hid hq
    have HO6 := Lib.hid ho
    clear hb6 hB6 ho hq HB5 HO5 HC5 HP3 HO2 CG HB3
    by_cases h512 : 512 < S
    · have e1 : getLE (xs ++ ys) = 5 := by rw [HJ1.out, if_pos h512]
      rw [getLV_no (by rw [e1]; decide), e1]
      have h512' : (512 : Int) < S := by omega
      clear HO6 HQ6
      go_wp2
      go_ret
      exact ⟨rfl, HB6.out⟩
    · have h512' : ¬ (512 : Int) < S := by omega
      by_cases h8 : 8 < T
      · have e1 : getLE (xs ++ ys) = 3 := by rw [HJ1.out, if_neg h512, if_neg (by omega)]
        rw [getLV_no (by rw [e1]; decide), e1]
        have h8' : (8 : Int) < T := by omega
        clear HO6 HQ6
        go_wp2
        go_ret
        exact ⟨rfl, HB6.out⟩
      · have h8' : ¬ (8 : Int) < T := by omega
        have e1 : getLE (xs ++ ys) = 0 := by rw [HJ1.out, if_neg h512, if_pos (by omega)]
        have e2 := HJ2.out (by omega) (by omega)
        have hlen : (getLV (xs ++ ys)).length = T := by rw [e2, List.length_append, HN1.out, HN2.out, HT.out]
        rw [hlen] at HO6 ⊢
        rw [e1]
        have HE : Hid (its zs = its (ps ++ qs)) := by show its zs = its (ps ++ qs); rw [HQ6.out, e2, ← HQ1.out, ← HQ2.out]; simp [its]
        have HI0 := Lib.hid (ItsOwn.nil w6 w6.heap.size)
        have HZ6 := Lib.hid HO6.out.rd
        clear hlen e1 e2 HJ1 HJ2 HQ1 HQ2 HQ6 HO6
        go_wp2_with (at_builtin; first
          | (refine wpList_append_its (N := N1) rfl _ (.tmp 69) rfl ps (Nat.zero_add _) rfl rfl rfl HI0.out HP6.out (fun g e => by cases e) (Nat.le_refl _) (by omega) ?_
             intro A7 d7 w7 ho7 hb7
             have HO7 := Lib.hid ho7
             have HB7 := Lib.hid hb7
             have HR7 := Lib.hid ((HR6.out.below hb7).more hb7.size)
             have HNE : Hid (∀ g, A7 = some ⟨g, 0, none⟩ → ∀ p ∈ qs, INe g p.1 p.2) := fun g e p hp => INe.of_ge (HR6.out.each p hp) (ho7.ge e)
             clear ho7 hb7)
          | (refine wpList_append_its (N := T) rfl (.tmp 70) (.tmp 71) rfl (ps ++ qs) HT.out rfl rfl rfl HO7.out HR7.out HNE.out HB7.out.size (by omega) ?_
             intro A8 d8 w8 ho8 hb8
             have HO8 := Lib.hid ho8.rd
             have HB8 := Lib.hid (HB7.out.trans hb8)
             have HZ8 := Lib.hid ((HZ6.out.below HB8.out).more HB8.out.size)
             clear ho8 hb8 HO7 HB7 HR7 HNE))
        refine (CQ.out _ _ _ _ _ _ _ _ (by omega) HZ8.out HO8.out HE.out).mono ?_
        rintro e w9 ⟨rfl, hb9⟩
        have hB8 := HB6.out.trans (HB8.out.mono HB6.out.size)
        have HB9 := Lib.hid (hB8.trans (hb9.mono hB8.size))
        clear hb9 hB8 HB8 HO8 HZ8 CQ HB6
        go_wp2
        go_ret
        exact ⟨rfl, HB9.out⟩
  · by_cases h1 : getLE xs = 0
    · have h2 : getLE ys ≠ 0 := fun h => hb ⟨h1, h⟩
      have h2' : (getLE ys != 0) = true := by simpa using h2
      rw [h1] at CX
      clear hx hy hb h1 h2
      generalize getLE ys = E at *
      go_enter Try.func7, Try.ntmps7
      go_wp2_with fail
      refine (CS.out _).mono ?_
      rintro e w1 ⟨rfl, hb1⟩
      have HB1 := Lib.hid hb1
      clear hb1 CS
      go_wp2_with fail
      refine (CX.out _ HB1.out).mono ?_
      rintro e w2 ⟨A1, d1, ps, rfl, hq, ho, hb2⟩
      have HB2 := Lib.hid (HB1.out.trans (hb2.mono HB1.out.size))
      clear hb2 ho hq HB1 CX
      go_wp2_with fail
      refine (CY.out _ HB2.out).mono ?_
      rintro e w3 ⟨A2, d2, qs, rfl, hq, ho, hb3⟩
      have HB3 := Lib.hid (HB2.out.trans (hb3.mono HB2.out.size))
      clear hb3 ho hq HB2 CY
      go_wp2
      go_ret
      exact ⟨rfl, HB3.out⟩
    · have h1' : (getLE xs != 0) = true := by simpa using h1
      clear hx hy hb h1
      generalize getLE xs = E at *
      go_enter Try.func7, Try.ntmps7
      go_wp2_with fail
      refine (CS.out _).mono ?_
      rintro e w1 ⟨rfl, hb1⟩
      have HB1 := Lib.hid hb1
      clear hb1 CS
      go_wp2_with fail
      refine (CX.out _ HB1.out).mono ?_
      rintro e w2 ⟨A1, d1, ps, rfl, hq, ho, hb2⟩
      have HB2 := Lib.hid (HB1.out.trans (hb2.mono HB1.out.size))
      clear hb2 ho hq HB1 CX
      go_wp2_with fail
      refine (CY.out _ HB2.out).mono ?_
      rintro e w3 ⟨A2, d2, qs, rfl, hq, ho, hb3⟩
      have HB3 := Lib.hid (HB2.out.trans (hb3.mono HB2.out.size))
      clear hb3 ho hq HB2 CY
      go_wp2
      go_ret
      exact ⟨rfl, HB3.out⟩
end Go.Proofs.Ytjbgfaoancmknaa.Fbk
