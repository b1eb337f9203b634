/- The walk of ReportTurn. -/
import Derived.Test.YtamihjhhpedgcaaQo
namespace Go.Proofs.Ytamihjhhpedgcaa.Fbk
open Go.RowKit
set_option linter.unusedVariables false

def Sb (w W : World) : Prop := Below w.heap.size w W
set_option maxHeartbeats 16000000 in
set_option maxRecDepth 100000 in
theorem turn_walk (v : IV) (i : Itm) (l : ILoc) (hv : v = ivOf i l) (ys : List Int) (n : Int) (m : Nat) (hm : ys.length = m) (hm2 : m ≤ 1000) (a1 a2 : Option Addr) (len1 cap1 len2 cap2 : Nat) (xs1 xs2 : List Int) (w : World)
    (hr : IRd w w.heap.size i l) (r1 : Rd w w.heap.size a1 len1 xs1) (r2 : Rd w w.heap.size a2 len2 xs2) (hl1 : len1 ≤ 140737488351232) (hl2 : len2 ≤ cap2) (j : Itm) (k : Nat) (f : Int) (zs : List Int)
    (CS : Hid (∀ W, Calls Try.prog 7 #[] W (RetB W true)))
    (CP : Hid (∀ W, Below w.heap.size w W → Calls Try.prog 8 #[itm v] W (RetR W ys n)))
    (CG : Hid (n = 0 → ∀ W A c, Rd W W.heap.size A (m + len1) (ys ++ xs1) → m + len1 ≤ c → Calls Try.prog 13 #[.slice A (m + len1) c] W (IRet W i m 0)))
    (CH : Hid (∀ W, Below w.heap.size w W → Calls Try.prog 13 #[.slice a2 len2 cap2] W (IRet W j k f)))
    (CQ : Hid (f = 0 → ∀ W l', IRd W W.heap.size j l' → Calls Try.prog 8 #[itm (ivOf j l')] W (RetR W zs 0)))
    (h0 : f ≠ 0 → k = 0) (h1 : f = 0 → 8 ≤ k ∧ k ≤ len2 ∧ zs = xs2.take k) :
    Calls Try.prog 5 #[itm v, .slice a1 len1 cap1, .slice a2 len2 cap2] w (RetB w true) := by
  have HV := Lib.hid hv
  have HM := Lib.hid hm
  have HRi := Lib.hid hr
  have HR1 := Lib.hid r1
  have HR2 := Lib.hid r2
  have HL1 := Lib.hid hl1
  have HL2 := Lib.hid hl2
  have H0 := Lib.hid h0
  have H1 := Lib.hid h1
  have HM2 := Lib.hid hm2
  have HB := Lib.hid ((Below.refl w.heap.size w).alloc (Nat.le_refl _) (iobj v))
  have HD := Lib.hid (IBlk.new w v)
  clear hv hm hr r1 r2 hl1 hl2 h0 h1 hm2
  go_enter Try.func5, Try.ntmps5
  go_wp2_with fail
  refine (CS.out _).mono ?_
  rintro e w1 ⟨rfl, hb1⟩
  have HB1 := Lib.hid (HB.out.trans (hb1.mono HB.out.size))
  have D1 := HD.out.bel hb1
  have HD1 := Lib.hid D1
  have c0 := D1.c0
  have c1 := D1.c1
  have c2 := D1.c2
  have c3 := D1.c3
  have c4 := D1.c4
  have c5 := D1.c5
  have c6 := D1.c6
  have c7 := D1.c7
  have c8 := D1.c8
  have c9 := D1.c9
  clear hb1 D1 HD HB CS
  go_wp2_with fail
  refine (CP.out _ HB1.out).mono ?_
  rintro e w2 ⟨A, c, rfl, ho2, hb2⟩
  rw [HM.out] at ho2
  rw [HM.out]
  have HB2 := Lib.hid (HB1.out.trans (hb2.mono HB1.out.size))
  have HO2 := Lib.hid ho2
  have D2 := HD1.out.bel hb2
  have HD2 := Lib.hid D2
  clear c0 c1 c2 c3 c4 c5 c6 c7 c8 c9 hb2 ho2 HB1 HD1 D2 CP
  by_cases hn : n = 0
  · subst hn
    have CG' := Lib.hid (CG.out rfl)
    clear CG
    have HO0 := Lib.hid (Own.nil w2 w2.heap.size)
    have HS1 := Lib.hid ((HR1.out.below HB2.out).more HB2.out.size)
    have HA := Lib.hid HO2.out.rd
    go_wp2_with (first
      | (at_builtin; refine wpList_append_bytes rfl _ _ rfl w2.heap.size _ 0 0 m c m none A [] ys ys (Nat.zero_add _) rfl rfl rfl HO0.out HA.out ?c1 ?c2 ?_
         case c1 => exact Nat.le_refl _
         case c2 => have := HM2.out; omega
         intro A3 c3 w3 ho3 hb3
         have HO3 := Lib.hid ho3
         have HB3 := Lib.hid hb3
         clear ho3 hb3)
      | (at_builtin; refine wpList_append_bytes rfl _ _ rfl w2.heap.size _ m c3 len1 cap1 (m + len1) A3 a1 ys xs1 (ys ++ xs1) rfl rfl rfl rfl HO3.out (HS1.out.below HB3.out) ?c1 ?c2 ?_
         case c1 => exact HB3.out.size
         case c2 => have := HM2.out; have := HL1.out; omega
         intro A4 c4 w4 ho4 hb4
         have HO4 := Lib.hid ho4
         have HB4 := Lib.hid (HB3.out.trans hb4)
         clear ho4 hb4))
    refine (CG'.out _ _ _ HO4.out.rd HO4.out.2.2.1).mono ?_
    rintro e w5 ⟨l5, rfl, hr5, hb5⟩
    obtain ⟨t, ht⟩ : ∃ t : IV, t = ivOf i l5 := ⟨_, rfl⟩
    rw [← ht]
    have hbA := (Below.refl w5.heap.size w5).alloc (Nat.le_refl _) (iobj t)
    have hb25 : Below w2.heap.size w2 (w5.alloc (iobj t)) := (HB4.out.trans (hb5.mono HB4.out.size)).trans (hbA.mono (Nat.le_trans HB4.out.size hb5.size))
    have HB5 := Lib.hid (HB2.out.trans (hb25.mono HB2.out.size))
    have HR5 := Lib.hid ((hr5.below hbA).more hbA.size)
    have CM : Hid (Calls Try.prog 15 #[itm v, itm t] (w5.alloc (iobj t)) (RetB (w5.alloc (iobj t)) true)) := by
      have h2 := (HRi.out.below HB5.out).more HB5.out.size
      have h3 := HR5.out
      have h := same_any (w5.alloc (iobj t)) _ i l l5 h2 h3 (Nat.le_refl _)
      rwa [← ht, ← HV.out] at h
    have D5 := HD2.out.bel hb25
    have E5 := IBlk.new w5 t
    have c0 := D5.c0
    have c1 := D5.c1
    have c2 := D5.c2
    have c3 := D5.c3
    have c4 := D5.c4
    have c5 := D5.c5
    have c6 := D5.c6
    have c7 := D5.c7
    have c8 := D5.c8
    have c9 := D5.c9
    have d0 := E5.c0
    have d1 := E5.c1
    have d2 := E5.c2
    have d3 := E5.c3
    have d4 := E5.c4
    have d5 := E5.c5
    have d6 := E5.c6
    have d7 := E5.c7
    have d8 := E5.c8
    have d9 := E5.c9
    clear D5 E5 ht hbA hr5 hb5 hb25 HR5 HO4 HB4 HO3 HB3 HO0 HS1 HA CG'
    go_wp2_with fail
    refine CM.out.mono ?_
    rintro e w8 ⟨rfl, hb8⟩
    have HB8 := Lib.hid (HB5.out.trans (hb8.mono HB5.out.size))
    clear c0 c1 c2 c3 c4 c5 c6 c7 c8 c9 d0 d1 d2 d3 d4 d5 d6 d7 d8 d9 hb8 CM HB5
    go_wp2_with fail
    refine (CH.out _ HB8.out).mono ?_
    rintro e w6 ⟨l6, rfl, hr6, hb6⟩
    obtain ⟨u, hu⟩ : ∃ u : IV, u = ivOf j l6 := ⟨_, rfl⟩
    rw [← hu]
    have hbA := (Below.refl w6.heap.size w6).alloc (Nat.le_refl _) (iobj u)
    have HB6 := Lib.hid ((HB8.out.trans (hb6.mono HB8.out.size)).trans (hbA.mono (Nat.le_trans HB8.out.size hb6.size)))
    have HR6 := Lib.hid ((hr6.below hbA).more hbA.size)
    have HD6 := Lib.hid (IBlk.new w6 u)
    have HU := Lib.hid hu
    clear hu hbA hr6 hb6 CH
    by_cases hf : f = 0
    · subst hf
      obtain ⟨h8, hkl, hz⟩ := H1.out rfl
      have hk1 : (8 : Int) ≤ k := by omega
      have hk2 : (k : Int) ≤ len2 := by omega
      have CQ' : Hid (Calls Try.prog 8 #[itm u] (w6.alloc (iobj u)) (RetR (w6.alloc (iobj u)) zs 0)) := by
        have h := CQ.out rfl _ l6 HR6.out
        rwa [← HU.out] at h
      have c0 := HD6.out.c0
      have c1 := HD6.out.c1
      have c2 := HD6.out.c2
      have c3 := HD6.out.c3
      have c4 := HD6.out.c4
      have c5 := HD6.out.c5
      have c6 := HD6.out.c6
      have c7 := HD6.out.c7
      have c8 := HD6.out.c8
      have c9 := HD6.out.c9
      have HZL := Lib.hid (show zs.length = k from by rw [hz, List.length_take, HR2.out.1]; omega)
      have HZ := Lib.hid hz
      have HK := Lib.hid (show k ≤ cap2 from by have := HL2.out; omega)
      have HKL := Lib.hid hkl
      clear hz CQ h8
      go_wp2_with fail
      refine CQ'.out.mono ?_
      rintro e w7 ⟨A7, c7', rfl, ho7, hb7⟩
      rw [HZL.out] at ho7
      rw [HZL.out]
      have HB7 := Lib.hid (HB6.out.trans (hb7.mono HB6.out.size))
      have hS : Sb w7 w7.drew := (Below.refl _ _).drew
      have s1 : ∀ W, Sb w7 W → (convert 30 9 (.slice A7 k c7')).run Try.prog W = .ok (.string (strOfNums zs)) W := fun W hW => str_run (ho7.rd.below hW)
      have s2 : ∀ W, Sb w7 W → (convert 30 9 (.slice a2 k cap2)).run Try.prog W = .ok (.string (strOfNums zs)) W := fun W hW => by
        have h := (((HR2.out.below HB7.out).more HB7.out.size).below hW).take HKL.out
        rw [← HZ.out] at h
        exact str_run h
      have s0 := fun W => cut_to a2 len2 cap2 k k rfl HK.out W
      clear c0 c1 c2 c3 c4 c5 c6 c7 c8 c9 ho7 hb7 CQ'
      go_wp2_with fail
      refine region_seq (Sb w7) [(0, false), (1, false), (2, false), (3, false), (4, false), (5, false), (6, false), (7, false), (8, false), (9, false), (10, false), (11, false), (12, false), (13, false), (14, false), (15, false), (16, false), (17, false), (18, false), (19, false), (20, false), (21, false)] (by kernel_rfl) (by kernel_rfl) rfl (by kernel_rfl) ?_
      iterate 22 (refine seq_read (v := _) rfl (fun _ _ _ h => h) hS (Or.inl ⟨by rfl, fun W hW => by go_simp <;> with_reducible rfl⟩) ?_; simp only [Act.put, List.setIfInBounds_toArray, List.set_cons_zero, List.set_cons_succ])
      refine seq_end ?_
      clear hS s0 s1 s2
      go_wp2
      go_ret
      exact ⟨ret_bool (by simp), HB7.out.drew⟩
    · have hf' : (f != 0) = true := by simpa using hf
      obtain rfl := H0.out hf
      clear CQ H0 H1 HR6 HD6
      go_wp2
      go_ret
      exact ⟨rfl, HB6.out⟩
  · have hn' : (n == 0) = false := by simpa using hn
    clear CG
    go_wp2_with fail
    refine (CH.out _ HB2.out).mono ?_
    rintro e w6 ⟨l6, rfl, hr6, hb6⟩
    obtain ⟨u, hu⟩ : ∃ u : IV, u = ivOf j l6 := ⟨_, rfl⟩
    rw [← hu]
    have hbA := (Below.refl w6.heap.size w6).alloc (Nat.le_refl _) (iobj u)
    have HB6 := Lib.hid ((HB2.out.trans (hb6.mono HB2.out.size)).trans (hbA.mono (Nat.le_trans HB2.out.size hb6.size)))
    have HR6 := Lib.hid ((hr6.below hbA).more hbA.size)
    have HD6 := Lib.hid (IBlk.new w6 u)
    have HU := Lib.hid hu
    clear hu hbA hr6 hb6 CH
    by_cases hf : f = 0
    · subst hf
      obtain ⟨h8, hkl, hz⟩ := H1.out rfl
      have hk1 : (8 : Int) ≤ k := by omega
      have hk2 : (k : Int) ≤ len2 := by omega
      have CQ' : Hid (Calls Try.prog 8 #[itm u] (w6.alloc (iobj u)) (RetR (w6.alloc (iobj u)) zs 0)) := by
        have h := CQ.out rfl _ l6 HR6.out
        rwa [← HU.out] at h
      have c0 := HD6.out.c0
      have c1 := HD6.out.c1
      have c2 := HD6.out.c2
      have c3 := HD6.out.c3
      have c4 := HD6.out.c4
      have c5 := HD6.out.c5
      have c6 := HD6.out.c6
      have c7 := HD6.out.c7
      have c8 := HD6.out.c8
      have c9 := HD6.out.c9
      have HZL := Lib.hid (show zs.length = k from by rw [hz, List.length_take, HR2.out.1]; omega)
      have HZ := Lib.hid hz
      have HK := Lib.hid (show k ≤ cap2 from by have := HL2.out; omega)
      have HKL := Lib.hid hkl
      clear hz CQ h8
      go_wp2_with fail
      refine CQ'.out.mono ?_
      rintro e w7 ⟨A7, c7', rfl, ho7, hb7⟩
      rw [HZL.out] at ho7
      rw [HZL.out]
      have HB7 := Lib.hid (HB6.out.trans (hb7.mono HB6.out.size))
      have hS : Sb w7 w7.drew := (Below.refl _ _).drew
      have s1 : ∀ W, Sb w7 W → (convert 30 9 (.slice A7 k c7')).run Try.prog W = .ok (.string (strOfNums zs)) W := fun W hW => str_run (ho7.rd.below hW)
      have s2 : ∀ W, Sb w7 W → (convert 30 9 (.slice a2 k cap2)).run Try.prog W = .ok (.string (strOfNums zs)) W := fun W hW => by
        have h := (((HR2.out.below HB7.out).more HB7.out.size).below hW).take HKL.out
        rw [← HZ.out] at h
        exact str_run h
      have s0 := fun W => cut_to a2 len2 cap2 k k rfl HK.out W
      clear c0 c1 c2 c3 c4 c5 c6 c7 c8 c9 ho7 hb7 CQ'
      go_wp2_with fail
      refine region_seq (Sb w7) [(0, false), (1, false), (2, false), (3, false), (4, false), (5, false), (6, false), (7, false), (8, false), (9, false), (10, false), (11, false), (12, false), (13, false), (14, false), (15, false), (16, false), (17, false), (18, false), (19, false), (20, false), (21, false)] (by kernel_rfl) (by kernel_rfl) rfl (by kernel_rfl) ?_
      iterate 22 (refine seq_read (v := _) rfl (fun _ _ _ h => h) hS (Or.inl ⟨by rfl, fun W hW => by go_simp <;> with_reducible rfl⟩) ?_; simp only [Act.put, List.setIfInBounds_toArray, List.set_cons_zero, List.set_cons_succ])
      refine seq_end ?_
      clear hS s0 s1 s2
      go_wp2
      go_ret
      exact ⟨ret_bool (by simp), HB7.out.drew⟩
    · have hf' : (f != 0) = true := by simpa using hf
      obtain rfl := H0.out hf
      clear CQ H0 H1 HR6 HD6
      go_wp2
      go_ret
      exact ⟨rfl, HB6.out⟩
theorem reportTurn_walk (i : Itm) (l : ILoc) (a1 a2 : Option Addr) (len1 cap1 len2 cap2 : Nat) (xs1 xs2 : List Int) (w : World) (ho : i.Ok) (hr : IRd w w.heap.size i l) (r1 : Rd w w.heap.size a1 len1 xs1) (r2 : Rd w w.heap.size a2 len2 xs2) (hl1 : len1 ≤ 140737488351232) (hl2 : len2 ≤ cap2) (hm2 : len2 ≤ maxLen) :
    Calls Try.prog 5 #[itm (ivOf i l), .slice a1 len1 cap1, .slice a2 len2 cap2] w (RetB w true) := by
  have hlen : (putRB i).length ≤ 1000 := by
    by_cases h : putRE i = 0
    · exact (put_get ho h []).2.2.2.2
    · rw [putRB, if_neg h]; simp
  refine turn_walk (ivOf i l) i l rfl (putRB i) (putRE i) _ rfl hlen a1 a2 len1 cap1 len2 cap2 xs1 xs2 w hr r1 r2 hl1 hl2 (gRV xs2) (gRN xs2) (rE xs2) (xs2.take (gRN xs2)) (fun W => shown_any W) (fun W hW => put_itm W i l _ ho (hr.below hW) hW.size)
    (fun h W A c hrd hc => ?_) (fun W hW => get_any a2 len2 cap2 _ xs2 W hm2 hl2 (r2.below hW) hW.size) (fun h W l' hrd => ?_) (fun h => ?_) (fun h => ?_)
  · obtain ⟨g1, g2, g3, _, _⟩ := put_get ho h xs1
    have := get_any A ((putRB i).length + len1) c _ _ W (by unfold maxLen; omega) hc hrd (Nat.le_refl _)
    rwa [g1, g2, g3] at this
  · obtain ⟨g1, g2, g3, _, _⟩ := get_put r2.2.1 h
    have := put_itm W (gRV xs2) l' _ g1 hrd (Nat.le_refl _)
    rwa [g2, g3] at this
  · rw [gRN, if_neg h]
  · obtain ⟨_, _, _, g4, g5⟩ := get_put r2.2.1 h
    exact ⟨g5, by rw [← r2.1]; exact g4, rfl⟩
end Go.Proofs.Ytamihjhhpedgcaa.Fbk
