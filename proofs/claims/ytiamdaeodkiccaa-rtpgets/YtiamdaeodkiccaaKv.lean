/- The walks of RtpBack, RtpOffset. -/
import Derived.Test.YtiamdaeodkiccaaKu
namespace Go.Proofs.Ytiamdaeodkiccaa.Rtp
open Go.RowKit
set_option linter.unusedVariables false

/-- What is read is put as it was. -/
theorem get_put {b : List Int} (hb : Bytes b) (h : pE b = 0) : (pQ b).Ok ∧ putE (pQ b) = 0 ∧ putB (pQ b) = b := by
  obtain ⟨h1, h2, h3, -⟩ := get_enc b hb h
  have hl := (pE_ok h).1
  have hm := (mayPB_iff _).2 h2
  have he := lenP_eq _ h2
  rw [h3] at he
  exact ⟨h1, by rw [putE, if_pos hm, if_neg (by omega)], by rw [putB, if_pos hm, if_neg (by omega), h3]⟩
theorem zero_rd (w : World) (B : Nat) : PRd w B zeroPkt ⟨none, 0, none, 0, none, 0⟩ := ⟨Wd.none_ _ rfl, Rd.none_ _ rfl, Rd.none_ _ rfl, Nat.zero_le _, Nat.zero_le _, Nat.zero_le _, Nat.le_refl _, Nat.le_refl _, Nat.le_refl _⟩

set_option maxHeartbeats 4000000 in
theorem back_law (a : Option Addr) (len cap : Nat) (xs : List Int) (w : World) (hl : len ≤ 140737488351232) (hlc : len ≤ cap) (hr : Rd w w.heap.size a len xs) :
    Calls Try.prog 6 #[.slice a len cap] w (RetB w true) := by
  have CG : ∀ W, Below w.heap.size w W → Calls Try.prog 17 #[.slice a len cap] W (GRet W (gP xs) (pE xs)) := fun W hW => get_any a len cap w.heap.size xs W (by unfold maxLen; omega) hlc (hr.below hW) hW.size
  unfold gP at CG
  have SX : Hid (∀ W, Below w.heap.size w W → (convert 25 9 (.slice a len cap)).run Try.prog W = .ok (.string (strOfNums xs)) W) := fun W hW => str_run (hr.below hW)
  by_cases h : pE xs = 0
  · simp only [h, if_true] at CG
    obtain ⟨g1, g2, g3⟩ := get_put hr.2.1 h
    have HG := Lib.hid CG
    have G1 := Lib.hid g1
    have G2 := Lib.hid g2
    have G3 := Lib.hid g3
    clear CG g1 g2 g3 h hr
    generalize pQ xs = p at *
    go_enter Try.func6, Try.ntmps6
    go_wp2_with fail
    refine (shown_any _).mono ?_
    rintro e w1 ⟨rfl, hb1⟩
    go_wp2_with fail
    refine (HG.out _ hb1).mono ?_
    rintro e w2 ⟨l, rfl, hq, hb2⟩
    obtain ⟨v, hv⟩ : ∃ v, pvOf p l = v := ⟨_, rfl⟩
    rw [hv]
    have H2 := Lib.hid (hb1.trans (hb2.mono hb1.size))
    have hb3 := (Below.refl w2.heap.size w2).alloc (Nat.le_refl _) (pobj v)
    have C := put_pkt (w2.alloc (pobj v)) p l G1.out ((hq.below hb3).more hb3.size) (Nat.le_refl _)
    rw [hv, G2.out, G3.out] at C
    have HC := Lib.hid C
    have H3 := Lib.hid (H2.out.trans (hb3.mono H2.out.size))
    clear hb1 hb2 hb3 C HG hq hv G1 G2 G3
    go_wp2_with fail
    refine HC.out.mono ?_
    rintro e w4 ⟨A, c, rfl, ho, hb4⟩
    have H4 := Lib.hid (H3.out.trans (hb4.mono H3.out.size))
    have s1 := SX.out w4 H4.out
    have s2 : (convert 25 9 (.slice A xs.length c)).run Try.prog w4 = .ok (.string (strOfNums xs)) w4 := str_run ho.rd
    clear HC hb4 ho H3 SX
    generalize xs.length = m at *
    go_wp2
    go_ret
    exact ⟨rfl, H4.out⟩
  · simp only [h, if_false] at CG
    have hn : (pE xs != 0) = true := by simpa using h
    generalize pE xs = n at *
    have HG := Lib.hid CG
    clear CG hr h
    go_enter Try.func6, Try.ntmps6
    go_wp2_with fail
    refine (shown_any _).mono ?_
    rintro e w1 ⟨rfl, hb1⟩
    go_wp2_with fail
    refine (HG.out _ hb1).mono ?_
    rintro e w2 ⟨l, rfl, hq, hb2⟩
    obtain ⟨v, hv⟩ : ∃ v, pvOf zeroPkt l = v := ⟨_, rfl⟩
    rw [hv]
    have H2 := Lib.hid (hb1.trans (hb2.mono hb1.size))
    have hb3 := (Below.refl w2.heap.size w2).alloc (Nat.le_refl _) (pobj v)
    have C := same_any (w2.alloc (pobj v)) (w2.alloc (pobj v)).heap.size zeroPkt l ⟨none, 0, none, 0, none, 0⟩ ((hq.below hb3).more hb3.size) (zero_rd _ _) (Nat.le_refl _)
    rw [hv] at C
    have HC := Lib.hid C
    have H3 := Lib.hid (H2.out.trans (hb3.mono H2.out.size))
    clear hb1 hb2 hb3 C HG hq hv SX
    go_wp2_with fail
    refine HC.out.mono ?_
    rintro e w4 ⟨rfl, hb4⟩
    go_wp2
    go_ret
    exact ⟨rfl, H3.out.trans (hb4.mono H3.out.size)⟩

set_option maxHeartbeats 4000000 in
theorem offset_law (a : Option Addr) (len cap : Nat) (xs : List Int) (w : World) (hl : len ≤ 140737488351232) (hlc : len ≤ cap) (hr : Rd w w.heap.size a len xs) :
    Calls Try.prog 7 #[.slice a len cap] w (RetB w true) := by
  have CG : ∀ W, Below w.heap.size w W → Calls Try.prog 17 #[.slice a len cap] W (GRet W (gP xs) (pE xs)) := fun W hW => get_any a len cap w.heap.size xs W (by unfold maxLen; omega) hlc (hr.below hW) hW.size
  have CO : ∀ W, Below w.heap.size w W → Calls Try.prog 19 #[.slice a len cap] W (RetO W (gF xs) (gT xs) (pE xs)) := fun W hW => offset_any a len cap w.heap.size xs W (by unfold maxLen; omega) hlc (hr.below hW) hW.size
  unfold gP at CG
  unfold gF gT at CO
  by_cases h : pE xs = 0
  · simp only [h, if_true] at CG CO
    obtain ⟨k1, k2, k3, k4⟩ := get_enc xs hr.2.1 h
    obtain ⟨q1, q2, -, -, q5, -, q7, -⟩ := pE_ok h
    have hx := hr.1
    have hel := enc_length (pQ xs) k2
    rw [k3, k4, show (pQ xs).pad = (padN xs : Int) from rfl] at hel
    have hpy : (pQ xs).pay = (xs.drop (at2 xs)).take (len - padN xs - at2 xs) := by rw [← hx]; rfl
    have ht : (xs.length : Int) - padN xs = ((len - padN xs : Nat) : Int) := by omega
    rw [ht] at CO
    obtain ⟨b, off, rfl, -, -⟩ := hr.2.2 (by omega)
    have ha : 12 ≤ at2 xs := by
      have : at1 xs ≤ at2 xs := by unfold at2; split <;> omega
      unfold at1 at this; omega
    obtain ⟨X, HX, s1⟩ := cut_run b off len cap (at2 xs) (len - padN xs) (at2 xs) ((len - padN xs : Nat) : Int) rfl rfl (by omega) (by omega)
    have SX : Hid (∀ W, Below w.heap.size w W → (convert 25 9 (.slice X (len - padN xs - at2 xs) (cap - at2 xs))).run Try.prog W = .ok (.string (strOfNums (pQ xs).pay)) W) := fun W hW =>
      hpy ▸ str_run (Rd.mid (hi := len - padN xs) (hr.below hW) (by omega) (by omega) hlc HX)
    have hpd : (pQ xs).pad = (len : Int) - ((len - padN xs : Nat) : Int) := by
      show (padN xs : Int) = _
      omega
    have hft : at2 xs ≤ len - padN xs := by omega
    have htl : len - padN xs ≤ len := by omega
    have HG := Lib.hid CG
    have HO := Lib.hid CO
    have HP := Lib.hid hpd
    clear CG CO hr h k1 k2 k3 k4 hel hpy ht hpd HX q1 q2 q5 q7 hx
    generalize pQ xs = p at *
    generalize at2 xs = F at *
    generalize len - padN xs = T at *
    go_enter Try.func7, Try.ntmps7
    go_wp2_with fail
    refine (shown_any _).mono ?_
    rintro e w1 ⟨rfl, hb1⟩
    go_wp2_with fail
    refine (HG.out _ hb1).mono ?_
    rintro e w2 ⟨l, rfl, hq, hb2⟩
    have SP : Hid (∀ W, Below w2.heap.size w2 W → (convert 25 9 (.slice (pvOf p l).pa (pvOf p l).pn (pvOf p l).pc)).run Try.prog W = .ok (.string (strOfNums p.pay)) W) := fun W hW => str_run (hq.pay.below hW)
    have HPD : Hid ((pvOf p l).pad = (len : Int) - T) := HP.out
    obtain ⟨v, hv⟩ : ∃ v, pvOf p l = v := ⟨_, rfl⟩
    rw [hv] at SP HPD
    rw [hv]
    have H2 := Lib.hid (hb1.trans (hb2.mono hb1.size))
    have hb3 := (Below.refl w2.heap.size w2).alloc (Nat.le_refl _) (pobj v)
    have H3 := Lib.hid (H2.out.trans (hb3.mono H2.out.size))
    have D3 := PBlk.new w2 v
    have SP' : Hid (∀ W, Below (w2.alloc (pobj v)).heap.size (w2.alloc (pobj v)) W → (convert 25 9 (.slice v.pa v.pn v.pc)).run Try.prog W = .ok (.string (strOfNums p.pay)) W) := fun W hW => SP.out W (hb3.trans (hW.mono hb3.size))
    clear hb1 hb2 hb3 HG hq hv SP H2 HP
    go_wp2_with fail
    generalize w2.alloc (pobj v) = w3 at *
    generalize w2.heap.size = q at *
    refine (HO.out _ H3.out).mono ?_
    rintro e w4 ⟨rfl, hb4⟩
    have H4 := Lib.hid (H3.out.trans (hb4.mono H3.out.size))
    have D4 : PBlk w4 q v := D3.below hb4 D3.lt
    have HQ := Lib.hid (show q < w4.heap.size from D4.lt)
    have s2 : ∀ W, Below w4.heap.size w4 W → (convert 25 9 (.slice X (T - F) (cap - F))).run Try.prog W = .ok (.string (strOfNums p.pay)) W := fun W hW => SX.out W (H4.out.trans (hW.mono H4.out.size))
    have s3 : ∀ W, Below w4.heap.size w4 W → (convert 25 9 (.slice v.pa v.pn v.pc)).run Try.prog W = .ok (.string (strOfNums p.pay)) W := fun W hW => SP'.out W (hb4.trans (hW.mono hb4.size))
    have c9 : ∀ W, Below w4.heap.size w4 W → W.cell? ⟨q, 9, none⟩ = some (.slice v.pa v.pn v.pc) := fun W hW => (D4.below hW D4.lt).c9
    have c10 : ∀ W, Below w4.heap.size w4 W → W.cell? ⟨q, 10, none⟩ = some (.int .i64 ((len : Int) - T)) := fun W hW => HPD.out ▸ (D4.below hW D4.lt).c10
    clear hb4 HO H3 D3 D4 SX SP' HPD w3
    go_wp2_with fail
    have hS : Below w4.heap.size w4 w4.drew := (Below.refl _ w4).drew
    have i1 : (12 : Int) ≤ F := by omega
    have i2 : (F : Int) ≤ T := by omega
    have i3 : (T : Int) ≤ len := by omega
    have i4 : IntKind.i64.wrap ((len : Int) - T) = (len : Int) - T := IntWalk.i64_in _ (by omega)
    clear hlc
    refine region_seq (fun W => Below w4.heap.size w4 W) [(0, false), (1, false), (2, false), (3, false), (4, false), (5, false), (6, false), (7, false), (8, false), (9, false), (10, false), (11, false), (12, false), (13, false), (14, false), (15, false), (16, false), (17, false), (18, false), (19, false), (20, false), (21, false), (22, false), (23, false), (24, false), (25, false), (26, false), (27, false), (28, false), (29, false), (30, false), (31, false), (32, false), (33, false), (34, false), (35, false), (36, false), (37, false)] (by kernel_rfl) (by kernel_rfl) rfl (by kernel_rfl) ?_
    iterate 38 (refine seq_read (v := _) rfl (fun _ _ _ h => h) hS (Or.inl ⟨by rfl, fun W hW => by go_simp <;> with_reducible rfl⟩) ?_; simp only [Act.put, List.setIfInBounds_toArray, List.set_cons_zero, List.set_cons_succ])
    refine seq_end ?_
    clear s1 s2 s3 c9 c10
    go_wp2
    go_ret
    exact ⟨rfl, H4.out.drew⟩
  · simp only [h, if_false] at CG CO
    have hn : (pE xs != 0) = true := by simpa using h
    generalize pE xs = n at *
    have HG := Lib.hid CG
    have HO := Lib.hid CO
    clear CG CO hr h
    go_enter Try.func7, Try.ntmps7
    go_wp2_with fail
    refine (shown_any _).mono ?_
    rintro e w1 ⟨rfl, hb1⟩
    go_wp2_with fail
    refine (HG.out _ hb1).mono ?_
    rintro e w2 ⟨l, rfl, hq, hb2⟩
    obtain ⟨v, hv⟩ : ∃ v, pvOf zeroPkt l = v := ⟨_, rfl⟩
    rw [hv]
    have H2 := Lib.hid (hb1.trans (hb2.mono hb1.size))
    have hb3 := (Below.refl w2.heap.size w2).alloc (Nat.le_refl _) (pobj v)
    have H3 := Lib.hid (H2.out.trans (hb3.mono H2.out.size))
    clear hb1 hb2 hb3 HG hq hv H2
    go_wp2_with fail
    refine (HO.out _ H3.out).mono ?_
    rintro e w4 ⟨rfl, hb4⟩
    go_wp2
    go_ret
    exact ⟨rfl, H3.out.trans (hb4.mono H3.out.size)⟩
end Go.Proofs.Ytiamdaeodkiccaa.Rtp
