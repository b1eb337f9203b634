/- NackFew walked: no pair could have taken the number that the next one begins with. -/
import Derived.Test.YtmgpphgiigppgaaUh
import Derived.Test.YtmgpphgiigppgaaUe
namespace Go.Proofs.Ytmgpphgiigppgaa.Nck
open Go.RowKit Go.Proofs.Ytmgpphgiigppgaa.Fbk
set_option linter.unusedVariables false

theorem few_at {ms : List Int} {ps : List (Int × Int)} (H : PkOk ms ps) {i : Nat} {p : Int × Int} (hp : ps[i]? = some p) :
    ms[(expand (ps.take i)).length]? = some p.1 ∧ (expand (ps.take i)).length + (exp1 p).length ≤ ms.length ∧ (expand (ps.take (i + 1))).length = (expand (ps.take i)).length + (exp1 p).length := by
  have h1 : expand (ps.take (i + 1)) = expand (ps.take i) ++ exp1 p := by rw [take_snoc' ps i p hp, expand_snoc]
  have h2 : ms = expand (ps.take i) ++ exp1 p ++ expand (ps.drop (i + 1)) := by rw [← h1, ← expand_append, List.take_append_drop, H.exp]
  refine ⟨?_, ?_, by rw [h1, List.length_append]⟩
  · rw [h2, List.append_assoc, List.getElem?_append_right (Nat.le_refl _), Nat.sub_self]; rfl
  · have := congrArg List.length h2
    simp only [List.length_append] at this
    omega
theorem few_last {ms : List Int} {ps : List (Int × Int)} (H : PkOk ms ps) {i : Nat} {q : Int × Int} (hq : ps[i]? = some q) :
    ∃ at1 : Nat, (expand (ps.take (i + 1))).length = at1 + 1 ∧ ms[at1]? = some ((exp1 q).getLastD 0) := by
  have h1 : expand (ps.take (i + 1)) = expand (ps.take i) ++ exp1 q := by rw [take_snoc' ps i q hq, expand_snoc]
  have h2 : ms = expand (ps.take i) ++ exp1 q ++ expand (ps.drop (i + 1)) := by rw [← h1, ← expand_append, List.take_append_drop, H.exp]
  obtain ⟨r, y, hr⟩ : ∃ r y, exp1 q = r ++ [y] := ⟨(exp1 q).dropLast, (exp1 q).getLast (by simp [exp1]), (List.dropLast_concat_getLast (by simp [exp1])).symm⟩
  refine ⟨(expand (ps.take i) ++ r).length, by rw [h1, hr]; simp only [List.length_append, List.length_cons, List.length_nil]; omega, ?_⟩
  rw [hr, getLastD_snoc]
  rw [h2, hr, ← List.append_assoc, List.append_assoc _ [y], List.getElem?_append_right (Nat.le_refl _), Nat.sub_self]; rfl
theorem cut16_to (a : Option Addr) (len cap k : Nat) (l : Int) (hl : l = k) (h : k ≤ cap) (W : World) :
    (Instr.slice 23 (.slice a len cap) none (some (.int .i64 l)) none).run Try.prog W = .ok (.slice a k cap) W := by
  subst hl
  obtain ⟨i0, hi0, hz0, hz1, hz2⟩ := info_parts info16
  have e := run_slice_h (P := Try.prog) (w := W) (t := 23) (a := a) (len := len) (cap := cap) (ht := Try.underlying23) .i64 (k : Int) (by omega) (by omega)
  rw [e, show Try.prog.elem 23 = 24 from rfl]
  have ha : a.map (·.add 0) = a := by cases a <;> simp [Addr.add]
  simp [sizeOf, typeInfo, hi0, sliced, ha]
theorem RowRd.take {α : Type} {L : Lay α} {w : World} {B n k : Nat} {a : Option Addr} {xs : List α} (h : RowRd L w B a n xs) (hk : k ≤ n) : RowRd L w B a k (xs.take k) := by
  refine ⟨by rw [List.length_take, h.1]; omega, fun hp => ?_⟩
  obtain ⟨b, off, e, hlt, hc⟩ := h.2 (by omega)
  refine ⟨b, off, e, hlt, fun i x hi j v hv => hc i x ?_ j v hv⟩
  rw [List.getElem?_take] at hi
  split at hi
  · exact hi
  · cases hi
set_option maxHeartbeats 4000000 in
set_option maxRecDepth 100000 in
theorem few_any (a : Option Addr) (n0 cap B : Nat) (ms0 : List Int) (w : World) (hl : n0 ≤ 140737488351232) (hc : n0 ≤ cap) (hr : RowRd w16L w B a n0 ms0) (hB : B ≤ w.heap.size) (hok : ∀ x ∈ ms0, U16 x) :
    Calls Try.prog 5 #[.slice a n0 cap] w fun e w' => e = .returned (.bool true) ∧ Below w.heap.size w w' := by
  obtain ⟨n, ms, hn3, hq, HR, hnc, HO⟩ : ∃ (n : Nat) (ms : List Int), n ≤ 300 ∧ (n0 ≤ 300 ∧ n = n0 ∨ 300 < n0 ∧ n = 300) ∧ Hid (RowRd w16L w B a n ms) ∧ n ≤ cap ∧ Hid (∀ x ∈ ms, U16 x) :=
    ⟨min n0 300, ms0.take (min n0 300), Nat.min_le_right _ _, by omega, RowRd.take hr (Nat.min_le_left _ _), by omega, fun x hx => hok x (List.mem_of_mem_take hx)⟩
  have HN := Lib.hid HR.out.1
  have HK := Lib.hid (pk_ok ms HO.out)
  have HL := Lib.hid (pk_len ms)
  clear hr hok
  have HQ := Lib.hid hq
  clear hq
  go_enter Try.func5, Try.ntmps5
  go_wp2_with fail
  refine (shown_any w).mono ?_
  rintro e w0 ⟨rfl, hb0⟩
  have CP : Hid (Calls Try.prog 11 #[.slice a n cap] w0 fun e w' => NewP w0 (pk ms) e w') := by
    have := pack_any a cap B ms w0 (by have := HN.out; omega) (by rw [HN.out]; exact HR.out.below (hb0.mono hB)) (Nat.le_trans hB hb0.size) HO.out
    rw [HN.out] at this
    exact this
  have HB0 := Lib.hid hb0
  clear hb0
  go_upto_region 3 with (fail)
  go_cut [0] from 13 to 17 (fun v wx => v = .slice a n cap ∧ w0 = wx)
  case first =>
    rcases HQ.out with ⟨h1, h2⟩ | ⟨h1, h2⟩
    · have s1 := fun W => cut16_to a n0 cap n0 n0 rfl hc W
      have HE := Lib.hid h2
      clear h2
      go_wp2
      go_meet
      exact ⟨by rw [HE.out], rfl⟩
    · have s1 := fun W => cut16_to a n0 cap 300 300 rfl (by omega) W
      have HE := Lib.hid h2
      clear h2
      go_wp2
      go_meet
      exact ⟨by rw [HE.out], rfl⟩
  case rest =>
  obtain ⟨rfl, rfl⟩ := hcut
  go_wp2_with fail
  refine CP.out.mono ?_
  rintro e w1 ⟨A1, c1, rfl, ho1, hb1⟩
  have HB1 := Lib.hid (HB0.out.trans (hb1.mono HB0.out.size))
  have HP := Lib.hid ho1.rd
  clear CP ho1 hb1 HB0
  obtain ⟨ps, hps⟩ : ∃ ps, pk ms = ps := ⟨_, rfl⟩
  rw [hps] at HK HL HP ⊢
  clear hps
  obtain ⟨N, hN⟩ : ∃ N, ps.length = N := ⟨_, rfl⟩
  have hNl : N ≤ n := by have := HL.out; have := HN.out; omega
  have HNN := Lib.hid hN
  rw [hN] at HP ⊢
  clear hN HL
  go_wp2_with fail
  go_loopw [3, 22] (fun sa sk wx => ∃ (i at_ : Nat), i ≤ N ∧ at_ ≤ n ∧ sk = .int .i64 i ∧ sa = .int .i64 at_ ∧ Hid (at_ = (expand (ps.take i)).length) ∧ Hid (Below w1.heap.size w1 wx)) (fun _ sk _ => N - (intOf sk).toNat)
  case atStart => exact ⟨0, 0, by omega, by omega, rfl, rfl, by simp [Lib.hid, expand], Below.refl _ _⟩
  case round =>
    obtain ⟨i, at_, hi, hat, rfl, rfl, hA, hb⟩ := hrel
    rename World => wx
    have HBX := Lib.hid (HB1.out.trans (hb.out.mono HB1.out.size))
    by_cases hlt : i < N
    · obtain ⟨g, off, p, rfl, hbB, hx, c0, c1⟩ := pair_at (HP.out.below hb.out) hlt
      have HPX := Lib.hid (HK.out.words p (List.mem_of_getElem? hx))
      obtain ⟨f1, f2, f3⟩ := few_at HK.out hx
      rw [← hA.out] at f1 f2 f3
      rw [HN.out] at f2
      have HF3 := Lib.hid f3
      have HX := Lib.hid hx
      clear hx f3
      obtain ⟨X, hX⟩ : ∃ X, exp1 p = X := ⟨_, rfl⟩
      have hX1 : 1 ≤ X.length := by rw [← hX]; simp [exp1]
      have HXE := Lib.hid (show expand [p] = X from by rw [expand, expand, List.append_nil, hX])
      rw [hX] at f2 HF3
      clear hX
      obtain ⟨M, hM⟩ : ∃ M, X.length = M := ⟨_, rfl⟩
      have HM := Lib.hid hM
      rw [hM] at f2 HF3 hX1
      clear hM
      obtain ⟨p0, p1⟩ := p
      simp only at c0 c1 f1 HPX
      have d0 : (wx.alloc (pairO (p0, p1))).cell? ⟨wx.heap.size, 0, none⟩ = some (.int .u16 p0) := (PrBlk.new wx (p0, p1)).c0
      have d1 : (wx.alloc (pairO (p0, p1))).cell? ⟨wx.heap.size, 1, none⟩ = some (.int .u16 p1) := (PrBlk.new wx (p0, p1)).c1
      have HB2 : Hid (Below w1.heap.size w1 (wx.alloc (pairO (p0, p1)))) := hb.out.alloc hb.out.size _
      have HD := Lib.hid d0
      obtain ⟨h0, hh0⟩ : ∃ h0, wx.heap.size = h0 := ⟨_, rfl⟩
      have HH0 := Lib.hid hh0
      have C1 : Hid (Calls Try.prog 9 #[.slice (some ⟨wx.heap.size + 1, 0, none⟩) 1 1] ((wx.alloc (pairO (p0, p1))).alloc (pairO (p0, p1))) fun e w' => New16 ((wx.alloc (pairO (p0, p1))).alloc (pairO (p0, p1))) X e w') := by
        have := expand_any (some ⟨wx.heap.size + 1, 0, none⟩) 1 (wx.heap.size + 2) [(p0, p1)] ((wx.alloc (pairO (p0, p1))).alloc (pairO (p0, p1))) (by simp) (by have := one_pair (wx.alloc (pairO (p0, p1))) (p0, p1); simpa using this) (by simp) (by intro x hx; simp at hx; subst hx; exact HPX.out)
        rw [HXE.out] at this
        exact this
      have HB3 : Hid (Below w1.heap.size w1 ((wx.alloc (pairO (p0, p1))).alloc (pairO (p0, p1)))) := HB2.out.alloc HB2.out.size _
      have HD3 : Hid (((wx.alloc (pairO (p0, p1))).alloc (pairO (p0, p1))).cell? ⟨wx.heap.size, 0, none⟩ = some (.int .u16 p0)) := (((Below.refl _ _).alloc (Nat.le_refl _) _).cell (p := ⟨wx.heap.size, 0, none⟩) (by simp)).trans d0
      have hsz3 : wx.heap.size < ((wx.alloc (pairO (p0, p1))).alloc (pairO (p0, p1))).heap.size := by simp; omega
      clear hh0
      go_wp2_with fail
      refine C1.out.mono ?_
      rintro e w4 ⟨A4, c4, rfl, ho4, hb4⟩
      have HB4 := Lib.hid (HB3.out.trans (hb4.mono HB3.out.size))
      have HD4 : Hid (w4.cell? ⟨h0, 0, none⟩ = some (.int .u16 p0)) := by
        rw [← HH0.out]
        exact (hb4.cell (p := ⟨wx.heap.size, 0, none⟩) hsz3).trans HD3.out
      rw [HM.out, HH0.out]
      clear C1 ho4 hb4 HB3 HD3 hsz3 HB2 HD d0 d1 c0 c1 hb HBX
      have HBW := Lib.hid (HB1.out.trans (HB4.out.mono HB1.out.size))
      have hatn : at_ < n := by omega
      obtain ⟨g2, o2, y, rfl, _, hy, e0⟩ := u16_at (HR.out.below (HBW.out.mono hB)) hatn
      obtain rfl : p0 = y := by rw [f1] at hy; simpa using hy
      clear hy
      have HE0 := Lib.hid e0
      have hS : (fun W : World => W.cell? ⟨h0, 0, none⟩ = some (.int .u16 p0) ∧ W.cell? ⟨g2, o2 + at_, none⟩ = some (.int .u16 p0)) w4.drew := ⟨HD4.out, e0⟩
      clear e0
      have t1 : decide (n ≤ at_) = false := decide_eq_false (by omega)
      have t2 : decide ((M : Int) < 1) = false := decide_eq_false (by omega)
      have t2' : decide (M < 1) = false := decide_eq_false (by omega)
      have t2'' : decide (M = 0) = false := decide_eq_false (by omega)
      have t3 : decide ((n : Int) - at_ < M) = false := decide_eq_false (by omega)
      have t4 : IntKind.i64.wrap ((n : Int) - at_) = (n : Int) - at_ := by rw [IntKind.wrap_i64]; omega
      go_wp2_with fail
      refine region_seq (fun W : World => W.cell? ⟨h0, 0, none⟩ = some (.int .u16 p0) ∧ W.cell? ⟨g2, o2 + at_, none⟩ = some (.int .u16 p0)) [(0, false), (1, false), (2, false), (3, false), (4, false), (5, false), (6, false), (7, false), (8, false), (9, false), (10, false), (11, false), (12, false), (13, false), (14, false), (15, false), (16, false), (17, false), (18, false), (19, false), (20, false), (21, false), (22, false), (23, false), (24, false)] (by kernel_rfl) (by kernel_rfl) rfl (by kernel_rfl) ?_
      iterate 25 (refine seq_read (v := _) rfl (fun _ _ _ h => h) hS (Or.inl ⟨by rfl, fun W hW => by have g1 := hW.1; have g2 := hW.2; go_simp <;> with_reducible rfl⟩) ?_; simp only [Act.put, List.setIfInBounds_toArray, List.set_cons_zero, List.set_cons_succ])
      refine seq_end ?_
      clear hS t1 t2 t2' t2'' t3 t4
      have HB5 : Hid (Below w1.heap.size w1 w4.drew) := HB4.out.drew
      have HD5 : Hid (w4.drew.cell? ⟨h0, 0, none⟩ = some (.int .u16 p0)) := HD4
      have HBW5 : Hid (Below w.heap.size w w4.drew) := HBW.out.drew
      clear HB4 HD4 HBW HE0
      generalize w4.drew = w5 at *
      clear f1
      have q1 : IntKind.i64.wrap ((at_ : Int) + M) = (at_ + M : Nat) := by rw [IntKind.wrap_i64]; omega
      have HREL : Hid (∀ wy, Hid (Below w1.heap.size w1 wy) → ∃ (i' at' : Nat), i' ≤ N ∧ at' ≤ n ∧ Value.int .i64 ((i + 1 : Nat) : Int) = .int .i64 i' ∧ Value.int .i64 ((at_ + M : Nat) : Int) = .int .i64 at' ∧ Hid (at' = (expand (ps.take i')).length) ∧ Hid (Below w1.heap.size w1 wy)) :=
        fun wy h => ⟨i + 1, at_ + M, by omega, by omega, rfl, rfl, HF3.out.symm, h⟩
      have d0 := HD5.out
      cases i with
      | zero =>
        obtain rfl : at_ = 0 := hA.out
        go_wp2_with fail
        go_roundw
        case rel =>
          have := HREL.out w5 HB5
          simpa using this
        case measure => simp [intOf]; omega
      | succ j =>
        obtain ⟨g', off', q, e1, _, hq, b0, b1⟩ := pair_at (HP.out.below HB5.out) (show j < N from by omega)
        simp only [Option.some.injEq, Addr.mk.injEq, and_true] at e1
        obtain ⟨rfl, rfl⟩ := e1
        obtain ⟨at1, ha1, hl1⟩ := few_last HK.out hq
        rw [← hA.out] at ha1
        subst ha1
        have HAP := Lib.hid (HK.out.apart j q _ hq HX.out)
        obtain ⟨L, hL⟩ : ∃ L, (exp1 q).getLastD 0 = L := ⟨_, rfl⟩
        rw [hL] at hl1 HAP
        clear hL hq
        obtain ⟨g3, o3, y, e2, _, hy, b2⟩ := u16_at (HR.out.below (HBW5.out.mono hB)) (show at1 < n from by omega)
        simp only [Option.some.injEq, Addr.mk.injEq, and_true] at e2
        obtain ⟨rfl, rfl⟩ := e2
        obtain rfl : L = y := by rw [hl1] at hy; simpa using hy
        clear hy hl1
        obtain ⟨q0, q1'⟩ := q
        simp only at b0 b1
        have hj : joins (q0, q1') L p0 = false := HAP.out
        have qd : IntKind.u16.wrap (p0 - q0) = (p0 - q0) % 65536 := wrap16 _
        unfold joins at hj
        simp only at hj
        generalize (p0 - q0) % 65536 = D at *
        have HJ := Lib.hid hj
        clear hj HAP
        have CA : Hid (∀ W, Calls Try.prog 15 #[.int .u16 p0, .int .u16 L] W fun e w' => e = .returned (.bool (ah16 p0 L)) ∧ W = w') := fun W => ahead16_any p0 L W
        by_cases k1 : 1 ≤ D
        · by_cases k2 : D ≤ 16
          · have k3 : ah16 p0 L = false := by have := HJ.out; simpa [k1, k2] using this
            rw [k3] at CA
            go_wp2_with fail
            refine (CA.out _).mono ?_
            rintro e w6 ⟨rfl, rfl⟩
            go_wp2_with fail
            go_roundw
            case rel =>
              have := HREL.out w5 HB5
              simpa using this
            case measure => simp [intOf]; omega
          · go_wp2_with fail
            go_roundw
            case rel =>
              have := HREL.out w5 HB5
              simpa using this
            case measure => simp [intOf]; omega
        · go_wp2_with fail
          go_roundw
          case rel =>
            have := HREL.out w5 HB5
            simpa using this
          case measure => simp [intOf]; omega
    · obtain rfl : i = N := by omega
      have hA2 := hA.out
      rw [List.take_of_length_le (by rw [HNN.out]; exact Nat.le_refl _), HK.out.exp, HN.out] at hA2
      subst hA2
      go_wp2_with fail
      go_ret
      exact ⟨rfl, HBX⟩
end Go.Proofs.Ytmgpphgiigppgaa.Nck
