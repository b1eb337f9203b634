/- The contracts of rtcp.farewell, question, bytesOf. -/
import Derived.Test.YtjbgfaoancmknaaVf
namespace Go.Proofs.Ytjbgfaoancmknaa.Fbk
open Go.RowKit
set_option linter.unusedVariables false

theorem cbes_snoc (l : List Int) (x : Int) : bes (l ++ [x]) = bes l ++ be 4 x := by
  induction l with
  | nil => simp [bes]
  | cons y r ih => simp [bes, ih]
theorem cpairs_snoc (l : List (Int × Int)) (x : Int × Int) : pairsB (l ++ [x]) = (pairsB l ++ be 2 x.1) ++ be 2 x.2 := by
  induction l with
  | nil => simp [pairsB]
  | cons y r ih => simp [pairsB, ih]
theorem cbes_bytes4 (xs : List Int) : Bytes (bes xs) := bes_bytes xs
/-- What stands behind begin. -/
theorem CW.new {w w1 : World} {v : IV} {g N : Nat} {z : List Int} (HB : Below w.heap.size w (w.alloc (iobj v))) (hk : Blk w1 g (z ++ zer (N - z.length)) []) (hg : (w.alloc (iobj v)).heap.size ≤ g) (hb : Below (w.alloc (iobj v)).heap.size (w.alloc (iobj v)) w1) (hz : z.length ≤ N) (hzb : Bytes z) (hN : N ≤ maxLen) (i : Int) (hi : i = z.length) :
    CW w (w1.alloc (.cells #[.slice (some ⟨g, 0, none⟩) N N, .int .i64 i] 67)) v w1.heap.size g N z := by
  subst hi
  have hb3 := (Below.refl w1.heap.size w1).alloc (Nat.le_refl _) (.cells #[.slice (some ⟨g, 0, none⟩) N N, .int .i64 z.length] 67)
  have hs : (w.alloc (iobj v)).heap.size = w.heap.size + 1 := by simp
  have hlt := hk.lt
  have h1 := HB.trans (hb.mono HB.size)
  exact ⟨h1.trans (hb3.mono h1.size), ((IBlk.new w v).bel hb).bel hb3, ⟨hz, hzb, hN, by omega, hk.alloc _, RWBlk.new w1 _ _ _ _⟩, by omega, by omega⟩
set_option maxRecDepth 100000 in
set_option maxHeartbeats 4000000 in
theorem farewell_any (v : IV) (B n N : Nat) (xs : List Int) (w : World) (hkind : v.kind = 203) (hgn : v.gn = n) (h1 : 1 ≤ n) (h15 : n ≤ 15) (hN : N = 4 * (n + 1)) (hr : Wd w B v.ga n xs) (hB : B ≤ w.heap.size) (hx : ∀ x ∈ xs, U32 x)
    (CS : Hid (∀ W, Below w.heap.size w W → Calls Try.prog 25 #[itm v] W (RetI W N))) (ys : List Int)
    (hys : Hid (ys = ((be 1 (128 + n) ++ be 1 203) ++ be 2 n) ++ bes xs)) :
    Calls Try.prog 29 #[itm v] w (NewRow w ys) := by
  have HB : Hid (Below w.heap.size w (w.alloc (iobj v))) := (Below.refl w.heap.size w).alloc (Nat.le_refl _) (iobj v)
  have HD : Hid (IBlk (w.alloc (iobj v)) w.heap.size v) := IBlk.new w v
  have HK := Lib.hid hkind
  have HR := Lib.hid hr
  have HX := Lib.hid hx
  have HG := Lib.hid hgn
  have HN := Lib.hid hN
  have CB : Hid (∀ W, Below w.heap.size w W → Calls Try.prog 43 #[itm v, .int .i64 v.gn] W (BegRet W N ((be 1 (128 + n) ++ be 1 v.kind) ++ be 2 n))) := fun W hW => by rw [hgn]; exact begin_any v N n n W hN (by omega) (by omega) (by omega) (fun W' hW' => CS.out W' (hW.trans (hW'.mono hW.size)))
  have c0 := HD.out.c0
  have c1 := HD.out.c1
  have c2 := HD.out.c2
  have c3 := HD.out.c3
  have c4 := HD.out.c4
  have c5 := HD.out.c5
  have c6 := HD.out.c6
  have c7 := HD.out.c7
  have c8 := HD.out.c8
  have c9 := HD.out.c9
  clear hkind hr hx hgn hN
  go_enter Try.func29, Try.ntmps29
  go_wp2_with fail
  refine (CB.out _ HB.out).mono ?_
  rintro e w1 ⟨g, rfl, hk1, hg1, hb1⟩
  obtain ⟨z, hz⟩ : ∃ z, z = (be 1 (128 + (n : Int)) ++ be 1 v.kind) ++ be 2 (n : Int) := ⟨_, rfl⟩
  rw [← hz] at hk1
  have hzl : z.length = 4 := by rw [hz]; simp only [List.length_append, be_length]
  have P := CW.new HB.out hk1 hg1 hb1 (by rw [hzl]; have := HN.out; omega) (by rw [hz]; exact ((be_bytes _ _).append (be_bytes _ _)).append (be_bytes _ _)) (by unfold maxLen; have := HN.out; omega) 4 (by rw [hzl]; rfl)
  have HP := Lib.hid P
  have HZ := Lib.hid (show ys = z ++ bes xs from by rw [hz, hys.out, HK.out])
  have HZL := Lib.hid hzl
  rw [← hz, hzl]
  have c7 := P.res.c7
  rw [HG.out] at c7
  clear P hk1 hg1 hb1 hz hzl hys CB CS HB HD c0 c1 c2 c3 c4 c5 c6 c8 c9
  go_wp2
  clear c7
  go_loopw [14] (fun sk wx => ∃ k : Nat, k ≤ n ∧ sk = .int .i64 k ∧ Hid (CW w wx v w1.heap.size g N (z ++ bes (xs.take k)))) (fun sk _ => n - (intOf sk).toNat)
  case atStart => exact ⟨0, by omega, rfl, by rw [List.take_zero, bes, List.append_nil]; exact HP.out⟩
  case round =>
    obtain ⟨k, hk, rfl, hP⟩ := hrel
    rename World => wx
    by_cases hlt : k < n
    · obtain ⟨b, off, ea, hbB, hx⟩ := (HR.out.below (hP.out.below.mono hB)).2.2 (by omega)
      have hxl := HR.out.1
      have x0 := hx k hlt
      have hgx : xs[k]? = some (xs.getD k 0) := by rw [List.getD_eq_getElem?_getD, List.getElem?_eq_getElem (by omega)]; rfl
      have hu := HX.out _ (List.mem_of_getElem? hgx)
      generalize xs.getD k 0 = x at *
      have HU := Lib.hid hu
      have qx : IntKind.u64.wrap x = x := wrap_u64 _ ⟨hu.1, by have := hu.2; omega⟩
      have HT := Lib.hid (show bes (xs.take (k + 1)) = bes (xs.take k) ++ be 4 x from by rw [List.take_add_one, hgx]; exact cbes_snoc _ _)
      clear hx hgx hu HP
      rw [ea]
      go_wp2_with fail
      refine (CW.put hP.out 4 x (by omega) (by omega) (by rw [List.length_append, HZL.out, bes_length, List.length_take, hxl, HN.out]; omega) HU.out.1 (by have := HU.out.2; omega) (by have := HU.out.2; omega)).mono ?_
      rintro e w9 ⟨rfl, P9⟩
      rw [List.append_assoc, ← HT.out] at P9
      have HP9 := Lib.hid P9
      clear P9
      go_wp2
      go_roundw
      case rel => exact ⟨k + 1, by omega, by go_num, HP9⟩
      case measure => simp [intOf]; omega
    · obtain rfl : k = n := by omega
      have e0 := hP.out.st.wr.c0
      clear HP
      go_wp2
      go_ret
      have ht : xs.take k = xs := List.take_of_length_le (by rw [HR.out.1]; exact Nat.le_refl _)
      have hP := hP.out
      rw [ht, ← HZ.out] at hP
      have hl : ys.length = N := by rw [HZ.out, List.length_append, HZL.out, bes_length, HR.out.1, HN.out]; omega
      exact ⟨some ⟨g, 0, none⟩, N, by rw [hl]; rfl, hP.own hl, hP.below⟩
theorem CW.putk {w W : World} {v : IV} {q g len : Nat} {ds : List Int} (p : CW w W v q g len ds) (s : Nat) (n : Int) (h1 : 1 ≤ s) (h2 : s ≤ 8) (hfit : ds.length + s ≤ len) (hn : 0 ≤ n) (hn2 : n ≤ 18446744073709551615) (hf : n < 256 ^ s) :
    Calls Try.prog 44 #[.pointer (some ⟨q, 0, none⟩), .int .i64 s, .int .u64 n] W fun e W' => e = .returned (.tuple #[]) ∧ CW w W' v q g len (ds ++ be s n) ∧ Kp g q W W' :=
  (cput_any W q g len ds s n p.st h1 h2 hfit hn hn2 hf).mono fun e W' ⟨he, h1, h2⟩ => ⟨he, p.kp h1 h2, h2⟩
theorem Kp.prblk {g q b : Nat} {w w' : World} {x : Int × Int} (h : Kp g q w w') (k : PrBlk w b x) (hg : b ≠ g) (hq : b ≠ q) : PrBlk w' b x := (h.keep b (lt_of_some k) hg hq).trans k
set_option maxRecDepth 100000 in
set_option maxHeartbeats 8000000 in
theorem question_any (v : IV) (B n N : Nat) (xs : List (Int × Int)) (w : World) (hkind : v.kind = 205 ∨ v.kind = 206) (hpn : v.pn = n) (h15 : n ≤ 16) (hN : N = 4 * ((2 + n) + 1)) (hr : RowRd pairL w B v.pa n xs) (hB : B ≤ w.heap.size) (hx : ∀ x ∈ xs, U16 x.1 ∧ U16 x.2)
    (h1 : U32 v.ssrc) (h2 : U32 v.media)
    (CS : Hid (∀ W, Below w.heap.size w W → Calls Try.prog 25 #[itm v] W (RetI W N))) (ys : List Int)
    (hys : Hid (ys = ((((be 1 129 ++ be 1 v.kind) ++ be 2 ((2 + n : Nat) : Int)) ++ be 4 v.ssrc) ++ be 4 v.media) ++ pairsB xs)) :
    Calls Try.prog 30 #[itm v] w (NewRow w ys) := by
  have HB : Hid (Below w.heap.size w (w.alloc (iobj v))) := (Below.refl w.heap.size w).alloc (Nat.le_refl _) (iobj v)
  have HD : Hid (IBlk (w.alloc (iobj v)) w.heap.size v) := IBlk.new w v
  have HR := Lib.hid hr
  have HX := Lib.hid hx
  have HG := Lib.hid hpn
  have HN := Lib.hid hN
  have H1 := Lib.hid h1
  have H2 := Lib.hid h2
  have CB : Hid (∀ W, Below w.heap.size w W → Calls Try.prog 43 #[itm v, .int .i64 1] W (BegRet W N ((be 1 129 ++ be 1 v.kind) ++ be 2 ((2 + n : Nat) : Int)))) := fun W hW => begin_any v N (2 + n) 1 W hN (by omega) (by omega) (by omega) (fun W' hW' => CS.out W' (hW.trans (hW'.mono hW.size)))
  have qs : IntKind.u64.wrap v.ssrc = v.ssrc := wrap_u64 _ ⟨h1.1, by have := h1.2; omega⟩
  have qm : IntKind.u64.wrap v.media = v.media := wrap_u64 _ ⟨h2.1, by have := h2.2; omega⟩
  have c0 := HD.out.c0
  have c1 := HD.out.c1
  have c2 := HD.out.c2
  have c3 := HD.out.c3
  have c4 := HD.out.c4
  have c5 := HD.out.c5
  have c6 := HD.out.c6
  have c7 := HD.out.c7
  have c8 := HD.out.c8
  have c9 := HD.out.c9
  clear hkind hr hx hpn hN h1 h2
  go_enter Try.func30, Try.ntmps30
  go_wp2_with fail
  refine (CB.out _ HB.out).mono ?_
  rintro e w1 ⟨g, rfl, hk1, hg1, hb1⟩
  obtain ⟨z, hz⟩ : ∃ z, z = (be 1 129 ++ be 1 v.kind) ++ be 2 ((2 + n : Nat) : Int) := ⟨_, rfl⟩
  rw [← hz] at hk1
  have hzl : z.length = 4 := by rw [hz]; simp only [List.length_append, be_length]
  have P := CW.new HB.out hk1 hg1 hb1 (by rw [hzl]; have := HN.out; omega) (by rw [hz]; exact ((be_bytes _ _).append (be_bytes _ _)).append (be_bytes _ _)) (by unfold maxLen; have := HN.out; omega) 4 (by rw [hzl]; rfl)
  have HP := Lib.hid P
  have HZ0 := Lib.hid hz
  have HZL := Lib.hid hzl
  rw [← hz, hzl]
  clear c0 c1 c2 c3 c4 c5 c6 c7 c8 c9
  have c1 := P.res.c1
  clear P hk1 hg1 hb1 hz hzl CB CS HB HD
  go_wp2_with fail
  refine (CW.put HP.out 4 v.ssrc (by omega) (by omega) (by rw [HZL.out, HN.out]; omega) H1.out.1 (by have := H1.out.2; omega) (by have := H1.out.2; omega)).mono ?_
  rintro e w2 ⟨rfl, P2⟩
  have HP2 := Lib.hid P2
  clear HP c1
  have c8 := P2.res.c8
  clear P2
  go_wp2_with fail
  refine (CW.put HP2.out 4 v.media (by omega) (by omega) (by rw [List.length_append, be_length, HZL.out, HN.out]; omega) H2.out.1 (by have := H2.out.2; omega) (by have := H2.out.2; omega)).mono ?_
  rintro e w3 ⟨rfl, P3⟩
  obtain ⟨y, hy⟩ : ∃ y, y = (z ++ be 4 v.ssrc) ++ be 4 v.media := ⟨_, rfl⟩
  rw [← hy] at P3
  have HP3 := Lib.hid P3
  have HZ := Lib.hid (show ys = y ++ pairsB xs from by rw [hy, HZ0.out, hys.out])
  have HYL := Lib.hid (show y.length = 12 from by rw [hy, List.length_append, List.length_append, be_length, be_length, HZL.out])
  clear HP2 c8
  have c9 := P3.res.c9
  rw [HG.out] at c9
  clear P3 hy hys HZ0 HZL
  generalize w1.heap.size = q at *
  clear qs qm
  go_wp2
  clear c9
  go_loopw [19] (fun sk wx => ∃ k : Nat, k ≤ n ∧ sk = .int .i64 k ∧ Hid (CW w wx v q g N (y ++ pairsB (xs.take k)))) (fun sk _ => n - (intOf sk).toNat)
  case atStart => exact ⟨0, by omega, rfl, by rw [List.take_zero, pairsB, List.append_nil]; exact HP3.out⟩
  case round =>
    obtain ⟨k, hk, rfl, hP⟩ := hrel
    rename World => wx
    by_cases hlt : k < n
    · obtain ⟨b, off, x, ea, hbB, hx, d0, d1⟩ := pair_at (HR.out.below (hP.out.below.mono hB)) hlt
      have hxl := HR.out.1
      have hu := HX.out _ (List.mem_of_getElem? hx)
      have HT := Lib.hid (show pairsB (xs.take (k + 1)) = (pairsB (xs.take k) ++ be 2 x.1) ++ be 2 x.2 from by rw [List.take_add_one, hx]; exact cpairs_snoc _ _)
      obtain ⟨x0, x1⟩ := x
      simp only at d0 d1 hu HT
      have HU := Lib.hid hu
      have q0 : IntKind.u64.wrap x0 = x0 := wrap_u64 _ ⟨hu.1.1, by have := hu.1.2; omega⟩
      have q1 : IntKind.u64.wrap x1 = x1 := wrap_u64 _ ⟨hu.2.1, by have := hu.2.2; omega⟩
      have HA : Hid (CW w (wx.alloc (pairO (x0, x1))) v q g N (y ++ pairsB (xs.take k))) := hP.out.bel ((Below.refl _ _).alloc (Nat.le_refl _) _)
      have HE : Hid (PrBlk (wx.alloc (pairO (x0, x1))) wx.heap.size (x0, x1)) := PrBlk.new wx (x0, x1)
      have hne : wx.heap.size ≠ g ∧ wx.heap.size ≠ q := ⟨Nat.ne_of_gt hP.out.st.row.lt, Nat.ne_of_gt hP.out.st.wr.lt⟩
      have HNE := Lib.hid hne
      have e0 := HE.out.c0
      have e1 := HE.out.c1
      have HL : Hid ((pairsB (xs.take k)).length = 4 * k) := by show (pairsB (xs.take k)).length = 4 * k; rw [pairsB_length, List.length_take]; omega
      clear hx hu HP3 hP hne
      rw [ea]
      go_wp2_with fail
      refine (CW.putk HA.out 2 x0 (by omega) (by omega) (by rw [List.length_append, HYL.out, HL.out, HN.out]; omega) HU.out.1.1 (by have := HU.out.1.2; omega) (by have := HU.out.1.2; omega)).mono ?_
      rintro e w8 ⟨rfl, P8, kp8⟩
      have HP8 := Lib.hid P8
      have HE8 := Lib.hid (kp8.prblk HE.out HNE.out.1 HNE.out.2)
      clear P8 kp8 HE HA e0 e1
      have e1 := HE8.out.c1
      go_wp2_with fail
      refine (CW.putk HP8.out 2 x1 (by omega) (by omega) (by simp only [List.length_append, be_length, HYL.out, HL.out, HN.out]; omega) HU.out.2.1 (by have := HU.out.2.2; omega) (by have := HU.out.2.2; omega)).mono ?_
      rintro e w9 ⟨rfl, P9, kp9⟩
      rw [List.append_assoc, List.append_assoc, ← List.append_assoc (pairsB _), ← HT.out] at P9
      have HP9 := Lib.hid P9
      clear P9 kp9 HP8 HE8 e1
      go_wp2
      go_roundw
      case rel => exact ⟨k + 1, by omega, by go_num, HP9⟩
      case measure => simp [intOf]; omega
    · obtain rfl : k = n := by omega
      have e0 := hP.out.st.wr.c0
      clear HP3
      go_wp2
      go_ret
      have ht : xs.take k = xs := List.take_of_length_le (by rw [HR.out.1]; exact Nat.le_refl _)
      have hP := hP.out
      rw [ht, ← HZ.out] at hP
      have hl : ys.length = N := by rw [HZ.out, List.length_append, HYL.out, pairsB_length, HR.out.1, HN.out]; omega
      exact ⟨some ⟨g, 0, none⟩, N, by rw [hl]; rfl, hP.own hl, hP.below⟩
end Go.Proofs.Ytjbgfaoancmknaa.Fbk
