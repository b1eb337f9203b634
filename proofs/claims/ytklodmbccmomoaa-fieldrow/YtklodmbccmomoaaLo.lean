/- The walk of FieldOrder. -/
import Derived.Test.YtklodmbccmomoaaWh
import Derived.Test.YtklodmbccmomoaaFr
import Derived.Lib.Strings
namespace Go.Proofs.Ytklodmbccmomoaa
open Go.RowKit
set_option linter.unusedVariables false

theorem num_cons (x : Int) (l : List Int) : num (x :: l) = x * 256 ^ l.length + num l := by
  have := num_append [x] l
  simpa [num] using this
theorem byte_lt (x y : Int) (hx : 0 ≤ x ∧ x ≤ 255) (hy : 0 ≤ y ∧ y ≤ 255) : (UInt8.ofNat x.toNat < UInt8.ofNat y.toNat) ↔ x < y := by
  rw [UInt8.lt_iff_toNat_lt, UInt8.toNat_ofNat', UInt8.toNat_ofNat', Nat.mod_eq_of_lt (by omega), Nat.mod_eq_of_lt (by omega)]
  omega
theorem byte_eq (x y : Int) (hx : 0 ≤ x ∧ x ≤ 255) (hy : 0 ≤ y ∧ y ≤ 255) : (UInt8.ofNat x.toNat = UInt8.ofNat y.toNat) ↔ x = y := by
  rw [← UInt8.toNat_inj, UInt8.toNat_ofNat', UInt8.toNat_ofNat', Nat.mod_eq_of_lt (by omega), Nat.mod_eq_of_lt (by omega)]
  omega
theorem mul_step (x y P a b : Int) (hP : 0 < P) (ha : 0 ≤ a) (haP : a < P) (hb : 0 ≤ b) (hbP : b < P) : (x * P + a < y * P + b) ↔ (x < y ∨ (x = y ∧ a < b)) := by
  constructor
  · intro h
    rcases Int.lt_trichotomy x y with hxy | hxy | hxy
    · exact .inl hxy
    · subst hxy; exact .inr ⟨rfl, by omega⟩
    · exfalso
      have h1 : (y + 1) * P ≤ x * P := Int.mul_le_mul_of_nonneg_right (by omega) (by omega)
      rw [Int.add_mul, Int.one_mul] at h1
      omega
  · rintro (hxy | ⟨rfl, hab⟩)
    · have h1 : (x + 1) * P ≤ y * P := Int.mul_le_mul_of_nonneg_right (by omega) (by omega)
      rw [Int.add_mul, Int.one_mul] at h1
      omega
    · omega
theorem less_num : ∀ (xs ys : List Int), xs.length = ys.length → Bytes xs → Bytes ys →
    Op.bytesLess (xs.map fun n => UInt8.ofNat n.toNat) (ys.map fun n => UInt8.ofNat n.toNat) = decide (num xs < num ys)
  | [], [], _, _, _ => by simp [Op.bytesLess, num]
  | [], _ :: _, h, _, _ => by simp at h
  | _ :: _, [], h, _, _ => by simp at h
  | x :: xs, y :: ys, h, hx, hy => by
    have hl : xs.length = ys.length := by simpa using h
    have hx0 := hx x (by simp)
    have hy0 := hy y (by simp)
    have hxs : Bytes xs := fun z hz => hx z (by simp [hz])
    have hys : Bytes ys := fun z hz => hy z (by simp [hz])
    have bx := num_bd xs hxs
    have by_ := num_bd ys hys
    have hP := pow_pos ys.length
    rw [List.map_cons, List.map_cons, Op.bytesLess, less_num xs ys hl hxs hys, num_cons, num_cons, hl]
    rw [hl] at bx
    have hm := mul_step x y (256 ^ ys.length) (num xs) (num ys) hP bx.1 bx.2 by_.1 by_.2
    rw [Bool.eq_iff_iff]
    simp only [Bool.or_eq_true, Bool.and_eq_true, decide_eq_true_eq, beq_iff_eq]
    rw [byte_lt x y hx0 hy0, byte_eq x y hx0 hy0, hm]
theorem less_be (s : Nat) (a b : Int) (ha : 0 ≤ a) (hb : 0 ≤ b) (fa : fitsB s a = true) (fb : fitsB s b = true) :
    Op.bytesLess (strOfNums (be s a)).toList (strOfNums (be s b)).toList = decide (a < b) := by
  rw [Lib.toList_data, Lib.toList_data, strOfNums_data, strOfNums_data, less_num _ _ (by rw [be_length, be_length]) (be_bytes _ _) (be_bytes _ _),
    num_be s a ha (by simpa [fitsB] using fa), num_be s b hb (by simpa [fitsB] using fb)]

theorem fits8 (n : Int) (hn2 : n ≤ 18446744073709551615) : fitsB 8 n = true := by
  simp only [fitsB, decide_eq_true_eq]
  rw [show (256 : Int) ^ (8 : Int).toNat = 18446744073709551616 from by decide]
  omega
set_option maxHeartbeats 400000 in
theorem lfits_any (n s : Int) (w : World) (hn : 0 ≤ n) (hn2 : n ≤ 18446744073709551615) :
    Calls Try.prog 15 #[.int .u64 n, .int .i64 s] w fun e w' => e = .returned (.bool (sizeB s && fitsB s n)) ∧ w = w' := by
  by_cases h8 : s = 8
  · subst h8
    have HF := Lib.hid (fits8 n hn2)
    go_enter Try.func15, Try.ntmps15
    go_wp2
    go_ret
    exact ⟨ret_bool (by rw [HF.out]; rfl), rfl⟩
  · have hne : (s == 8) = false := by simpa using h8
    by_cases h1 : 1 ≤ s
    · by_cases h2 : s < 8
      · have hs : sizeB s = true := by simp [sizeB]; omega
        have HS := Lib.hid hs
        clear hs h8
        go_enter Try.func15, Try.ntmps15
        go_wp2
        go_ret
        exact ⟨ret_bool (by rw [HS.out, pow_two_eight s (by omega), div_zero_iff n _ hn (pow_pos _)]; rfl), rfl⟩
      · have hs : sizeB s = false := by simp [sizeB]; omega
        have HS := Lib.hid hs
        clear hs h8
        go_enter Try.func15, Try.ntmps15
        go_wp2
        go_ret
        exact ⟨ret_bool (by rw [HS.out]; rfl), rfl⟩
    · have hs : sizeB s = false := by simp [sizeB]; omega
      have HS := Lib.hid hs
      clear hs h8
      go_enter Try.func15, Try.ntmps15
      go_wp2
      go_ret
      exact ⟨ret_bool (by rw [HS.out]; rfl), rfl⟩

theorem rd_nil (w : World) (B : Nat) : Rd w B none 0 [] := ⟨rfl, Bytes.nil, fun h => absurd h (by omega)⟩
theorem append_nil (s n : Int) (ys : List Int) (w : World) (hn : 0 ≤ n) (hn2 : n ≤ 18446744073709551615) (hy : appV [] s n = ys) :
    Calls Try.prog 13 #[.slice none 0 0, .int .i64 s, .int .u64 n] w (NewRow w ys) := by
  subst hy
  exact append_any none 0 0 0 s n [] w (by omega) (rd_nil w 0) (by omega) hn hn2

set_option maxHeartbeats 1000000 in
theorem order_no (a b s : Int) (w : World) (ha : 0 ≤ a) (ha2 : a ≤ 18446744073709551615) (hb : 0 ≤ b) (hb2 : b ≤ 18446744073709551615)
    (fa fb : Bool) (hfa : (sizeB s && fitsB s a) = fa) (hfb : (sizeB s && fitsB s b) = fb) (hno : (fa && fb) = false) :
    Calls Try.prog 6 #[.int .u64 a, .int .u64 b, .int .i64 s] w fun e w' => e = .returned (.bool true) ∧ Below w.heap.size w w' := by
  obtain ⟨ya, HA, EA⟩ : ∃ ya, Hid (appV [] s a = ya) ∧ Hid (fa = false → ya = []) := ⟨_, rfl, fun h => by unfold appV; rw [hfa, h]; rfl⟩
  obtain ⟨yb, HB, EB⟩ : ∃ yb, Hid (appV [] s b = yb) ∧ Hid (fb = false → yb = []) := ⟨_, rfl, fun h => by unfold appV; rw [hfb, h]; rfl⟩
  have FA := Lib.hid hfa
  have FB := Lib.hid hfb
  have HN := Lib.hid hno
  clear hfa hfb hno
  have L15a : Hid (∀ w : World, Calls Try.prog 15 #[.int .u64 a, .int .i64 s] w fun e w' => e = .returned (.bool fa) ∧ w = w') := by
    intro w; rw [← FA.out]; exact lfits_any a s w ha ha2
  have L15b : Hid (∀ w : World, Calls Try.prog 15 #[.int .u64 b, .int .i64 s] w fun e w' => e = .returned (.bool fb) ∧ w = w') := by
    intro w; rw [← FB.out]; exact lfits_any b s w hb hb2
  go_enter Try.func6, Try.ntmps6
  go_wp2_with fail
  refine (shown_any _).mono ?_
  rintro e w1 ⟨rfl, hb1⟩
  go_wp2_with fail
  refine (append_nil s a _ w1 ha ha2 HA.out).mono ?_
  rintro e w2 ⟨A2, c2, rfl, ho2, hb2'⟩
  go_wp2_with fail
  refine (append_nil s b _ w2 hb hb2 HB.out).mono ?_
  rintro e w3 ⟨A3, c3, rfl, ho3, hb3⟩
  have hbb : Below w.heap.size w w3 := hb1.trans ((hb2'.trans (hb3.mono hb2'.size)).mono hb1.size)
  clear hb1 hb2' hb3 ho2 ho3 HA HB FA FB
  cases fa
  · obtain rfl := EA.out rfl
    cases fb
    · obtain rfl := EB.out rfl
      go_wp2_with fail
      refine (L15a.out _).mono ?_
      rintro e w4 ⟨rfl, rfl⟩
      go_wp2_with fail
      refine (L15a.out _).mono ?_
      rintro e w4 ⟨rfl, rfl⟩
      go_wp2_with fail
      refine (L15b.out _).mono ?_
      rintro e w4 ⟨rfl, rfl⟩
      go_wp2
      go_ret
      exact ⟨rfl, hbb⟩
    · go_wp2_with fail
      refine (L15a.out _).mono ?_
      rintro e w4 ⟨rfl, rfl⟩
      go_wp2_with fail
      refine (L15a.out _).mono ?_
      rintro e w4 ⟨rfl, rfl⟩
      go_wp2_with fail
      refine (L15b.out _).mono ?_
      rintro e w4 ⟨rfl, rfl⟩
      go_wp2
      go_ret
      exact ⟨rfl, hbb⟩
  · cases fb
    · obtain rfl := EB.out rfl
      go_wp2_with fail
      refine (L15a.out _).mono ?_
      rintro e w4 ⟨rfl, rfl⟩
      go_wp2_with fail
      refine (L15b.out _).mono ?_
      rintro e w4 ⟨rfl, rfl⟩
      go_wp2_with fail
      refine (L15a.out _).mono ?_
      rintro e w4 ⟨rfl, rfl⟩
      go_wp2_with fail
      refine (L15b.out _).mono ?_
      rintro e w4 ⟨rfl, rfl⟩
      go_wp2
      go_ret
      exact ⟨rfl, hbb⟩
    · exact absurd HN.out (by decide)

set_option maxHeartbeats 1000000 in
theorem order_yes (a b : Int) (s : Nat) (w : World) (ha : 0 ≤ a) (ha2 : a ≤ 18446744073709551615) (hb : 0 ≤ b) (hb2 : b ≤ 18446744073709551615)
    (hs : sizeB s = true) (fa : fitsB s a = true) (fb : fitsB s b = true) :
    Calls Try.prog 6 #[.int .u64 a, .int .u64 b, .int .i64 s] w fun e w' => e = .returned (.bool true) ∧ Below w.heap.size w w' := by
  have HA : Hid (appV [] s a = be s a) := by show _ = _; unfold appV; rw [hs, fa]; rfl
  have HB : Hid (appV [] s b = be s b) := by show _ = _; unfold appV; rw [hs, fb]; rfl
  have HL := Lib.hid (less_be s a b ha hb fa fb)
  have L15a : Hid (∀ w : World, Calls Try.prog 15 #[.int .u64 a, .int .i64 s] w fun e w' => e = .returned (.bool true) ∧ w = w') := by
    intro w; have := lfits_any a s w ha ha2; rw [hs, fa] at this; exact this
  have L15b : Hid (∀ w : World, Calls Try.prog 15 #[.int .u64 b, .int .i64 s] w fun e w' => e = .returned (.bool true) ∧ w = w') := by
    intro w; have := lfits_any b s w hb hb2; rw [hs, fb] at this; exact this
  clear hs fa fb
  go_enter Try.func6, Try.ntmps6
  go_wp2_with fail
  refine (shown_any _).mono ?_
  rintro e w1 ⟨rfl, hb1⟩
  go_wp2_with fail
  refine (append_nil s a _ w1 ha ha2 HA.out).mono ?_
  rintro e w2 ⟨A2, c2, rfl, ho2, hb2'⟩
  rw [be_length] at ho2 ⊢
  go_wp2_with fail
  refine (append_nil s b _ w2 hb hb2 HB.out).mono ?_
  rintro e w3 ⟨A3, c3, rfl, ho3, hb3⟩
  rw [be_length] at ho3 ⊢
  have hbb : Below w.heap.size w w3 := hb1.trans ((hb2'.trans (hb3.mono hb2'.size)).mono hb1.size)
  have s1 := str_run (c := c2) (ho2.rd.below hb3)
  have s2 := str_run (c := c3) ho3.rd
  clear hb1 hb2' hb3 ho2 ho3 HA HB
  go_wp2_with fail
  refine (L15a.out _).mono ?_
  rintro e w4 ⟨rfl, rfl⟩
  go_wp2_with fail
  refine (L15b.out _).mono ?_
  rintro e w4 ⟨rfl, rfl⟩
  have hl := HL.out
  go_wp2
  go_ret
  exact ⟨rfl, hbb⟩
theorem order_law (a b s : Int) (w : World) (ha : (Lit.int .u64 a).wf = true) (hb : (Lit.int .u64 b).wf = true) :
    Calls Try.prog 6 #[.int .u64 a, .int .u64 b, .int .i64 s] w fun e w' => e = .returned (.bool true) ∧ Below w.heap.size w w' := by
  have ha := wf_u64 ha
  have hb := wf_u64 hb
  rcases hy : ((sizeB s && fitsB s a) && (sizeB s && fitsB s b)) with _ | _
  · exact order_no a b s w ha.1 ha.2 hb.1 hb.2 _ _ rfl rfl hy
  · simp only [Bool.and_eq_true] at hy
    have hs := hy.1.1
    simp only [sizeB, decide_eq_true_eq] at hs
    obtain ⟨s', rfl⟩ := Int.eq_ofNat_of_zero_le (show 0 ≤ s from by omega)
    exact order_yes a b s' w ha.1 ha.2 hb.1 hb.2 hy.1.1 hy.1.2 hy.2.2
end Go.Proofs.Ytklodmbccmomoaa
