/- The walk of FieldTurn. -/
import Derived.Test.YtklodmbccmomoaaWh
import Derived.Test.YtklodmbccmomoaaFr
import Derived.Deep.QuietTactic
import Derived.BigQuiet
import Derived.IntWalk
namespace Go.Proofs.Ytklodmbccmomoaa
open Go.RowKit
set_option linter.unusedVariables false

theorem below_drewN {B : Nat} {a w : World} (h : Below B a w) (n : Nat) : Below B a (w.drewN n) := ⟨h.os, h.tape, h.output, h.size, h.block⟩
theorem str_drawn {w : World} {B n : Nat} {a : Option Addr} {xs : List Int} (h : Rd w B a n xs) (c : Nat) : ∀ nq, (convert 22 9 (.slice a n c)).run Try.prog (w.drewN nq) = .ok (.string (strOfNums xs)) (w.drewN nq) :=
  fun nq => str_run (w := w.drewN nq) (B := B) h
theorem Rd.take {w : World} {B n k : Nat} {a : Option Addr} {xs : List Int} (h : Rd w B a n xs) (hk : k ≤ n) : Rd w B a k (xs.take k) :=
  ⟨by rw [List.length_take, h.1]; omega, h.2.1.take k, fun hp => by
    obtain ⟨b, off, e, hb, hc⟩ := h.2.2 (by omega)
    exact ⟨b, off, e, hb, fun i hi => by rw [hc i (by omega), List.getD_eq_getElem?_getD, List.getD_eq_getElem?_getD, List.getElem?_take, if_pos hi]⟩⟩
theorem Rd.drop {w : World} {B n k off b : Nat} {xs : List Int} (h : Rd w B (some ⟨b, off, none⟩) n xs) (hk : k ≤ n) : Rd w B (some ⟨b, off + k, none⟩) (n - k) (xs.drop k) :=
  ⟨by rw [List.length_drop, h.1], h.2.1.drop k, fun hp => by
    obtain ⟨b', off', e, hb, hc⟩ := h.2.2 (by omega)
    injection e with e
    injection e with e1 e2
    subst e1; subst e2
    exact ⟨b, off + k, rfl, hb, fun i hi => by rw [Nat.add_assoc, hc (k + i) (by omega), List.getD_eq_getElem?_getD, List.getD_eq_getElem?_getD, List.getElem?_drop]⟩⟩
theorem Rd.end_ {w : World} {B n k : Nat} {a : Option Addr} {xs : List Int} (h : Rd w B a n xs) (hk : n ≤ k) (X : Option Addr) : Rd w B X (n - k) (xs.drop k) :=
  ⟨by rw [List.length_drop, h.1], h.2.1.drop k, fun hp => by omega⟩
theorem Rd.none_ {w : World} {B : Nat} (a : Option Addr) {xs : List Int} (h : xs = []) : Rd w B a 0 xs := by subst h; exact ⟨rfl, Bytes.nil, fun h => absurd h (by omega)⟩

set_option maxHeartbeats 1000000 in
theorem turn_no (a : Option Addr) (len cap : Nat) (i s n : Int) (xs : List Int) (w : World) (hl : len ≤ 140737488351232) (hlc : len ≤ cap) (hr : Rd w w.heap.size a len xs) (hn : 0 ≤ n) (hn2 : n ≤ 18446744073709551615)
    (hno : (withinB len i s && fitsB s n) = false) :
    Calls Try.prog 4 #[.slice a len cap, .int .i64 i, .int .i64 s, .int .u64 n] w fun e w' => e = .returned (.bool true) ∧ Below w.heap.size w w' := by
  have hlm : len ≤ maxLen := by unfold maxLen; omega
  have HR := Lib.hid hr
  have HV : Hid (putV xs i s n = xs) := by show _ = _; unfold putV; rw [hr.1, hno, if_neg (by simp)]
  clear hr
  go_enter Try.func4, Try.ntmps4
  go_wp2_with (first
    | (go_at_call 8; refine (shown_any _).mono ?_; rintro e w4 ⟨rfl, hb4⟩)
    | (at_builtin; refine wpList_append_bytes rfl (.const (.slice none 0 0)) (.tmp 14) rfl w4.heap.size w.heap.size 0 0 len cap len none a [] xs xs (Nat.zero_add _) rfl rfl rfl (Own.nil _ _) (HR.out.below hb4) (Nat.le_refl _) (by omega) ?_; intro A c w5 ho hb5)
    | (go_at_call 11; refine (put_own _ _ _ _ _ _ _ xs _ ho hn hn2).mono ?_; rintro e w6 ⟨rfl, ho6, hb6⟩
       have hb : Below w.heap.size w w6 := hb4.trans ((hb5.trans hb6).mono hb4.size)
       rw [HV.out] at ho6
       have s1 := str_run (c := c) ho6.rd
       have s2 := str_run (c := cap) (HR.out.below hb)))
  go_ret
  exact ⟨rfl, hb⟩

theorem take_written (L : List Int) (off k : Nat) (v : Int) (h : off + k ≤ L.length) : (written L off k 0 v).take off = L.take off := by
  unfold written
  rw [Nat.add_zero, List.append_assoc, List.take_append_of_le_length (by rw [List.length_take]; omega), List.take_take, Nat.min_self]
theorem drop_written (L : List Int) (off k : Nat) (v : Int) (h : off + k ≤ L.length) : (written L off k 0 v).drop (off + k) = L.drop (off + k) := by
  unfold written
  rw [Nat.add_zero, Nat.sub_zero, List.drop_append, List.drop_of_length_le (by rw [List.length_append, List.length_take, be_length]; omega), List.nil_append,
    List.length_append, List.length_take, be_length, show off + k - (min off L.length + k) = 0 from by omega, List.drop_zero]

set_option maxHeartbeats 2000000 in
theorem turn_yes (a : Option Addr) (len cap : Nat) (i s : Nat) (n : Int) (xs : List Int) (w : World) (hl : len ≤ 140737488351232) (hlc : len ≤ cap) (hr : Rd w w.heap.size a len xs) (hn : 0 ≤ n) (hn2 : n ≤ 18446744073709551615)
    (h1 : 1 ≤ s) (h2 : s ≤ 8) (h3 : i + s ≤ len) (hf : fitsB s n = true) :
    Calls Try.prog 4 #[.slice a len cap, .int .i64 i, .int .i64 s, .int .u64 n] w fun e w' => e = .returned (.bool true) ∧ Below w.heap.size w w' := by
  have hlm : len ≤ maxLen := by unfold maxLen; omega
  have hw : withinB len i s = true := by simp [withinB]; omega
  have HX := Lib.hid hr.1
  have HV : Hid (putV xs i s n = written xs i s 0 n) := by show _ = _; unfold putV; rw [hr.1, hw, hf, if_pos (by simp)]; rfl
  have HG : Hid (getV (written xs i s 0 n) i s = n) := by
    show _ = _
    unfold getV
    rw [written_length xs i s 0 n (by rw [hr.1]; omega) (by omega), hr.1, hw, if_pos rfl]
    show num (((written xs i s 0 n).drop i).take s) = n
    rw [take_drop_written xs i s n (by rw [hr.1]; omega), num_be s n hn (by simpa [fitsB] using hf)]
  obtain ⟨b, off, rfl, -, -⟩ := hr.2.2 (by omega)
  have HR := Lib.hid hr
  clear hr
  go_enter Try.func4, Try.ntmps4
  go_wp2_with (first
    | (go_at_call 8; refine (shown_any _).mono ?_; rintro e w4 ⟨rfl, hb4⟩)
    | (at_builtin; refine wpList_append_bytes rfl (.const (.slice none 0 0)) (.tmp 14) rfl w4.heap.size w.heap.size 0 0 len cap len none _ [] xs xs (Nat.zero_add _) rfl rfl rfl (Own.nil _ _) (HR.out.below hb4) (Nat.le_refl _) (by omega) ?_; intro A c w5 ho hb5)
    | (go_at_call 11; refine (put_own _ _ _ _ _ _ _ xs _ ho hn hn2).mono ?_; rintro e w6 ⟨rfl, ho6, hb6⟩
       have hb : Below w.heap.size w w6 := hb4.trans ((hb5.trans hb6).mono hb4.size)
       rw [HV.out] at ho6)
    | (go_at_call 9; refine (get_any _ _ _ _ _ _ _ _ hlm ho6.2.2.1 ho6.rd).mono ?_; rintro e w' ⟨rfl, rfl⟩))
  rw [HG.out]
  obtain ⟨g, rfl⟩ : ∃ g, A = some ⟨g, 0, none⟩ := by
    rcases ho6.2.2.2.2 with ⟨_, h0, _⟩ | ⟨g, T, rfl, _⟩
    · omega
    · exact ⟨g, rfl⟩
  have hc : len ≤ c := ho6.2.2.1
  have HL : Hid ((written xs i s 0 n).length = len) := ho6.1
  have rc := ho6.rd
  have rb := HR.out.below hb
  have t1 := str_drawn (rc.take (k := i) (by omega)) c
  have t2 := str_drawn (rb.take (k := i) (by omega)) cap
  rw [take_written xs i s n (by rw [HX.out]; omega)] at t1
  have HD := drop_written xs i s n (by rw [HX.out]; omega)
  have f3 : IntKind.i64.wrap ((i : Int) + (s : Int)) = (i : Int) + (s : Int) := IntWalk.i64_in _ (by omega)
  have f4 : (0 : Int) ≤ (i : Int) + (s : Int) := by omega
  have f5 : (i : Int) + (s : Int) ≤ (len : Int) := by omega
  have f6 : ((i : Int) + (s : Int)).toNat = i + s := by omega
  clear ho6 ho hb4 hb5 hb6
  rcases Decidable.em (c = i + s) with hcc | hcc <;> rcases Decidable.em (cap = i + s) with hkk | hkk
  · have t3 := str_drawn (rc.end_ (k := i + s) (by omega) (some ⟨g, 0, none⟩)) (c - (i + s))
    have t4 := str_drawn (rb.end_ (k := i + s) (by omega) (some ⟨b, off, none⟩)) (cap - (i + s))
    rw [HD] at t3
    clear HD rc rb
    have f1 : i ≤ c := by omega
    have f2 : i ≤ cap := by omega
    have g1 : (c = i + s) = True := eq_true hcc
    clear hcc
    have g2 : (cap = i + s) = True := eq_true hkk
    clear hkk
    go_quiet (fail)
    go_wp2
    go_ret
    exact ⟨rfl, below_drewN hb _⟩
  · have t3 := str_drawn (rc.end_ (k := i + s) (by omega) (some ⟨g, 0, none⟩)) (c - (i + s))
    have t4 := str_drawn (rb.drop (k := i + s) (by omega)) (cap - (i + s))
    rw [HD] at t3
    clear HD rc rb
    have f1 : i ≤ c := by omega
    have f2 : i ≤ cap := by omega
    have g1 : (c = i + s) = True := eq_true hcc
    clear hcc
    go_quiet (fail)
    go_wp2
    go_ret
    exact ⟨rfl, below_drewN hb _⟩
  · have t3 := str_drawn (rc.drop (k := i + s) (by omega)) (c - (i + s))
    have t4 := str_drawn (rb.end_ (k := i + s) (by omega) (some ⟨b, off, none⟩)) (cap - (i + s))
    rw [HD, Nat.zero_add] at t3
    clear HD rc rb
    have f1 : i ≤ c := by omega
    have f2 : i ≤ cap := by omega
    have g2 : (cap = i + s) = True := eq_true hkk
    clear hkk
    go_quiet (fail)
    go_wp2
    go_ret
    exact ⟨rfl, below_drewN hb _⟩
  · have t3 := str_drawn (rc.drop (k := i + s) (by omega)) (c - (i + s))
    have t4 := str_drawn (rb.drop (k := i + s) (by omega)) (cap - (i + s))
    rw [HD, Nat.zero_add] at t3
    clear HD rc rb
    have f1 : i ≤ c := by omega
    have f2 : i ≤ cap := by omega
    go_quiet (fail)
    go_wp2
    go_ret
    exact ⟨rfl, below_drewN hb _⟩

theorem turn_any (a : Option Addr) (len cap : Nat) (i s n : Int) (xs : List Int) (w : World) (hl : len ≤ 140737488351232) (hlc : len ≤ cap) (hr : Rd w w.heap.size a len xs) (hn : 0 ≤ n) (hn2 : n ≤ 18446744073709551615) :
    Calls Try.prog 4 #[.slice a len cap, .int .i64 i, .int .i64 s, .int .u64 n] w fun e w' => e = .returned (.bool true) ∧ Below w.heap.size w w' := by
  rcases hy : (withinB len i s && fitsB s n) with _ | _
  · exact turn_no a len cap i s n xs w hl hlc hr hn hn2 hy
  · rw [Bool.and_eq_true] at hy
    have hw := hy.1
    simp only [withinB, decide_eq_true_eq] at hw
    obtain ⟨i', rfl⟩ := Int.eq_ofNat_of_zero_le hw.2.2.1
    obtain ⟨s', rfl⟩ := Int.eq_ofNat_of_zero_le (show 0 ≤ s from by omega)
    exact turn_yes a len cap i' s' n xs w hl hlc hr hn hn2 (by omega) (by omega) (by omega) hy.2
theorem turn_law (a : Option Addr) (len cap : Nat) (z : List Int) (i s n : Int) (w : World) (h : IsRow .u8 1 w a len cap z) (hn : (Lit.int .u64 n).wf = true) :
    Calls Try.prog 4 #[.slice a len cap, .int .i64 i, .int .i64 s, .int .u64 n] w fun e w' => e = .returned (.bool true) ∧ Below w.heap.size w w' :=
  turn_any a len cap i s n _ w h.rd.1 h.rd.2.1 h.rd.2.2 (wf_u64 hn).1 (wf_u64 hn).2
end Go.Proofs.Ytklodmbccmomoaa
