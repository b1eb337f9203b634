/- The contracts of slices.IndexFunc over free slots, arena's Free, slices.Clone over slots, arena's Slots. -/
import Derived.Test.YtachodjpiklpkaaEg
import Derived.Test.YtachodjpiklpkaaXt
import Derived.Lib.SliceRun
set_option maxRecDepth 100000
namespace Go.Proofs.Ytachodjpiklpkaa.Arn
open Go.RowKit
set_option linter.unusedVariables false

def idxV (L : List Slt) : Int := match leastF L with | some k => (k : Int) | none => -1
theorem leastF_here : ∀ {L : List Slt} {k : Nat} {x : Slt}, leastF (L.take k) = none → L[k]? = some x → x.2 = 0 → leastF L = some k
  | [], k, x, _, h, _ => by simp at h
  | y :: r, 0, x, _, h, h0 => by
    simp only [List.getElem?_cons_zero, Option.some.injEq] at h
    subst h
    unfold leastF; rw [if_pos h0]
  | y :: r, k + 1, x, hn, h, h0 => by
    rw [List.getElem?_cons_succ] at h
    rw [List.take_succ_cons] at hn
    unfold leastF at hn ⊢
    split at hn
    · cases hn
    · rename_i hy
      rw [if_neg hy, leastF_here (by simpa using hn) h h0]; rfl
theorem leastF_snoc : ∀ {L : List Slt} {x : Slt}, leastF L = none → x.2 ≠ 0 → leastF (L ++ [x]) = none
  | [], x, _, h => by simp [leastF, h]
  | y :: r, x, hn, h => by
    unfold leastF at hn
    split at hn
    · cases hn
    · rename_i hy
      rw [List.cons_append, leastF, if_neg hy, leastF_snoc (by simpa using hn) h]; rfl
theorem take_snoc {α : Type} : ∀ {L : List α} {k : Nat} {x : α}, L[k]? = some x → L.take (k + 1) = L.take k ++ [x]
  | [], k, x, h => by simp at h
  | y :: r, 0, x, h => by
    simp only [List.getElem?_cons_zero, Option.some.injEq] at h
    subst h; simp
  | y :: r, k + 1, x, h => by
    rw [List.getElem?_cons_succ] at h
    rw [List.take_succ_cons, take_snoc h]; rfl
theorem freeN_append : ∀ (L K : List Slt), freeN (L ++ K) = freeN L + freeN K
  | [], K => by simp [freeN]
  | x :: r, K => by rw [List.cons_append, freeN, freeN, freeN_append r K]; omega

def RdS (w : World) (B : Nat) (a : Option Addr) (n : Nat) (xs : List Slt) : Prop := RowRd slotL w B a n xs
theorem slot_at {w : World} {B n k : Nat} {a : Option Addr} {xs : List Slt} (h : RowRd slotL w B a n xs) (hk : k < n) : ∃ b off x, a = some ⟨b, off, none⟩ ∧ b < B ∧ xs[k]? = some x ∧ w.cell? ⟨b, off + k * 2, none⟩ = some (.int .u32 x.1) ∧ w.cell? ⟨b, off + k * 2 + 1, none⟩ = some (.int .i64 x.2) := by
  obtain ⟨b, off, x, e, hlt, hx, hc⟩ := row_at h hk
  exact ⟨b, off, x, e, hlt, hx, hc 0 _ rfl, hc 1 _ rfl⟩

set_option maxHeartbeats 4000000 in
theorem index_any (w : World) (B n c : Nat) (a : Option Addr) (L : List Slt) (hr : RowRd slotL w B a n L) (hB : B ≤ w.heap.size) (hn : n ≤ 1024) :
    Calls Try.prog 24 #[.slice a n c, .func (.func 25) #[] #[]] w fun e w' => e = .returned (.int .i64 (idxV L)) ∧ Below w.heap.size w w' := by
  have HR := Lib.hid hr
  clear hr
  go_enter Try.func24, Try.ntmps24
  go_wp2
  go_loopw [8] (fun si wx => ∃ k : Nat, k ≤ n ∧ si = .int .i64 k ∧ Hid (leastF (L.take k) = none) ∧ Hid (Below w.heap.size w wx)) (fun si _ => n - (intOf si).toNat)
  case atStart => exact ⟨0, by omega, rfl, rfl, Below.refl _ _⟩
  case round =>
    obtain ⟨k, hk, rfl, hF, hb⟩ := hrel
    rename World => wx
    by_cases hlt : k < n
    · obtain ⟨b, off, x, rfl, hbB, hx, c0, c1⟩ := slot_at (HR.out.below (hb.out.mono hB)) hlt
      go_wp2_with fail
      refine (isFree_any x wx).mono ?_
      rintro e w1 ⟨rfl, hb1⟩
      have HB1 := Lib.hid (hb.out.trans (hb1.mono hb.out.size))
      clear hb1 hb
      by_cases h0 : x.2 = 0
      · have q : decide (x.2 = 0) = true := by simp [h0]
        rw [q]
        have HI := Lib.hid (show idxV L = k from by unfold idxV; rw [leastF_here hF.out hx h0])
        go_wp2
        go_ret
        exact ⟨by rw [HI.out]; rfl, HB1.out⟩
      · have q : decide (x.2 = 0) = false := by simp [h0]
        rw [q]
        have HF : Hid (leastF (L.take (k + 1)) = none) := by rw [take_snoc hx]; exact leastF_snoc hF.out h0
        clear hF q h0 hx c0 c1
        go_wp2
        go_roundw
        case rel => exact ⟨k + 1, by omega, by go_num, HF, HB1⟩
        case measure => simp [intOf]; omega
    · obtain rfl : k = n := by omega
      have HI := Lib.hid (show idxV L = -1 from by
        have := hF.out
        rw [List.take_of_length_le (by rw [HR.out.1]; exact Nat.le_refl _)] at this
        unfold idxV; rw [this])
      go_wp2
      go_ret
      exact ⟨by rw [HI.out]; rfl, hb.out⟩

set_option maxHeartbeats 4000000 in
theorem free_any (w : World) (b g : Nat) (L : List Slt) (hA : Ar w b g L) (hL : L.length ≤ 1024) :
    Calls Try.prog 19 #[.pointer (some ⟨b, 0, none⟩)] w fun e w' => e = .returned (.int .i64 (freeN L)) ∧ Below w.heap.size w w' := by
  have HA := Lib.hid hA
  have c := hA.c0
  obtain ⟨n, hn⟩ : ∃ n, L.length = n := ⟨_, rfl⟩
  rw [hn] at c hL
  have HN := Lib.hid hn
  clear hA hn
  go_enter Try.func19, Try.ntmps19
  go_wp2
  go_loopw [3, 13] (fun sf si wx => ∃ k : Nat, k ≤ n ∧ si = .int .i64 k ∧ sf = .int .i64 (freeN (L.take k)) ∧ Hid (Below w.heap.size w wx)) (fun _ si _ => n - (intOf si).toNat)
  case atStart => exact ⟨0, by omega, rfl, rfl, Below.refl _ _⟩
  case round =>
    obtain ⟨k, hk, rfl, rfl, hb⟩ := hrel
    rename World => wx
    have hf : freeN (L.take k) ≤ 1024 := by have h1 := freeN_le (L.take k); have h2 := List.length_take_le k L; omega
    by_cases hlt : k < n
    · have A1 := HA.out.bel hb.out
      obtain ⟨x, hx⟩ : ∃ x, L[k]? = some x := ⟨_, List.getElem?_eq_getElem (by rw [HN.out]; exact hlt)⟩
      have c0 := A1.row.gen hx
      have c1 := A1.row.refs hx
      have hB1 := Lib.hid (hb.out.alloc hb.out.size (slO x))
      have d0 : (wx.alloc (slO x)).cell? ⟨wx.heap.size, 0, none⟩ = some (.int .u32 x.1) := cell_of_row _ _ 0 _ _ _ (heap_alloc_new wx _)
      have d1 : (wx.alloc (slO x)).cell? ⟨wx.heap.size, 1, none⟩ = some (.int .i64 x.2) := cell_of_row _ _ 1 _ _ _ (heap_alloc_new wx _)
      have HF := Lib.hid (show freeN (L.take (k + 1)) = freeN (L.take k) + (if x.2 = 0 then 1 else 0) from by rw [take_snoc hx, freeN_append, freeN, freeN]; omega)
      generalize freeN (L.take k) = f at *
      clear A1 hb hx
      go_wp2_with fail
      refine (isFree_any x _).mono ?_
      rintro e w1 ⟨rfl, hb1⟩
      have HB1 := Lib.hid (hB1.out.trans (hb1.mono hB1.out.size))
      clear hb1 hB1 d0 d1 c0 c1
      by_cases h0 : x.2 = 0
      · have q : decide (x.2 = 0) = true := by simp [h0]
        rw [q]
        rw [if_pos h0] at HF
        clear q h0
        go_wp2
        go_roundw
        case rel => exact ⟨k + 1, by omega, by go_num, by rw [HF.out]; go_num, HB1⟩
        case measure => simp [intOf]; omega
      · have q : decide (x.2 = 0) = false := by simp [h0]
        rw [q]
        rw [if_neg h0] at HF
        clear q h0
        go_wp2
        go_roundw
        case rel => exact ⟨k + 1, by omega, by go_num, by rw [HF.out]; rfl, HB1⟩
        case measure => simp [intOf]; omega
    · obtain rfl : k = n := by omega
      have HF := Lib.hid (show freeN (L.take k) = freeN L from by rw [List.take_of_length_le (by rw [HN.out]; exact Nat.le_refl _)])
      go_wp2
      go_ret
      exact ⟨by rw [← HF.out]; rfl, hb.out⟩

/-- A row of slots of the call's own, as a new one. -/
def RetS (w : World) (L : List Slt) (e : Ending) (w' : World) : Prop := ∃ A c, e = .returned (.slice A L.length c) ∧ RowOwn slotL w' w.heap.size A L.length c L ∧ Below w.heap.size w w'
theorem slots_nil_eq (a : Addr) (n c : Nat) (W : World) : (binOp .eql 42 (.slice (some a) n c) (.slice none 0 0)).run Try.prog W = .ok (.bool false) W := Lib.run_eql_slice_nil W _ _ _ _ _ _ _ Try.underlying42
set_option maxHeartbeats 4000000 in
theorem clone_any (w : World) (g : Nat) (L : List Slt) (hr : SRow w g L) (hL : L.length ≤ 1024) :
    Calls Try.prog 28 #[.slice (some ⟨g, 0, none⟩) L.length L.length] w (RetS w L) := by
  obtain ⟨i0, hi0, hz0, hz1, hz2⟩ := info_parts info_slot
  have HI := Lib.hid (And.intro hi0 (And.intro hz0 (And.intro hz1 hz2)))
  clear hi0 hz0 hz1 hz2
  have HR := Lib.hid hr.rd
  have hn : ∃ n, L.length = n := ⟨_, rfl⟩
  obtain ⟨n, hn⟩ := hn
  have fin0 : Hid (∀ A c w1, RowOwn slotL w1 w.heap.size A n c L → Below w.heap.size w w1 → RetS w L (.returned (.slice A n c)) w1) := by
    intro A c w1 ho hb
    subst hn
    exact ⟨A, c, rfl, ho, hb⟩
  rw [hn] at HR hL ⊢
  clear hr hn
  have qe := slots_nil_eq ⟨g, 0, none⟩ n n
  have HE := Lib.hid ((Below.refl w.heap.size w).alloc (Nat.le_refl _) (.cells #[] 53 (0, 0)))
  have R2 := Lib.hid (HR.out.below HE.out)
  have O2 : Hid (RowOwn slotL (w.alloc (.cells #[] 53 (0, 0))) w.heap.size (some ⟨w.heap.size, 0, none⟩) 0 0 []) := ⟨rfl, Nat.le_refl _, Nat.zero_le _, .inr ⟨w.heap.size, [], rfl, Nat.le_refl _, heap_alloc_new w _, rfl⟩⟩
  go_enter Try.func28, Try.ntmps28
  go_wp2_with (at_builtin; refine wpList_append_all (L := slotL) rfl (.tmp 5) (.tmp 6) rfl Try.underlying42 HI.out.1 HI.out.2.1 HI.out.2.2.1 HI.out.2.2.2 rfl L (Nat.zero_add n) rfl rfl rfl O2.out R2.out (by simp) (by unfold maxLen; omega) (by omega) ?_; intro A c w1 ho hb)
  go_ret
  exact fin0.out A c w1 ho (HE.out.trans hb)
end Go.Proofs.Ytachodjpiklpkaa.Arn
