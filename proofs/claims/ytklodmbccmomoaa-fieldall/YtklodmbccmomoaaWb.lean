/- The contracts of write, Put, Append of package field. -/
import Derived.Test.YtklodmbccmomoaaWa
import Derived.Laws.CopyOwn
import Derived.Laws.OwnMore
import Derived.OwnWalk
namespace Go.Proofs.Ytklodmbccmomoaa
open Go.RowKit
set_option linter.unusedVariables false

/-- The cells of bytes. -/
def bcells (cs : List Int) : List Value := cs.map (Value.int .u8)
/-- A block of bytes that is known whole: the bytes cs, and the cells T behind them (spare room). -/
def Blk (w : World) (g : Nat) (cs : List Int) (T : List Value) : Prop := w.heap[g]? = some (.cells (bcells cs ++ T).toArray 5 (0, 0))

theorem bcells_length (cs : List Int) : (bcells cs).length = cs.length := by simp [bcells]
theorem bcells_getElem? (cs : List Int) (i : Nat) (h : i < cs.length) : (bcells cs)[i]? = some (.int .u8 (cs.getD i 0)) := by
  simp [bcells, List.getElem?_eq_getElem h]
theorem bcells_set (cs : List Int) (i : Nat) (x : Int) : (bcells cs).set i (.int .u8 x) = bcells (cs.set i x) := by simp [bcells, List.map_set]
section
variable {w w' : World} {g : Nat} {cs : List Int} {T : List Value}
theorem Blk.lt (h : Blk w g cs T) : g < w.heap.size := by
  rcases Nat.lt_or_ge g w.heap.size with hlt | hge
  · exact hlt
  · unfold Blk at h; rw [Array.getElem?_eq_none hge] at h; cases h
theorem Blk.cell (h : Blk w g cs T) (i : Nat) (hi : i < cs.length) : w.cell? ⟨g, i, none⟩ = some (.int .u8 (cs.getD i 0)) := by
  rw [cell_of_row w g i _ 5 (0, 0) h, List.getElem?_toArray, List.getElem?_append_left (by rw [bcells_length]; exact hi), bcells_getElem? cs i hi]
theorem Blk.frozen (h : Blk w g cs T) (i : Nat) : w.frozen? ⟨g, i, none⟩ = false := frozen_of_row w g i _ 5 h
theorem Blk.set_ (h : Blk w g cs T) (i : Nat) (hi : i < cs.length) (x : Int) : Blk (w.setCell ⟨g, i, none⟩ (.int .u8 x)) g (cs.set i x) T := by
  have := heap_setCell_same w g i _ 5 (.int .u8 x) h
  unfold Blk
  rw [this, List.setIfInBounds_toArray, List.set_append_left _ _ (by rw [bcells_length]; exact hi), bcells_set]
theorem Blk.below {B : Nat} (h : Blk w g cs T) (hb : Below B w w') (hg : g < B) : Blk w' g cs T := (hb.block g hg).trans h
theorem Blk.grown {row : Option Nat} (h : Blk w g cs T) (hb : w.grownBy w' row) (hg : some g ≠ row) : Blk w' g cs T := (hb.block g h.lt hg).trans h
theorem Blk.alloc (h : Blk w g cs T) (o : Obj) : Blk (w.alloc o) g cs T := (Below.heap_alloc w o g h.lt).trans h
theorem Blk.rd (h : Blk w g cs T) (hb : Bytes cs) {n : Nat} (hn : cs.length = n) : Rd w w.heap.size (some ⟨g, 0, none⟩) n cs :=
  ⟨hn, hb, fun _ => ⟨g, 0, rfl, h.lt, fun i hi => by rw [Nat.zero_add]; exact h.cell i (by omega)⟩⟩
end
theorem only_setCell {a w : World} {g : Nat} (h : a.grownBy w (some g)) {p : Addr} (hp : p.block = g) (u : Value) : a.grownBy (w.setCell p u) (some g) :=
  ⟨h.os, h.tape, h.output, by simpa [World.setCell] using h.size, fun i hi hne => (Below.heap_setCell w p u i (by
    rintro rfl
    exact hne (by rw [hp]))).trans (h.block i hi hne)⟩

/-- What a row of bytes is behind the k bytes of v that were written from 'off' on, those from j on alone. -/
def written (L : List Int) (off k j : Nat) (v : Int) : List Int := L.take (off + j) ++ be (k - j) v ++ L.drop (off + k)
theorem be_cons : ∀ (k : Nat) (v : Int), be (k + 1) v = (v / 256 ^ k % 256) :: be k v
  | 0, v => by simp [be]
  | k + 1, v => by
    rw [be, be_cons k (v / 256), be]
    simp only [List.cons_append, List.cons.injEq, and_true]
    rw [Int.ediv_ediv_of_nonneg (by decide), Int.mul_comm, ← pow_succ]
theorem written_full (L : List Int) (off k : Nat) (v : Int) : written L off k k v = L := by
  simp [written, be]
theorem written_step (L : List Int) (off k j : Nat) (v : Int) (h : off + k ≤ L.length) (hj : j < k) :
    (written L off k (j + 1) v).set (off + j) (v / 256 ^ (k - (j + 1)) % 256) = written L off k j v := by
  unfold written
  rw [show k - j = (k - (j + 1)) + 1 from by omega, be_cons, show off + (j + 1) = off + j + 1 from by omega, take_snoc (off + j) (by omega)]
  rw [List.append_assoc, List.append_assoc, List.set_append_right _ _ (by simp; omega)]
  simp [List.length_take, Nat.min_eq_left (show off + j ≤ L.length from by omega)]
theorem written_length (L : List Int) (off k j : Nat) (v : Int) (h : off + k ≤ L.length) (hj : j ≤ k) : (written L off k j v).length = L.length := by
  simp [written, be_length]; omega
theorem div_pow (v : Int) (k : Nat) : v / 256 ^ k / 256 = v / 256 ^ (k + 1) := by
  rw [Int.ediv_ediv_of_nonneg (Int.le_of_lt (pow_pos k)), pow_succ]

set_option maxHeartbeats 400000 in
theorem write_any (a : Option Addr) (g off n cap : Nat) (v : Int) (L : List Int) (T : List Value) (w : World) (hn : n ≤ 8) (hv : 0 ≤ v) (hv2 : v ≤ 18446744073709551615)
    (ha : 0 < n → a = some ⟨g, off, none⟩) (hfit : off + n ≤ L.length) (hg : Blk w g L T) :
    Calls Try.prog 19 #[.slice a n cap, .int .u64 v] w fun e w' => e = .returned (.tuple #[]) ∧ Blk w' g (written L off n 0 v) T ∧ w.grownBy w' (some g) := by
  go_enter Try.func19, Try.ntmps19
  go_wp2
  go_loopw [1, 4] (fun sv si wx => ∃ i : Int, -1 ≤ i ∧ i < n ∧ si = .int .i64 i ∧ sv = .int .u64 (v / 256 ^ (n - (i + 1).toNat)) ∧ Blk wx g (written L off n (i + 1).toNat v) T ∧ w.grownBy wx (some g))
    (fun _ si _ => (intOf si + 1).toNat)
  case atStart =>
    refine ⟨(n : Int) - 1, by omega, by omega, rfl, ?_, ?_, World.grownBy.refl w _⟩
    · rw [show ((n : Int) - 1 + 1).toNat = n from by omega]; simp
    · rw [show ((n : Int) - 1 + 1).toNat = n from by omega, written_full]; exact hg
  case round =>
    obtain ⟨i, hi1, hi2, rfl, rfl, hb, hgr⟩ := hrel
    by_cases hlt : 0 ≤ i
    · obtain ⟨j, rfl⟩ := Int.eq_ofNat_of_zero_le hlt
      obtain rfl := ha (by omega)
      rw [show ((j : Int) + 1).toNat = j + 1 from by omega] at hb
      have hc := hb.cell (off + j) (by rw [written_length _ _ _ _ _ hfit (by omega)]; omega)
      have hf := hb.frozen (off + j)
      go_wp2
      go_roundw
      case rel =>
        refine ⟨(j : Int) - 1, by omega, by omega, rfl, ?_, ?_, only_setCell hgr rfl _⟩
        · rw [show ((j : Int) - 1 + 1).toNat = j from by omega, div_pow, show n - (j + 1) + 1 = n - j from by omega]
        · rw [show ((j : Int) - 1 + 1).toNat = j from by omega, ← written_step L off n j v hfit (by omega)]; exact hb.set_ _ (by rw [written_length _ _ _ _ _ hfit (by omega)]; omega) _
      case measure => simp [intOf]
    · obtain rfl : i = -1 := by omega
      go_wp2
      go_end0
      exact ⟨rfl, hb, hgr⟩

theorem take_drop_written (L : List Int) (off k : Nat) (v : Int) (h : off + k ≤ L.length) : ((written L off k 0 v).drop off).take k = be k v := by
  unfold written
  rw [List.append_assoc, Nat.add_zero, List.drop_append_of_le_length (by simp; omega), List.drop_of_length_le (by simp; omega), List.nil_append, Nat.sub_zero,
    List.take_append_of_le_length (by rw [be_length]; omega), List.take_of_length_le (by rw [be_length]; omega)]

set_option maxHeartbeats 400000 in
theorem put_no (a : Option Addr) (len cap : Nat) (i s n : Int) (w : World) (hl : len ≤ maxLen) (hn : 0 ≤ n) (hn2 : n ≤ 18446744073709551615) (hno : (withinB len i s && fitsB s n) = false) :
    Calls Try.prog 11 #[.slice a len cap, .int .i64 i, .int .i64 s, .int .u64 n] w fun e w' => e = .returned (.bool false) ∧ w = w' := by
  by_cases hw : withinB len i s = true
  · have hf : fitsB s n = false := by simpa [hw] using hno
    have hs : 1 ≤ s ∧ s ≤ 8 := by simp [withinB] at hw; omega
    clear hno
    go_enter Try.func11, Try.ntmps11
    go_wp2_with (first | (go_at_call 16; refine (within_any _ _ _ _ _ _ hl).mono ?_; rintro e w' ⟨rfl, rfl⟩) | (go_at_call 18; refine (fits_any _ _ _ hs.1 hs.2 hn hn2).mono ?_; rintro e w' ⟨rfl, rfl⟩))
    go_ret
    exact ⟨rfl, rfl⟩
  · have hw' : withinB len i s = false := by simpa using hw
    clear hno hw
    go_enter Try.func11, Try.ntmps11
    go_wp2_with (go_at_call 16; refine (within_any _ _ _ _ _ _ hl).mono ?_; rintro e w' ⟨rfl, rfl⟩)
    go_ret
    exact ⟨rfl, rfl⟩

set_option maxHeartbeats 400000 in
theorem put_yes (g off len cap : Nat) (i s : Nat) (n : Int) (L : List Int) (T : List Value) (w : World) (hl : len ≤ maxLen) (hlc : len ≤ cap) (hn : 0 ≤ n) (hn2 : n ≤ 18446744073709551615)
    (hfit : off + len ≤ L.length) (hg : Blk w g L T) (h1 : 1 ≤ s) (h2 : s ≤ 8) (h3 : i + s ≤ len) (hf : fitsB s n = true) :
    Calls Try.prog 11 #[.slice (some ⟨g, off, none⟩) len cap, .int .i64 i, .int .i64 s, .int .u64 n] w fun e w' => e = .returned (.bool true) ∧ Blk w' g (written L (off + i) s 0 n) T ∧ w.grownBy w' (some g) := by
  have hw : withinB len i s = true := by simp [withinB]; omega
  have hl' := hl
  unfold maxLen at hl'
  have hsub : i + s - i = s := by omega
  go_enter Try.func11, Try.ntmps11
  go_wp2_with (first | (go_at_call 16; refine (within_any _ _ _ _ _ _ hl).mono ?_; rintro e w' ⟨rfl, rfl⟩) | (go_at_call 18; refine (fits_any _ _ _ (by omega) (by omega) hn hn2).mono ?_; rintro e w' ⟨rfl, rfl⟩))
  refine (write_any _ g (off + i) s _ n L T _ h2 hn hn2 (fun _ => rfl) (by omega) hg).mono ?_
  rintro e w' ⟨rfl, hb, hgr⟩
  go_wp2
  go_ret
  exact ⟨rfl, hb, hgr⟩
end Go.Proofs.Ytklodmbccmomoaa
