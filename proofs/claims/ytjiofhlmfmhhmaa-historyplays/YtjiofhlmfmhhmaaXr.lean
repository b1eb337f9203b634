/- Rows of bytes, whichever program: 'Rd' a slice of bytes that reads as a list, 'Blk' a block known whole, 'Own' a row of the call's own; append, string(b). No function of the program. · Numbers in bytes: when one may be read, written, appended; what comes of it. No function of the program. -/
import Derived.Test.YtjiofhlmfmhhmaaRows
import Derived.Test.YtjiofhlmfmhhmaaPure
import Derived.WalkKit
import Derived.WalkSpells
import Derived.WalkLawsBesides
import Derived.Lib.Hide
import Derived.Laws.CopyOwn
import Derived.Laws.OwnMore
import Derived.OwnWalk
import Derived.SizedLaws
import Derived.Maps.AppendAt
import Derived.Laws.BytesArg
set_option maxRecDepth 100000
namespace Go.Proofs.Ytjiofhlmfmhhmaa
open Go.RowKit
set_option linter.unusedVariables false

theorem ret_bool {a b : Bool} (h : a = b) : Ending.returned (.bool a) = .returned (.bool b) := by rw [h]

/-- A slice of bytes that reads as a list, nil let in, and lies below block B. -/
def Rd (w : World) (B : Nat) (a : Option Addr) (n : Nat) (xs : List Int) : Prop :=
  xs.length = n ∧ Bytes xs ∧ (0 < n → ∃ b off, a = some ⟨b, off, none⟩ ∧ b < B ∧ ∀ i, i < n → w.cell? ⟨b, off + i, none⟩ = some (.int .u8 (xs.getD i 0)))

/-- The cells of bytes. -/
def bcells (cs : List Int) : List Value := cs.map (Value.int .u8)
/-- A block of bytes that is known whole: the bytes cs, and the cells T behind them (spare room). -/
def Blk (w : World) (g : Nat) (cs : List Int) (T : List Value) : Prop := w.heap[g]? = some (.cells (bcells cs ++ T).toArray 5 (0, 0))

theorem bcells_length (cs : List Int) : (bcells cs).length = cs.length := by simp [bcells]
theorem bcells_getElem? (cs : List Int) (i : Nat) (h : i < cs.length) : (bcells cs)[i]? = some (.int .u8 (cs.getD i 0)) := by
  simp [bcells, List.getElem?_eq_getElem h]
theorem bcells_set (cs : List Int) (i : Nat) (x : Int) : (bcells cs).set i (.int .u8 x) = bcells (cs.set i x) := by simp [bcells, List.map_set]
section
variable {w w' : World} {g : Nat} {cs : List Int} {T : List Value}
theorem Blk.lt (h : Blk w g cs T) : g < w.heap.size := by
  rcases Nat.lt_or_ge g w.heap.size with hlt | hge
  · exact hlt
  · unfold Blk at h; rw [Array.getElem?_eq_none hge] at h; cases h
theorem Blk.cell (h : Blk w g cs T) (i : Nat) (hi : i < cs.length) : w.cell? ⟨g, i, none⟩ = some (.int .u8 (cs.getD i 0)) := by
  rw [cell_of_row w g i _ 5 (0, 0) h, List.getElem?_toArray, List.getElem?_append_left (by rw [bcells_length]; exact hi), bcells_getElem? cs i hi]
theorem Blk.frozen (h : Blk w g cs T) (i : Nat) : w.frozen? ⟨g, i, none⟩ = false := frozen_of_row w g i _ 5 h
theorem Blk.set_ (h : Blk w g cs T) (i : Nat) (hi : i < cs.length) (x : Int) : Blk (w.setCell ⟨g, i, none⟩ (.int .u8 x)) g (cs.set i x) T := by
  have := heap_setCell_same w g i _ 5 (.int .u8 x) h
  unfold Blk
  rw [this, List.setIfInBounds_toArray, List.set_append_left _ _ (by rw [bcells_length]; exact hi), bcells_set]
theorem Blk.below {B : Nat} (h : Blk w g cs T) (hb : Below B w w') (hg : g < B) : Blk w' g cs T := (hb.block g hg).trans h
theorem Blk.grown {row : Option Nat} (h : Blk w g cs T) (hb : w.grownBy w' row) (hg : some g ≠ row) : Blk w' g cs T := (hb.block g h.lt hg).trans h
theorem Blk.alloc (h : Blk w g cs T) (o : Obj) : Blk (w.alloc o) g cs T := (Below.heap_alloc w o g h.lt).trans h
theorem Blk.rd (h : Blk w g cs T) (hb : Bytes cs) {n : Nat} (hn : cs.length = n) : Rd w w.heap.size (some ⟨g, 0, none⟩) n cs :=
  ⟨hn, hb, fun _ => ⟨g, 0, rfl, h.lt, fun i hi => by rw [Nat.zero_add]; exact h.cell i (by omega)⟩⟩
end
theorem only_setCell {a w : World} {g : Nat} (h : a.grownBy w (some g)) {p : Addr} (hp : p.block = g) (u : Value) : a.grownBy (w.setCell p u) (some g) :=
  ⟨h.os, h.tape, h.output, by simpa [World.setCell] using h.size, fun i hi hne => (Below.heap_setCell w p u i (by
    rintro rfl
    exact hne (by rw [hp]))).trans (h.block i hi hne)⟩

/-- What a row of bytes is behind the k bytes of v that were written from 'off' on, those from j on alone. -/
def written (L : List Int) (off k j : Nat) (v : Int) : List Int := L.take (off + j) ++ be (k - j) v ++ L.drop (off + k)
theorem be_cons : ∀ (k : Nat) (v : Int), be (k + 1) v = (v / 256 ^ k % 256) :: be k v
  | 0, v => by simp [be]
  | k + 1, v => by
    rw [be, be_cons k (v / 256), be]
    simp only [List.cons_append, List.cons.injEq, and_true]
    rw [Int.ediv_ediv_of_nonneg (by decide), Int.mul_comm, ← pow_succ]
theorem written_full (L : List Int) (off k : Nat) (v : Int) : written L off k k v = L := by
  simp [written, be]
theorem written_step (L : List Int) (off k j : Nat) (v : Int) (h : off + k ≤ L.length) (hj : j < k) :
    (written L off k (j + 1) v).set (off + j) (v / 256 ^ (k - (j + 1)) % 256) = written L off k j v := by
  unfold written
  rw [show k - j = (k - (j + 1)) + 1 from by omega, be_cons, show off + (j + 1) = off + j + 1 from by omega, take_snoc (off + j) (by omega)]
  rw [List.append_assoc, List.append_assoc, List.set_append_right _ _ (by simp; omega)]
  simp [List.length_take, Nat.min_eq_left (show off + j ≤ L.length from by omega)]
theorem written_length (L : List Int) (off k j : Nat) (v : Int) (h : off + k ≤ L.length) (hj : j ≤ k) : (written L off k j v).length = L.length := by
  simp [written, be_length]; omega
theorem div_pow (v : Int) (k : Nat) : v / 256 ^ k / 256 = v / 256 ^ (k + 1) := by
  rw [Int.ediv_ediv_of_nonneg (Int.le_of_lt (pow_pos k)), pow_succ]

theorem take_drop_written (L : List Int) (off k : Nat) (v : Int) (h : off + k ≤ L.length) : ((written L off k 0 v).drop off).take k = be k v := by
  unfold written
  rw [List.append_assoc, Nat.add_zero, List.drop_append_of_le_length (by simp; omega), List.drop_of_length_le (by simp; omega), List.nil_append, Nat.sub_zero,
    List.take_append_of_le_length (by rw [be_length]; omega), List.take_of_length_le (by rw [be_length]; omega)]

theorem info5 : (Try.prog.info? 5).map (fun i => (i.zero, i.size, i.bytes)) = some (some (.int .u8 0), 1, 1) := by kernel_rfl
theorem size5 : (Try.prog.info? 5).map (·.size) = some 1 := by kernel_rfl

theorem oneCell_bcells (L : List Int) : ∀ v ∈ bcells L, v.oneCell' = true := by
  intro v hv
  simp only [bcells, List.mem_map] at hv
  obtain ⟨x, _, rfl⟩ := hv
  rfl
theorem bcells_inj {L : List Int} {cs : List Value} (h : cs = bcells L) : cs.toArray = (bcells L).toArray := by rw [h]
theorem own_blk {w : World} {base g n cap : Nat} {L : List Int} (h : w.ownsRow base 5 1 (.slice (some ⟨g, 0, none⟩) n cap) n (bcells L)) (hc : cap = n) : Blk w g L [] := by
  rcases h.2 with ⟨h', _⟩ | ⟨g', cap', cur, h', _, hg, hnc, _, hcs, htake⟩
  · simp at h'
  · simp only [Value.slice.injEq, Option.some.injEq, Addr.mk.injEq, and_true, true_and] at h'
    obtain ⟨rfl, rfl⟩ := h'
    unfold Blk
    rw [hg, ← htake, List.take_of_length_le (by rw [Array.length_toList, hcs, hc]; exact Nat.le_refl _), List.append_nil]
theorem bcells_zeros (n : Nat) : (madeCells (Value.int .u8 0).cells (n * 1)).toList = bcells (List.replicate n 0) := by
  rw [Nat.mul_one, show (Value.int .u8 0).cells = #[.int .u8 0] from rfl, toList_madeCells_one]; simp [bcells]
theorem Rd.below {w w' : World} {B n : Nat} {a : Option Addr} {xs : List Int} (h : Rd w B a n xs) (hb : Below B w w') : Rd w' B a n xs :=
  ⟨h.1, h.2.1, fun hn => by
    obtain ⟨b, off, e, hlt, hc⟩ := h.2.2 hn
    exact ⟨b, off, e, hlt, fun i hi => (hb.cell (p := ⟨b, off + i, none⟩) hlt).trans (hc i hi)⟩⟩
theorem Rd.more {w : World} {B B' n : Nat} {a : Option Addr} {xs : List Int} (h : Rd w B a n xs) (hB : B ≤ B') : Rd w B' a n xs :=
  ⟨h.1, h.2.1, fun hn => by
    obtain ⟨b, off, e, hlt, hc⟩ := h.2.2 hn
    exact ⟨b, off, e, by omega, hc⟩⟩
theorem plain_add (b off j : Nat) : (⟨b, off, none⟩ : Addr).add j = ⟨b, off + j, none⟩ := by unfold Addr.add; split <;> simp_all
/-- What the law on a copy asks of its source. -/
theorem Rd.src {w : World} {B n : Nat} {a : Option Addr} {xs : List Int} (h : Rd w B a n xs) (hp : 0 < (bcells xs).length) :
    ∃ ad, a = some ad ∧ ∀ j v, (bcells xs)[j]? = some v → w.cell? (ad.add j) = some v := by
  obtain ⟨b, off, e, _, hc⟩ := h.2.2 (by rw [← h.1, ← bcells_length]; exact hp)
  refine ⟨_, e, fun j v hv => ?_⟩
  have hj : j < xs.length := by
    rcases Nat.lt_or_ge j xs.length with hlt | hge
    · exact hlt
    · rw [List.getElem?_eq_none (by rw [bcells_length]; exact hge)] at hv; cases hv
  rw [bcells_getElem? xs j hj] at hv
  rw [plain_add, hc j (by rw [← h.1]; exact hj), hv]
theorem splice_bcells (L xs : List Int) (off : Nat) : splice (bcells L) off (bcells xs) = bcells (splice L off xs) := by simp [splice, bcells, List.map_take, List.map_drop]

theorem splice_append {α : Type} (L T cs : List α) (off : Nat) (h : off + cs.length ≤ L.length) : splice L off cs ++ T = splice (L ++ T) off cs := by
  unfold splice
  rw [List.take_append_of_le_length (by omega), List.drop_append_of_le_length h, List.append_assoc, List.append_assoc]

/-- The slice A (n, c) is nil, or the head of a block that the call made (block number 'base' at least): its bytes are xs. -/
def Own (w : World) (base : Nat) (A : Option Addr) (n c : Nat) (xs : List Int) : Prop :=
  xs.length = n ∧ Bytes xs ∧ n ≤ c ∧ c ≤ maxLen ∧ ((A = none ∧ n = 0 ∧ c = 0) ∨ ∃ g T, A = some ⟨g, 0, none⟩ ∧ base ≤ g ∧ Blk w g xs T ∧ xs.length + T.length = c)

section
variable {w w' : World} {base n c : Nat} {A : Option Addr} {xs : List Int}
theorem Own.nil (w : World) (base : Nat) : Own w base none 0 0 [] := ⟨rfl, Bytes.nil, Nat.le_refl _, Nat.zero_le _, .inl ⟨rfl, rfl, rfl⟩⟩
theorem Own.of_blk {g : Nat} (h : Blk w g xs []) (hb : base ≤ g) (hx : Bytes xs) (hn : xs.length = n) (hm : n ≤ maxLen) : Own w base (some ⟨g, 0, none⟩) n n xs :=
  ⟨hn, hx, Nat.le_refl _, hm, .inr ⟨g, [], rfl, hb, h, by simpa using hn⟩⟩
theorem Own.row (h : Own w base A n c xs) : w.ownsRow base 5 1 (.slice A n c) n (bcells xs) := by
  obtain ⟨hx, _, hnc, hcm, h⟩ := h
  refine ⟨by rw [bcells_length, hx, Nat.mul_one], ?_⟩
  rcases h with ⟨rfl, rfl, rfl⟩ | ⟨g, T, rfl, hb, hk, hl⟩
  · exact .inl ⟨rfl, rfl⟩
  · refine .inr ⟨g, c, _, rfl, hb, hk, hnc, hcm, by simp [bcells_length]; omega, ?_⟩
    rw [Nat.mul_one, List.take_append_of_le_length (by rw [bcells_length]; omega), List.take_of_length_le (by rw [bcells_length]; omega)]
theorem own_of_row {v : Value} (h : w.ownsRow base 5 1 v n (bcells xs)) (hb : Bytes xs) : ∃ A c, v = .slice A n c ∧ Own w base A n c xs := by
  have hx : xs.length = n := by have := h.1; rw [bcells_length, Nat.mul_one] at this; exact this
  rcases h.2 with ⟨rfl, rfl⟩ | ⟨g, cap, cur, rfl, hbg, hg, hnc, hcm, hcs, ht⟩
  · exact ⟨none, 0, rfl, hx, hb, Nat.le_refl _, Nat.zero_le _, .inl ⟨rfl, rfl, rfl⟩⟩
  · rw [Nat.mul_one] at hcs ht
    refine ⟨_, cap, rfl, hx, hb, hnc, hcm, .inr ⟨g, cur.toList.drop n, rfl, hbg, ?_, by simp; omega⟩⟩
    unfold Blk
    rw [hg, ← ht, List.take_append_drop]
theorem Own.rd (h : Own w base A n c xs) : Rd w w.heap.size A n xs := by
  obtain ⟨hx, hb, _, _, h⟩ := h
  rcases h with ⟨rfl, rfl, rfl⟩ | ⟨g, T, rfl, _, hk, _⟩
  · exact ⟨hx, hb, fun h => absurd h (by omega)⟩
  · exact hk.rd hb hx
theorem Own.bytes (h : Own w base A n c xs) : Bytes xs := h.2.1
theorem Own.len (h : Own w base A n c xs) : xs.length = n := h.1
theorem Own.below {B : Nat} (h : Own w base A n c xs) (hb : Below B w w') (hB : w.heap.size ≤ B) : Own w' base A n c xs := by
  obtain ⟨hx, hbx, hnc, hcm, h⟩ := h
  refine ⟨hx, hbx, hnc, hcm, ?_⟩
  rcases h with ⟨rfl, rfl, rfl⟩ | ⟨g, T, rfl, hbg, hk, hl⟩
  · exact .inl ⟨rfl, rfl, rfl⟩
  · exact .inr ⟨g, T, rfl, hbg, hk.below hb (Nat.lt_of_lt_of_le hk.lt hB), hl⟩
end

theorem bcells_append (xs ys : List Int) : bcells xs ++ bcells ys = bcells (xs ++ ys) := by simp [bcells]


theorem alloc_blk (w : World) (L : List Int) : Blk (w.alloc (.cells (bcells L).toArray 5)) w.heap.size L [] := by
  unfold Blk; rw [List.append_nil]; exact heap_alloc_new w _
theorem alloc1 (w : World) (x : Int) : Blk (w.alloc (.cells #[.int .u8 x] 5)) w.heap.size [x] [] := alloc_blk w [x]
theorem alloc3 (w : World) (x y z : Int) : Blk (w.alloc (.cells #[.int .u8 x, .int .u8 y, .int .u8 z] 5)) w.heap.size [x, y, z] [] := alloc_blk w [x, y, z]


theorem below_drewN {B : Nat} {a w : World} (h : Below B a w) (n : Nat) : Below B a (w.drewN n) := ⟨h.os, h.tape, h.output, h.size, h.block⟩
theorem Rd.take {w : World} {B n k : Nat} {a : Option Addr} {xs : List Int} (h : Rd w B a n xs) (hk : k ≤ n) : Rd w B a k (xs.take k) :=
  ⟨by rw [List.length_take, h.1]; omega, h.2.1.take k, fun hp => by
    obtain ⟨b, off, e, hb, hc⟩ := h.2.2 (by omega)
    exact ⟨b, off, e, hb, fun i hi => by rw [hc i (by omega), List.getD_eq_getElem?_getD, List.getD_eq_getElem?_getD, List.getElem?_take, if_pos hi]⟩⟩
theorem Rd.drop {w : World} {B n k off b : Nat} {xs : List Int} (h : Rd w B (some ⟨b, off, none⟩) n xs) (hk : k ≤ n) : Rd w B (some ⟨b, off + k, none⟩) (n - k) (xs.drop k) :=
  ⟨by rw [List.length_drop, h.1], h.2.1.drop k, fun hp => by
    obtain ⟨b', off', e, hb, hc⟩ := h.2.2 (by omega)
    injection e with e
    injection e with e1 e2
    subst e1; subst e2
    exact ⟨b, off + k, rfl, hb, fun i hi => by rw [Nat.add_assoc, hc (k + i) (by omega), List.getD_eq_getElem?_getD, List.getD_eq_getElem?_getD, List.getElem?_drop]⟩⟩
theorem Rd.end_ {w : World} {B n k : Nat} {a : Option Addr} {xs : List Int} (h : Rd w B a n xs) (hk : n ≤ k) (X : Option Addr) : Rd w B X (n - k) (xs.drop k) :=
  ⟨by rw [List.length_drop, h.1], h.2.1.drop k, fun hp => by omega⟩
theorem Rd.none_ {w : World} {B : Nat} (a : Option Addr) {xs : List Int} (h : xs = []) : Rd w B a 0 xs := by subst h; exact ⟨rfl, Bytes.nil, fun h => absurd h (by omega)⟩

end Go.Proofs.Ytjiofhlmfmhhmaa

namespace Go.Proofs.Ytjiofhlmfmhhmaa
open Go.RowKit
set_option linter.unusedVariables false

def sizeB (s : Int) : Bool := decide (1 ≤ s ∧ s ≤ 8)
def withinB (len : Nat) (at_ s : Int) : Bool := decide (1 ≤ s ∧ s ≤ 8 ∧ 0 ≤ at_ ∧ at_ ≤ (len : Int) - s)
def fitsB (s n : Int) : Bool := decide (n < 256 ^ s.toNat)

theorem pow_two_eight (s : Int) (h1 : 0 ≤ s) : (2 : Int) ^ (8 * s).toNat = 256 ^ s.toNat := by
  rw [show (8 * s).toNat = 8 * s.toNat from by omega, Int.pow_mul]; rfl
theorem div_zero_iff (n m : Int) (hn : 0 ≤ n) (hm : 0 < m) : (n / m == 0) = decide (n < m) := by
  rw [Bool.eq_iff_iff, beq_iff_eq, decide_eq_true_iff]
  constructor
  · intro h
    have := Int.lt_ediv_add_one_mul_self n hm
    rw [h] at this
    simpa using this
  · intro h; exact Int.ediv_eq_zero_of_lt hn h
/-- What comes of bytes by Append. -/
def numApp (xs : List Int) (s n : Int) : List Int := if sizeB s && fitsB s n then xs ++ be s.toNat n else xs

theorem written_end (xs : List Int) (s : Nat) (n : Int) : written (splice (List.replicate (xs.length + s) 0) 0 xs) xs.length s 0 n = xs ++ be s n := by
  unfold written splice
  rw [List.take_zero, List.nil_append, Nat.zero_add, Nat.add_zero, Nat.sub_zero, List.take_append_of_le_length (Nat.le_refl _), List.take_of_length_le (Nat.le_refl _),
    List.drop_of_length_le (by simp), List.append_nil]

theorem written_none (xs : List Int) (n : Int) : written (splice (List.replicate xs.length 0) 0 xs) xs.length 0 0 n = xs := by
  have := written_end xs 0 n
  simpa [be] using this

theorem written_bytes {xs : List Int} (h : Bytes xs) (off s : Nat) (n : Int) : Bytes (written xs off s 0 n) := ((h.take _).append (be_bytes _ _)).append (h.drop _)
/-- What comes of bytes by Put. -/
def numPut (xs : List Int) (i s n : Int) : List Int := if withinB xs.length i s && fitsB s n then written xs i.toNat s.toNat 0 n else xs

theorem numApp_bytes {xs : List Int} (h : Bytes xs) (s n : Int) : Bytes (numApp xs s n) := by
  unfold numApp; split
  · exact h.append (be_bytes _ _)
  · exact h
theorem numApp_le (xs : List Int) (s n : Int) : (numApp xs s n).length ≤ xs.length + 8 := by
  unfold numApp; split
  · rename_i h
    rw [Bool.and_eq_true] at h
    have := h.1
    simp only [sizeB, decide_eq_true_eq] at this
    simp [be_length]; omega
  · omega
/-- A new row of bytes. -/
def NewRow (w : World) (ys : List Int) (e : Ending) (w' : World) : Prop := ∃ A c, e = .returned (.slice A ys.length c) ∧ Own w' w.heap.size A ys.length c ys ∧ Below w.heap.size w w'

theorem fitsB_most (s : Nat) (n : Int) : decide ((256 : Int) ^ s - 1 < n) = !fitsB s n := by
  unfold fitsB
  rw [Int.toNat_natCast, Bool.eq_iff_iff]
  simp
  omega
theorem most_step (k : Nat) : (256 : Int) ^ (k + 1) - 1 = (256 ^ k - 1) * 256 + 255 := by rw [pow_succ]; omega
/-- What the reference's Put leaves. -/
def PairRow (w : World) (ys : List Int) (b : Bool) (e : Ending) (w' : World) : Prop :=
  ∃ A c, e = .returned (.tuple #[.slice A ys.length c, .bool b]) ∧ Own w' w.heap.size A ys.length c ys ∧ Below w.heap.size w w'

theorem splice_be (xs : List Int) (i s : Nat) (n : Int) : splice xs i (be s n) = written xs i s 0 n := by
  unfold splice written
  rw [be_length, Nat.add_zero, Nat.sub_zero, List.append_assoc]

/-- The two readers, whatever stands there. -/
def numGet (xs : List Int) (i s : Int) : Int := if withinB xs.length i s then num ((xs.drop i.toNat).take s.toNat) else 0
end Go.Proofs.Ytjiofhlmfmhhmaa
