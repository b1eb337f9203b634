/- The contract of Append of package field. -/
import Derived.Test.YtklodmbccmomoaaWb
import Derived.SizedLaws
namespace Go.Proofs.Ytklodmbccmomoaa
open Go.RowKit
set_option linter.unusedVariables false

theorem Try.info5 : (Try.prog.info? 5).map (fun i => (i.zero, i.size, i.bytes)) = some (some (.int .u8 0), 1, 1) := by kernel_rfl
theorem Try.size5 : (Try.prog.info? 5).map (·.size) = some 1 := by kernel_rfl

theorem oneCell_bcells (L : List Int) : ∀ v ∈ bcells L, v.oneCell' = true := by
  intro v hv
  simp only [bcells, List.mem_map] at hv
  obtain ⟨x, _, rfl⟩ := hv
  rfl
theorem bcells_inj {L : List Int} {cs : List Value} (h : cs = bcells L) : cs.toArray = (bcells L).toArray := by rw [h]
theorem own_blk {w : World} {base g n cap : Nat} {L : List Int} (h : w.ownsRow base 5 1 (.slice (some ⟨g, 0, none⟩) n cap) n (bcells L)) (hc : cap = n) : Blk w g L [] := by
  rcases h.2 with ⟨h', _⟩ | ⟨g', cap', cur, h', _, hg, hnc, _, hcs, htake⟩
  · simp at h'
  · simp only [Value.slice.injEq, Option.some.injEq, Addr.mk.injEq, and_true, true_and] at h'
    obtain ⟨rfl, rfl⟩ := h'
    unfold Blk
    rw [hg, ← htake, List.take_of_length_le (by rw [Array.length_toList, hcs, hc]; exact Nat.le_refl _), List.append_nil]
theorem bcells_zeros (n : Nat) : (madeCells (Value.int .u8 0).cells (n * 1)).toList = bcells (List.replicate n 0) := by
  rw [Nat.mul_one, show (Value.int .u8 0).cells = #[.int .u8 0] from rfl, toList_madeCells_one]; simp [bcells]
theorem Rd.below {w w' : World} {B n : Nat} {a : Option Addr} {xs : List Int} (h : Rd w B a n xs) (hb : Below B w w') : Rd w' B a n xs :=
  ⟨h.1, h.2.1, fun hn => by
    obtain ⟨b, off, e, hlt, hc⟩ := h.2.2 hn
    exact ⟨b, off, e, hlt, fun i hi => (hb.cell (p := ⟨b, off + i, none⟩) hlt).trans (hc i hi)⟩⟩
theorem Rd.more {w : World} {B B' n : Nat} {a : Option Addr} {xs : List Int} (h : Rd w B a n xs) (hB : B ≤ B') : Rd w B' a n xs :=
  ⟨h.1, h.2.1, fun hn => by
    obtain ⟨b, off, e, hlt, hc⟩ := h.2.2 hn
    exact ⟨b, off, e, by omega, hc⟩⟩
theorem plain_add (b off j : Nat) : (⟨b, off, none⟩ : Addr).add j = ⟨b, off + j, none⟩ := by unfold Addr.add; split <;> simp_all
/-- What the law on a copy asks of its source. -/
theorem Rd.src {w : World} {B n : Nat} {a : Option Addr} {xs : List Int} (h : Rd w B a n xs) (hp : 0 < (bcells xs).length) :
    ∃ ad, a = some ad ∧ ∀ j v, (bcells xs)[j]? = some v → w.cell? (ad.add j) = some v := by
  obtain ⟨b, off, e, _, hc⟩ := h.2.2 (by rw [← h.1, ← bcells_length]; exact hp)
  refine ⟨_, e, fun j v hv => ?_⟩
  have hj : j < xs.length := by
    rcases Nat.lt_or_ge j xs.length with hlt | hge
    · exact hlt
    · rw [List.getElem?_eq_none (by rw [bcells_length]; exact hge)] at hv; cases hv
  rw [bcells_getElem? xs j hj] at hv
  rw [plain_add, hc j (by rw [← h.1]; exact hj), hv]
theorem splice_bcells (L xs : List Int) (off : Nat) : splice (bcells L) off (bcells xs) = bcells (splice L off xs) := by simp [splice, bcells, List.map_take, List.map_drop]

theorem splice_append {α : Type} (L T cs : List α) (off : Nat) (h : off + cs.length ≤ L.length) : splice L off cs ++ T = splice (L ++ T) off cs := by
  unfold splice
  rw [List.take_append_of_le_length (by omega), List.drop_append_of_le_length h, List.append_assoc, List.append_assoc]
/-- What comes of bytes by Append. -/
def appV (xs : List Int) (s n : Int) : List Int := if sizeB s && fitsB s n then xs ++ be s.toNat n else xs

theorem written_end (xs : List Int) (s : Nat) (n : Int) : written (splice (List.replicate (xs.length + s) 0) 0 xs) xs.length s 0 n = xs ++ be s n := by
  unfold written splice
  rw [List.take_zero, List.nil_append, Nat.zero_add, Nat.add_zero, Nat.sub_zero, List.take_append_of_le_length (Nat.le_refl _), List.take_of_length_le (Nat.le_refl _),
    List.drop_of_length_le (by simp), List.append_nil]

/-- The run of a copy into a block that is known whole, whatever the source. -/
theorem copy_run {w : World} {B g off n c len cap : Nat} {a : Option Addr} {xs L : List Int} {T : List Value} (ty : TypeId) (hg : Blk w g L T) (hr : Rd w B a len xs) (hn : len ≤ n) (hfit : off + n ≤ L.length) :
    ∃ w', (Builtin.copy_ #[22, 22] ty #[.slice (some ⟨g, off, none⟩) n c, .slice a len cap]).run Try.prog w = .ok (.int .i64 len) w' ∧ Blk w' g (splice L off xs) T ∧ w.grownBy w' (some g) := by
  have hx := hr.1
  have hmin : (bcells xs).length = Nat.min len n := by rw [bcells_length, hx]; exact (Nat.min_eq_left hn).symm
  by_cases h0 : len = 0
  · subst h0
    obtain rfl : xs = [] := List.eq_nil_of_length_eq_zero hx
    refine ⟨w, run_copy_none w 22 22 ty 5 _ _ n c 0 cap Try.underlying22 Try.size5 (Nat.zero_min n), ?_, World.grownBy.refl w _⟩
    simpa [splice] using hg
  · obtain ⟨ad, rfl, hsrc⟩ := hr.src (by rw [bcells_length, hx]; omega)
    have hrun := run_copy_row (P := Try.prog) w 22 22 ty 5 g off n c ad len cap _ 5 (bcells xs) Try.underlying22 Try.size5 hg hmin hsrc (by rw [bcells_length, hx, List.size_toArray, List.length_append, bcells_length]; omega) (oneCell_bcells xs)
    rw [show ((bcells xs).length : Int) = (len : Int) from by rw [bcells_length, hx]] at hrun
    refine ⟨_, hrun, ?_, ⟨rfl, rfl, rfl, by simp, fun k _ hk => setRow_other w g k _ (fun e => hk (by simp [e]))⟩⟩
    unfold Blk
    rw [setRow_heap w g _ _ 5 _ hg, ← splice_bcells, splice_append _ _ _ _ (by rw [bcells_length, bcells_length, hx]; omega)]
    simp [splice]

set_option maxHeartbeats 1000000 in
theorem append_yes (a : Option Addr) (len cap B : Nat) (s : Nat) (n : Int) (xs : List Int) (w : World) (hl : len ≤ 140737488351232) (hr : Rd w B a len xs) (hB : B ≤ w.heap.size)
    (hn : 0 ≤ n) (hn2 : n ≤ 18446744073709551615) (h1 : 1 ≤ s) (h2 : s ≤ 8) (hf : fitsB s n = true) :
    Calls Try.prog 13 #[.slice a len cap, .int .i64 s, .int .u64 n] w fun e w' => e = .returned (.slice (some ⟨w.heap.size, 0, none⟩) (len + s) (len + s)) ∧ Blk w' w.heap.size (xs ++ be s n) [] ∧ Below w.heap.size w w' := by
  have hs : sizeB s = true := by simp [sizeB]; omega
  obtain ⟨i0, hi0, hz0, hz1, hz2⟩ := info_parts Try.info5
  have HR := Lib.hid hr
  have HX := Lib.hid hr.1
  clear hr
  go_enter Try.func13, Try.ntmps13
  go_wp2_with (first
    | (go_at_call 22; refine (sizeMay_any _ _).mono ?_; rintro e w' ⟨rfl, rfl⟩)
    | (go_at_call 18; refine (fits_any _ _ _ (by omega) (by omega) hn hn2).mono ?_; rintro e w' ⟨rfl, rfl⟩)
    | (at_make; refine wpList_make_full _ rfl _ _ 22 rfl w.heap.size 5 i0 _ 1 Try.underlying22 hi0 hz0 hz1 .i64 .i64 _ _ (len + s) rfl rfl ?c1 ?c2 ?c3 ?c4 ?c5 ?_
       case c1 => omega
       case c2 => omega
       case c3 => rw [hz2]; omega
       case c4 => unfold maxLen; omega
       case c5 => exact Nat.le_refl _
       intro w1 hown1 hg1
       rw [bcells_zeros] at hown1
       have HO := Lib.hid (own_blk hown1 rfl)
       have hb1 : Below w.heap.size w w1 := (Below.refl _ _).grown hg1 (Nat.le_refl _) (by simp)
       clear hown1 hg1
       obtain ⟨w2, hcp, hk2, hg2⟩ := copy_run (n := len + s) (c := len + s) (cap := cap) (off := 0) 3 HO.out (HR.out.below (hb1.mono hB)) (by omega) (by simp)
       have HK2 := Lib.hid hk2
       clear hk2))
  all_goals
    refine (write_any _ w.heap.size len s _ n _ [] _ h2 hn hn2 ?_ ?_ HK2.out).mono ?_
    · intro _; simp
    · rw [length_splice _ _ _ (by simp [HX.out])]; simp
    · rintro e w3 ⟨rfl, hb3, hg3⟩
      have hz : Below w.heap.size w w3 := (hb1.grown hg2 hb1.size (by simp)).grown hg3 (Nat.le_trans hb1.size hg2.size) (by simp)
      go_wp2
      go_ret
      refine ⟨rfl, ?_, hz⟩
      have e := written_end xs s n
      rw [HX.out] at e
      rw [← e]
      exact hb3

theorem written_none (xs : List Int) (n : Int) : written (splice (List.replicate xs.length 0) 0 xs) xs.length 0 0 n = xs := by
  have := written_end xs 0 n
  simpa [be] using this

set_option maxHeartbeats 1000000 in
theorem append_no (a : Option Addr) (len cap B : Nat) (s n : Int) (xs : List Int) (w : World) (hl : len ≤ 140737488351232) (hr : Rd w B a len xs) (hB : B ≤ w.heap.size)
    (hn : 0 ≤ n) (hn2 : n ≤ 18446744073709551615) (hno : (sizeB s && fitsB s n) = false) :
    Calls Try.prog 13 #[.slice a len cap, .int .i64 s, .int .u64 n] w fun e w' => e = .returned (.slice (some ⟨w.heap.size, 0, none⟩) len len) ∧ Blk w' w.heap.size xs [] ∧ Below w.heap.size w w' := by
  obtain ⟨i0, hi0, hz0, hz1, hz2⟩ := info_parts Try.info5
  have HR := Lib.hid hr
  have HX := Lib.hid hr.1
  clear hr
  rcases hsb : sizeB s with _ | _
  case' false => clear hno
  case' true =>
    have hs : 1 ≤ s ∧ s ≤ 8 := by simp [sizeB] at hsb; omega
    have hf : fitsB s n = false := by simpa [hsb] using hno
    clear hno
  all_goals
    go_enter Try.func13, Try.ntmps13
    go_wp2_with (first
      | (go_at_call 22; refine (sizeMay_any _ _).mono ?_; rintro e w' ⟨rfl, rfl⟩)
      | (go_at_call 18; refine (fits_any _ _ _ hs.1 hs.2 hn hn2).mono ?_; rintro e w' ⟨rfl, rfl⟩)
      | (at_make; refine wpList_make_full _ rfl _ _ 22 rfl w.heap.size 5 i0 _ 1 Try.underlying22 hi0 hz0 hz1 .i64 .i64 _ _ len rfl rfl ?c1 ?c2 ?c3 ?c4 ?c5 ?_
         case c1 => omega
         case c2 => omega
         case c3 => rw [hz2]; omega
         case c4 => unfold maxLen; omega
         case c5 => exact Nat.le_refl _
         intro w1 hown1 hg1
         rw [bcells_zeros] at hown1
         have HO := Lib.hid (own_blk hown1 rfl)
         have hb1 : Below w.heap.size w w1 := (Below.refl _ _).grown hg1 (Nat.le_refl _) (by simp)
         clear hown1 hg1
         obtain ⟨w2, hcp, hk2, hg2⟩ := copy_run (n := len) (c := len) (cap := cap) (off := 0) 3 HO.out (HR.out.below (hb1.mono hB)) (by omega) (by simp)
         have HK2 := Lib.hid hk2
         clear hk2))
    refine (write_any _ w.heap.size len 0 _ n _ [] _ (by omega) hn hn2 ?_ ?_ HK2.out).mono ?_
    · intro h; omega
    · rw [length_splice _ _ _ (by simp [HX.out])]; simp
    · rintro e w3 ⟨rfl, hb3, hg3⟩
      have hz : Below w.heap.size w w3 := (hb1.grown hg2 hb1.size (by simp)).grown hg3 (Nat.le_trans hb1.size hg2.size) (by simp)
      go_wp2
      go_ret
      refine ⟨rfl, ?_, hz⟩
      have e := written_none xs n
      rw [HX.out] at e
      rw [← e]
      exact hb3
end Go.Proofs.Ytklodmbccmomoaa
