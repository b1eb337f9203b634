/- The contracts of rtp.headErr, padding. · The contracts of rtp.upToPayload, lay. · The contracts of rtp.lay, Offset. · The contracts of rtp.lay whatever the bytes, of rtp.Offset. -/
import Derived.Test.YtdnnfoacpjgloaaKa
import Derived.Test.YtdnnfoacpjgloaaXg
set_option maxRecDepth 100000
namespace Go.Proofs.Ytdnnfoacpjgloaa.Rtp
open Go.RowKit
set_option linter.unusedVariables false

theorem byte_all (p : Int → Bool) (h : (List.range 256).all (fun n => p n) = true) (x : Int) (h0 : 0 ≤ x) (h1 : x ≤ 255) : p x = true := by
  obtain ⟨n, rfl⟩ := Int.eq_ofNat_of_zero_le h0
  exact List.all_eq_true.1 h n (List.mem_range.2 (by omega))
theorem and_127 (x : Int) (h0 : 0 ≤ x) (h1 : x ≤ 255) : bits BinOp.and IntKind.u8 x 127 = x % 128 :=
  of_decide_eq_true (byte_all (fun x => decide (bits BinOp.and IntKind.u8 x 127 = x % 128)) (by decide +kernel) x h0 h1)
theorem and_15 (x : Int) (h0 : 0 ≤ x) (h1 : x ≤ 255) : bits BinOp.and IntKind.u8 x 15 = x % 16 :=
  of_decide_eq_true (byte_all (fun x => decide (bits BinOp.and IntKind.u8 x 15 = x % 16)) (by decide +kernel) x h0 h1)
theorem and_128 (x : Int) (h0 : 0 ≤ x) (h1 : x ≤ 255) : (bits BinOp.and IntKind.u8 x 128 != 0) = decide (128 ≤ x) :=
  of_decide_eq_true (byte_all (fun x => decide ((bits BinOp.and IntKind.u8 x 128 != 0) = decide (128 ≤ x))) (by decide +kernel) x h0 h1)
theorem and_32 (x : Int) (h0 : 0 ≤ x) (h1 : x ≤ 255) : (bits BinOp.and IntKind.u8 x 32 != 0) = decide (x / 32 % 2 = 1) :=
  of_decide_eq_true (byte_all (fun x => decide ((bits BinOp.and IntKind.u8 x 32 != 0) = decide (x / 32 % 2 = 1))) (by decide +kernel) x h0 h1)
theorem and_16 (x : Int) (h0 : 0 ≤ x) (h1 : x ≤ 255) : (bits BinOp.and IntKind.u8 x 16 != 0) = decide (x / 16 % 2 = 1) :=
  of_decide_eq_true (byte_all (fun x => decide ((bits BinOp.and IntKind.u8 x 16 != 0) = decide (x / 16 % 2 = 1))) (by decide +kernel) x h0 h1)

/-- What is wrong with the first two bytes. -/
def hE (b : List Int) : Int := if 512 < b.length then 5 else if b.length < 12 then 2 else if b.getD 0 0 / 64 ≠ 2 then 1 else if 192 ≤ b.getD 1 0 ∧ b.getD 1 0 ≤ 223 then 4 else 0
theorem tyB_byte (x : Int) (h0 : 0 ≤ x) (h1 : x ≤ 255) : tyB (x % 128) (decide (128 ≤ x)) = !decide (192 ≤ x ∧ x ≤ 223) :=
  of_decide_eq_true (byte_all (fun x => decide (tyB (x % 128) (decide (128 ≤ x)) = !decide (192 ≤ x ∧ x ≤ 223))) (by decide +kernel) x h0 h1)

set_option maxHeartbeats 1000000 in
theorem headErr_any (a : Option Addr) (len cap B : Nat) (xs : List Int) (w : World) (hl : len ≤ maxLen) (hr : Rd w B a len xs) (hB : B ≤ w.heap.size) :
    Calls Try.prog 90 #[.slice a len cap] w fun e w' => e = .returned (.int .i64 (hE xs)) ∧ Below w.heap.size w w' := by
  obtain ⟨hx, hby, hc⟩ := hr
  unfold maxLen at hl
  unfold hE
  rw [hx]
  by_cases h512 : 512 < len
  · rw [if_pos h512]
    have h' : (512 : Int) < len := by omega
    go_enter Try.func90, Try.ntmps90
    go_wp2
    go_ret
    exact ⟨rfl, Below.refl _ _⟩
  · rw [if_neg h512]
    have h5' : ¬ (512 : Int) < len := by omega
    by_cases h12 : len < 12
    · rw [if_pos h12]
      have h' : (len : Int) < 12 := by omega
      go_enter Try.func90, Try.ntmps90
      go_wp2
      go_ret
      exact ⟨rfl, Below.refl _ _⟩
    · rw [if_neg h12]
      have h12' : ¬ (len : Int) < 12 := by omega
      obtain ⟨b, off, rfl, hlt, hc⟩ := hc (by omega)
      have hb' : b < w.heap.size := by omega
      have c0 := hc 0 (by omega)
      have c1 := hc 1 (by omega)
      rw [Nat.add_zero] at c0
      have b0 := hby.getD 0
      have b1 := hby.getD 1
      generalize xs.getD 0 0 = x0 at *
      generalize xs.getD 1 0 = x1 at *
      have hp0 : 0 < len := by omega
      have hp1 : 1 < len := by omega
      have hi1 : (1 : Int) < len := by omega
      clear hc hx hby
      by_cases hv : x0 / 64 = 2
      · have hv' : (x0 / 64 != 2) = false := by rw [hv]; rfl
        rw [if_neg (by omega)]
        have CT : ∀ W, Calls Try.prog 84 #[.int .i64 (x1 % 128), .bool (decide (128 ≤ x1))] W fun e w' => e = .returned (.bool (!decide (192 ≤ x1 ∧ x1 ≤ 223))) ∧ W = w' := fun W => tyB_byte x1 b1.1 b1.2 ▸ typeMay_any (x1 % 128) (decide (128 ≤ x1)) W
        have e0 := and_127 x1 b1.1 b1.2
        have e1 := and_128 x1 b1.1 b1.2
        have e2 : IntKind.i64.wrap (x1 % 128) = x1 % 128 := IntWalk.i64_in _ (by omega)
        have HC1 : Hid (∀ W, Below w.heap.size w W → W.cell? ⟨b, off + 1, none⟩ = some (.int .u8 x1)) := fun W hW => (hW.cell (p := ⟨b, off + 1, none⟩) hb').trans c1
        clear c1
        have hfin : (if 192 ≤ x1 ∧ x1 ≤ 223 then (4 : Int) else 0) = if decide (192 ≤ x1 ∧ x1 ≤ 223) = true then 4 else 0 := by simp
        rw [hfin]
        clear hfin hv
        generalize decide (192 ≤ x1 ∧ x1 ≤ 223) = bad at CT ⊢
        generalize decide (128 ≤ x1) = mk at CT e1
        generalize x1 % 128 = lo at CT e0 e2
        have HT := Lib.hid CT
        clear CT
        go_enter Try.func90, Try.ntmps90
        go_wp2_with fail
        have hS : Below w.heap.size w w.drew := (Below.refl _ w).drew
        have c1 := HC1.out
        refine region_seq (fun W => Below w.heap.size w W) [(0, false), (1, false), (2, false), (3, false), (4, false), (5, false), (6, false), (7, false), (8, false), (9, false), (10, true), (11, false), (12, false)] (by kernel_rfl) (by kernel_rfl) rfl (by kernel_rfl) ?_
        iterate 10 (refine seq_read (v := _) rfl (fun _ _ _ h => h) hS (Or.inl ⟨by rfl, fun W hW => by go_simp <;> with_reducible rfl⟩) ?_; simp only [Act.put, List.setIfInBounds_toArray, List.set_cons_zero, List.set_cons_succ])
        refine seq_do rfl (fun K hK => ?_)
        go_simp
        refine (HT.out _).mono ?_
        rintro e w1 ⟨rfl, rfl⟩
        refine hK.out _ _ (fun W => Below w.heap.size w W) (fun W hW => hW) hS ?_
        clear hK K
        iterate 2 (refine seq_read (v := _) rfl (fun _ _ _ h => h) hS (Or.inl ⟨by rfl, fun W hW => by go_simp <;> with_reducible rfl⟩) ?_; simp only [Act.put, List.setIfInBounds_toArray, List.set_cons_zero, List.set_cons_succ])
        refine seq_end ?_
        clear c1 HC1
        rcases bad with _ | _
        · go_wp2
          go_ret
          exact ⟨rfl, hS⟩
        · go_wp2
          go_ret
          exact ⟨rfl, hS⟩
      · have hv' : (x0 / 64 != 2) = true := by simpa using hv
        rw [if_pos (by omega)]
        go_enter Try.func90, Try.ntmps90
        go_wp2
        go_ret
        exact ⟨rfl, Below.refl _ _⟩

/-- The padding of what is left, payload and padding, is as it should be. -/
def pdB (r : List Int) : Bool := decide (r.length ≠ 0) && decide (lastB r ≠ 0) && decide (lastB r ≤ r.length) && padZ r
def pdN (r : List Int) : Int := if pdB r then lastB r else 0

set_option maxHeartbeats 1000000 in
theorem padding_any (a : Option Addr) (len cap B : Nat) (xs : List Int) (w : World) (hl : len ≤ 512) (hlc : len ≤ cap) (hr : Rd w B a len xs) :
    Calls Try.prog 92 #[.slice a len cap] w fun e w' => e = .returned (.tuple #[.int .i64 (pdN xs), .bool (pdB xs)]) ∧ w = w' := by
  obtain ⟨hx, hby, hc⟩ := hr
  by_cases h0 : len = 0
  · have hp : pdB xs = false := by simp [pdB, hx, h0]
    have hi : (len : Int) = 0 := by omega
    rw [pdN, hp, if_neg (by decide)]
    go_enter Try.func92, Try.ntmps92
    go_wp2
    go_ret2
    exact ⟨rfl, rfl⟩
  · obtain ⟨b, off, rfl, hlt, hcell⟩ := hc (by omega)
    have hi0 : ¬ (len : Int) = 0 := by omega
    have cL := hcell (len - 1) (by omega)
    have bL := hby.getD (len - 1)
    have hlast : lastB xs = xs.getD (len - 1) 0 := by rw [lastB, hx]
    obtain ⟨p, hp⟩ : ∃ p, xs.getD (len - 1) 0 = p := ⟨_, rfl⟩
    rw [hp] at cL bL hlast
    have cL' : w.cell? ⟨b, off + (((len : Int) - 1).toNat), none⟩ = some (.int .u8 p) := by rw [show ((len : Int) - 1).toNat = len - 1 from by omega]; exact cL
    have e1 : IntKind.i64.wrap p = p := IntWalk.i64_in _ (by omega)
    have hi1 : ((len : Int) - 1).toNat < len := by omega
    by_cases hp0 : p = 0
    · have hq : pdB xs = false := by simp [pdB, hlast, hp0]
      rw [pdN, hq, if_neg (by decide)]
      have hz : (p == 0) = true := by simp [hp0]
      go_enter Try.func92, Try.ntmps92
      go_wp2
      go_ret2
      exact ⟨rfl, rfl⟩
    · by_cases hpl : (len : Int) < p
      · have hq : pdB xs = false := by simp [pdB, hlast, hx]; omega
        rw [pdN, hq, if_neg (by decide)]
        go_enter Try.func92, Try.ntmps92
        go_wp2
        go_ret2
        exact ⟨rfl, rfl⟩
      · obtain ⟨n, rfl⟩ := Int.eq_ofNat_of_zero_le bL.1
        have hq : pdB xs = ((xs.drop (len - n)).take (n - 1)).all (· == 0) := by
          rw [pdB, padZ, hlast, hx, Int.toNat_natCast, decide_eq_true (by omega), decide_eq_true (by omega), decide_eq_true (by omega)]; rfl
        rw [pdN, hlast, hq]
        have hn0 : n ≠ 0 := by omega
        have hnl : n ≤ len := by omega
        have hlen : ((xs.drop (len - n)).take (n - 1)).length = n - 1 := by rw [List.length_take, List.length_drop]; omega
        have HC : Hid (∀ k, k < n - 1 → w.cell? ⟨b, off + (len - n) + k, none⟩ = some (.int .u8 (((xs.drop (len - n)).take (n - 1)).getD k 0))) := fun k hk => by
          rw [Nat.add_assoc, hcell (len - n + k) (by omega), List.getD_eq_getElem?_getD, List.getD_eq_getElem?_getD, List.getElem?_take, if_pos hk, List.getElem?_drop]
        have HBY : Hid (Bytes ((xs.drop (len - n)).take (n - 1))) := (hby.drop _).take _
        generalize (xs.drop (len - n)).take (n - 1) = zs at *
        obtain ⟨o, ho⟩ : ∃ o, zs.all (· == 0) = o := ⟨_, rfl⟩
        rw [ho]
        obtain ⟨r, hr⟩ : ∃ r, (if o = true then (n : Int) else 0) = r := ⟨_, rfl⟩
        rw [hr]
        have HO := Lib.hid ho
        have HR := Lib.hid hr
        clear ho hr
        have HL := Lib.hid hlen
        clear hq hlen hlast hp hc hx hby hcell
        have d1 : (len : Int) - n = ((len - n : Nat) : Int) := by omega
        have d2 : (len : Int) - 1 = ((len - 1 : Nat) : Int) := by omega
        have d3 : len - 1 - (len - n) = n - 1 := by omega
        go_enter Try.func92, Try.ntmps92
        go_wp2
        go_loop [35] (fun j => ∃ k : Nat, k ≤ n - 1 ∧ j = .int .i64 k ∧ (zs.take k).all (· == 0) = true) (fun j => n - (intOf j).toNat)
        case atStart => exact ⟨0, by omega, rfl, rfl⟩
        case round =>
          obtain ⟨k, hk, rfl, hall⟩ := hrel
          by_cases hlt' : k < n - 1
          · have ck := HC.out k hlt'
            have hts : zs.take (k + 1) = zs.take k ++ [zs.getD k 0] := take_snoc k (by rw [HL.out]; exact hlt')
            obtain ⟨x, hxk⟩ : ∃ x, zs.getD k 0 = x := ⟨_, rfl⟩
            rw [hxk] at ck hts
            by_cases hx0 : x = 0
            · have hz : (x != 0) = false := by simp [hx0]
              have HT : Hid ((zs.take (k + 1)).all (· == 0) = true) := by rw [hts, List.all_append, hall, hx0]; rfl
              clear hts hxk hx0 hall
              go_wp2
              go_round
              case rel => exact ⟨k + 1, by omega, by go_num, HT.out⟩
              case measure => simp [intOf]; omega
            · have hz : (x != 0) = true := by simpa using hx0
              have HT := Lib.hid (show zs.all (· == 0) = false from by
                rw [← List.take_append_drop (k + 1) zs, List.all_append, hts, List.all_append]
                simp [hx0])
              clear hts hxk hx0 hall
              obtain rfl : o = false := HO.out.symm.trans HT.out
              obtain rfl : r = 0 := HR.out.symm.trans rfl
              clear HT HO HR
              go_wp2
              go_ret2
              exact ⟨rfl, rfl⟩
          · obtain rfl : k = n - 1 := by omega
            have HT : Hid (zs.all (· == 0) = true) := by
              rw [List.take_of_length_le (by rw [HL.out]; exact Nat.le_refl _)] at hall
              exact hall
            clear hall
            obtain rfl : o = true := HO.out.symm.trans HT.out
            obtain rfl : r = n := HR.out.symm.trans rfl
            clear HT HO HR
            go_wp2
            go_ret2
            exact ⟨rfl, rfl⟩
end Go.Proofs.Ytdnnfoacpjgloaa.Rtp

namespace Go.Proofs.Ytdnnfoacpjgloaa.Rtp
open Go.RowKit
set_option linter.unusedVariables false

/-- Where the parts are, as a value. -/
abbrev lyt (c x f t : Int) : Value := .agg #[.int .i64 c, .int .i64 x, .int .i64 f, .int .i64 t]
def LBlk (w : World) (b : Nat) (c x f t : Int) : Prop := w.heap[b]? = some (.cells #[.int .i64 c, .int .i64 x, .int .i64 f, .int .i64 t] 133 (0, 0))
section
variable {w w' : World} {b B : Nat} {c x f t : Int}
theorem LBlk.new (w : World) (c x f t : Int) : LBlk (w.alloc (.cells #[.int .i64 c, .int .i64 x, .int .i64 f, .int .i64 t] 133)) w.heap.size c x f t := heap_alloc_new w _
theorem LBlk.below (h : LBlk w b c x f t) (hb : Below B w w') (hg : b < B) : LBlk w' b c x f t := (hb.block b hg).trans h
theorem LBlk.lt (h : LBlk w b c x f t) : b < w.heap.size := by
  rcases Nat.lt_or_ge b w.heap.size with hlt | hge
  · exact hlt
  · unfold LBlk at h; rw [Array.getElem?_eq_none hge] at h; cases h
theorem LBlk.c0 (h : LBlk w b c x f t) : w.cell? ⟨b, 0, none⟩ = some (.int .i64 c) := cell_of_row w b 0 _ 133 (0, 0) h
theorem LBlk.c1 (h : LBlk w b c x f t) : w.cell? ⟨b, 1, none⟩ = some (.int .i64 x) := cell_of_row w b 1 _ 133 (0, 0) h
theorem LBlk.c2 (h : LBlk w b c x f t) : w.cell? ⟨b, 2, none⟩ = some (.int .i64 f) := cell_of_row w b 2 _ 133 (0, 0) h
theorem LBlk.c3 (h : LBlk w b c x f t) : w.cell? ⟨b, 3, none⟩ = some (.int .i64 t) := cell_of_row w b 3 _ 133 (0, 0) h
theorem LBlk.frozen (h : LBlk w b c x f t) (i : Nat) : w.frozen? ⟨b, i, none⟩ = false := frozen_of_row w b i _ 133 h
theorem LBlk.store (h : LBlk w b c x f t) (c' x' f' t' : Int) :
    LBlk ((((w.setCell ⟨b, 0, none⟩ (.int .i64 c')).setCell ⟨b, 1, none⟩ (.int .i64 x')).setCell ⟨b, 2, none⟩ (.int .i64 f')).setCell ⟨b, 3, none⟩ (.int .i64 t')) b c' x' f' t' := by
  unfold LBlk at h ⊢
  have h1 := heap_setCell_same w b 0 _ 133 (.int .i64 c') h
  have h2 := heap_setCell_same _ b 1 _ 133 (.int .i64 x') h1
  have h3 := heap_setCell_same _ b 2 _ 133 (.int .i64 f') h2
  exact heap_setCell_same _ b 3 _ 133 (.int .i64 t') h3
theorem LBlk.set1 (h : LBlk w b c x f t) (x' : Int) : LBlk (w.setCell ⟨b, 1, none⟩ (.int .i64 x')) b c x' f t := heap_setCell_same w b 1 _ 133 (.int .i64 x') h
theorem LBlk.set2 (h : LBlk w b c x f t) (f' : Int) : LBlk (w.setCell ⟨b, 2, none⟩ (.int .i64 f')) b c x f' t := heap_setCell_same w b 2 _ 133 (.int .i64 f') h
theorem LBlk.set3 (h : LBlk w b c x f t) (t' : Int) : LBlk (w.setCell ⟨b, 3, none⟩ (.int .i64 t')) b c x f t' := heap_setCell_same w b 3 _ 133 (.int .i64 t') h
theorem LBlk.off (h : LBlk w b c x f t) {p : Addr} (hp : p.block ≠ b) (u : Value) : LBlk (w.setCell p u) b c x f t := (Below.heap_setCell w p u b (fun e => hp e.symm)).trans h
/-- Four stores at a block that lies above B. -/
theorem below_store (hb : Below B w w') (hB : B ≤ b) (u0 u1 u2 u3 : Value) :
    Below B w ((((w'.setCell ⟨b, 0, none⟩ u0).setCell ⟨b, 1, none⟩ u1).setCell ⟨b, 2, none⟩ u2).setCell ⟨b, 3, none⟩ u3) :=
  (((hb.setCell (p := ⟨b, 0, none⟩) hB u0).setCell (p := ⟨b, 1, none⟩) hB u1).setCell (p := ⟨b, 2, none⟩) hB u2).setCell (p := ⟨b, 3, none⟩) hB u3
end
def RetU (w : World) (c x f t : Int) (ok : Bool) (e : Ending) (w' : World) : Prop := e = .returned (.tuple #[lyt c x f t, .bool ok]) ∧ Below w.heap.size w w'
def RetL (w : World) (c x f t n : Int) (e : Ending) (w' : World) : Prop := e = .returned (.tuple #[lyt c x f t, .int .i64 n]) ∧ Below w.heap.size w w'
theorem retU_at {w W : World} {b : Nat} {c x f t : Int} {ok : Bool} {tmps : Array Value} (D : LBlk W b c x f t) (hb : Below w.heap.size w W)
    (h2 : tmps[2]?.getD undef = .pointer (some ⟨b, 0, none⟩) := by rfl) (h3 : tmps[3]?.getD undef = .bool ok := by rfl) :
    bodyPost Try.prog Try.f91 (RetU w c x f t ok) .ret ⟨tmps, []⟩ W := by
  have c0 := D.c0
  have c1 := D.c1
  have c2 := D.c2
  have c3 := D.c3
  exact bodyPost_ret (v := .tuple #[lyt c x f t, .bool ok]) (by simp [results, Try.results91, go_sem, h2, h3, c0, c1, c2, c3]) rfl ⟨rfl, hb⟩
theorem retL_at {w W : World} {b : Nat} {c x f t n : Int} {tmps : Array Value} (D : LBlk W b c x f t) (hb : Below w.heap.size w W)
    (h2 : tmps[2]?.getD undef = .pointer (some ⟨b, 0, none⟩) := by rfl) (h3 : tmps[3]?.getD undef = .int .i64 n := by rfl) :
    bodyPost Try.prog Try.f86 (RetL w c x f t n) .ret ⟨tmps, []⟩ W := by
  have c0 := D.c0
  have c1 := D.c1
  have c2 := D.c2
  have c3 := D.c3
  exact bodyPost_ret (v := .tuple #[lyt c x f t, .int .i64 n]) (by simp [results, Try.results86, go_sem, h2, h3, c0, c1, c2, c3]) rfl ⟨rfl, hb⟩

theorem LBlk.off4 {w : World} {b g : Nat} {c x f t : Int} (h : LBlk w b c x f t) (hg : g ≠ b) (u0 u1 u2 u3 : Value) :
    LBlk ((((w.setCell ⟨g, 0, none⟩ u0).setCell ⟨g, 1, none⟩ u1).setCell ⟨g, 2, none⟩ u2).setCell ⟨g, 3, none⟩ u3) b c x f t :=
  (((h.off (p := ⟨g, 0, none⟩) hg u0).off (p := ⟨g, 1, none⟩) hg u1).off (p := ⟨g, 2, none⟩) hg u2).off (p := ⟨g, 3, none⟩) hg u3

set_option maxHeartbeats 1000000 in
/-- No extension. -/
theorem upTo_plain (b off len cap : Nat) (x0 : Int) (c : Nat) (w : World) (hl : len ≤ 512) (h12 : 12 ≤ len) (hb : b < w.heap.size) (h0 : w.cell? ⟨b, off, none⟩ = some (.int .u8 x0)) (b0 : 0 ≤ x0 ∧ x0 ≤ 255)
    (hc : (c : Int) = 12 + 4 * (x0 % 16)) (hx : (bits BinOp.and IntKind.u8 x0 16 != 0) = false) :
    Calls Try.prog 91 #[.slice (some ⟨b, off, none⟩) len cap] w (RetU w c c c 0 (decide (c ≤ len))) := by
  have hp0 : 0 < len := by omega
  have e0 := and_15 x0 b0.1 b0.2
  have e1 : IntKind.i64.wrap (x0 % 16) = x0 % 16 := IntWalk.i64_in _ (by omega)
  have e2 : 12 + 4 * (x0 % 16) = (c : Int) := hc.symm
  have C0 : Hid (∀ W, Below w.heap.size w W → W.cell? ⟨b, off, none⟩ = some (.int .u8 x0)) := fun W hW => (hW.cell (p := ⟨b, off, none⟩) hb).trans h0
  clear h0 hc
  go_enter Try.func91, Try.ntmps91
  have c0 := C0.out _ ((Below.refl _ w).alloc (Nat.le_refl _) (.cells #[.int .i64 0, .int .i64 0, .int .i64 0, .int .i64 0] 133))
  have c0' := C0.out _ (((Below.refl _ w).alloc (Nat.le_refl _) (.cells #[.int .i64 0, .int .i64 0, .int .i64 0, .int .i64 0] 133)).alloc (by simp) (.cells #[.int .i64 c, .int .i64 c, .int .i64 c, .int .i64 0] 133))
  go_wp2_with fail
  clear c0 c0' C0 e0 e1 e2 hx
  have D2 := (LBlk.new w 0 0 0 0).below ((Below.refl (w.heap.size + 1) _).alloc (by simp) (.cells #[.int .i64 c, .int .i64 c, .int .i64 c, .int .i64 0] 133)) (Nat.lt_succ_self _)
  have D5 := LBlk.new (w.alloc (.cells #[.int .i64 0, .int .i64 0, .int .i64 0, .int .i64 0] 133)) c c c 0
  have hb2 := ((Below.refl w.heap.size w).alloc (Nat.le_refl _) (.cells #[.int .i64 0, .int .i64 0, .int .i64 0, .int .i64 0] 133)).alloc (by simp) (.cells #[.int .i64 c, .int .i64 c, .int .i64 c, .int .i64 0] 133)
  rw [show (w.alloc (.cells #[.int .i64 0, .int .i64 0, .int .i64 0, .int .i64 0] 133)).heap.size = w.heap.size + 1 from by simp] at D5
  generalize (w.alloc (.cells #[.int .i64 0, .int .i64 0, .int .i64 0, .int .i64 0] 133)).alloc (.cells #[.int .i64 c, .int .i64 c, .int .i64 c, .int .i64 0] 133) = w2 at *
  have hS : LBlk w2.drew (w.heap.size + 1) c c c 0 := D5
  have c0 : ∀ W, LBlk W (w.heap.size + 1) c c c 0 → W.cell? ⟨w.heap.size + 1, 0, none⟩ = some (.int .i64 c) := fun W h => h.c0
  have c1 : ∀ W, LBlk W (w.heap.size + 1) c c c 0 → W.cell? ⟨w.heap.size + 1, 1, none⟩ = some (.int .i64 c) := fun W h => h.c1
  have c2 : ∀ W, LBlk W (w.heap.size + 1) c c c 0 → W.cell? ⟨w.heap.size + 1, 2, none⟩ = some (.int .i64 c) := fun W h => h.c2
  have c3 : ∀ W, LBlk W (w.heap.size + 1) c c c 0 → W.cell? ⟨w.heap.size + 1, 3, none⟩ = some (.int .i64 0) := fun W h => h.c3
  refine region_seq (fun W => LBlk W (w.heap.size + 1) c c c 0) [(0, false), (1, false), (2, false), (3, false), (4, false), (5, false), (6, true), (7, false)] (by kernel_rfl) (by kernel_rfl) rfl (by kernel_rfl) ?_
  iterate 6 (refine seq_read (v := _) rfl (fun _ _ _ h => h) hS (Or.inl ⟨by rfl, fun W hW => by go_simp <;> with_reducible rfl⟩) ?_; simp only [Act.put, List.setIfInBounds_toArray, List.set_cons_zero, List.set_cons_succ])
  clear c0 c1 c2 c3
  have D3 : LBlk w2 w.heap.size 0 0 0 0 := D2
  have f0 := D3.c0
  have f1 := D3.c1
  have f2 := D3.c2
  have f3 := D3.c3
  have g0 := D3.frozen 0
  have g1 := D3.frozen 1
  have g2 := D3.frozen 2
  have g3 := D3.frozen 3
  refine seq_do rfl (fun K hK => ?_)
  go_simp
  refine hK.out _ _ (fun W => LBlk W (w.heap.size + 1) c c c 0) (fun W h => h) (LBlk.off4 (show LBlk w2 (w.heap.size + 1) _ _ _ _ from hS) (Nat.ne_of_lt (Nat.lt_succ_self w.heap.size)) _ _ _ _) ?_
  clear hK K f0 f1 f2 f3 g0 g1 g2 g3
  refine seq_read (v := _) rfl (fun _ _ _ h => h) (LBlk.off4 (show LBlk w2 (w.heap.size + 1) _ _ _ _ from hS) (Nat.ne_of_lt (Nat.lt_succ_self w.heap.size)) _ _ _ _) (Or.inl ⟨by rfl, fun W hW => by go_simp <;> with_reducible rfl⟩) ?_
  simp only [Act.put, List.setIfInBounds_toArray, List.set_cons_zero, List.set_cons_succ]
  refine seq_end ?_
  go_wp2
  exact retU_at (D3.store c c c 0) (below_store hb2 (Nat.le_refl _) _ _ _ _).drew

set_option maxHeartbeats 1000000 in
/-- The four bytes ahead of the extension are not all there. -/
theorem upTo_short (b off len cap : Nat) (x0 : Int) (c : Nat) (w : World) (hl : len ≤ 512) (h12 : 12 ≤ len) (hb : b < w.heap.size) (h0 : w.cell? ⟨b, off, none⟩ = some (.int .u8 x0)) (b0 : 0 ≤ x0 ∧ x0 ≤ 255)
    (hc : (c : Int) = 12 + 4 * (x0 % 16)) (hx : (bits BinOp.and IntKind.u8 x0 16 != 0) = true) (n : Int)
    (CG : Hid (∀ W, Below w.heap.size w W → Calls Try.prog 93 #[.slice (some ⟨b, off, none⟩) len cap, .int .i64 ((c : Int) + 2), .int .i64 2] W fun e w' => e = .returned (.tuple #[.int .u64 n, .bool false]) ∧ W = w')) :
    Calls Try.prog 91 #[.slice (some ⟨b, off, none⟩) len cap] w (RetU w 0 0 0 0 false) := by
  have hp0 : 0 < len := by omega
  have e0 := and_15 x0 b0.1 b0.2
  have e1 : IntKind.i64.wrap (x0 % 16) = x0 % 16 := IntWalk.i64_in _ (by omega)
  have e2 : 12 + 4 * (x0 % 16) = (c : Int) := hc.symm
  have hc1 : c ≤ 1000 := by omega
  have C0 : Hid (∀ W, Below w.heap.size w W → W.cell? ⟨b, off, none⟩ = some (.int .u8 x0)) := fun W hW => (hW.cell (p := ⟨b, off, none⟩) hb).trans h0
  clear h0 hc
  go_enter Try.func91, Try.ntmps91
  have c0 := C0.out _ ((Below.refl _ w).alloc (Nat.le_refl _) (.cells #[.int .i64 0, .int .i64 0, .int .i64 0, .int .i64 0] 133))
  have c0' := C0.out _ (((Below.refl _ w).alloc (Nat.le_refl _) (.cells #[.int .i64 0, .int .i64 0, .int .i64 0, .int .i64 0] 133)).alloc (by simp) (.cells #[.int .i64 c, .int .i64 c, .int .i64 c, .int .i64 0] 133))
  go_wp2_with fail
  clear c0 c0' C0 e0 e1 e2 hx
  have D2 := (LBlk.new w 0 0 0 0).below ((Below.refl (w.heap.size + 1) _).alloc (by simp) (.cells #[.int .i64 c, .int .i64 c, .int .i64 c, .int .i64 0] 133)) (Nat.lt_succ_self _)
  have hb2 := ((Below.refl w.heap.size w).alloc (Nat.le_refl _) (.cells #[.int .i64 0, .int .i64 0, .int .i64 0, .int .i64 0] 133)).alloc (by simp) (.cells #[.int .i64 c, .int .i64 c, .int .i64 c, .int .i64 0] 133)
  generalize (w.alloc (.cells #[.int .i64 0, .int .i64 0, .int .i64 0, .int .i64 0] 133)).alloc (.cells #[.int .i64 c, .int .i64 c, .int .i64 c, .int .i64 0] 133) = w2 at *
  refine (CG.out _ hb2).mono ?_
  rintro e w' ⟨rfl, rfl⟩
  have f0 := D2.c0
  have f1 := D2.c1
  have f2 := D2.c2
  have f3 := D2.c3
  have g0 := D2.frozen 0
  have g1 := D2.frozen 1
  have g2 := D2.frozen 2
  have g3 := D2.frozen 3
  go_wp2
  exact retU_at (D2.store 0 0 0 0) (below_store hb2 (Nat.le_refl _) _ _ _ _)

set_option maxHeartbeats 1000000 in
/-- With an extension. -/
theorem upTo_ext (b off len cap : Nat) (x0 : Int) (c : Nat) (w : World) (hl : len ≤ 512) (h12 : 12 ≤ len) (hb : b < w.heap.size) (h0 : w.cell? ⟨b, off, none⟩ = some (.int .u8 x0)) (b0 : 0 ≤ x0 ∧ x0 ≤ 255)
    (hc : (c : Int) = 12 + 4 * (x0 % 16)) (hx : (bits BinOp.and IntKind.u8 x0 16 != 0) = true) (n : Nat) (hn : n ≤ 65535)
    (CG : Hid (∀ W, Below w.heap.size w W → Calls Try.prog 93 #[.slice (some ⟨b, off, none⟩) len cap, .int .i64 ((c : Int) + 2), .int .i64 2] W fun e w' => e = .returned (.tuple #[.int .u64 n, .bool true]) ∧ W = w')) :
    Calls Try.prog 91 #[.slice (some ⟨b, off, none⟩) len cap] w (RetU w c ((c : Int) + 4) ((c : Int) + 4 + 4 * n) 0 (decide ((c : Int) + 4 + 4 * n ≤ len))) := by
  have hp0 : 0 < len := by omega
  have e0 := and_15 x0 b0.1 b0.2
  have e1 : IntKind.i64.wrap (x0 % 16) = x0 % 16 := IntWalk.i64_in _ (by omega)
  have e2 : 12 + 4 * (x0 % 16) = (c : Int) := hc.symm
  have hc1 : c ≤ 1000 := by omega
  have C0 : Hid (∀ W, Below w.heap.size w W → W.cell? ⟨b, off, none⟩ = some (.int .u8 x0)) := fun W hW => (hW.cell (p := ⟨b, off, none⟩) hb).trans h0
  clear h0 hc
  go_enter Try.func91, Try.ntmps91
  have c0 := C0.out _ ((Below.refl _ w).alloc (Nat.le_refl _) (.cells #[.int .i64 0, .int .i64 0, .int .i64 0, .int .i64 0] 133))
  have c0' := C0.out _ (((Below.refl _ w).alloc (Nat.le_refl _) (.cells #[.int .i64 0, .int .i64 0, .int .i64 0, .int .i64 0] 133)).alloc (by simp) (.cells #[.int .i64 c, .int .i64 c, .int .i64 c, .int .i64 0] 133))
  go_wp2_with fail
  clear c0 c0' C0 e0 e1 e2 hx
  have D2 := (LBlk.new w 0 0 0 0).below ((Below.refl (w.heap.size + 1) _).alloc (by simp) (.cells #[.int .i64 c, .int .i64 c, .int .i64 c, .int .i64 0] 133)) (Nat.lt_succ_self _)
  have D5 := LBlk.new (w.alloc (.cells #[.int .i64 0, .int .i64 0, .int .i64 0, .int .i64 0] 133)) c c c 0
  have hb2 := ((Below.refl w.heap.size w).alloc (Nat.le_refl _) (.cells #[.int .i64 0, .int .i64 0, .int .i64 0, .int .i64 0] 133)).alloc (by simp) (.cells #[.int .i64 c, .int .i64 c, .int .i64 c, .int .i64 0] 133)
  rw [show (w.alloc (.cells #[.int .i64 0, .int .i64 0, .int .i64 0, .int .i64 0] 133)).heap.size = w.heap.size + 1 from by simp] at D5
  generalize (w.alloc (.cells #[.int .i64 0, .int .i64 0, .int .i64 0, .int .i64 0] 133)).alloc (.cells #[.int .i64 c, .int .i64 c, .int .i64 c, .int .i64 0] 133) = w2 at *
  refine (CG.out _ hb2).mono ?_
  rintro e w' ⟨rfl, rfl⟩
  clear CG
  have k1 := D5.c1
  have k2 := D5.c2
  have j1 := D5.frozen 1
  have E5 := D5.set1 ((c : Int) + 4)
  have m1 := E5.c1
  have m2 := E5.c2
  have n2 := E5.frozen 2
  have F5 := E5.set2 ((c : Int) + 4 + 4 * n)
  have F2 := (D2.off (p := ⟨w.heap.size + 1, 1, none⟩) (by simp) (.int .i64 ((c : Int) + 4))).off (p := ⟨w.heap.size + 1, 2, none⟩) (by simp) (.int .i64 ((c : Int) + 4 + 4 * n))
  have hb3 := (hb2.setCell (p := ⟨w.heap.size + 1, 1, none⟩) (Nat.le_succ _) (.int .i64 ((c : Int) + 4))).setCell (p := ⟨w.heap.size + 1, 2, none⟩) (Nat.le_succ _) (.int .i64 ((c : Int) + 4 + 4 * n))
  clear D5 E5 D2
  go_wp2_with fail
  clear k1 k2 j1 m1 m2 n2
  generalize (w2.setCell ⟨w.heap.size + 1, 1, none⟩ (.int .i64 ((c : Int) + 4))).setCell ⟨w.heap.size + 1, 2, none⟩ (.int .i64 ((c : Int) + 4 + 4 * n)) = w3 at *
  obtain ⟨F, hF⟩ : ∃ F, (c : Int) + 4 + 4 * n = F := ⟨_, rfl⟩
  simp only [hF] at F5 ⊢
  have hS : LBlk w3.drew (w.heap.size + 1) c ((c : Int) + 4) F 0 := F5
  have c0 : ∀ W, LBlk W (w.heap.size + 1) c ((c : Int) + 4) F 0 → W.cell? ⟨w.heap.size + 1, 0, none⟩ = some (.int .i64 c) := fun W h => h.c0
  have c1 : ∀ W, LBlk W (w.heap.size + 1) c ((c : Int) + 4) F 0 → W.cell? ⟨w.heap.size + 1, 1, none⟩ = some (.int .i64 ((c : Int) + 4)) := fun W h => h.c1
  have c2 : ∀ W, LBlk W (w.heap.size + 1) c ((c : Int) + 4) F 0 → W.cell? ⟨w.heap.size + 1, 2, none⟩ = some (.int .i64 F) := fun W h => h.c2
  have c3 : ∀ W, LBlk W (w.heap.size + 1) c ((c : Int) + 4) F 0 → W.cell? ⟨w.heap.size + 1, 3, none⟩ = some (.int .i64 0) := fun W h => h.c3
  refine region_seq (fun W => LBlk W (w.heap.size + 1) c ((c : Int) + 4) F 0) [(0, false), (1, false), (2, false), (3, false), (4, false), (5, false), (6, true), (7, false)] (by kernel_rfl) (by kernel_rfl) rfl (by kernel_rfl) ?_
  iterate 6 (refine seq_read (v := _) rfl (fun _ _ _ h => h) hS (Or.inl ⟨by rfl, fun W hW => by go_simp <;> with_reducible rfl⟩) ?_; simp only [Act.put, List.setIfInBounds_toArray, List.set_cons_zero, List.set_cons_succ])
  clear c0 c1 c2 c3
  have D3 : LBlk w3 w.heap.size 0 0 0 0 := F2
  have f0 := D3.c0
  have f1 := D3.c1
  have f2 := D3.c2
  have f3 := D3.c3
  have g0 := D3.frozen 0
  have g1 := D3.frozen 1
  have g2 := D3.frozen 2
  have g3 := D3.frozen 3
  refine seq_do rfl (fun K hK => ?_)
  go_simp
  refine hK.out _ _ (fun W => LBlk W (w.heap.size + 1) c ((c : Int) + 4) F 0) (fun W h => h) (LBlk.off4 (show LBlk w3 (w.heap.size + 1) _ _ _ _ from hS) (Nat.ne_of_lt (Nat.lt_succ_self w.heap.size)) _ _ _ _) ?_
  clear hK K f0 f1 f2 f3 g0 g1 g2 g3
  refine seq_read (v := _) rfl (fun _ _ _ h => h) (LBlk.off4 (show LBlk w3 (w.heap.size + 1) _ _ _ _ from hS) (Nat.ne_of_lt (Nat.lt_succ_self w.heap.size)) _ _ _ _) (Or.inl ⟨by rfl, fun W hW => by go_simp <;> with_reducible rfl⟩) ?_
  simp only [Act.put, List.setIfInBounds_toArray, List.set_cons_zero, List.set_cons_succ]
  refine seq_end ?_
  go_wp2
  subst hF
  exact retU_at (D3.store c ((c : Int) + 4) _ 0) (below_store hb3 (Nat.le_refl _) _ _ _ _).drew

/-- The parts that stand ahead of the payload are all there. -/
def inB (b : List Int) : Bool := decide (at1 b ≤ b.length) && (!hasX b || decide (at1 b + 4 ≤ b.length)) && decide (at2 b ≤ b.length)
/-- The four bytes ahead of the extension are not all there. -/
def uS (b : List Int) : Bool := hasX b && decide (b.length < at1 b + 4)
def lX (b : List Int) : Int := if hasX b then (at1 b : Int) + 4 else at1 b
def uC (b : List Int) : Int := if uS b then 0 else at1 b
def uX (b : List Int) : Int := if uS b then 0 else lX b
def uF (b : List Int) : Int := if uS b then 0 else at2 b
theorem uS_in {b : List Int} (h : inB b = true) : uS b = false := by
  unfold inB at h
  unfold uS
  simp only [Bool.and_eq_true, Bool.or_eq_true, Bool.not_eq_true', decide_eq_true_eq] at h
  rcases h.1.2 with h' | h'
  · rw [h']; rfl
  · rw [decide_eq_false (by omega), Bool.and_false]
theorem upTo_any (a : Option Addr) (len cap B : Nat) (xs : List Int) (w : World) (hl : len ≤ 512) (h12 : 12 ≤ len) (hlc : len ≤ cap) (hr : Rd w B a len xs) (hB : B ≤ w.heap.size) :
    Calls Try.prog 91 #[.slice a len cap] w (RetU w (uC xs) (uX xs) (uF xs) 0 (inB xs)) := by
  have hx := hr.1
  obtain ⟨b, off, rfl, hlt, hcell⟩ := hr.2.2 (by omega)
  have h0 := hcell 0 (by omega)
  rw [Nat.add_zero] at h0
  have b0 := hr.2.1.getD 0
  have hc : (at1 xs : Int) = 12 + 4 * (xs.getD 0 0 % 16) := by unfold at1 ccN; omega
  have hxx := and_16 _ b0.1 b0.2
  rcases hX : hasX xs with _ | _
  · have hx' : (bits BinOp.and IntKind.u8 (xs.getD 0 0) 16 != 0) = false := by rw [hxx]; exact hX
    have ha2 : at2 xs = at1 xs := by rw [at2, hX]; rfl
    have hu : uS xs = false := by rw [uS, hX]; rfl
    have hlx : lX xs = at1 xs := by rw [lX, hX]; rfl
    have hi : inB xs = decide (at1 xs ≤ len) := by rw [inB, hX, ha2, hx]; by_cases q : at1 xs ≤ len <;> simp [q]
    rw [hi, uC, uX, uF, hu, hlx, ha2]
    exact upTo_plain b off len cap _ (at1 xs) w hl h12 (by omega) h0 b0 hc hx'
  · have hx' : (bits BinOp.and IntKind.u8 (xs.getD 0 0) 16 != 0) = true := by rw [hxx]; exact hX
    have ha2 : at2 xs = at1 xs + 4 + 4 * (nb xs (at1 xs + 2) 2).toNat := by rw [at2, hX]; rfl
    have hlx : lX xs = (at1 xs : Int) + 4 := by rw [lX, hX]; rfl
    have CG := fun W (hW : Below w.heap.size w W) => Fld.get_any (some ⟨b, off, none⟩) len cap B ((at1 xs : Int) + 2) 2 xs W (by unfold maxLen; omega) hlc (hr.below (hW.mono hB))
    by_cases hin : at1 xs + 4 ≤ len
    · have hu : uS xs = false := by rw [uS, hx, decide_eq_false (by omega), Bool.and_false]
      have hw : withinB len ((at1 xs : Int) + 2) 2 = true := by simp [withinB]; omega
      have hn := nb_bd xs hr.2.1 (at1 xs + 2) 2
      have hg : numGet xs ((at1 xs : Int) + 2) 2 = ((nb xs (at1 xs + 2) 2).toNat : Int) := by
        have hw' := hw
        rw [← hx] at hw'
        rw [numGet, hw', if_pos rfl, show (((at1 xs : Int) + 2).toNat) = at1 xs + 2 from by omega]
        show nb xs (at1 xs + 2) 2 = _
        omega
      rw [hw, hg] at CG
      have hi : inB xs = decide ((at1 xs : Int) + 4 + 4 * ((nb xs (at1 xs + 2) 2).toNat : Int) ≤ len) := by
        rw [inB, hX, ha2, hx, Bool.eq_iff_iff]; simp; omega
      have hf : (at2 xs : Int) = (at1 xs : Int) + 4 + 4 * ((nb xs (at1 xs + 2) 2).toNat : Int) := by rw [ha2]; omega
      rw [hi, uC, uX, uF, hu, hlx, hf]
      exact upTo_ext b off len cap _ (at1 xs) w hl h12 (by omega) h0 b0 hc hx' _ (by omega) CG
    · have hu : uS xs = true := by rw [uS, hX, hx, decide_eq_true (by omega)]; rfl
      have hw : withinB len ((at1 xs : Int) + 2) 2 = false := by simp [withinB]; omega
      rw [hw] at CG
      have hi : inB xs = false := by rw [inB, hX, hx, decide_eq_false hin]; simp
      rw [hi, uC, uX, uF, hu]
      exact upTo_short b off len cap _ (at1 xs) w hl h12 (by omega) h0 b0 hc hx' _ CG
end Go.Proofs.Ytdnnfoacpjgloaa.Rtp

namespace Go.Proofs.Ytdnnfoacpjgloaa.Rtp
open Go.RowKit
set_option linter.unusedVariables false

abbrev L0 : Obj := .cells #[.int .i64 0, .int .i64 0, .int .i64 0, .int .i64 0] 133
set_option maxHeartbeats 1000000 in
theorem lay_head (a : Option Addr) (len cap : Nat) (n : Int) (w : World) (hn : (n != 0) = true)
    (CH : Hid (∀ W, Below w.heap.size w W → Calls Try.prog 90 #[.slice a len cap] W fun e w' => e = .returned (.int .i64 n) ∧ Below W.heap.size W w')) :
    Calls Try.prog 86 #[.slice a len cap] w (RetL w 0 0 0 0 n) := by
  go_enter Try.func86, Try.ntmps86
  go_wp2_with fail
  have hb0 := (Below.refl w.heap.size w).alloc (Nat.le_refl _) L0
  refine (CH.out _ hb0).mono ?_
  rintro e w1 ⟨rfl, hb1⟩
  have D1 : LBlk w1 w.heap.size 0 0 0 0 := (LBlk.new w 0 0 0 0).below hb1 (by simp)
  have hb : Below w.heap.size w w1 := hb0.trans (hb1.mono (by simp))
  clear hb1 hb0 CH
  have f0 := D1.c0
  have f1 := D1.c1
  have f2 := D1.c2
  have f3 := D1.c3
  have g0 := D1.frozen 0
  have g1 := D1.frozen 1
  have g2 := D1.frozen 2
  have g3 := D1.frozen 3
  go_wp2
  exact retL_at (D1.store 0 0 0 0) (below_store hb (Nat.le_refl _) _ _ _ _)

set_option maxHeartbeats 1000000 in
theorem lay_short (a : Option Addr) (len cap : Nat) (c x f : Int) (w : World)
    (CH : Hid (∀ W, Below w.heap.size w W → Calls Try.prog 90 #[.slice a len cap] W fun e w' => e = .returned (.int .i64 0) ∧ Below W.heap.size W w'))
    (CU : Hid (∀ W, Below w.heap.size w W → Calls Try.prog 91 #[.slice a len cap] W (RetU W c x f 0 false))) :
    Calls Try.prog 86 #[.slice a len cap] w (RetL w 0 0 0 0 2) := by
  go_enter Try.func86, Try.ntmps86
  go_wp2_with fail
  have hb0 := (Below.refl w.heap.size w).alloc (Nat.le_refl _) L0
  refine (CH.out _ hb0).mono ?_
  rintro e w1 ⟨rfl, hb1⟩
  have D1 : LBlk w1 w.heap.size 0 0 0 0 := (LBlk.new w 0 0 0 0).below hb1 (by simp)
  have hb : Below w.heap.size w w1 := hb0.trans (hb1.mono (by simp))
  clear hb1 hb0 CH
  go_wp2_with fail
  refine (CU.out _ hb).mono ?_
  rintro e w2 ⟨rfl, hb2⟩
  have D2 : LBlk w2 w.heap.size 0 0 0 0 := D1.below hb2 D1.lt
  have hbb : Below w.heap.size w w2 := hb.trans (hb2.mono hb.size)
  clear hb hb2 D1 CU
  have D3 := D2.below ((Below.refl w2.heap.size w2).alloc (Nat.le_refl _) (.cells #[.int .i64 c, .int .i64 x, .int .i64 f, .int .i64 0] 133)) D2.lt
  have f0 := D3.c0
  have f1 := D3.c1
  have f2 := D3.c2
  have f3 := D3.c3
  have g0 := D3.frozen 0
  have g1 := D3.frozen 1
  have g2 := D3.frozen 2
  have g3 := D3.frozen 3
  go_wp2
  exact retL_at (D3.store 0 0 0 0) (below_store (hbb.alloc hbb.size _) (Nat.le_refl _) _ _ _ _)

set_option maxHeartbeats 1000000 in
theorem lay_plain (b off len cap : Nat) (x0 c x f : Int) (w : World) (hp0 : 0 < len) (hl : len ≤ 512) (hx : (bits BinOp.and IntKind.u8 x0 32 != 0) = false)
    (C0 : Hid (∀ W, Below w.heap.size w W → W.cell? ⟨b, off, none⟩ = some (.int .u8 x0)))
    (CH : Hid (∀ W, Below w.heap.size w W → Calls Try.prog 90 #[.slice (some ⟨b, off, none⟩) len cap] W fun e w' => e = .returned (.int .i64 0) ∧ Below W.heap.size W w'))
    (CU : Hid (∀ W, Below w.heap.size w W → Calls Try.prog 91 #[.slice (some ⟨b, off, none⟩) len cap] W (RetU W c x f 0 true))) :
    Calls Try.prog 86 #[.slice (some ⟨b, off, none⟩) len cap] w (RetL w c x f len 0) := by
  go_enter Try.func86, Try.ntmps86
  go_wp2_with fail
  have hb0 := (Below.refl w.heap.size w).alloc (Nat.le_refl _) L0
  refine (CH.out _ hb0).mono ?_
  rintro e w1 ⟨rfl, hb1⟩
  have D1 : LBlk w1 w.heap.size 0 0 0 0 := (LBlk.new w 0 0 0 0).below hb1 (by simp)
  have hb : Below w.heap.size w w1 := hb0.trans (hb1.mono (by simp))
  clear hb1 hb0 CH
  go_wp2_with fail
  refine (CU.out _ hb).mono ?_
  rintro e w2 ⟨rfl, hb2⟩
  have D2 : LBlk w2 w.heap.size 0 0 0 0 := D1.below hb2 D1.lt
  have hbb : Below w.heap.size w w2 := hb.trans (hb2.mono hb.size)
  clear hb hb2 D1 CU
  have hne : w2.heap.size ≠ w.heap.size := Nat.ne_of_gt D2.lt
  have D3 := D2.below ((Below.refl w2.heap.size w2).alloc (Nat.le_refl _) (.cells #[.int .i64 c, .int .i64 x, .int .i64 f, .int .i64 len] 133)) D2.lt
  have E3 := LBlk.new w2 c x f len
  have hb3 := hbb.alloc hbb.size (.cells #[.int .i64 c, .int .i64 x, .int .i64 f, .int .i64 len] 133)
  have hqq := hbb.size
  have k0 := C0.out _ hb3
  have k1 := E3.c0
  have k2 := E3.c1
  have k3 := E3.c2
  have k4 := E3.c3
  have f0 := D3.c0
  have f1 := D3.c1
  have f2 := D3.c2
  have f3 := D3.c3
  have g0 := D3.frozen 0
  have g1 := D3.frozen 1
  have g2 := D3.frozen 2
  have g3 := D3.frozen 3
  clear C0
  go_wp2
  exact retL_at (D3.store c x f len) (below_store hb3 (Nat.le_refl _) _ _ _ _)

set_option maxHeartbeats 1000000 in
theorem lay_pad (b off len cap : Nat) (x0 c x : Int) (f : Nat) (w : World) (hp0 : 0 < len) (hl : len ≤ 512) (hlc : len ≤ cap) (hf : f ≤ len) (hx : (bits BinOp.and IntKind.u8 x0 32 != 0) = true)
    (C0 : Hid (∀ W, Below w.heap.size w W → W.cell? ⟨b, off, none⟩ = some (.int .u8 x0)))
    (CH : Hid (∀ W, Below w.heap.size w W → Calls Try.prog 90 #[.slice (some ⟨b, off, none⟩) len cap] W fun e w' => e = .returned (.int .i64 0) ∧ Below W.heap.size W w'))
    (CU : Hid (∀ W, Below w.heap.size w W → Calls Try.prog 91 #[.slice (some ⟨b, off, none⟩) len cap] W (RetU W c x f 0 true))) (p : Int) (ok : Bool) (hpd : 0 ≤ p ∧ p ≤ 512)
    (CP : Hid (∀ W X, Below w.heap.size w W → (cap ≠ f → X = some ⟨b, off + f, none⟩) → Calls Try.prog 92 #[.slice X (len - f) (cap - f)] W fun e w' => e = .returned (.tuple #[.int .i64 p, .bool ok]) ∧ W = w')) :
    Calls Try.prog 86 #[.slice (some ⟨b, off, none⟩) len cap] w (if ok then RetL w c x f (len - p) 0 else RetL w 0 0 0 0 1) := by
  by_cases hcf : cap = f
  case' pos => have hcf' := eq_true hcf
  case' neg => have hcf' := eq_false hcf
  all_goals
    have HCF := Lib.hid hcf
    clear hcf
    rcases ok with _ | _
    case' false => rw [if_neg (by decide)]
    case' true => rw [if_pos rfl]
    all_goals
      go_enter Try.func86, Try.ntmps86
      go_wp2_with fail
      have hb0 := (Below.refl w.heap.size w).alloc (Nat.le_refl _) L0
      refine (CH.out _ hb0).mono ?_
      rintro e w1 ⟨rfl, hb1⟩
      have D1 : LBlk w1 w.heap.size 0 0 0 0 := (LBlk.new w 0 0 0 0).below hb1 (by simp)
      have hb : Below w.heap.size w w1 := hb0.trans (hb1.mono (by simp))
      clear hb1 hb0 CH
      go_wp2_with fail
      refine (CU.out _ hb).mono ?_
      rintro e w2 ⟨rfl, hb2⟩
      have D2 : LBlk w2 w.heap.size 0 0 0 0 := D1.below hb2 D1.lt
      have hbb : Below w.heap.size w w2 := hb.trans (hb2.mono hb.size)
      clear hb hb2 D1 CU
      have hne : w2.heap.size ≠ w.heap.size := Nat.ne_of_gt D2.lt
      have D3 := D2.below ((Below.refl w2.heap.size w2).alloc (Nat.le_refl _) (.cells #[.int .i64 c, .int .i64 x, .int .i64 f, .int .i64 len] 133)) D2.lt
      have E3 := LBlk.new w2 c x f len
      have hb3 := hbb.alloc hbb.size (.cells #[.int .i64 c, .int .i64 x, .int .i64 f, .int .i64 len] 133)
      have hqq := hbb.size
      have k0 := C0.out _ hb3
      have k3 := E3.c2
      have k4 := E3.c3
      clear C0
      go_wp2_with fail
      clear k0 k3 k4
      generalize w2.alloc (.cells #[.int .i64 c, .int .i64 x, .int .i64 f, .int .i64 len] 133) = w3 at *
      generalize w2.heap.size = q at *
      refine (CP.out _ _ hb3 ?_).mono ?_
      · intro h
        first
          | exact absurd HCF.out h
          | rfl
      rintro e w' ⟨rfl, rfl⟩
      clear CP
      first
        | (have f0 := D3.c0
           have f1 := D3.c1
           have f2 := D3.c2
           have f3 := D3.c3
           have g0 := D3.frozen 0
           have g1 := D3.frozen 1
           have g2 := D3.frozen 2
           have g3 := D3.frozen 3
           go_wp2
           exact retL_at (D3.store 0 0 0 0) (below_store hb3 (Nat.le_refl _) _ _ _ _))
        | (have k3 := E3.c3
           have j3 := E3.frozen 3
           have E4 := E3.set3 (len - p)
           have D4 := D3.off (p := ⟨q, 3, none⟩) hne (.int .i64 (len - p))
           have hb4 := hb3.setCell (p := ⟨q, 3, none⟩) hqq (.int .i64 (len - p))
           have k1 := E4.c0
           have k2 := E4.c1
           have k3' := E4.c2
           have k4 := E4.c3
           have f0 := D4.c0
           have f1 := D4.c1
           have f2 := D4.c2
           have f3 := D4.c3
           have g0 := D4.frozen 0
           have g1 := D4.frozen 1
           have g2 := D4.frozen 2
           have g3 := D4.frozen 3
           go_wp2
           exact retL_at (D4.store c x f (len - p)) (below_store hb4 (Nat.le_refl _) _ _ _ _))
end Go.Proofs.Ytdnnfoacpjgloaa.Rtp

namespace Go.Proofs.Ytdnnfoacpjgloaa.Rtp
open Go.RowKit
set_option linter.unusedVariables false

theorem lastB_drop (b : List Int) (i : Nat) (h : i < b.length) : lastB (b.drop i) = lastB b := by
  unfold lastB
  rw [List.length_drop, List.getD_eq_getElem?_getD, List.getD_eq_getElem?_getD, List.getElem?_drop, show i + (b.length - i - 1) = b.length - 1 from by omega]
theorem badPad_eq (b : List Int) (hb : Bytes b) (h : at2 b ≤ b.length) : badPad b = (hasP b && !pdB (b.drop (at2 b))) := by
  unfold badPad pdB
  congr 1
  rw [List.length_drop]
  rcases Nat.lt_or_ge (at2 b) b.length with hlt | hge
  · have hl : lastB (b.drop (at2 b)) = lastB b := lastB_drop b _ hlt
    have hbd := hb.getD (b.length - 1)
    have hbd' : 0 ≤ lastB b ∧ lastB b ≤ 255 := hbd
    rw [hl, decide_eq_false (show ¬ at2 b = b.length by omega), decide_eq_true (show b.length - at2 b ≠ 0 by omega), Bool.false_or, Bool.true_and]
    by_cases h0 : lastB b = 0
    · simp [h0]
    · by_cases h1 : ((b.length - at2 b : Nat) : Int) < lastB b
      · rw [decide_eq_true h1, decide_eq_false (show ¬ lastB b ≤ ((b.length - at2 b : Nat) : Int) by omega)]; simp
      · rw [decide_eq_false h1, decide_eq_true (show lastB b ≤ ((b.length - at2 b : Nat) : Int) by omega), decide_eq_false h0, decide_eq_true (show lastB b ≠ 0 from h0)]
        have : padZ (b.drop (at2 b)) = padZ b := by
          unfold padZ
          rw [hl, List.length_drop, List.drop_drop, show at2 b + (b.length - at2 b - (lastB b).toNat) = b.length - (lastB b).toNat from by omega]
        rw [this]; rfl
  · have : at2 b = b.length := by omega
    rw [this]; simp
theorem pE_head (b : List Int) (h : hE b ≠ 0) : pE b = hE b := by
  unfold hE at h ⊢
  unfold pE
  by_cases h1 : 512 < b.length
  · rw [if_pos h1, if_pos h1]
  · rw [if_neg h1] at h ⊢
    rw [if_neg h1]
    by_cases h2 : b.length < 12
    · rw [if_pos h2, if_pos h2]
    · rw [if_neg h2] at h ⊢
      rw [if_neg h2]
      by_cases h3 : b.getD 0 0 / 64 ≠ 2
      · rw [if_pos h3, if_pos h3]
      · rw [if_neg h3] at h ⊢
        rw [if_neg h3]
        by_cases h4 : 192 ≤ b.getD 1 0 ∧ b.getD 1 0 ≤ 223
        · rw [if_pos h4, if_pos h4]
        · rw [if_neg h4] at h; exact absurd rfl h
theorem hE_ok {b : List Int} (h : hE b = 0) : b.length ≤ 512 ∧ 12 ≤ b.length ∧ b.getD 0 0 / 64 = 2 ∧ ¬ (192 ≤ b.getD 1 0 ∧ b.getD 1 0 ≤ 223) := by
  unfold hE at h
  split at h
  · cases h
  · split at h
    · cases h
    · split at h
      · cases h
      · split at h
        · cases h
        · rename_i h1 h2 h3 h4
          exact ⟨by omega, by omega, by omega, h4⟩
theorem pE_tail (b : List Int) (hb : Bytes b) (h : hE b = 0) : pE b = if inB b = false then 2 else if (hasP b && !pdB (b.drop (at2 b))) = true then 1 else 0 := by
  obtain ⟨h1, h2, h3, h4⟩ := hE_ok h
  rw [pE, if_neg (by omega), if_neg (by omega), if_neg (by omega), if_neg h4]
  by_cases k1 : b.length < at1 b
  · have hi : inB b = false := by rw [inB, decide_eq_false (by omega)]; rfl
    rw [if_pos k1, if_pos hi]
  · rw [if_neg k1]
    by_cases k2 : hasX b = true ∧ b.length < at1 b + 4
    · have hi : inB b = false := by rw [inB, k2.1, decide_eq_false (show ¬ at1 b + 4 ≤ b.length by omega)]; simp
      rw [if_pos k2, if_pos hi]
    · rw [if_neg k2]
      by_cases k3 : b.length < at2 b
      · have hi : inB b = false := by rw [inB, decide_eq_false (show ¬ at2 b ≤ b.length by omega)]; simp
        rw [if_pos k3, if_pos hi]
      · have hi : ¬ inB b = false := by
          rw [inB, decide_eq_true (show at1 b ≤ b.length by omega), decide_eq_true (show at2 b ≤ b.length by omega)]
          cases hx : hasX b
          · simp
          · rw [decide_eq_true (show at1 b + 4 ≤ b.length from Nat.le_of_not_lt fun q => k2 ⟨hx, q⟩)]; simp
        rw [if_neg k3, if_neg hi, badPad_eq b hb (by omega)]
theorem padding_off (b : List Int) (hb : Bytes b) (h : at2 b ≤ b.length) (hp : hasP b = true) (hk : pdB (b.drop (at2 b)) = true) : pdN (b.drop (at2 b)) = (padN b : Int) := by
  rw [pdN, hk, if_pos rfl, padN, hp, if_pos rfl]
  have hlt : at2 b < b.length := by
    rcases Nat.lt_or_ge (at2 b) b.length with h' | h'
    · exact h'
    · rw [List.drop_of_length_le h'] at hk; cases hk
  have := hb.getD (b.length - 1)
  rw [lastB_drop b _ hlt]
  have h2 : 0 ≤ lastB b := this.1
  omega

/-- Where the parts end, once nothing is wrong. -/
def gC (b : List Int) : Int := if pE b = 0 then at1 b else 0
def gX (b : List Int) : Int := if pE b = 0 then lX b else 0
def gF (b : List Int) : Int := if pE b = 0 then at2 b else 0
def gT (b : List Int) : Int := if pE b = 0 then (b.length : Int) - padN b else 0

theorem lay_any (a : Option Addr) (len cap B : Nat) (xs : List Int) (w : World) (hl : len ≤ maxLen) (hlc : len ≤ cap) (hr : Rd w B a len xs) (hB : B ≤ w.heap.size) :
    Calls Try.prog 86 #[.slice a len cap] w (RetL w (gC xs) (gX xs) (gF xs) (gT xs) (pE xs)) := by
  have CH := fun W (hW : Below w.heap.size w W) => headErr_any a len cap B xs W hl (hr.below (hW.mono hB)) (Nat.le_trans hB hW.size)
  have hby := hr.2.1
  unfold gC gX gF gT
  by_cases hh : hE xs = 0
  · obtain ⟨h1, h2, h3, h4⟩ := hE_ok hh
    have hx := hr.1
    have hp := pE_tail xs hby hh
    rw [hh] at CH
    have CU := fun W (hW : Below w.heap.size w W) => upTo_any a len cap B xs W (by omega) (by omega) hlc (hr.below (hW.mono hB)) (Nat.le_trans hB hW.size)
    rcases hi : inB xs with _ | _
    · rw [hi, if_pos rfl] at hp
      rw [hi] at CU
      rw [hp]
      exact lay_short a len cap _ _ _ w CH CU
    · rw [hi, if_neg (by decide)] at hp
      have hu := uS_in hi
      rw [hi] at CU
      unfold uC uX uF at CU
      rw [hu] at CU
      simp only [Bool.false_eq_true, if_false] at CU
      have ha2 : at2 xs ≤ xs.length := by
        simp only [inB, Bool.and_eq_true, decide_eq_true_eq] at hi; exact hi.2
      obtain ⟨b, off, rfl, hlt, hcell⟩ := hr.2.2 (by omega)
      have h0 := hcell 0 (by omega)
      rw [Nat.add_zero] at h0
      have b0 := hby.getD 0
      have hxx := and_32 _ b0.1 b0.2
      have C0 : ∀ W, Below w.heap.size w W → W.cell? ⟨b, off, none⟩ = some (.int .u8 (xs.getD 0 0)) := fun W hW => (hW.cell (p := ⟨b, off, none⟩) (show b < w.heap.size by omega)).trans h0
      rcases hP : hasP xs with _ | _
      · have hx' : (bits BinOp.and IntKind.u8 (xs.getD 0 0) 32 != 0) = false := by rw [hxx]; exact hP
        rw [hP, Bool.false_and, if_neg (by decide)] at hp
        have hpn : padN xs = 0 := by rw [padN, hP]; rfl
        rw [hp, hpn, hx]
        have := lay_plain b off len cap _ _ _ _ w (by omega) (by omega) hx' C0 CH CU
        simpa using this
      · have hx' : (bits BinOp.and IntKind.u8 (xs.getD 0 0) 32 != 0) = true := by rw [hxx]; exact hP
        rw [hP, Bool.true_and] at hp
        have hpdb : 0 ≤ pdN (xs.drop (at2 xs)) ∧ pdN (xs.drop (at2 xs)) ≤ 512 := by
          have := (hby.drop (at2 xs)).getD ((xs.drop (at2 xs)).length - 1)
          unfold pdN lastB; split <;> omega
        have L := lay_pad b off len cap _ (at1 xs) (lX xs) (at2 xs) w (by omega) (by omega) hlc (by omega) hx' C0 CH CU (pdN (xs.drop (at2 xs))) (pdB (xs.drop (at2 xs))) hpdb (fun W X hW hX => by
          refine padding_any X (len - at2 xs) (cap - at2 xs) B (xs.drop (at2 xs)) W (by omega) (by omega) ?_
          have hr' := hr.below (hW.mono hB)
          by_cases hc : cap = at2 xs
          · exact hr'.end_ (by omega) X
          · rw [hX hc]; exact hr'.drop (by omega))
        rcases hk : pdB (xs.drop (at2 xs)) with _ | _
        · rw [hk] at hp L
          simp only [Bool.not_false, if_true] at hp
          rw [hp]
          simpa using L
        · rw [hk] at hp L
          simp only [Bool.not_true, Bool.false_eq_true, if_false] at hp
          rw [hp]
          rw [padding_off xs hby ha2 hP hk] at L
          simp only [if_true] at L ⊢
          rw [hx]
          exact L
  · have hne : pE xs ≠ 0 := by rw [pE_head xs hh]; exact hh
    simp only [hne, if_false]
    rw [pE_head xs hh]
    exact lay_head a len cap _ w (by simpa using hh) CH

def RetO (w : World) (f t n : Int) (e : Ending) (w' : World) : Prop := e = .returned (.tuple #[.int .i64 f, .int .i64 t, .int .i64 n]) ∧ Below w.heap.size w w'
set_option maxHeartbeats 1000000 in
theorem offset_any (a : Option Addr) (len cap B : Nat) (xs : List Int) (w : World) (hl : len ≤ maxLen) (hlc : len ≤ cap) (hr : Rd w B a len xs) (hB : B ≤ w.heap.size) :
    Calls Try.prog 78 #[.slice a len cap] w (RetO w (gF xs) (gT xs) (pE xs)) := by
  have C := lay_any a len cap B xs w hl hlc hr hB
  generalize gC xs = c at C
  generalize gX xs = x at C
  generalize gF xs = f at C ⊢
  generalize gT xs = t at C ⊢
  generalize pE xs = n at C ⊢
  have HC := Lib.hid C
  clear C hr
  go_enter Try.func78, Try.ntmps78
  go_wp2_with fail
  refine HC.out.mono ?_
  rintro e w1 ⟨rfl, hb1⟩
  go_wp2_with fail
  have E1 := LBlk.new w1 c x f t
  have hb2 := hb1.alloc hb1.size (.cells #[.int .i64 c, .int .i64 x, .int .i64 f, .int .i64 t] 133)
  generalize w1.alloc (.cells #[.int .i64 c, .int .i64 x, .int .i64 f, .int .i64 t] 133) = w2 at *
  generalize w1.heap.size = q at *
  have hS : LBlk w2.drew q c x f t := E1
  have c2 : ∀ W, LBlk W q c x f t → W.cell? ⟨q, 2, none⟩ = some (.int .i64 f) := fun W h => h.c2
  have c3 : ∀ W, LBlk W q c x f t → W.cell? ⟨q, 3, none⟩ = some (.int .i64 t) := fun W h => h.c3
  refine region_seq (fun W => LBlk W q c x f t) [(0, false), (1, false), (2, false), (3, false), (4, false), (5, false), (6, false), (7, false)] (by kernel_rfl) (by kernel_rfl) rfl (by kernel_rfl) ?_
  iterate 8 (refine seq_read (v := _) rfl (fun _ _ _ h => h) hS (Or.inl ⟨by rfl, fun W hW => by go_simp <;> with_reducible rfl⟩) ?_; simp only [Act.put, List.setIfInBounds_toArray, List.set_cons_zero, List.set_cons_succ])
  refine seq_end ?_
  clear c2 c3
  go_wp2
  exact bodyPost_ret (v := .tuple #[.int .i64 f, .int .i64 t, .int .i64 n]) (by simp [results, Try.results78, go_sem]) rfl ⟨rfl, hb2.drew⟩
end Go.Proofs.Ytdnnfoacpjgloaa.Rtp
