/- The contracts of rtp.headErr, padding. -/
import Derived.Test.YtiamdaeodkiccaaKa
import Derived.Test.YtiamdaeodkiccaaXg
namespace Go.Proofs.Ytiamdaeodkiccaa.Rtp
open Go.RowKit
set_option linter.unusedVariables false

theorem byte_all (p : Int → Bool) (h : (List.range 256).all (fun n => p n) = true) (x : Int) (h0 : 0 ≤ x) (h1 : x ≤ 255) : p x = true := by
  obtain ⟨n, rfl⟩ := Int.eq_ofNat_of_zero_le h0
  exact List.all_eq_true.1 h n (List.mem_range.2 (by omega))
theorem and_127 (x : Int) (h0 : 0 ≤ x) (h1 : x ≤ 255) : bits BinOp.and IntKind.u8 x 127 = x % 128 :=
  of_decide_eq_true (byte_all (fun x => decide (bits BinOp.and IntKind.u8 x 127 = x % 128)) (by decide +kernel) x h0 h1)
theorem and_15 (x : Int) (h0 : 0 ≤ x) (h1 : x ≤ 255) : bits BinOp.and IntKind.u8 x 15 = x % 16 :=
  of_decide_eq_true (byte_all (fun x => decide (bits BinOp.and IntKind.u8 x 15 = x % 16)) (by decide +kernel) x h0 h1)
theorem and_128 (x : Int) (h0 : 0 ≤ x) (h1 : x ≤ 255) : (bits BinOp.and IntKind.u8 x 128 != 0) = decide (128 ≤ x) :=
  of_decide_eq_true (byte_all (fun x => decide ((bits BinOp.and IntKind.u8 x 128 != 0) = decide (128 ≤ x))) (by decide +kernel) x h0 h1)
theorem and_32 (x : Int) (h0 : 0 ≤ x) (h1 : x ≤ 255) : (bits BinOp.and IntKind.u8 x 32 != 0) = decide (x / 32 % 2 = 1) :=
  of_decide_eq_true (byte_all (fun x => decide ((bits BinOp.and IntKind.u8 x 32 != 0) = decide (x / 32 % 2 = 1))) (by decide +kernel) x h0 h1)
theorem and_16 (x : Int) (h0 : 0 ≤ x) (h1 : x ≤ 255) : (bits BinOp.and IntKind.u8 x 16 != 0) = decide (x / 16 % 2 = 1) :=
  of_decide_eq_true (byte_all (fun x => decide ((bits BinOp.and IntKind.u8 x 16 != 0) = decide (x / 16 % 2 = 1))) (by decide +kernel) x h0 h1)

/-- What is wrong with the first two bytes. -/
def hE (b : List Int) : Int := if 512 < b.length then 5 else if b.length < 12 then 2 else if b.getD 0 0 / 64 ≠ 2 then 1 else if 192 ≤ b.getD 1 0 ∧ b.getD 1 0 ≤ 223 then 4 else 0
theorem tyB_byte (x : Int) (h0 : 0 ≤ x) (h1 : x ≤ 255) : tyB (x % 128) (decide (128 ≤ x)) = !decide (192 ≤ x ∧ x ≤ 223) :=
  of_decide_eq_true (byte_all (fun x => decide (tyB (x % 128) (decide (128 ≤ x)) = !decide (192 ≤ x ∧ x ≤ 223))) (by decide +kernel) x h0 h1)

set_option maxHeartbeats 1000000 in
theorem headErr_any (a : Option Addr) (len cap B : Nat) (xs : List Int) (w : World) (hl : len ≤ maxLen) (hr : Rd w B a len xs) (hB : B ≤ w.heap.size) :
    Calls Try.prog 35 #[.slice a len cap] w fun e w' => e = .returned (.int .i64 (hE xs)) ∧ Below w.heap.size w w' := by
  obtain ⟨hx, hby, hc⟩ := hr
  unfold maxLen at hl
  unfold hE
  rw [hx]
  by_cases h512 : 512 < len
  · rw [if_pos h512]
    have h' : (512 : Int) < len := by omega
    go_enter Try.func35, Try.ntmps35
    go_wp2
    go_ret
    exact ⟨rfl, Below.refl _ _⟩
  · rw [if_neg h512]
    have h5' : ¬ (512 : Int) < len := by omega
    by_cases h12 : len < 12
    · rw [if_pos h12]
      have h' : (len : Int) < 12 := by omega
      go_enter Try.func35, Try.ntmps35
      go_wp2
      go_ret
      exact ⟨rfl, Below.refl _ _⟩
    · rw [if_neg h12]
      have h12' : ¬ (len : Int) < 12 := by omega
      obtain ⟨b, off, rfl, hlt, hc⟩ := hc (by omega)
      have hb' : b < w.heap.size := by omega
      have c0 := hc 0 (by omega)
      have c1 := hc 1 (by omega)
      rw [Nat.add_zero] at c0
      have b0 := hby.getD 0
      have b1 := hby.getD 1
      generalize xs.getD 0 0 = x0 at *
      generalize xs.getD 1 0 = x1 at *
      have hp0 : 0 < len := by omega
      have hp1 : 1 < len := by omega
      have hi1 : (1 : Int) < len := by omega
      clear hc hx hby
      by_cases hv : x0 / 64 = 2
      · have hv' : (x0 / 64 != 2) = false := by rw [hv]; rfl
        rw [if_neg (by omega)]
        have CT : ∀ W, Calls Try.prog 25 #[.int .i64 (x1 % 128), .bool (decide (128 ≤ x1))] W fun e w' => e = .returned (.bool (!decide (192 ≤ x1 ∧ x1 ≤ 223))) ∧ W = w' := fun W => tyB_byte x1 b1.1 b1.2 ▸ typeMay_any (x1 % 128) (decide (128 ≤ x1)) W
        have e0 := and_127 x1 b1.1 b1.2
        have e1 := and_128 x1 b1.1 b1.2
        have e2 : IntKind.i64.wrap (x1 % 128) = x1 % 128 := IntWalk.i64_in _ (by omega)
        have HC1 : Hid (∀ W, Below w.heap.size w W → W.cell? ⟨b, off + 1, none⟩ = some (.int .u8 x1)) := fun W hW => (hW.cell (p := ⟨b, off + 1, none⟩) hb').trans c1
        clear c1
        have hfin : (if 192 ≤ x1 ∧ x1 ≤ 223 then (4 : Int) else 0) = if decide (192 ≤ x1 ∧ x1 ≤ 223) = true then 4 else 0 := by simp
        rw [hfin]
        clear hfin hv
        generalize decide (192 ≤ x1 ∧ x1 ≤ 223) = bad at CT ⊢
        generalize decide (128 ≤ x1) = mk at CT e1
        generalize x1 % 128 = lo at CT e0 e2
        have HT := Lib.hid CT
        clear CT
        go_enter Try.func35, Try.ntmps35
        go_wp2_with fail
        have hS : Below w.heap.size w w.drew := (Below.refl _ w).drew
        have c1 := HC1.out
        refine region_seq (fun W => Below w.heap.size w W) [(0, false), (1, false), (2, false), (3, false), (4, false), (5, false), (6, false), (7, false), (8, false), (9, false), (10, true), (11, false), (12, false)] (by kernel_rfl) (by kernel_rfl) rfl (by kernel_rfl) ?_
        iterate 10 (refine seq_read (v := _) rfl (fun _ _ _ h => h) hS (Or.inl ⟨by rfl, fun W hW => by go_simp <;> with_reducible rfl⟩) ?_; simp only [Act.put, List.setIfInBounds_toArray, List.set_cons_zero, List.set_cons_succ])
        refine seq_do rfl (fun K hK => ?_)
        go_simp
        refine (HT.out _).mono ?_
        rintro e w1 ⟨rfl, rfl⟩
        refine hK.out _ _ (fun W => Below w.heap.size w W) (fun W hW => hW) hS ?_
        clear hK K
        iterate 2 (refine seq_read (v := _) rfl (fun _ _ _ h => h) hS (Or.inl ⟨by rfl, fun W hW => by go_simp <;> with_reducible rfl⟩) ?_; simp only [Act.put, List.setIfInBounds_toArray, List.set_cons_zero, List.set_cons_succ])
        refine seq_end ?_
        clear c1 HC1
        rcases bad with _ | _
        · go_wp2
          go_ret
          exact ⟨rfl, hS⟩
        · go_wp2
          go_ret
          exact ⟨rfl, hS⟩
      · have hv' : (x0 / 64 != 2) = true := by simpa using hv
        rw [if_pos (by omega)]
        go_enter Try.func35, Try.ntmps35
        go_wp2
        go_ret
        exact ⟨rfl, Below.refl _ _⟩

/-- The padding of what is left, payload and padding, is as it should be. -/
def pdB (r : List Int) : Bool := decide (r.length ≠ 0) && decide (lastB r ≠ 0) && decide (lastB r ≤ r.length) && padZ r
def pdN (r : List Int) : Int := if pdB r then lastB r else 0

set_option maxHeartbeats 1000000 in
theorem padding_any (a : Option Addr) (len cap B : Nat) (xs : List Int) (w : World) (hl : len ≤ 512) (hlc : len ≤ cap) (hr : Rd w B a len xs) :
    Calls Try.prog 37 #[.slice a len cap] w fun e w' => e = .returned (.tuple #[.int .i64 (pdN xs), .bool (pdB xs)]) ∧ w = w' := by
  obtain ⟨hx, hby, hc⟩ := hr
  by_cases h0 : len = 0
  · have hp : pdB xs = false := by simp [pdB, hx, h0]
    have hi : (len : Int) = 0 := by omega
    rw [pdN, hp, if_neg (by decide)]
    go_enter Try.func37, Try.ntmps37
    go_wp2
    go_ret2
    exact ⟨rfl, rfl⟩
  · obtain ⟨b, off, rfl, hlt, hcell⟩ := hc (by omega)
    have hi0 : ¬ (len : Int) = 0 := by omega
    have cL := hcell (len - 1) (by omega)
    have bL := hby.getD (len - 1)
    have hlast : lastB xs = xs.getD (len - 1) 0 := by rw [lastB, hx]
    obtain ⟨p, hp⟩ : ∃ p, xs.getD (len - 1) 0 = p := ⟨_, rfl⟩
    rw [hp] at cL bL hlast
    have cL' : w.cell? ⟨b, off + (((len : Int) - 1).toNat), none⟩ = some (.int .u8 p) := by rw [show ((len : Int) - 1).toNat = len - 1 from by omega]; exact cL
    have e1 : IntKind.i64.wrap p = p := IntWalk.i64_in _ (by omega)
    have hi1 : ((len : Int) - 1).toNat < len := by omega
    by_cases hp0 : p = 0
    · have hq : pdB xs = false := by simp [pdB, hlast, hp0]
      rw [pdN, hq, if_neg (by decide)]
      have hz : (p == 0) = true := by simp [hp0]
      go_enter Try.func37, Try.ntmps37
      go_wp2
      go_ret2
      exact ⟨rfl, rfl⟩
    · by_cases hpl : (len : Int) < p
      · have hq : pdB xs = false := by simp [pdB, hlast, hx]; omega
        rw [pdN, hq, if_neg (by decide)]
        go_enter Try.func37, Try.ntmps37
        go_wp2
        go_ret2
        exact ⟨rfl, rfl⟩
      · obtain ⟨n, rfl⟩ := Int.eq_ofNat_of_zero_le bL.1
        have hq : pdB xs = ((xs.drop (len - n)).take (n - 1)).all (· == 0) := by
          rw [pdB, padZ, hlast, hx, Int.toNat_natCast, decide_eq_true (by omega), decide_eq_true (by omega), decide_eq_true (by omega)]; rfl
        rw [pdN, hlast, hq]
        have hn0 : n ≠ 0 := by omega
        have hnl : n ≤ len := by omega
        have hlen : ((xs.drop (len - n)).take (n - 1)).length = n - 1 := by rw [List.length_take, List.length_drop]; omega
        have HC : Hid (∀ k, k < n - 1 → w.cell? ⟨b, off + (len - n) + k, none⟩ = some (.int .u8 (((xs.drop (len - n)).take (n - 1)).getD k 0))) := fun k hk => by
          rw [Nat.add_assoc, hcell (len - n + k) (by omega), List.getD_eq_getElem?_getD, List.getD_eq_getElem?_getD, List.getElem?_take, if_pos hk, List.getElem?_drop]
        have HBY : Hid (Bytes ((xs.drop (len - n)).take (n - 1))) := (hby.drop _).take _
        generalize (xs.drop (len - n)).take (n - 1) = zs at *
        obtain ⟨o, ho⟩ : ∃ o, zs.all (· == 0) = o := ⟨_, rfl⟩
        rw [ho]
        obtain ⟨r, hr⟩ : ∃ r, (if o = true then (n : Int) else 0) = r := ⟨_, rfl⟩
        rw [hr]
        have HO := Lib.hid ho
        have HR := Lib.hid hr
        clear ho hr
        have HL := Lib.hid hlen
        clear hq hlen hlast hp hc hx hby hcell
        have d1 : (len : Int) - n = ((len - n : Nat) : Int) := by omega
        have d2 : (len : Int) - 1 = ((len - 1 : Nat) : Int) := by omega
        have d3 : len - 1 - (len - n) = n - 1 := by omega
        go_enter Try.func37, Try.ntmps37
        go_wp2
        go_loop [35] (fun j => ∃ k : Nat, k ≤ n - 1 ∧ j = .int .i64 k ∧ (zs.take k).all (· == 0) = true) (fun j => n - (intOf j).toNat)
        case atStart => exact ⟨0, by omega, rfl, rfl⟩
        case round =>
          obtain ⟨k, hk, rfl, hall⟩ := hrel
          by_cases hlt' : k < n - 1
          · have ck := HC.out k hlt'
            have hts : zs.take (k + 1) = zs.take k ++ [zs.getD k 0] := take_snoc k (by rw [HL.out]; exact hlt')
            obtain ⟨x, hxk⟩ : ∃ x, zs.getD k 0 = x := ⟨_, rfl⟩
            rw [hxk] at ck hts
            by_cases hx0 : x = 0
            · have hz : (x != 0) = false := by simp [hx0]
              have HT : Hid ((zs.take (k + 1)).all (· == 0) = true) := by rw [hts, List.all_append, hall, hx0]; rfl
              clear hts hxk hx0 hall
              go_wp2
              go_round
              case rel => exact ⟨k + 1, by omega, by go_num, HT.out⟩
              case measure => simp [intOf]; omega
            · have hz : (x != 0) = true := by simpa using hx0
              have HT := Lib.hid (show zs.all (· == 0) = false from by
                rw [← List.take_append_drop (k + 1) zs, List.all_append, hts, List.all_append]
                simp [hx0])
              clear hts hxk hx0 hall
              obtain rfl : o = false := HO.out.symm.trans HT.out
              obtain rfl : r = 0 := HR.out.symm.trans rfl
              clear HT HO HR
              go_wp2
              go_ret2
              exact ⟨rfl, rfl⟩
          · obtain rfl : k = n - 1 := by omega
            have HT : Hid (zs.all (· == 0) = true) := by
              rw [List.take_of_length_le (by rw [HL.out]; exact Nat.le_refl _)] at hall
              exact hall
            clear hall
            obtain rfl : o = true := HO.out.symm.trans HT.out
            obtain rfl : r = n := HR.out.symm.trans rfl
            clear HT HO HR
            go_wp2
            go_ret2
            exact ⟨rfl, rfl⟩
end Go.Proofs.Ytiamdaeodkiccaa.Rtp
