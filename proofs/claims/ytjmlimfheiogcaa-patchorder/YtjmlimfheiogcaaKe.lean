/- The contracts of rtp.lay, Offset. · The contracts of rtp.lay whatever the bytes, of rtp.Offset. -/
import Derived.Test.YtjmlimfheiogcaaKc
namespace Go.Proofs.Ytjmlimfheiogcaa.Rtp
open Go.RowKit
set_option linter.unusedVariables false

abbrev L0 : Obj := .cells #[.int .i64 0, .int .i64 0, .int .i64 0, .int .i64 0] 73
set_option maxHeartbeats 1000000 in
theorem lay_head (a : Option Addr) (len cap : Nat) (n : Int) (w : World) (hn : (n != 0) = true)
    (CH : Hid (∀ W, Below w.heap.size w W → Calls Try.prog 48 #[.slice a len cap] W fun e w' => e = .returned (.int .i64 n) ∧ Below W.heap.size W w')) :
    Calls Try.prog 36 #[.slice a len cap] w (RetL w 0 0 0 0 n) := by
  go_enter Try.func36, Try.ntmps36
  go_wp2_with fail
  have hb0 := (Below.refl w.heap.size w).alloc (Nat.le_refl _) L0
  refine (CH.out _ hb0).mono ?_
  rintro e w1 ⟨rfl, hb1⟩
  have D1 : LBlk w1 w.heap.size 0 0 0 0 := (LBlk.new w 0 0 0 0).below hb1 (by simp)
  have hb : Below w.heap.size w w1 := hb0.trans (hb1.mono (by simp))
  clear hb1 hb0 CH
  have f0 := D1.c0
  have f1 := D1.c1
  have f2 := D1.c2
  have f3 := D1.c3
  have g0 := D1.frozen 0
  have g1 := D1.frozen 1
  have g2 := D1.frozen 2
  have g3 := D1.frozen 3
  go_wp2
  exact retL_at (D1.store 0 0 0 0) (below_store hb (Nat.le_refl _) _ _ _ _)

set_option maxHeartbeats 1000000 in
theorem lay_short (a : Option Addr) (len cap : Nat) (c x f : Int) (w : World)
    (CH : Hid (∀ W, Below w.heap.size w W → Calls Try.prog 48 #[.slice a len cap] W fun e w' => e = .returned (.int .i64 0) ∧ Below W.heap.size W w'))
    (CU : Hid (∀ W, Below w.heap.size w W → Calls Try.prog 49 #[.slice a len cap] W (RetU W c x f 0 false))) :
    Calls Try.prog 36 #[.slice a len cap] w (RetL w 0 0 0 0 2) := by
  go_enter Try.func36, Try.ntmps36
  go_wp2_with fail
  have hb0 := (Below.refl w.heap.size w).alloc (Nat.le_refl _) L0
  refine (CH.out _ hb0).mono ?_
  rintro e w1 ⟨rfl, hb1⟩
  have D1 : LBlk w1 w.heap.size 0 0 0 0 := (LBlk.new w 0 0 0 0).below hb1 (by simp)
  have hb : Below w.heap.size w w1 := hb0.trans (hb1.mono (by simp))
  clear hb1 hb0 CH
  go_wp2_with fail
  refine (CU.out _ hb).mono ?_
  rintro e w2 ⟨rfl, hb2⟩
  have D2 : LBlk w2 w.heap.size 0 0 0 0 := D1.below hb2 D1.lt
  have hbb : Below w.heap.size w w2 := hb.trans (hb2.mono hb.size)
  clear hb hb2 D1 CU
  have D3 := D2.below ((Below.refl w2.heap.size w2).alloc (Nat.le_refl _) (.cells #[.int .i64 c, .int .i64 x, .int .i64 f, .int .i64 0] 73)) D2.lt
  have f0 := D3.c0
  have f1 := D3.c1
  have f2 := D3.c2
  have f3 := D3.c3
  have g0 := D3.frozen 0
  have g1 := D3.frozen 1
  have g2 := D3.frozen 2
  have g3 := D3.frozen 3
  go_wp2
  exact retL_at (D3.store 0 0 0 0) (below_store (hbb.alloc hbb.size _) (Nat.le_refl _) _ _ _ _)

set_option maxHeartbeats 1000000 in
theorem lay_plain (b off len cap : Nat) (x0 c x f : Int) (w : World) (hp0 : 0 < len) (hl : len ≤ 512) (hx : (bits BinOp.and IntKind.u8 x0 32 != 0) = false)
    (C0 : Hid (∀ W, Below w.heap.size w W → W.cell? ⟨b, off, none⟩ = some (.int .u8 x0)))
    (CH : Hid (∀ W, Below w.heap.size w W → Calls Try.prog 48 #[.slice (some ⟨b, off, none⟩) len cap] W fun e w' => e = .returned (.int .i64 0) ∧ Below W.heap.size W w'))
    (CU : Hid (∀ W, Below w.heap.size w W → Calls Try.prog 49 #[.slice (some ⟨b, off, none⟩) len cap] W (RetU W c x f 0 true))) :
    Calls Try.prog 36 #[.slice (some ⟨b, off, none⟩) len cap] w (RetL w c x f len 0) := by
  go_enter Try.func36, Try.ntmps36
  go_wp2_with fail
  have hb0 := (Below.refl w.heap.size w).alloc (Nat.le_refl _) L0
  refine (CH.out _ hb0).mono ?_
  rintro e w1 ⟨rfl, hb1⟩
  have D1 : LBlk w1 w.heap.size 0 0 0 0 := (LBlk.new w 0 0 0 0).below hb1 (by simp)
  have hb : Below w.heap.size w w1 := hb0.trans (hb1.mono (by simp))
  clear hb1 hb0 CH
  go_wp2_with fail
  refine (CU.out _ hb).mono ?_
  rintro e w2 ⟨rfl, hb2⟩
  have D2 : LBlk w2 w.heap.size 0 0 0 0 := D1.below hb2 D1.lt
  have hbb : Below w.heap.size w w2 := hb.trans (hb2.mono hb.size)
  clear hb hb2 D1 CU
  have hne : w2.heap.size ≠ w.heap.size := Nat.ne_of_gt D2.lt
  have D3 := D2.below ((Below.refl w2.heap.size w2).alloc (Nat.le_refl _) (.cells #[.int .i64 c, .int .i64 x, .int .i64 f, .int .i64 len] 73)) D2.lt
  have E3 := LBlk.new w2 c x f len
  have hb3 := hbb.alloc hbb.size (.cells #[.int .i64 c, .int .i64 x, .int .i64 f, .int .i64 len] 73)
  have hqq := hbb.size
  have k0 := C0.out _ hb3
  have k1 := E3.c0
  have k2 := E3.c1
  have k3 := E3.c2
  have k4 := E3.c3
  have f0 := D3.c0
  have f1 := D3.c1
  have f2 := D3.c2
  have f3 := D3.c3
  have g0 := D3.frozen 0
  have g1 := D3.frozen 1
  have g2 := D3.frozen 2
  have g3 := D3.frozen 3
  clear C0
  go_wp2
  exact retL_at (D3.store c x f len) (below_store hb3 (Nat.le_refl _) _ _ _ _)

set_option maxHeartbeats 1000000 in
theorem lay_pad (b off len cap : Nat) (x0 c x : Int) (f : Nat) (w : World) (hp0 : 0 < len) (hl : len ≤ 512) (hlc : len ≤ cap) (hf : f ≤ len) (hx : (bits BinOp.and IntKind.u8 x0 32 != 0) = true)
    (C0 : Hid (∀ W, Below w.heap.size w W → W.cell? ⟨b, off, none⟩ = some (.int .u8 x0)))
    (CH : Hid (∀ W, Below w.heap.size w W → Calls Try.prog 48 #[.slice (some ⟨b, off, none⟩) len cap] W fun e w' => e = .returned (.int .i64 0) ∧ Below W.heap.size W w'))
    (CU : Hid (∀ W, Below w.heap.size w W → Calls Try.prog 49 #[.slice (some ⟨b, off, none⟩) len cap] W (RetU W c x f 0 true))) (p : Int) (ok : Bool) (hpd : 0 ≤ p ∧ p ≤ 512)
    (CP : Hid (∀ W X, Below w.heap.size w W → (cap ≠ f → X = some ⟨b, off + f, none⟩) → Calls Try.prog 50 #[.slice X (len - f) (cap - f)] W fun e w' => e = .returned (.tuple #[.int .i64 p, .bool ok]) ∧ W = w')) :
    Calls Try.prog 36 #[.slice (some ⟨b, off, none⟩) len cap] w (if ok then RetL w c x f (len - p) 0 else RetL w 0 0 0 0 1) := by
  by_cases hcf : cap = f
  case' pos => have hcf' := eq_true hcf
  case' neg => have hcf' := eq_false hcf
  all_goals
    have HCF := Lib.hid hcf
    clear hcf
    rcases ok with _ | _
    case' false => rw [if_neg (by decide)]
    case' true => rw [if_pos rfl]
    all_goals
      go_enter Try.func36, Try.ntmps36
      go_wp2_with fail
      have hb0 := (Below.refl w.heap.size w).alloc (Nat.le_refl _) L0
      refine (CH.out _ hb0).mono ?_
      rintro e w1 ⟨rfl, hb1⟩
      have D1 : LBlk w1 w.heap.size 0 0 0 0 := (LBlk.new w 0 0 0 0).below hb1 (by simp)
      have hb : Below w.heap.size w w1 := hb0.trans (hb1.mono (by simp))
      clear hb1 hb0 CH
      go_wp2_with fail
      refine (CU.out _ hb).mono ?_
      rintro e w2 ⟨rfl, hb2⟩
      have D2 : LBlk w2 w.heap.size 0 0 0 0 := D1.below hb2 D1.lt
      have hbb : Below w.heap.size w w2 := hb.trans (hb2.mono hb.size)
      clear hb hb2 D1 CU
      have hne : w2.heap.size ≠ w.heap.size := Nat.ne_of_gt D2.lt
      have D3 := D2.below ((Below.refl w2.heap.size w2).alloc (Nat.le_refl _) (.cells #[.int .i64 c, .int .i64 x, .int .i64 f, .int .i64 len] 73)) D2.lt
      have E3 := LBlk.new w2 c x f len
      have hb3 := hbb.alloc hbb.size (.cells #[.int .i64 c, .int .i64 x, .int .i64 f, .int .i64 len] 73)
      have hqq := hbb.size
      have k0 := C0.out _ hb3
      have k3 := E3.c2
      have k4 := E3.c3
      clear C0
      go_wp2_with fail
      clear k0 k3 k4
      generalize w2.alloc (.cells #[.int .i64 c, .int .i64 x, .int .i64 f, .int .i64 len] 73) = w3 at *
      generalize w2.heap.size = q at *
      refine (CP.out _ _ hb3 ?_).mono ?_
      · intro h
        first
          | exact absurd HCF.out h
          | rfl
      rintro e w' ⟨rfl, rfl⟩
      clear CP
      first
        | (have f0 := D3.c0
           have f1 := D3.c1
           have f2 := D3.c2
           have f3 := D3.c3
           have g0 := D3.frozen 0
           have g1 := D3.frozen 1
           have g2 := D3.frozen 2
           have g3 := D3.frozen 3
           go_wp2
           exact retL_at (D3.store 0 0 0 0) (below_store hb3 (Nat.le_refl _) _ _ _ _))
        | (have k3 := E3.c3
           have j3 := E3.frozen 3
           have E4 := E3.set3 (len - p)
           have D4 := D3.off (p := ⟨q, 3, none⟩) hne (.int .i64 (len - p))
           have hb4 := hb3.setCell (p := ⟨q, 3, none⟩) hqq (.int .i64 (len - p))
           have k1 := E4.c0
           have k2 := E4.c1
           have k3' := E4.c2
           have k4 := E4.c3
           have f0 := D4.c0
           have f1 := D4.c1
           have f2 := D4.c2
           have f3 := D4.c3
           have g0 := D4.frozen 0
           have g1 := D4.frozen 1
           have g2 := D4.frozen 2
           have g3 := D4.frozen 3
           go_wp2
           exact retL_at (D4.store c x f (len - p)) (below_store hb4 (Nat.le_refl _) _ _ _ _))
end Go.Proofs.Ytjmlimfheiogcaa.Rtp

namespace Go.Proofs.Ytjmlimfheiogcaa.Rtp
open Go.RowKit
set_option linter.unusedVariables false

theorem lastB_drop (b : List Int) (i : Nat) (h : i < b.length) : lastB (b.drop i) = lastB b := by
  unfold lastB
  rw [List.length_drop, List.getD_eq_getElem?_getD, List.getD_eq_getElem?_getD, List.getElem?_drop, show i + (b.length - i - 1) = b.length - 1 from by omega]
theorem badPad_eq (b : List Int) (hb : Bytes b) (h : at2 b ≤ b.length) : badPad b = (hasP b && !pdB (b.drop (at2 b))) := by
  unfold badPad pdB
  congr 1
  rw [List.length_drop]
  rcases Nat.lt_or_ge (at2 b) b.length with hlt | hge
  · have hl : lastB (b.drop (at2 b)) = lastB b := lastB_drop b _ hlt
    have hbd := hb.getD (b.length - 1)
    have hbd' : 0 ≤ lastB b ∧ lastB b ≤ 255 := hbd
    rw [hl, decide_eq_false (show ¬ at2 b = b.length by omega), decide_eq_true (show b.length - at2 b ≠ 0 by omega), Bool.false_or, Bool.true_and]
    by_cases h0 : lastB b = 0
    · simp [h0]
    · by_cases h1 : ((b.length - at2 b : Nat) : Int) < lastB b
      · rw [decide_eq_true h1, decide_eq_false (show ¬ lastB b ≤ ((b.length - at2 b : Nat) : Int) by omega)]; simp
      · rw [decide_eq_false h1, decide_eq_true (show lastB b ≤ ((b.length - at2 b : Nat) : Int) by omega), decide_eq_false h0, decide_eq_true (show lastB b ≠ 0 from h0)]
        have : padZ (b.drop (at2 b)) = padZ b := by
          unfold padZ
          rw [hl, List.length_drop, List.drop_drop, show at2 b + (b.length - at2 b - (lastB b).toNat) = b.length - (lastB b).toNat from by omega]
        rw [this]; rfl
  · have : at2 b = b.length := by omega
    rw [this]; simp
theorem pE_head (b : List Int) (h : hE b ≠ 0) : pE b = hE b := by
  unfold hE at h ⊢
  unfold pE
  by_cases h1 : 512 < b.length
  · rw [if_pos h1, if_pos h1]
  · rw [if_neg h1] at h ⊢
    rw [if_neg h1]
    by_cases h2 : b.length < 12
    · rw [if_pos h2, if_pos h2]
    · rw [if_neg h2] at h ⊢
      rw [if_neg h2]
      by_cases h3 : b.getD 0 0 / 64 ≠ 2
      · rw [if_pos h3, if_pos h3]
      · rw [if_neg h3] at h ⊢
        rw [if_neg h3]
        by_cases h4 : 192 ≤ b.getD 1 0 ∧ b.getD 1 0 ≤ 223
        · rw [if_pos h4, if_pos h4]
        · rw [if_neg h4] at h; exact absurd rfl h
theorem hE_ok {b : List Int} (h : hE b = 0) : b.length ≤ 512 ∧ 12 ≤ b.length ∧ b.getD 0 0 / 64 = 2 ∧ ¬ (192 ≤ b.getD 1 0 ∧ b.getD 1 0 ≤ 223) := by
  unfold hE at h
  split at h
  · cases h
  · split at h
    · cases h
    · split at h
      · cases h
      · split at h
        · cases h
        · rename_i h1 h2 h3 h4
          exact ⟨by omega, by omega, by omega, h4⟩
theorem pE_tail (b : List Int) (hb : Bytes b) (h : hE b = 0) : pE b = if inB b = false then 2 else if (hasP b && !pdB (b.drop (at2 b))) = true then 1 else 0 := by
  obtain ⟨h1, h2, h3, h4⟩ := hE_ok h
  rw [pE, if_neg (by omega), if_neg (by omega), if_neg (by omega), if_neg h4]
  by_cases k1 : b.length < at1 b
  · have hi : inB b = false := by rw [inB, decide_eq_false (by omega)]; rfl
    rw [if_pos k1, if_pos hi]
  · rw [if_neg k1]
    by_cases k2 : hasX b = true ∧ b.length < at1 b + 4
    · have hi : inB b = false := by rw [inB, k2.1, decide_eq_false (show ¬ at1 b + 4 ≤ b.length by omega)]; simp
      rw [if_pos k2, if_pos hi]
    · rw [if_neg k2]
      by_cases k3 : b.length < at2 b
      · have hi : inB b = false := by rw [inB, decide_eq_false (show ¬ at2 b ≤ b.length by omega)]; simp
        rw [if_pos k3, if_pos hi]
      · have hi : ¬ inB b = false := by
          rw [inB, decide_eq_true (show at1 b ≤ b.length by omega), decide_eq_true (show at2 b ≤ b.length by omega)]
          cases hx : hasX b
          · simp
          · rw [decide_eq_true (show at1 b + 4 ≤ b.length from Nat.le_of_not_lt fun q => k2 ⟨hx, q⟩)]; simp
        rw [if_neg k3, if_neg hi, badPad_eq b hb (by omega)]
theorem padding_off (b : List Int) (hb : Bytes b) (h : at2 b ≤ b.length) (hp : hasP b = true) (hk : pdB (b.drop (at2 b)) = true) : pdN (b.drop (at2 b)) = (padN b : Int) := by
  rw [pdN, hk, if_pos rfl, padN, hp, if_pos rfl]
  have hlt : at2 b < b.length := by
    rcases Nat.lt_or_ge (at2 b) b.length with h' | h'
    · exact h'
    · rw [List.drop_of_length_le h'] at hk; cases hk
  have := hb.getD (b.length - 1)
  rw [lastB_drop b _ hlt]
  have h2 : 0 ≤ lastB b := this.1
  omega

/-- Where the parts end, once nothing is wrong. -/
def gC (b : List Int) : Int := if pE b = 0 then at1 b else 0
def gX (b : List Int) : Int := if pE b = 0 then lX b else 0
def gF (b : List Int) : Int := if pE b = 0 then at2 b else 0
def gT (b : List Int) : Int := if pE b = 0 then (b.length : Int) - padN b else 0

theorem lay_any (a : Option Addr) (len cap B : Nat) (xs : List Int) (w : World) (hl : len ≤ maxLen) (hlc : len ≤ cap) (hr : Rd w B a len xs) (hB : B ≤ w.heap.size) :
    Calls Try.prog 36 #[.slice a len cap] w (RetL w (gC xs) (gX xs) (gF xs) (gT xs) (pE xs)) := by
  have CH := fun W (hW : Below w.heap.size w W) => headErr_any a len cap B xs W hl (hr.below (hW.mono hB)) (Nat.le_trans hB hW.size)
  have hby := hr.2.1
  unfold gC gX gF gT
  by_cases hh : hE xs = 0
  · obtain ⟨h1, h2, h3, h4⟩ := hE_ok hh
    have hx := hr.1
    have hp := pE_tail xs hby hh
    rw [hh] at CH
    have CU := fun W (hW : Below w.heap.size w W) => upTo_any a len cap B xs W (by omega) (by omega) hlc (hr.below (hW.mono hB)) (Nat.le_trans hB hW.size)
    rcases hi : inB xs with _ | _
    · rw [hi, if_pos rfl] at hp
      rw [hi] at CU
      rw [hp]
      exact lay_short a len cap _ _ _ w CH CU
    · rw [hi, if_neg (by decide)] at hp
      have hu := uS_in hi
      rw [hi] at CU
      unfold uC uX uF at CU
      rw [hu] at CU
      simp only [Bool.false_eq_true, if_false] at CU
      have ha2 : at2 xs ≤ xs.length := by
        simp only [inB, Bool.and_eq_true, decide_eq_true_eq] at hi; exact hi.2
      obtain ⟨b, off, rfl, hlt, hcell⟩ := hr.2.2 (by omega)
      have h0 := hcell 0 (by omega)
      rw [Nat.add_zero] at h0
      have b0 := hby.getD 0
      have hxx := and_32 _ b0.1 b0.2
      have C0 : ∀ W, Below w.heap.size w W → W.cell? ⟨b, off, none⟩ = some (.int .u8 (xs.getD 0 0)) := fun W hW => (hW.cell (p := ⟨b, off, none⟩) (show b < w.heap.size by omega)).trans h0
      rcases hP : hasP xs with _ | _
      · have hx' : (bits BinOp.and IntKind.u8 (xs.getD 0 0) 32 != 0) = false := by rw [hxx]; exact hP
        rw [hP, Bool.false_and, if_neg (by decide)] at hp
        have hpn : padN xs = 0 := by rw [padN, hP]; rfl
        rw [hp, hpn, hx]
        have := lay_plain b off len cap _ _ _ _ w (by omega) (by omega) hx' C0 CH CU
        simpa using this
      · have hx' : (bits BinOp.and IntKind.u8 (xs.getD 0 0) 32 != 0) = true := by rw [hxx]; exact hP
        rw [hP, Bool.true_and] at hp
        have hpdb : 0 ≤ pdN (xs.drop (at2 xs)) ∧ pdN (xs.drop (at2 xs)) ≤ 512 := by
          have := (hby.drop (at2 xs)).getD ((xs.drop (at2 xs)).length - 1)
          unfold pdN lastB; split <;> omega
        have L := lay_pad b off len cap _ (at1 xs) (lX xs) (at2 xs) w (by omega) (by omega) hlc (by omega) hx' C0 CH CU (pdN (xs.drop (at2 xs))) (pdB (xs.drop (at2 xs))) hpdb (fun W X hW hX => by
          refine padding_any X (len - at2 xs) (cap - at2 xs) B (xs.drop (at2 xs)) W (by omega) (by omega) ?_
          have hr' := hr.below (hW.mono hB)
          by_cases hc : cap = at2 xs
          · exact hr'.end_ (by omega) X
          · rw [hX hc]; exact hr'.drop (by omega))
        rcases hk : pdB (xs.drop (at2 xs)) with _ | _
        · rw [hk] at hp L
          simp only [Bool.not_false, if_true] at hp
          rw [hp]
          simpa using L
        · rw [hk] at hp L
          simp only [Bool.not_true, Bool.false_eq_true, if_false] at hp
          rw [hp]
          rw [padding_off xs hby ha2 hP hk] at L
          simp only [if_true] at L ⊢
          rw [hx]
          exact L
  · have hne : pE xs ≠ 0 := by rw [pE_head xs hh]; exact hh
    simp only [hne, if_false]
    rw [pE_head xs hh]
    exact lay_head a len cap _ w (by simpa using hh) CH

def RetO (w : World) (f t n : Int) (e : Ending) (w' : World) : Prop := e = .returned (.tuple #[.int .i64 f, .int .i64 t, .int .i64 n]) ∧ Below w.heap.size w w'
set_option maxHeartbeats 1000000 in
theorem offset_any (a : Option Addr) (len cap B : Nat) (xs : List Int) (w : World) (hl : len ≤ maxLen) (hlc : len ≤ cap) (hr : Rd w B a len xs) (hB : B ≤ w.heap.size) :
    Calls Try.prog 22 #[.slice a len cap] w (RetO w (gF xs) (gT xs) (pE xs)) := by
  have C := lay_any a len cap B xs w hl hlc hr hB
  generalize gC xs = c at C
  generalize gX xs = x at C
  generalize gF xs = f at C ⊢
  generalize gT xs = t at C ⊢
  generalize pE xs = n at C ⊢
  have HC := Lib.hid C
  clear C hr
  go_enter Try.func22, Try.ntmps22
  go_wp2_with fail
  refine HC.out.mono ?_
  rintro e w1 ⟨rfl, hb1⟩
  go_wp2_with fail
  have E1 := LBlk.new w1 c x f t
  have hb2 := hb1.alloc hb1.size (.cells #[.int .i64 c, .int .i64 x, .int .i64 f, .int .i64 t] 73)
  generalize w1.alloc (.cells #[.int .i64 c, .int .i64 x, .int .i64 f, .int .i64 t] 73) = w2 at *
  generalize w1.heap.size = q at *
  have hS : LBlk w2.drew q c x f t := E1
  have c2 : ∀ W, LBlk W q c x f t → W.cell? ⟨q, 2, none⟩ = some (.int .i64 f) := fun W h => h.c2
  have c3 : ∀ W, LBlk W q c x f t → W.cell? ⟨q, 3, none⟩ = some (.int .i64 t) := fun W h => h.c3
  refine region_seq (fun W => LBlk W q c x f t) [(0, false), (1, false), (2, false), (3, false), (4, false), (5, false), (6, false), (7, false)] (by kernel_rfl) (by kernel_rfl) rfl (by kernel_rfl) ?_
  iterate 8 (refine seq_read (v := _) rfl (fun _ _ _ h => h) hS (Or.inl ⟨by rfl, fun W hW => by go_simp <;> with_reducible rfl⟩) ?_; simp only [Act.put, List.setIfInBounds_toArray, List.set_cons_zero, List.set_cons_succ])
  refine seq_end ?_
  clear c2 c3
  go_wp2
  exact bodyPost_ret (v := .tuple #[.int .i64 f, .int .i64 t, .int .i64 n]) (by simp [results, Try.results22, go_sem]) rfl ⟨rfl, hb2.drew⟩
end Go.Proofs.Ytjmlimfheiogcaa.Rtp
