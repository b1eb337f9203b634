/- The reference's GetDesc whatever the bytes; the walk of DescAll. -/
import Derived.Test.YtdnnfoacpjgloaaDj
import Derived.Lib.Bytes
set_option maxRecDepth 100000
namespace Go.Proofs.Ytdnnfoacpjgloaa
open Go.RowKit
set_option linter.unusedVariables false

theorem bytesOf_inj : ∀ {xs ys : List Int}, Bytes xs → Bytes ys → Lib.bytesOf xs = Lib.bytesOf ys → xs = ys
  | [], [], _, _, _ => rfl
  | [], y :: ys, _, _, h => by simp [Lib.bytesOf] at h
  | x :: xs, [], _, _, h => by simp [Lib.bytesOf] at h
  | x :: xs, y :: ys, hx, hy, h => by
    simp only [Lib.bytesOf, List.map_cons, List.cons.injEq] at h
    have a := hx x (by simp)
    have b := hy y (by simp)
    have h1 := congrArg UInt8.toNat h.1
    rw [UInt8.toNat_ofNat', UInt8.toNat_ofNat'] at h1
    rw [bytesOf_inj (fun z hz => hx z (by simp [hz])) (fun z hz => hy z (by simp [hz])) h.2, show x = y from by omega]
theorem str_ne {xs ys : List Int} (hx : Bytes xs) (hy : Bytes ys) (h : xs ≠ ys) : ((strOfNums xs).toList == (strOfNums ys).toList) = false := by
  rw [Lib.strOfNums_toList, Lib.strOfNums_toList]
  exact beq_eq_false_iff_ne.2 fun e => h (bytesOf_inj hx hy e)

theorem rputV_bytes (l : Int) (k s : Bool) (f : Int) (hf0 : 0 ≤ f) (hf : f ≤ 65535) : Bytes (rputV l k s f) := by
  unfold rputV
  split
  · rename_i h
    exact putV_bytes l k s f (mayB_t h).1 (mayB_t h).2 hf0 hf
  · exact Bytes.nil
theorem rput_form {x0 x1 x2 x3 : Int} (b2 : 0 ≤ x2 ∧ x2 ≤ 255) (b3 : 0 ≤ x3 ∧ x3 ≤ 255) : (rputV (x0 % 4) (keyV x0) (staV x0) (x2 * 256 + x3) = [x0, x1, x2, x3]) ↔ formB x0 x1 = true := by
  unfold rputV formB
  rcases mayB (x0 % 4) with _ | _
  · simp
  · rw [if_pos rfl, putV, show (x2 * 256 + x3) / 256 = x2 from by omega, show (x2 * 256 + x3) % 256 = x3 from by omega]
    simp only [List.cons.injEq, and_true, Bool.true_and, Bool.and_eq_true, beq_iff_eq]
    exact ⟨fun h => ⟨h.1, h.2.symm⟩, fun h => ⟨h.1, h.2.symm⟩⟩

theorem rget_any (a : Option Addr) (len cap B : Nat) (xs : List Int) (w : World) (hl : len ≤ maxLen) (hlc : len ≤ cap) (hr : Rd w B a len xs) (hB : B ≤ w.heap.size) :
    Calls Try.prog 57 #[.slice a len cap] w (RetG w (gL xs) (gK xs) (gS xs) (gF xs) (gE xs)) := by
  have hx := hr.1
  rcases Nat.lt_or_ge len 4 with h4 | h4
  · have ho : gOk xs = false := by simp [gOk]; omega
    have he : gE xs = 2 := by rw [gE, if_pos (by omega)]
    rw [gL, gK, gS, gF, ho, he]
    exact rget_short a len cap w h4
  · obtain ⟨b, off, rfl, hb, hc⟩ := hr.2.2 (by omega)
    have hb' : b < w.heap.size := by omega
    have b0 := hr.2.1.getD 0
    have b1 := hr.2.1.getD 1
    have b2 := hr.2.1.getD 2
    have b3 := hr.2.1.getD 3
    have h0 := hc 0 (by omega)
    have h2 := hc 2 (by omega)
    have h3 := hc 3 (by omega)
    rw [Nat.add_zero] at h0
    have R4 := (hr.take h4).more hB
    have hz : xs.take 4 = [xs.getD 0 0, xs.getD 1 0, xs.getD 2 0, xs.getD 3 0] := by
      match xs, hx with
      | a :: b :: c :: d :: r, _ => rfl
      | [], h | [_], h | [_, _], h | [_, _, _], h => simp at h; omega
    rw [hz] at R4
    have ho : gOk xs = formB (xs.getD 0 0) (xs.getD 1 0) := by rw [gOk, decide_eq_true (by omega), Bool.true_and]
    have he : gE xs = if formB (xs.getD 0 0) (xs.getD 1 0) then 0 else 1 := by rw [gE, if_neg (by omega)]
    rw [gL, gK, gS, gF, ho, he]
    clear ho he hc hz
    generalize xs.getD 0 0 = x0 at *
    generalize xs.getD 1 0 = x1 at *
    generalize xs.getD 2 0 = x2 at *
    generalize xs.getD 3 0 = x3 at *
    have C0 : Hid (∀ W, Below w.heap.size w W → W.cell? ⟨b, off, none⟩ = some (.int .u8 x0)) := fun W hW => (hW.cell (p := ⟨b, off, none⟩) hb').trans h0
    have C2 : Hid (∀ W, Below w.heap.size w W → W.cell? ⟨b, off + 2, none⟩ = some (.int .u8 x2)) := fun W hW => (hW.cell (p := ⟨b, off + 2, none⟩) hb').trans h2
    have C3 : Hid (∀ W, Below w.heap.size w W → W.cell? ⟨b, off + 3, none⟩ = some (.int .u8 x3)) := fun W hW => (hW.cell (p := ⟨b, off + 3, none⟩) hb').trans h3
    have CP : Hid (∀ W, Calls Try.prog 43 #[dsc (x0 % 4) (keyV x0) (staV x0) (x2 * 256 + x3)] W (NewRow W (rputV (x0 % 4) (keyV x0) (staV x0) (x2 * 256 + x3)))) := fun W => rput_any _ _ _ _ W (by omega) (by omega)
    have hfm := rput_form (x0 := x0) (x1 := x1) b2 b3
    rcases hf : formB x0 x1 with _ | _
    · have hne : rputV (x0 % 4) (keyV x0) (staV x0) (x2 * 256 + x3) ≠ [x0, x1, x2, x3] := fun h => by rw [hfm.1 h] at hf; cases hf
      exact rget_no b off len cap x0 x1 x2 x3 _ _ w hl hlc h4 hb' C0 C2 C3 b0 b2 b3 R4 CP (str_ne (rputV_bytes _ _ _ _ (by omega) (by omega)) (four b0 b1 b2 b3) hne)
    · exact rget_yes b off len cap x0 x1 x2 x3 _ _ w hl hlc h4 hb' C0 C2 C3 b0 b2 b3 R4 CP (hfm.2 hf)

theorem put_any (l : Int) (k s : Bool) (f : Int) (w : World) (hf0 : 0 ≤ f) (hf : f ≤ 65535) :
    Calls Try.prog 46 #[dsc l k s f] w (NewRow w (rputV l k s f)) := by
  unfold rputV
  rcases hm : mayB l with _ | _
  · rw [if_neg (by decide)]
    refine (put_no l k s f w hm).mono ?_
    rintro e w1 ⟨rfl, hb1⟩
    exact ⟨none, 0, rfl, Own.nil _ _, hb1⟩
  · rw [if_pos rfl]
    refine (put_yes l k s f w (mayB_t hm).1 (mayB_t hm).2 hf0 hf).mono ?_
    rintro e w1 ⟨g, rfl, hg, hk, hb1⟩
    exact ⟨_, 4, rfl, Own.of_blk hk hg (putV_bytes l k s f (mayB_t hm).1 (mayB_t hm).2 hf0 hf) rfl (show 4 ≤ maxLen by decide), hb1⟩

end Go.Proofs.Ytdnnfoacpjgloaa
