/- The contracts of rtp.May, Size, Put, Get, whatever comes in. -/
import Derived.Test.YtiamdaeodkiccaaKr
import Derived.Test.YtiamdaeodkiccaaKh
import Derived.Test.YtiamdaeodkiccaaPt
namespace Go.Proofs.Ytiamdaeodkiccaa.Rtp
open Go.RowKit
set_option linter.unusedVariables false

theorem mayV_of (p : Pkt) (l : Loc) : mayV (pvOf p l) = mayPB p := by
  unfold mayV mayPB tyB extV pvOf
  generalize p.ext.length = en
  generalize p.csrc.length = cn
  cases p.mrk <;> cases p.he <;> rw [Bool.eq_iff_iff] <;> simp <;> omega
theorem lenV_of (p : Pkt) (l : Loc) : lenV (pvOf p l) = lenP p := by
  unfold lenV lenP pvOf
  cases p.he <;> simp <;> omega
theorem sizeV_of (p : Pkt) (l : Loc) : sizeV (pvOf p l) = sizeP p := by rw [sizeV, sizeP, mayV_of, lenV_of]

section
variable {w : World} {B : Nat} {p : Pkt} {l : Loc}
theorem may_pkt (w : World) (p : Pkt) (l : Loc) (hr : p.ext.length ≤ 140737488351232) : Calls Try.prog 13 #[pkt (pvOf p l)] w (RetB w (mayPB p)) := mayV_of p l ▸ may_any (pvOf p l) w hr
theorem size_pkt (w : World) (p : Pkt) (l : Loc) (he : p.ext.length ≤ 140737488351232) (hp : p.pay.length ≤ 140737488351232) : Calls Try.prog 15 #[pkt (pvOf p l)] w (RetI w (sizeP p)) := sizeV_of p l ▸ size_any (pvOf p l) w he hp

theorem put_pkt (w : World) (p : Pkt) (l : Loc) (ho : p.Ok) (hr : PRd w B p l) (hB : B ≤ w.heap.size) : Calls Try.prog 11 #[pkt (pvOf p l)] w (RetR w (putB p) (putE p)) := by
  have hr := hr.more hB
  have CS := fun W => size_pkt W p l hr.en hr.pn
  unfold putB putE
  unfold sizeP at CS
  cases hm : mayPB p
  · rw [hm] at CS
    exact put_none (pvOf p l) w CS
  · rw [hm, if_pos rfl] at CS
    rw [if_pos rfl, if_pos rfl]
    have hmay := (mayPB_iff p).1 hm
    by_cases h512 : 512 < lenP p
    · rw [if_pos h512, if_pos h512]
      exact put_more (pvOf p l) (lenP p) w h512 CS
    · rw [if_neg h512, if_neg h512]
      have hle := lenP_eq p hmay
      obtain ⟨N, hN⟩ : ∃ N : Nat, (N : Int) = lenP p := ⟨(enc p).length, hle⟩
      rw [← hN] at CS
      obtain ⟨r1, r2, r3, r4, r5, r6⟩ := row_lens p N hmay hN
      have e5 := row5_eq p N hmay hN
      have hlen := enc_length p hmay
      have hl12 := headB_length p
      have hp0 := hmay.pad0
      have hfirst : firstV (pvOf p l) = first p := rfl
      have hsecond : secondV (pvOf p l) = second p := rfl
      rw [← e5]
      refine put_walk (pvOf p l) N (12 + 4 * p.csrc.length) (atP p) p.pay (row1 p N) (row2 p N) (row3 p N) (row5 p N) w (by omega) (by omega) r3 r4 CS ?_ ?_ ?_ ?_ ⟨rfl, trivial⟩ ?_ ⟨hmay.pad0, hmay.pad1⟩ rfl (by rw [e5]; omega) (by rw [e5]; exact enc_bytes p ho hmay)
      · intro W g hk
        have := putHead_any g N (pvOf p l) (List.replicate N 0) W (by omega) (by omega) (by simp) hk hmay.csrc ⟨hmay.ty0, hmay.ty1⟩ ⟨ho.seq0, ho.seq1⟩ ⟨ho.time0, ho.time1⟩ ⟨ho.ssrc0, ho.ssrc1⟩
        exact this
      · intro W g hW hg hk
        have := putCsrc_any g N l.cc p.csrc.length 12 l.ca p.csrc (row1 p N) W (by omega) r1 hk ((hr.csrc.below hW).more hg) r5
        exact this
      · intro he W g hW hg hk
        have := putExt_any g N (12 + 4 * p.csrc.length) (pvOf p l) p.ext (row2 p N) W (by omega) r2 hk ((hr.ext.below hW).more hg) (r6 he) ⟨ho.prof0, ho.prof1⟩
        have he' : p.he = true := he
        rw [row3, atP, he', if_pos rfl, if_pos rfl]
        exact this
      · intro he
        have he' : p.he = false := he
        rw [row3, atP, he']
        exact ⟨rfl, rfl⟩
      · intro W hW
        exact hr.pay.below hW
end

/-- What Get tells. -/
def gP (b : List Int) : Pkt := if pE b = 0 then pQ b else zeroPkt
theorem Rd.mid {w : World} {B b off n cap lo hi : Nat} {X : Option Addr} {xs : List Int} (h : Rd w B (some ⟨b, off, none⟩) n xs) (h1 : lo ≤ hi) (h2 : hi ≤ n) (h3 : n ≤ cap) (hX : cap ≠ lo → X = some ⟨b, off + lo, none⟩) :
    Rd w B X (hi - lo) ((xs.drop lo).take (hi - lo)) := by
  by_cases hc : cap = lo
  · obtain h0 : hi - lo = 0 := by omega
    rw [h0, List.take_zero]
    exact Rd.none_ X rfl
  · rw [hX hc]
    exact (h.drop (k := lo) (by omega)).take (by omega)
theorem nb_mid' (xs : List Int) (i m j k : Nat) (h : j + k ≤ m) : nb ((xs.drop i).take m) j k = nb xs (i + j) k := by
  unfold nb
  rw [List.drop_take, List.take_take, Nat.min_eq_left (by omega), List.drop_drop]
theorem wordsAt_mid' (xs : List Int) (i m : Nat) : ∀ (n j : Nat), j + 4 * n ≤ m → wordsAt ((xs.drop i).take m) j n = wordsAt xs (i + j) n
  | 0, _, _ => rfl
  | n + 1, j, h => by rw [wordsAt, wordsAt, nb_mid' _ _ _ _ _ (by omega), wordsAt_mid' xs i m n (j + 4) (by omega), Nat.add_assoc]

theorem get_any (a : Option Addr) (len cap B : Nat) (xs : List Int) (w : World) (hl : len ≤ maxLen) (hlc : len ≤ cap) (hr : Rd w B a len xs) (hB : B ≤ w.heap.size) :
    Calls Try.prog 17 #[.slice a len cap] w (GRet w (gP xs) (pE xs)) := by
  have CL := fun W (hW : Below w.heap.size w W) => lay_any a len cap B xs W hl hlc (hr.below (hW.mono hB)) (Nat.le_trans hB hW.size)
  unfold gC gX gF gT at CL
  unfold gP
  by_cases h : pE xs = 0
  · simp only [h, if_true] at CL ⊢
    obtain ⟨g1, g2, g3, g4, g5, g6, g7, g8⟩ := pE_ok h
    obtain ⟨k1, k2, k3, k4⟩ := get_enc xs hr.2.1 h
    have hx := hr.1
    have hby := hr.2.1
    have hel := enc_length (pQ xs) k2
    rw [k3, k4] at hel
    have hpad : (pQ xs).pad = (padN xs : Int) := rfl
    rw [hpad] at hel
    obtain ⟨b, off, rfl, hlt, hcell⟩ := hr.2.2 (by omega)
    have h0 := hcell 0 (by omega)
    have h1 := hcell 1 (by omega)
    rw [Nat.add_zero] at h0
    have b0 := hby.getD 0
    have b1 := hby.getD 1
    obtain ⟨x, hxx⟩ : ∃ x : Nat, (x : Int) = lX xs ∧ at1 xs ≤ x ∧ x ≤ at2 xs := by
      unfold lX at2
      cases hX : hasX xs
      · exact ⟨at1 xs, rfl, Nat.le_refl _, Nat.le_refl _⟩
      · exact ⟨at1 xs + 4, by simp, by omega, by simp⟩
    rw [← hxx.1] at CL
    have ht : (xs.length : Int) - padN xs = ((xs.length - padN xs : Nat) : Int) := by omega
    rw [ht, hx] at CL
    have hcc : at1 xs - 12 = 4 * ccN xs := by unfold at1; omega
    have hcn : ccN xs ≤ 15 := by unfold ccN; omega
    have n1 := nb_bd xs hby 2 2
    have n2 := nb_bd xs hby 4 4
    have n3 := nb_bd xs hby 8 4
    have n4 := nb_bd xs hby (at1 xs) 2
    have hes : (pQ xs).ext = (xs.drop x).take (at2 xs - x) := by
      show (if hasX xs then (xs.drop (at1 xs + 4)).take (extN xs) else []) = _
      have hx1 := hxx.1
      unfold lX at hx1
      unfold at2
      cases hX : hasX xs
      · rw [hX] at hx1
        simp at hx1
        have : x = at1 xs := by omega
        simp [this]
      · rw [hX] at hx1
        simp at hx1
        have : x = at1 xs + 4 := by omega
        simp [this]
    have hpy : (pQ xs).pay = (xs.drop (at2 xs)).take (len - padN xs - at2 xs) := by rw [← hx]; rfl
    have hcs : (pQ xs).csrc = wordsAt ((xs.drop 12).take (at1 xs - 12)) 0 (ccN xs) := by rw [wordsAt_mid' xs 12 _ _ 0 (by omega)]; rfl
    have hB' := fun W (hW : Below w.heap.size w W) => hr.below (hW.mono hB)
    have G := get_yes b off len cap (at1 xs) x (at2 xs) (len - padN xs) (xs.getD 0 0) (xs.getD 1 0) (xs.getD 1 0 % 128) (nb xs 2 2) (nb xs 4 4) (nb xs 8 4) (nb xs (at1 xs) 2) (decide (128 ≤ xs.getD 1 0)) (hasX xs) (pQ xs).csrc (pQ xs).ext (pQ xs).pay w
      (by omega) (by omega) (by omega) (by unfold at1; omega) hxx.2.1 hxx.2.2 (by omega) (by omega) hlc (and_128 _ b1.1 b1.2) (and_127 _ b1.1 b1.2) (and_16 _ b0.1 b0.2) (by omega) (by omega) (by omega) (by omega) (by omega)
      (fun W hW => (hW.cell (p := ⟨b, off, none⟩) (show b < w.heap.size by omega)).trans h0) (fun W hW => (hW.cell (p := ⟨b, off + 1, none⟩) (show b < w.heap.size by omega)).trans h1) CL
      (fun W hW => number_nb _ len cap B 2 2 xs W hl hlc (hB' W hW) (by omega) (by omega) (by omega)) (fun W hW => number_nb _ len cap B 4 4 xs W hl hlc (hB' W hW) (by omega) (by omega) (by omega))
      (fun W hW => number_nb _ len cap B 8 4 xs W hl hlc (hB' W hW) (by omega) (by omega) (by omega)) (fun hX W hW => number_nb _ len cap B (at1 xs) 2 xs W hl hlc (hB' W hW) (by omega) (by omega) (by have := g6 hX; omega))
      (fun W X hW hX => by
        have R := Rd.mid (hi := at1 xs) (hB' W hW) (by unfold at1; omega) (by omega) hlc hX
        have := words_any X (ccN xs) (cap - 12) B _ W hcn (by omega) (by rw [← hcc]; exact R) (Nat.le_trans hB hW.size)
        rw [Int.toNat_natCast, ← hcc, ← hcs] at this
        exact this)
      (fun W X hW hX => by
        have R := Rd.mid (hi := at2 xs) (hB' W hW) hxx.2.2 (by omega) hlc hX
        rw [← hes] at R
        exact copied_any X (at2 xs - x) (cap - x) B _ W (by omega) R)
      (fun W X hW hX => by
        have R := Rd.mid (hi := len - padN xs) (hB' W hW) (by omega) (by omega) hlc hX
        rw [← hpy] at R
        exact copied_any X (len - padN xs - at2 xs) (cap - at2 xs) B _ W (by omega) R)
      (padN xs) (by omega) (by rw [hcs, wordsAt_length]; exact hcn) (by rw [hes, List.length_take, List.length_drop]; omega) (by rw [hpy, List.length_take, List.length_drop]; omega)
    exact G
  · simp only [h, if_false] at CL ⊢
    refine (get_no a len cap 0 0 0 0 (pE xs) w (by simpa using h) CL).mono ?_
    rintro e w' ⟨rfl, hb⟩
    refine ⟨⟨none, 0, none, 0, none, 0⟩, rfl, ⟨Wd.none_ _ rfl, Rd.none_ _ rfl, Rd.none_ _ rfl, ?_, ?_, ?_, Nat.le_refl _, Nat.le_refl _, Nat.le_refl _⟩, hb⟩ <;> exact Nat.zero_le _
end Go.Proofs.Ytiamdaeodkiccaa.Rtp
