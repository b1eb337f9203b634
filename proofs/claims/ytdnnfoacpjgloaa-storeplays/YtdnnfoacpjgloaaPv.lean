/- Plain mathematics: what comes of a packet's bytes by patches; one behind the other. -/
import Derived.Test.YtdnnfoacpjgloaaPt
import Derived.Test.YtdnnfoacpjgloaaDg
set_option maxRecDepth 100000
namespace Go.Proofs.Ytdnnfoacpjgloaa.Pat
open Go.RowKit
set_option linter.unusedVariables false

/-- The bytes are a media packet whose payload begins with a descriptor. -/
def hasD (b : List Int) : Bool := decide (pE b = 0) && gOk (pQ b).pay
/-- The packet with another descriptor's layer and frame. -/
def hdF (p : Pkt) (l f : Int) : Pkt := { p with pay := putV l (gK p.pay) (gS p.pay) f ++ p.pay.drop 4 }
def seqL (b : List Int) (y : Int) : List Int := if pE b = 0 then enc { pQ b with seq := y } else b
def timeL (b : List Int) (y : Int) : List Int := if pE b = 0 then enc { pQ b with time := y } else b
def ssrcL (b : List Int) (y : Int) : List Int := if pE b = 0 then enc { pQ b with ssrc := y } else b
def frameL (b : List Int) (l f : Int) : List Int := if hasD b && mayB l then enc (hdF (pQ b) l f) else b
def allP (p : Pkt) (q t s f : Int) : Pkt := { hdF p 0 f with seq := q, time := t, ssrc := s }
def applyL (b : List Int) (q t s f : Int) : List Int := if hasD b then enc (allP (pQ b) q t s f) else b

theorem hasD_iff {b : List Int} : hasD b = true ↔ pE b = 0 ∧ gOk (pQ b).pay = true := by simp [hasD]

/-- A packet with other numbers, as long as the old one. -/
theorem up {b : List Int} (hb : Bytes b) (h : pE b = 0) (p : Pkt) (ho : p.Ok) (hm : p.May) (hc : p.csrc = (pQ b).csrc) (he : p.he = (pQ b).he) (hx : p.ext = (pQ b).ext) (hp : p.pay.length = (pQ b).pay.length) (hd : p.pad = (pQ b).pad) :
    pE (enc p) = 0 ∧ pQ (enc p) = p ∧ Bytes (enc p) ∧ (enc p).length = b.length ∧ at2 (enc p) = at2 b := by
  obtain ⟨h1, h2, h3, h4⟩ := get_enc b hb h
  have hl := (pE_ok h).1
  have e0 := enc_length p hm
  have e1 := enc_length (pQ b) h2
  have hh : (headB p).length = (headB (pQ b)).length := by rw [headB_length, headB_length, extB_length, extB_length, hc, he, hx]
  rw [h3] at e1
  have hlen : (enc p).length = b.length := by omega
  obtain ⟨g1, g2, g3, -⟩ := enc_get p ho hm (by omega)
  exact ⟨g1, g2, enc_bytes p ho hm, hlen, by rw [g3, hh, h4]⟩

section
variable {b : List Int}
theorem seq_up (hb : Bytes b) (h : pE b = 0) {y : Int} (h0 : 0 ≤ y) (h1 : y ≤ 65535) :
    pE (seqL b y) = 0 ∧ pQ (seqL b y) = { pQ b with seq := y } ∧ Bytes (seqL b y) ∧ (seqL b y).length = b.length ∧ at2 (seqL b y) = at2 b := by
  obtain ⟨k1, k2, -, -⟩ := get_enc b hb h
  rw [seqL, if_pos h]
  exact up hb h _ (Ok_seq k1 h0 h1) (May_seq k2 y) rfl rfl rfl rfl rfl
theorem time_up (hb : Bytes b) (h : pE b = 0) {y : Int} (h0 : 0 ≤ y) (h1 : y ≤ 4294967295) :
    pE (timeL b y) = 0 ∧ pQ (timeL b y) = { pQ b with time := y } ∧ Bytes (timeL b y) ∧ (timeL b y).length = b.length ∧ at2 (timeL b y) = at2 b := by
  obtain ⟨k1, k2, -, -⟩ := get_enc b hb h
  rw [timeL, if_pos h]
  exact up hb h _ (Ok_time k1 h0 h1) (May_time k2 y) rfl rfl rfl rfl rfl
theorem ssrc_up (hb : Bytes b) (h : pE b = 0) {y : Int} (h0 : 0 ≤ y) (h1 : y ≤ 4294967295) :
    pE (ssrcL b y) = 0 ∧ pQ (ssrcL b y) = { pQ b with ssrc := y } ∧ Bytes (ssrcL b y) ∧ (ssrcL b y).length = b.length ∧ at2 (ssrcL b y) = at2 b := by
  obtain ⟨k1, k2, -, -⟩ := get_enc b hb h
  rw [ssrcL, if_pos h]
  exact up hb h _ (Ok_ssrc k1 h0 h1) (May_ssrc k2 y) rfl rfl rfl rfl rfl
theorem gOk_len {xs : List Int} (h : gOk xs = true) : 4 ≤ xs.length := by
  simp only [gOk, Bool.and_eq_true, decide_eq_true_eq] at h; exact h.1
theorem hdF_len {p : Pkt} (h : gOk p.pay = true) (l f : Int) : (hdF p l f).pay.length = p.pay.length := by
  have := gOk_len h
  simp only [hdF, putV, List.length_append, List.length_drop, List.length_cons, List.length_nil]; omega
theorem hdF_ok {p : Pkt} (ho : p.Ok) {l f : Int} (h0 : 0 ≤ l) (h2 : l ≤ 2) (hf0 : 0 ≤ f) (hf : f ≤ 65535) : (hdF p l f).Ok :=
  Ok_payl ho ((putV_bytes l _ _ f h0 h2 hf0 hf).append (ho.pay.drop 4))
/-- The descriptor that was written is read. -/
theorem hdF_get (p : Pkt) {l f : Int} (h0 : 0 ≤ l) (h2 : l ≤ 2) (hf0 : 0 ≤ f) (hf : f ≤ 65535) :
    gL (hdF p l f).pay = l ∧ gK (hdF p l f).pay = gK p.pay ∧ gS (hdF p l f).pay = gS p.pay ∧ gF (hdF p l f).pay = f ∧ gOk (hdF p l f).pay = true := by
  obtain ⟨a, b, c, d, e⟩ := put_get l (gK p.pay) (gS p.pay) f (p.pay.drop 4) h0 h2 hf0 hf
  refine ⟨a, b, c, d, ?_⟩
  change gE (hdF p l f).pay = 0 at e
  unfold gE at e
  unfold gOk
  split at e
  · cases e
  · rename_i hl
    split at e
    · rename_i hf
      rw [hf, decide_eq_true (by omega)]; rfl
    · cases e
theorem frame_up (hb : Bytes b) (h : hasD b = true) {l f : Int} (hl : mayB l = true) (hf0 : 0 ≤ f) (hf : f ≤ 65535) :
    pE (frameL b l f) = 0 ∧ pQ (frameL b l f) = hdF (pQ b) l f ∧ Bytes (frameL b l f) ∧ (frameL b l f).length = b.length ∧ at2 (frameL b l f) = at2 b := by
  obtain ⟨h1, h2⟩ := hasD_iff.1 h
  obtain ⟨k1, k2, -, -⟩ := get_enc b hb h1
  have hm := mayB_t hl
  rw [frameL, if_pos (by rw [h, hl]; rfl)]
  exact up hb h1 _ (hdF_ok k1 hm.1 hm.2 hf0 hf) (May_payl k2 _) rfl rfl rfl (hdF_len h2 l f) rfl
/-- What was written in place. -/
theorem seqL_written (hb : Bytes b) (h : pE b = 0) (y : Int) : written b 2 2 0 y = seqL b y := by
  obtain ⟨-, -, k3, -⟩ := get_enc b hb h
  rw [seqL, if_pos h, ← enc_seq, k3]
theorem timeL_written (hb : Bytes b) (h : pE b = 0) (y : Int) : written b 4 4 0 y = timeL b y := by
  obtain ⟨-, -, k3, -⟩ := get_enc b hb h
  rw [timeL, if_pos h, ← enc_time, k3]
theorem ssrcL_written (hb : Bytes b) (h : pE b = 0) (y : Int) : written b 8 4 0 y = ssrcL b y := by
  obtain ⟨-, -, k3, -⟩ := get_enc b hb h
  rw [ssrcL, if_pos h, ← enc_ssrc, k3]
theorem be2' (f : Int) (hf0 : 0 ≤ f) (hf : f ≤ 65535) : be 2 f = [f / 256, f % 256] := by
  simp only [be, List.nil_append, List.cons_append, List.cons.injEq, and_true]
  omega
theorem putV_over {xs : List Int} (h : gOk xs = true) (l : Int) (k s : Bool) {f : Int} (hf0 : 0 ≤ f) (hf : f ≤ 65535) : written (xs.set 0 (firstV l k s)) 2 2 0 f = putV l k s f ++ xs.drop 4 := by
  have h4 := gOk_len h
  match xs, h4 with
  | x0 :: x1 :: x2 :: x3 :: r, _ =>
    have : x1 = 90 := by
      simp only [gOk, formB, Bool.and_eq_true, beq_iff_eq] at h
      exact h.2.2
    subst this
    simp only [written, putV, Nat.sub_zero, be2' f hf0 hf]
    rfl
  | [], h | [_], h | [_, _], h | [_, _, _], h => simp at h
theorem frameL_written (hb : Bytes b) (h : hasD b = true) {l f : Int} (hl : mayB l = true) (hf0 : 0 ≤ f) (hf : f ≤ 65535) :
    written (b.set (at2 b) (firstV l (gK (pQ b).pay) (gS (pQ b).pay))) (at2 b + 2) 2 0 f = frameL b l f := by
  obtain ⟨h1, h2⟩ := hasD_iff.1 h
  obtain ⟨-, -, k3, k4⟩ := get_enc b hb h1
  have h4 := gOk_len h2
  have e := enc_set (pQ b) 0 (firstV l (gK (pQ b).pay) (gS (pQ b).pay)) (by omega)
  rw [k3, k4, Nat.add_zero] at e
  have e2 := enc_written { pQ b with pay := (pQ b).pay.set 0 (firstV l (gK (pQ b).pay) (gS (pQ b).pay)) } 2 2 f (by simp; omega)
  have e3 : headB { pQ b with pay := (pQ b).pay.set 0 (firstV l (gK (pQ b).pay) (gS (pQ b).pay)) } = headB (pQ b) := rfl
  rw [e3, k4, ← e] at e2
  rw [e2, frameL, if_pos (by rw [h, hl]; rfl)]
  show enc { pQ b with pay := written ((pQ b).pay.set 0 _) 2 2 0 f } = _
  rw [putV_over h2 l _ _ hf0 hf]
  rfl
theorem hasD_of {b c : List Int} (h : hasD b = true) (h1 : pE c = 0) (h2 : (pQ c).pay = (pQ b).pay) : hasD c = true := hasD_iff.2 ⟨h1, by rw [h2]; exact (hasD_iff.1 h).2⟩
/-- All four, one behind the other. -/
theorem apply_steps (hb : Bytes b) (h : hasD b = true) {q t s f : Int} (hq : 0 ≤ q ∧ q ≤ 65535) (ht : 0 ≤ t ∧ t ≤ 4294967295) (hs : 0 ≤ s ∧ s ≤ 4294967295) (hf : 0 ≤ f ∧ f ≤ 65535) :
    ssrcL (timeL (seqL (frameL b 0 f) q) t) s = applyL b q t s f ∧ pE (applyL b q t s f) = 0 ∧ pQ (applyL b q t s f) = allP (pQ b) q t s f ∧ Bytes (applyL b q t s f) ∧ (applyL b q t s f).length = b.length ∧ at2 (applyL b q t s f) = at2 b := by
  obtain ⟨a1, a2, a3, a4, a5⟩ := frame_up hb h (l := 0) rfl hf.1 hf.2
  obtain ⟨b1, b2, b3, b4, b5⟩ := seq_up a3 a1 hq.1 hq.2
  obtain ⟨c1, c2, c3, c4, c5⟩ := time_up b3 b1 ht.1 ht.2
  obtain ⟨d1, d2, d3, d4, d5⟩ := ssrc_up c3 c1 hs.1 hs.2
  have e : ssrcL (timeL (seqL (frameL b 0 f) q) t) s = applyL b q t s f := by
    rw [ssrcL, if_pos c1, c2, b2, a2, applyL, h, if_pos rfl]; rfl
  rw [← e]
  exact ⟨rfl, d1, by rw [d2, c2, b2, a2]; rfl, d3, by omega, by omega⟩
theorem apply_has (hb : Bytes b) (h : hasD b = true) {q t s f : Int} (hq : 0 ≤ q ∧ q ≤ 65535) (ht : 0 ≤ t ∧ t ≤ 4294967295) (hs : 0 ≤ s ∧ s ≤ 4294967295) (hf : 0 ≤ f ∧ f ≤ 65535) : hasD (applyL b q t s f) = true := by
  obtain ⟨-, e1, e2, -⟩ := apply_steps hb h hq ht hs hf
  refine hasD_iff.2 ⟨e1, ?_⟩
  rw [e2]
  exact (hdF_get (pQ b) (l := 0) (by decide) (by decide) hf.1 hf.2).2.2.2.2
theorem hdF_twice (p : Pkt) {l l' f f' : Int} (h0 : 0 ≤ l) (h2 : l ≤ 2) (hf0 : 0 ≤ f) (hf : f ≤ 65535) : hdF (hdF p l f) l' f' = hdF p l' f' := by
  obtain ⟨-, b, c, -, -⟩ := hdF_get p h0 h2 hf0 hf
  have d : (hdF p l f).pay.drop 4 = p.pay.drop 4 := by simp [hdF, putV]
  show ({ (hdF p l f) with pay := putV l' (gK (hdF p l f).pay) (gS (hdF p l f).pay) f' ++ (hdF p l f).pay.drop 4 } : Pkt) = _
  rw [b, c, d]; rfl
/-- The last one is all that there is to be seen. -/
theorem apply_twice (hb : Bytes b) (h : hasD b = true) {q t s f q' t' s' f' : Int} (hq : 0 ≤ q ∧ q ≤ 65535) (ht : 0 ≤ t ∧ t ≤ 4294967295) (hs : 0 ≤ s ∧ s ≤ 4294967295) (hf : 0 ≤ f ∧ f ≤ 65535) :
    applyL (applyL b q t s f) q' t' s' f' = applyL b q' t' s' f' := by
  obtain ⟨-, e1, e2, -⟩ := apply_steps hb h hq ht hs hf
  rw [applyL, apply_has hb h hq ht hs hf, if_pos rfl, e2]
  rw [applyL, h, if_pos rfl]
  congr 1
  show ({ hdF (allP (pQ b) q t s f) 0 f' with seq := q', time := t', ssrc := s' } : Pkt) = { hdF (pQ b) 0 f' with seq := q', time := t', ssrc := s' }
  have := hdF_twice (pQ b) (l := 0) (l' := 0) (f' := f') (by decide) (by decide) hf.1 hf.2
  have e : ({ hdF (allP (pQ b) q t s f) 0 f' with seq := q', time := t', ssrc := s' } : Pkt) = { hdF (hdF (pQ b) 0 f) 0 f' with seq := q', time := t', ssrc := s' } := rfl
  rw [e, this]
end

/-! No byte is other but those of the fields. -/
theorem getD_set_ne (L : List Int) (i j : Nat) (x : Int) (h : i ≠ j) : (L.set i x).getD j 0 = L.getD j 0 := by
  rw [List.getD_eq_getElem?_getD, List.getD_eq_getElem?_getD, List.getElem?_set_ne h]
theorem getD_written (L : List Int) (off k : Nat) (v : Int) (j : Nat) (hfit : off + k ≤ L.length) (h : j < off ∨ off + k ≤ j) : (written L off k 0 v).getD j 0 = L.getD j 0 := by
  unfold written
  rw [List.getD_eq_getElem?_getD, List.getD_eq_getElem?_getD, Nat.add_zero, Nat.sub_zero, List.append_assoc]
  congr 1
  rcases h with h | h
  · rw [List.getElem?_append_left (by simp; omega), List.getElem?_take, if_pos h]
  · rw [List.getElem?_append_right (by simp; omega), List.getElem?_append_right (by simp [be_length]; omega), List.getElem?_drop]
    congr 1
    simp [be_length]; omega
theorem apply_only {b : List Int} (hb : Bytes b) (h : hasD b = true) {q t s f : Int} (hq : 0 ≤ q ∧ q ≤ 65535) (ht : 0 ≤ t ∧ t ≤ 4294967295) (hs : 0 ≤ s ∧ s ≤ 4294967295) (hf : 0 ≤ f ∧ f ≤ 65535)
    (j : Nat) (hj : ¬ (2 ≤ j ∧ j < 12)) (h1 : j ≠ at2 b) (h2 : j ≠ at2 b + 2) (h3 : j ≠ at2 b + 3) : (applyL b q t s f).getD j 0 = b.getD j 0 := by
  obtain ⟨e, -⟩ := apply_steps hb h hq ht hs hf
  obtain ⟨p1, p2⟩ := hasD_iff.1 h
  obtain ⟨a1, a2, a3, a4, a5⟩ := frame_up hb h (l := 0) rfl hf.1 hf.2
  obtain ⟨b1, b2, b3, b4, b5⟩ := seq_up a3 a1 hq.1 hq.2
  obtain ⟨c1, c2, c3, c4, c5⟩ := time_up b3 b1 ht.1 ht.2
  have hl := (pE_ok p1).2.1
  have hlen : at2 b + 4 ≤ b.length := by
    have h4 := gOk_len p2
    obtain ⟨-, k2, k3, k4⟩ := get_enc b hb p1
    have := enc_length (pQ b) k2
    have := k2.pad0
    rw [k3, k4] at *
    omega
  rw [← e, ← ssrcL_written c3 c1, getD_written _ _ _ _ _ (by omega) (by omega), ← timeL_written b3 b1, getD_written _ _ _ _ _ (by omega) (by omega), ← seqL_written a3 a1, getD_written _ _ _ _ _ (by omega) (by omega),
    ← frameL_written hb h (l := 0) rfl hf.1 hf.2, getD_written _ _ _ _ _ (by simp; omega) (by omega), getD_set_ne _ _ _ _ (by omega)]
end Go.Proofs.Ytdnnfoacpjgloaa.Pat
