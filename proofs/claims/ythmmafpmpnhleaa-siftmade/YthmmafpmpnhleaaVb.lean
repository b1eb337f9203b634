/- Compound feedback, plain: some items one behind the other (encL), what bytes are as items (gLE, gLV); what is put is read, what is read is put as it was, beginnings. No program. · Rows of feedback items in memory. No function of the program. -/
import Derived.Test.YthmmafpmpnhleaaQa
import Derived.Test.YthmmafpmpnhleaaQb
import Derived.Test.YthmmafpmpnhleaaXt
set_option maxRecDepth 100000
namespace Go.Proofs.Ythmmafpmpnhleaa.Fbk
set_option linter.unusedVariables false

/-- The item that bytes begin with, or none; how many bytes. -/
def gIV (b : List Int) : Itm := if iE b = 0 then iV b else zeroItm
def gIN (b : List Int) : Nat := if iE b = 0 then iN b else 0
def encL : List Itm → List Int
  | [] => []
  | i :: r => encI i ++ encL r
def mayL (l : List Itm) : Bool := l.all mayI
def sizeL (l : List Itm) : Nat := if mayL l = true then (encL l).length else 0
def putLE (l : List Itm) : Int := if 1 ≤ l.length ∧ l.length ≤ 8 ∧ mayL l = true then (if (encL l).length ≤ 512 then 0 else 5) else 1
def putLB (l : List Itm) : List Int := if putLE l = 0 then encL l else []
def gLE : Nat → List Int → Int
  | 0, _ => 3
  | k + 1, b => if iE b = 0 then (if b.length ≤ iN b then 0 else gLE k (b.drop (iN b))) else iE b
def gLV : Nat → List Int → List Itm
  | 0, _ => []
  | k + 1, b => iV b :: (if b.length ≤ iN b then [] else gLV k (b.drop (iN b)))
def getLE (b : List Int) : Int := if 512 < b.length then 5 else gLE 8 b
def getLV (b : List Int) : List Itm := if getLE b = 0 then gLV 8 b else []
def MayL (l : List Itm) : Prop := ∀ i ∈ l, MayI i
def OkL (l : List Itm) : Prop := ∀ i ∈ l, i.Ok
theorem mayL_iff (l : List Itm) : mayL l = true ↔ MayL l := by
  unfold mayL MayL
  rw [List.all_eq_true]
  exact ⟨fun h i hi => (mayI_iff i).1 (h i hi), fun h i hi => (mayI_iff i).2 (h i hi)⟩
theorem MayL.tail {i : Itm} {r : List Itm} (h : MayL (i :: r)) : MayL r := fun x hx => h x (by simp [hx])
theorem OkL.tail {i : Itm} {r : List Itm} (h : OkL (i :: r)) : OkL r := fun x hx => h x (by simp [hx])
theorem MayL.head {i : Itm} {r : List Itm} (h : MayL (i :: r)) : MayI i := h i (by simp)
theorem OkL.head {i : Itm} {r : List Itm} (h : OkL (i :: r)) : i.Ok := h i (by simp)
theorem MayL.take {l : List Itm} (h : MayL l) (k : Nat) : MayL (l.take k) := fun x hx => h x (List.mem_of_mem_take hx)
theorem encL_append (l r : List Itm) : encL (l ++ r) = encL l ++ encL r := by
  induction l with
  | nil => rfl
  | cons i l ih => simp [encL, ih]
theorem encL_bytes : ∀ (l : List Itm), MayL l → Bytes (encL l)
  | [], _ => Bytes.nil
  | i :: r, h => (encI_bytes i h.head).append (encL_bytes r h.tail)
theorem encI_pos (i : Itm) : 4 ≤ (encI i).length := by rw [encI_length]; omega
theorem encI_max (i : Itm) (h : MayI i) : (encI i).length ≤ 388 := by
  obtain ⟨h0, h1, -⟩ := body_words i h
  rw [encI_length]; omega
theorem encL_max : ∀ (l : List Itm), MayL l → (encL l).length ≤ 388 * l.length
  | [], _ => by simp [encL]
  | i :: r, h => by
    have := encL_max r h.tail
    have := encI_max i h.head
    simp only [encL, List.length_append, List.length_cons]; omega
theorem encL_pos (l : List Itm) (h : l ≠ []) : 4 ≤ (encL l).length := by
  cases l with
  | nil => exact absurd rfl h
  | cons i r => have := encI_pos i; simp only [encL, List.length_append]; omega
theorem encL_take_le (l : List Itm) (k : Nat) : (encL (l.take k)).length ≤ (encL l).length := by
  conv => rhs; rw [← List.take_append_drop k l, encL_append, List.length_append]
  omega
theorem encL_take (l : List Itm) (k : Nat) : (encL l).take (encL (l.take k)).length = encL (l.take k) := by
  conv => lhs; arg 2; rw [← List.take_append_drop k l, encL_append]
  rw [List.take_append_of_le_length (Nat.le_refl _), List.take_of_length_le (Nat.le_refl _)]
/-- What is put is read. -/
theorem gL_enc : ∀ (l : List Itm) (k : Nat), l ≠ [] → MayL l → OkL l → gLE k (encL l) = (if l.length ≤ k then 0 else 3) ∧ (l.length ≤ k → gLV k (encL l) = l)
  | [], _, h, _, _ => absurd rfl h
  | i :: r, 0, _, _, _ => by simp [gLE]
  | i :: r, k + 1, _, hM, hO => by
    have e1 := enc_e hM.head (encL r)
    have e2 := enc_n hM.head (encL r)
    have e3 := enc_v hM.head (encL r) hO.head
    have e4 : (encI i ++ encL r).drop (encI i).length = encL r := List.drop_left ..
    simp only [encL, gLE, gLV, e1, e2, e3, e4, if_true, List.length_append]
    cases r with
    | nil => simp [encL]
    | cons j r =>
      have hp := encL_pos (j :: r) (by simp)
      obtain ⟨h1, h2⟩ := gL_enc (j :: r) k (by simp) hM.tail hO.tail
      have hnot : ¬ (encI i).length + (encL (j :: r)).length ≤ (encI i).length := by omega
      rw [if_neg hnot, if_neg hnot, h1]
      refine ⟨?_, fun h => ?_⟩
      · by_cases hq : (j :: r).length ≤ k
        · rw [if_pos hq, if_pos (by simp only [List.length_cons] at hq ⊢; omega)]
        · rw [if_neg hq, if_neg (by simp only [List.length_cons] at hq ⊢; omega)]
      · rw [h2 (by simp only [List.length_cons] at h ⊢; omega)]
/-- What is read is put as it was. -/
theorem gL_put : ∀ (k : Nat) (b : List Int), Bytes b → gLE k b = 0 → encL (gLV k b) = b ∧ MayL (gLV k b) ∧ OkL (gLV k b) ∧ 1 ≤ (gLV k b).length ∧ (gLV k b).length ≤ k
  | 0, b, _, h => by simp [gLE] at h
  | k + 1, b, hb, h => by
    simp only [gLE] at h
    split at h
    · rename_i he
      obtain ⟨h1, h2, h3, h4, h5⟩ := get_encI b hb he
      split at h
      · rename_i hl
        have hv : gLV (k + 1) b = [iV b] := by rw [gLV, if_pos hl]
        rw [hv]
        refine ⟨?_, ?_, ?_, by simp, by simp⟩
        · simp only [encL, List.append_nil]
          rw [h3, List.take_of_length_le hl]
        · intro x hx; simp only [List.mem_cons, List.not_mem_nil, or_false] at hx; subst hx; exact h2
        · intro x hx; simp only [List.mem_cons, List.not_mem_nil, or_false] at hx; subst hx; exact h1
      · rename_i hl
        have hv : gLV (k + 1) b = iV b :: gLV k (b.drop (iN b)) := by rw [gLV, if_neg hl]
        obtain ⟨g1, g2, g3, g4, g5⟩ := gL_put k (b.drop (iN b)) (fun x hx => hb x (List.mem_of_mem_drop hx)) h
        rw [hv]
        refine ⟨?_, ?_, ?_, by simp, by simp only [List.length_cons]; omega⟩
        · simp only [encL]
          rw [h3, g1, List.take_append_drop]
        · intro x hx
          rcases List.mem_cons.1 hx with rfl | hx
          · exact h2
          · exact g2 x hx
        · intro x hx
          rcases List.mem_cons.1 hx with rfl | hx
          · exact h1
          · exact g3 x hx
    · rename_i he
      exact absurd h he
/-- A beginning that is not the first ones is too short. -/
theorem gL_cut : ∀ (l : List Itm) (k n : Nat), MayL l → OkL l → l.length ≤ k → 0 < k → n ≤ (encL l).length → (∀ j, 1 ≤ j → j ≤ l.length → (encL (l.take j)).length ≠ n) → gLE k ((encL l).take n) = 2
  | [], k, n, _, _, _, hk, hn, _ => by
    cases k with
    | zero => omega
    | succ k => rw [show (encL []).take n = [] from by simp [encL]]; rfl
  | i :: r, 0, n, _, _, hk, _, _, _ => by simp at hk
  | i :: r, k + 1, n, hM, hO, hk, _, hn, hj => by
    simp only [encL, List.length_append] at hn
    simp only [List.length_cons, Nat.add_le_add_iff_right] at hk
    have hne : (encI i).length ≠ n := by simpa [encL] using hj 1 (Nat.le_refl _) (by simp)
    rcases Nat.lt_or_ge n (encI i).length with hlt | hge
    · have e1 := enc_cut hM.head n hlt
      rw [show encL (i :: r) = encI i ++ encL r from rfl, List.take_append_of_le_length (Nat.le_of_lt hlt)]
      unfold gLE
      rw [e1, if_neg (by decide)]
    · have e0 : (encI i ++ encL r).take n = encI i ++ (encL r).take (n - (encI i).length) := by rw [List.take_append, List.take_of_length_le hge]
      have e1 := enc_e hM.head ((encL r).take (n - (encI i).length))
      have e2 := enc_n hM.head ((encL r).take (n - (encI i).length))
      have e4 : (encI i ++ (encL r).take (n - (encI i).length)).drop (encI i).length = (encL r).take (n - (encI i).length) := List.drop_left ..
      have hk0 : 0 < k := by
        cases r with
        | nil => simp [encL] at hn; omega
        | cons x r => simp only [List.length_cons] at hk; omega
      rw [show encL (i :: r) = encI i ++ encL r from rfl, e0]
      unfold gLE
      rw [e1, e2, if_pos rfl, e4, if_neg (by simp only [List.length_append, List.length_take]; omega)]
      refine gL_cut r k _ hM.tail hO.tail hk hk0 (by omega) (fun j h1 h2 => ?_)
      have := hj (j + 1) (by omega) (by simp only [List.length_cons]; omega)
      simp only [List.take_succ_cons, encL, List.length_append] at this
      omega
theorem putLE_ok {l : List Itm} (h : putLE l = 0) : 1 ≤ l.length ∧ l.length ≤ 8 ∧ MayL l ∧ (encL l).length ≤ 512 ∧ putLB l = encL l := by
  have hb : putLB l = encL l := by rw [putLB, if_pos h]
  unfold putLE at h
  split at h
  · rename_i h1
    split at h
    · rename_i h2
      exact ⟨h1.1, h1.2.1, (mayL_iff l).1 h1.2.2, h2, hb⟩
    · omega
  · omega
theorem putLB_no {l : List Itm} (h : putLE l ≠ 0) : putLB l = [] := by rw [putLB, if_neg h]
theorem putLE_or (l : List Itm) : putLE l = 0 ∨ putLE l = 1 ∨ (putLE l = 5 ∧ 512 < (encL l).length ∧ sizeL l = (encL l).length) := by
  unfold putLE sizeL
  split
  · rename_i h
    split
    · exact .inl rfl
    · exact .inr (.inr ⟨rfl, by omega, by rw [if_pos h.2.2]⟩)
  · exact .inr (.inl rfl)
theorem getLE_ok {b : List Int} (hb : Bytes b) (h : getLE b = 0) : b.length ≤ 512 ∧ encL (getLV b) = b ∧ MayL (getLV b) ∧ OkL (getLV b) ∧ 1 ≤ (getLV b).length ∧ (getLV b).length ≤ 8 ∧ putLE (getLV b) = 0 ∧ putLB (getLV b) = b := by
  have hv : getLV b = gLV 8 b := by rw [getLV, if_pos h]
  unfold getLE at h
  split at h
  · omega
  · rename_i hl
    obtain ⟨h1, h2, h3, h4, h5⟩ := gL_put 8 b hb h
    rw [hv]
    have e : putLE (gLV 8 b) = 0 := by unfold putLE; rw [if_pos ⟨h4, h5, (mayL_iff _).2 h2⟩, h1, if_pos (by omega)]
    exact ⟨by omega, h1, h2, h3, h4, h5, e, by rw [putLB, if_pos e, h1]⟩
theorem getL_enc {l : List Itm} (h0 : l ≠ []) (hM : MayL l) (hO : OkL l) : getLE (encL l) = (if 512 < (encL l).length then 5 else if l.length ≤ 8 then 0 else 3) ∧ ((encL l).length ≤ 512 → l.length ≤ 8 → getLV (encL l) = l) := by
  obtain ⟨h1, h2⟩ := gL_enc l 8 h0 hM hO
  have e : getLE (encL l) = (if 512 < (encL l).length then 5 else if l.length ≤ 8 then 0 else 3) := by rw [getLE, h1]
  refine ⟨e, fun g1 g2 => ?_⟩
  have e5 : getLE (encL l) = 0 := by rw [e, if_neg (by omega), if_pos g2]
  rw [getLV, if_pos e5, h2 g2]
theorem putL_get {l : List Itm} (hO : OkL l) (h : putLE l = 0) : getLE (putLB l) = 0 ∧ getLV (putLB l) = l ∧ Bytes (putLB l) ∧ (putLB l).length ≤ 512 ∧ sizeL l = (putLB l).length ∧ 1 ≤ l.length ∧ l.length ≤ 8 := by
  obtain ⟨h1, h2, h3, h4, h5⟩ := putLE_ok h
  have hn : l ≠ [] := by rintro rfl; simp at h1
  obtain ⟨e1, e2⟩ := getL_enc hn h3 hO
  rw [h5]
  refine ⟨by rw [e1, if_neg (by omega), if_pos h2], e2 h4 h2, encL_bytes l h3, h4, by rw [sizeL, if_pos ((mayL_iff l).2 h3)], h1, h2⟩
theorem getLV_no {b : List Int} (h : getLE b ≠ 0) : getLV b = [] := by rw [getLV, if_neg h]
end Go.Proofs.Ythmmafpmpnhleaa.Fbk

namespace Go.Proofs.Ythmmafpmpnhleaa.Fbk
open Go.RowKit
set_option linter.unusedVariables false

def ivC (v : IV) : List Value := [.int .i64 v.kind, .int .u32 v.ssrc, .int .u64 v.ntp, .int .u32 v.time, .int .u32 v.pks, .int .u32 v.ocs, .slice v.ba v.bn v.bc, .slice v.ga v.gn v.gc, .int .u32 v.media, .slice v.pa v.pn v.pc]
def itmL : Lay (Itm × ILoc) := ⟨68, 10, fun p => ivC (ivOf p.1 p.2), fun _ => rfl, fun x v hv => by
  simp only [ivC, List.mem_cons, List.not_mem_nil, or_false] at hv
  rcases hv with rfl | rfl | rfl | rfl | rfl | rfl | rfl | rfl | rfl | rfl <;> rfl, by decide⟩
theorem info_itm : (Try.prog.info? 68).map (fun i => (i.zero, i.size, i.bytes)) = some (some (itm ziv), 10, (Try.prog.info? 68).map (·.bytes) |>.getD 0) := by kernel_rfl
/-- The items of a row. -/
abbrev its (ps : List (Itm × ILoc)) : List Itm := ps.map Prod.fst
/-- A slice of items that reads as a list, and whose lists read as they should; all lies below block B. -/
structure ItsRd (w : World) (B : Nat) (a : Option Addr) (n : Nat) (ps : List (Itm × ILoc)) : Prop where
  row : RowRd itmL w B a n ps
  each : ∀ p ∈ ps, IRd w B p.1 p.2
section
variable {w w' : World} {B n : Nat} {a : Option Addr} {ps : List (Itm × ILoc)}
theorem ItsRd.below (h : ItsRd w B a n ps) (hb : Below B w w') : ItsRd w' B a n ps := ⟨h.row.below hb, fun p hp => (h.each p hp).below hb⟩
theorem ItsRd.more {B' : Nat} (h : ItsRd w B a n ps) (hb : B ≤ B') : ItsRd w B' a n ps := ⟨h.row.more hb, fun p hp => (h.each p hp).more hb⟩
theorem ItsRd.bel (h : ItsRd w w.heap.size a n ps) (hb : Below w.heap.size w w') : ItsRd w' w'.heap.size a n ps := (h.below hb).more hb.size
theorem ItsRd.len (h : ItsRd w B a n ps) : ps.length = n := h.row.1
theorem ItsRd.nil (w : World) (B : Nat) (a : Option Addr) : ItsRd w B a 0 [] := ⟨RowRd.none_ _ rfl, fun p hp => by simp at hp⟩
theorem ItsRd.take {k : Nat} (h : ItsRd w B a n ps) (hk : k ≤ n) : ItsRd w B a k (ps.take k) := by
  have hl := h.len
  refine ⟨⟨by rw [List.length_take]; omega, fun hp => ?_⟩, fun p hp => h.each p (List.mem_of_mem_take hp)⟩
  obtain ⟨b, off, e, hlt, hc⟩ := h.row.2 (by omega)
  refine ⟨b, off, e, hlt, fun i x hx j v hv => hc i x ?_ j v hv⟩
  have hi := (List.getElem?_eq_some_iff.1 hx).1
  rw [List.length_take] at hi
  rw [List.getElem?_take_of_lt (by omega)] at hx
  exact hx
/-- The cells of a row's k-th item. -/
theorem its_at {k : Nat} (h : ItsRd w B a n ps) (hk : k < n) : ∃ b off p v, a = some ⟨b, off, none⟩ ∧ b < B ∧ ps[k]? = some p ∧ p ∈ ps ∧ v = ivOf p.1 p.2 ∧ IRd w B p.1 p.2 ∧
    w.cell? ⟨b, off + k * 10, none⟩ = some (.int .i64 v.kind) ∧ w.cell? ⟨b, off + k * 10 + 1, none⟩ = some (.int .u32 v.ssrc) ∧ w.cell? ⟨b, off + k * 10 + 2, none⟩ = some (.int .u64 v.ntp) ∧ w.cell? ⟨b, off + k * 10 + 3, none⟩ = some (.int .u32 v.time) ∧
    w.cell? ⟨b, off + k * 10 + 4, none⟩ = some (.int .u32 v.pks) ∧ w.cell? ⟨b, off + k * 10 + 5, none⟩ = some (.int .u32 v.ocs) ∧ w.cell? ⟨b, off + k * 10 + 6, none⟩ = some (.slice v.ba v.bn v.bc) ∧ w.cell? ⟨b, off + k * 10 + 7, none⟩ = some (.slice v.ga v.gn v.gc) ∧
    w.cell? ⟨b, off + k * 10 + 8, none⟩ = some (.int .u32 v.media) ∧ w.cell? ⟨b, off + k * 10 + 9, none⟩ = some (.slice v.pa v.pn v.pc) := by
  obtain ⟨b, off, e, hlt, hc⟩ := h.row.2 (by omega)
  have hx := List.getElem?_eq_getElem (show k < ps.length from by rw [h.len]; exact hk)
  have hm := List.mem_of_getElem? hx
  exact ⟨b, off, _, _, e, hlt, hx, hm, rfl, h.each _ hm, hc k _ hx 0 _ rfl, hc k _ hx 1 _ rfl, hc k _ hx 2 _ rfl, hc k _ hx 3 _ rfl, hc k _ hx 4 _ rfl, hc k _ hx 5 _ rfl, hc k _ hx 6 _ rfl, hc k _ hx 7 _ rfl, hc k _ hx 8 _ rfl, hc k _ hx 9 _ rfl⟩
end
theorem its_take_succ {ps : List (Itm × ILoc)} {k : Nat} {p : Itm × ILoc} (h : ps[k]? = some p) : its (ps.take (k + 1)) = its (ps.take k) ++ [p.1] := by
  rw [List.take_add_one, h]; simp [its]
end Go.Proofs.Ythmmafpmpnhleaa.Fbk
