/- Rows of feedback items in memory. No function of the program. -/
import Derived.Test.YtjbgfaoancmknaaQb
import Derived.Test.YtjbgfaoancmknaaXv
namespace Go.Proofs.Ytjbgfaoancmknaa.Fbk
open Go.RowKit
set_option linter.unusedVariables false

def ivC (v : IV) : List Value := [.int .i64 v.kind, .int .u32 v.ssrc, .int .u64 v.ntp, .int .u32 v.time, .int .u32 v.pks, .int .u32 v.ocs, .slice v.ba v.bn v.bc, .slice v.ga v.gn v.gc, .int .u32 v.media, .slice v.pa v.pn v.pc]
def itmL : Lay (Itm × ILoc) := ⟨34, 10, fun p => ivC (ivOf p.1 p.2), fun _ => rfl, fun x v hv => by
  simp only [ivC, List.mem_cons, List.not_mem_nil, or_false] at hv
  rcases hv with rfl | rfl | rfl | rfl | rfl | rfl | rfl | rfl | rfl | rfl <;> rfl, by decide⟩
theorem info_itm : (Try.prog.info? 34).map (fun i => (i.zero, i.size, i.bytes)) = some (some (itm ziv), 10, (Try.prog.info? 34).map (·.bytes) |>.getD 0) := by kernel_rfl
/-- The items of a row. -/
abbrev its (ps : List (Itm × ILoc)) : List Itm := ps.map Prod.fst
/-- A slice of items that reads as a list, and whose lists read as they should; all lies below block B. -/
structure ItsRd (w : World) (B : Nat) (a : Option Addr) (n : Nat) (ps : List (Itm × ILoc)) : Prop where
  row : RowRd itmL w B a n ps
  each : ∀ p ∈ ps, IRd w B p.1 p.2
section
variable {w w' : World} {B n : Nat} {a : Option Addr} {ps : List (Itm × ILoc)}
theorem ItsRd.below (h : ItsRd w B a n ps) (hb : Below B w w') : ItsRd w' B a n ps := ⟨h.row.below hb, fun p hp => (h.each p hp).below hb⟩
theorem ItsRd.more {B' : Nat} (h : ItsRd w B a n ps) (hb : B ≤ B') : ItsRd w B' a n ps := ⟨h.row.more hb, fun p hp => (h.each p hp).more hb⟩
theorem ItsRd.bel (h : ItsRd w w.heap.size a n ps) (hb : Below w.heap.size w w') : ItsRd w' w'.heap.size a n ps := (h.below hb).more hb.size
theorem ItsRd.len (h : ItsRd w B a n ps) : ps.length = n := h.row.1
theorem ItsRd.nil (w : World) (B : Nat) (a : Option Addr) : ItsRd w B a 0 [] := ⟨RowRd.none_ _ rfl, fun p hp => by simp at hp⟩
theorem ItsRd.take {k : Nat} (h : ItsRd w B a n ps) (hk : k ≤ n) : ItsRd w B a k (ps.take k) := by
  have hl := h.len
  refine ⟨⟨by rw [List.length_take]; omega, fun hp => ?_⟩, fun p hp => h.each p (List.mem_of_mem_take hp)⟩
  obtain ⟨b, off, e, hlt, hc⟩ := h.row.2 (by omega)
  refine ⟨b, off, e, hlt, fun i x hx j v hv => hc i x ?_ j v hv⟩
  have hi := (List.getElem?_eq_some_iff.1 hx).1
  rw [List.length_take] at hi
  rw [List.getElem?_take_of_lt (by omega)] at hx
  exact hx
/-- The cells of a row's k-th item. -/
theorem its_at {k : Nat} (h : ItsRd w B a n ps) (hk : k < n) : ∃ b off p v, a = some ⟨b, off, none⟩ ∧ b < B ∧ ps[k]? = some p ∧ p ∈ ps ∧ v = ivOf p.1 p.2 ∧ IRd w B p.1 p.2 ∧
    w.cell? ⟨b, off + k * 10, none⟩ = some (.int .i64 v.kind) ∧ w.cell? ⟨b, off + k * 10 + 1, none⟩ = some (.int .u32 v.ssrc) ∧ w.cell? ⟨b, off + k * 10 + 2, none⟩ = some (.int .u64 v.ntp) ∧ w.cell? ⟨b, off + k * 10 + 3, none⟩ = some (.int .u32 v.time) ∧
    w.cell? ⟨b, off + k * 10 + 4, none⟩ = some (.int .u32 v.pks) ∧ w.cell? ⟨b, off + k * 10 + 5, none⟩ = some (.int .u32 v.ocs) ∧ w.cell? ⟨b, off + k * 10 + 6, none⟩ = some (.slice v.ba v.bn v.bc) ∧ w.cell? ⟨b, off + k * 10 + 7, none⟩ = some (.slice v.ga v.gn v.gc) ∧
    w.cell? ⟨b, off + k * 10 + 8, none⟩ = some (.int .u32 v.media) ∧ w.cell? ⟨b, off + k * 10 + 9, none⟩ = some (.slice v.pa v.pn v.pc) := by
  obtain ⟨b, off, e, hlt, hc⟩ := h.row.2 (by omega)
  have hx := List.getElem?_eq_getElem (show k < ps.length from by rw [h.len]; exact hk)
  have hm := List.mem_of_getElem? hx
  exact ⟨b, off, _, _, e, hlt, hx, hm, rfl, h.each _ hm, hc k _ hx 0 _ rfl, hc k _ hx 1 _ rfl, hc k _ hx 2 _ rfl, hc k _ hx 3 _ rfl, hc k _ hx 4 _ rfl, hc k _ hx 5 _ rfl, hc k _ hx 6 _ rfl, hc k _ hx 7 _ rfl, hc k _ hx 8 _ rfl, hc k _ hx 9 _ rfl⟩
end
theorem its_take_succ {ps : List (Itm × ILoc)} {k : Nat} {p : Itm × ILoc} (h : ps[k]? = some p) : its (ps.take (k + 1)) = its (ps.take k) ++ [p.1] := by
  rw [List.take_add_one, h]; simp [its]
end Go.Proofs.Ytjbgfaoancmknaa.Fbk
