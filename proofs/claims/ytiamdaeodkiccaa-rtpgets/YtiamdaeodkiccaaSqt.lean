/- A region that draws its order where two operations that make memory may come up together: a tree of orders, typed out. Nothing of the program. -/
import Derived.Test.YtiamdaeodkiccaaSeq
namespace Go.Proofs.Ytiamdaeodkiccaa
open Go.RowKit

/-- An order with forks: a reader (rd), an operation that comes up alone (dn), two that come up together (fk). -/
inductive Tr where
  | nil
  | rd (i : Nat) (r : Tr)
  | dn (i : Nat) (r : Tr)
  | fk (i j : Nat) (r s : Tr)
def Tr.cnt : Tr → Nat
  | .nil => 0
  | .rd _ r => r.cnt + 1
  | .dn _ r => r.cnt + 1
  | .fk _ _ r _ => r.cnt + 1
def okT (ops : Array Oper) : Tr → Array Bool → Bool
  | .nil, l => (Region.ready .any ops l).isEmpty
  | .rd i r, l => Region.free .any ops l i && (Region.ready .any ops l).contains i && okT ops r (l.setIfInBounds i true)
  | .dn i r, l => (Region.ready .any ops l == [i]) && okT ops r (l.setIfInBounds i true)
  | .fk i j r s, l => (Region.ready .any ops l == [i, j]) && (r.cnt == s.cnt) && okT ops r (l.setIfInBounds i true) && okT ops s (l.setIfInBounds j true)
def SeqT (P : Program) (os : List Oper) (Q : Exit → Act → World → Prop) (S : World → Prop) (t : Tr) (a : Act) (w : World) : Prop :=
  ∀ l, Region.noSelect os.toArray = true → okT os.toArray t l = true → wpAnyH P .any os.toArray Q S t.cnt l a w

section
variable {P : Program} {os : List Oper} {Q : Exit → Act → World → Prop} {S : World → Prop} {r s : Tr} {a : Act} {w : World}
theorem seqT_end (h : Q .normal a w) : SeqT P os Q S .nil a w := fun l _ hc => ⟨by simpa [okT] using hc, h⟩
theorem seqT_read {i : Nat} {o : Oper} {v : Value} (hi : os[i]? = some o) (hQ : ∀ c a w, Q (.panic c) (a.put o.dst v) w → Q (.panic c) a w) (hS : S w) (hy : YieldsIf P os.toArray S o v a)
    (h : SeqT P os Q S r (a.put o.dst v) w) : SeqT P os Q S (.rd i r) a w := fun l hs hc => by
  simp only [okT, Bool.and_eq_true] at hc
  exact wpAnyH_take (oi := o) (by simpa using hi) hs hc.1.1 hc.1.2 hQ hy hS (h _ hs hc.2)
theorem seqT_do {i : Nat} {o : Oper} (hi : os[i]? = some o)
    (h : ∀ K' : Act → World → Prop, Shut (∀ (a' : Act) (w' : World) (S' : World → Prop), (∀ W, S' W → S W) → S' w' → SeqT P os Q S' r a' w' → K' a' w') →
      if Region.wanted o (yielded os.toArray a.tmps) = true then Oper.wp P o a w K' Q else K' (a.put o.dst undef) w) : SeqT P os Q S (.dn i r) a w := fun l hs hc => by
  simp only [okT, Bool.and_eq_true, beq_iff_eq] at hc
  refine wpAnyH_all hc.1 (by simp) (fun j hj => ?_)
  obtain rfl : j = i := by simpa using hj
  exact wpOp_step (o := o) (by simpa using hi) (fun K' hK => h K' (fun a' w' S' hSS hS' hq => hK a' w' ⟨hSS _ hS', wpAnyH_weak hSS _ _ _ _ (hq _ hs hc.2)⟩))
theorem seqT_fork {i j : Nat} {o p : Oper} (hi : os[i]? = some o) (hj : os[j]? = some p)
    (h1 : ∀ K' : Act → World → Prop, Shut (∀ (a' : Act) (w' : World) (S' : World → Prop), (∀ W, S' W → S W) → S' w' → SeqT P os Q S' r a' w' → K' a' w') →
      if Region.wanted o (yielded os.toArray a.tmps) = true then Oper.wp P o a w K' Q else K' (a.put o.dst undef) w)
    (h2 : ∀ K' : Act → World → Prop, Shut (∀ (a' : Act) (w' : World) (S' : World → Prop), (∀ W, S' W → S W) → S' w' → SeqT P os Q S' s a' w' → K' a' w') →
      if Region.wanted p (yielded os.toArray a.tmps) = true then Oper.wp P p a w K' Q else K' (a.put p.dst undef) w) : SeqT P os Q S (.fk i j r s) a w := fun l hs hc => by
  simp only [okT, Bool.and_eq_true, beq_iff_eq] at hc
  obtain ⟨⟨⟨hr, hcn⟩, hc1⟩, hc2⟩ := hc
  refine wpAnyH_all hr (by simp) (fun k hk => ?_)
  simp only [List.mem_cons, List.not_mem_nil, or_false] at hk
  rcases hk with rfl | rfl
  · exact wpOp_step (o := o) (by simpa using hi) (fun K' hK => h1 K' (fun a' w' S' hSS hS' hq => hK a' w' ⟨hSS _ hS', wpAnyH_weak hSS _ _ _ _ (hq _ hs hc1)⟩))
  · exact wpOp_step (o := p) (by simpa using hj) (fun K' hK => h2 K' (fun a' w' S' hSS hS' hq => hK a' w' ⟨hSS _ hS', wpAnyH_weak hSS _ _ _ _ (by rw [hcn]; exact hq _ hs hc2)⟩))
theorem region_tree {id : Nat} (S : World → Prop) (t : Tr) (hm : P.follows .mixedOrders = true) (hs : Region.noSelect os.toArray = true) (hlen : t.cnt = os.toArray.size)
    (hc : okT os.toArray t (Array.replicate os.toArray.size false) = true) (h : SeqT P os Q S t a w.drew) : (Code.region id os.toArray true).wp P Q a w := by
  refine wp_region_held (S := S) hm ?_
  rw [← hlen]
  have := h (Array.replicate os.toArray.size false) hs hc
  rw [← hlen] at this
  exact this
end
end Go.Proofs.Ytiamdaeodkiccaa
