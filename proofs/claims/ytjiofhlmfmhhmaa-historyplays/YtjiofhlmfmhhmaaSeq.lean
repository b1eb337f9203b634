/- A region that draws its order, walked in ONE order that is typed out: readers are taken as soon as they may come up, whatever makes memory comes up alone, and behind it the condition on the worlds to come may be made stronger. Nothing of the program. · A region that draws its order where two operations that make memory may come up together: a tree of orders, typed out. Nothing of the program. -/
import Derived.Deep.RegionHeld3
import Derived.WalkKit
set_option maxRecDepth 100000
namespace Go.Proofs.Ytjiofhlmfmhhmaa
open Go.RowKit

/-- Is the order typed out one in which each reader (false) may be taken first, and each other operation (true) comes up alone? -/
def ordOk (ops : Array Oper) : List (Nat × Bool) → Array Bool → Bool
  | [], l => (Region.ready .any ops l).isEmpty
  | (i, false) :: r, l => Region.free .any ops l i && (Region.ready .any ops l).contains i && ordOk ops r (l.setIfInBounds i true)
  | (i, true) :: r, l => (Region.ready .any ops l == [i]) && ordOk ops r (l.setIfInBounds i true)

/-- What is left of the region, in the order typed out. -/
def Seq (P : Program) (os : List Oper) (Q : Exit → Act → World → Prop) (S : World → Prop) (ord : List (Nat × Bool)) (a : Act) (w : World) : Prop :=
  ∀ l, Region.noSelect os.toArray = true → ordOk os.toArray ord l = true → wpAnyH P .any os.toArray Q S ord.length l a w

section
variable {P : Program} {os : List Oper} {Q : Exit → Act → World → Prop} {S : World → Prop} {ord : List (Nat × Bool)} {a : Act} {w : World}

theorem wpAnyH_weak {S' : World → Prop} (hSS : ∀ W, S' W → S W) {ops : Array Oper} : ∀ (n : Nat) (l : Array Bool) (a : Act) (w : World), wpAnyH P .any ops Q S' n l a w → wpAnyH P .any ops Q S n l a w
  | 0, _, _, _, h => h
  | n + 1, _, _, _, h => ⟨h.1, fun i hi => wpOp_mono (fun a' w' h' => ⟨hSS _ h'.1, wpAnyH_weak hSS n _ a' w' h'.2⟩) (h.2 i hi)⟩

theorem seq_end (h : Q .normal a w) : Seq P os Q S [] a w := fun l _ hc => ⟨by simpa [ordOk] using hc, h⟩

theorem seq_read {i : Nat} {o : Oper} {v : Value} (hi : os[i]? = some o) (hQ : ∀ c a w, Q (.panic c) (a.put o.dst v) w → Q (.panic c) a w) (hS : S w) (hy : YieldsIf P os.toArray S o v a)
    (h : Seq P os Q S ord (a.put o.dst v) w) : Seq P os Q S ((i, false) :: ord) a w := fun l hs hc => by
  simp only [ordOk, Bool.and_eq_true] at hc
  exact wpAnyH_take (oi := o) (by simpa using hi) hs hc.1.1 hc.1.2 hQ hy hS (h _ hs hc.2)

theorem seq_do {i : Nat} {o : Oper} (hi : os[i]? = some o)
    (h : ∀ K' : Act → World → Prop, Shut (∀ (a' : Act) (w' : World) (S' : World → Prop), (∀ W, S' W → S W) → S' w' → Seq P os Q S' ord a' w' → K' a' w') →
      if Region.wanted o (yielded os.toArray a.tmps) = true then Oper.wp P o a w K' Q else K' (a.put o.dst undef) w) : Seq P os Q S ((i, true) :: ord) a w := fun l hs hc => by
  simp only [ordOk, Bool.and_eq_true, beq_iff_eq] at hc
  refine wpAnyH_all hc.1 (by simp) (fun j hj => ?_)
  obtain rfl : j = i := by simpa using hj
  exact wpOp_step (o := o) (by simpa using hi) (fun K' hK => h K' (fun a' w' S' hSS hS' hq => hK a' w' ⟨hSS _ hS', wpAnyH_weak hSS _ _ _ _ (hq _ hs hc.2)⟩))

/-- An operation that is not wanted (its guard is not met), though it is no reader. -/
theorem seq_pass {i : Nat} {o : Oper} (hi : os[i]? = some o) (hw : Region.wanted o (yielded os.toArray a.tmps) = false) (hS : S w) (h : Seq P os Q S ord (a.put o.dst undef) w) : Seq P os Q S ((i, true) :: ord) a w :=
  seq_do hi (fun K' hK => by rw [hw, if_neg (by decide)]; exact hK.out _ _ S (fun _ h => h) hS h)

theorem region_seq {id : Nat} (S : World → Prop) (ord : List (Nat × Bool)) (hm : P.follows .mixedOrders = true) (hs : Region.noSelect os.toArray = true) (hlen : ord.length = os.toArray.size)
    (hc : ordOk os.toArray ord (Array.replicate os.toArray.size false) = true) (h : Seq P os Q S ord a w.drew) : (Code.region id os.toArray true).wp P Q a w := by
  refine wp_region_held (S := S) hm ?_
  rw [← hlen]
  have := h (Array.replicate os.toArray.size false) hs hc
  rw [← hlen] at this
  exact this
end
end Go.Proofs.Ytjiofhlmfmhhmaa

namespace Go.Proofs.Ytjiofhlmfmhhmaa
open Go.RowKit

/-- An order with forks: a reader (rd), an operation that comes up alone (dn), two that come up together (fk). -/
inductive Tr where
  | nil
  | rd (i : Nat) (r : Tr)
  | dn (i : Nat) (r : Tr)
  | fk (i j : Nat) (r s : Tr)
  | fk3 (i j k : Nat) (r s t : Tr)
def Tr.cnt : Tr → Nat
  | .nil => 0
  | .rd _ r => r.cnt + 1
  | .dn _ r => r.cnt + 1
  | .fk _ _ r _ => r.cnt + 1
  | .fk3 _ _ _ r _ _ => r.cnt + 1
def okT (ops : Array Oper) : Tr → Array Bool → Bool
  | .nil, l => (Region.ready .any ops l).isEmpty
  | .rd i r, l => Region.free .any ops l i && (Region.ready .any ops l).contains i && okT ops r (l.setIfInBounds i true)
  | .dn i r, l => (Region.ready .any ops l == [i]) && okT ops r (l.setIfInBounds i true)
  | .fk i j r s, l => (Region.ready .any ops l == [i, j]) && (r.cnt == s.cnt) && okT ops r (l.setIfInBounds i true) && okT ops s (l.setIfInBounds j true)
  | .fk3 i j k r s t, l => (Region.ready .any ops l == [i, j, k]) && (r.cnt == s.cnt) && (r.cnt == t.cnt) && okT ops r (l.setIfInBounds i true) && okT ops s (l.setIfInBounds j true) && okT ops t (l.setIfInBounds k true)
def SeqT (P : Program) (os : List Oper) (Q : Exit → Act → World → Prop) (S : World → Prop) (t : Tr) (a : Act) (w : World) : Prop :=
  ∀ l, Region.noSelect os.toArray = true → okT os.toArray t l = true → wpAnyH P .any os.toArray Q S t.cnt l a w

section
variable {P : Program} {os : List Oper} {Q : Exit → Act → World → Prop} {S : World → Prop} {r s : Tr} {a : Act} {w : World}
theorem seqT_end (h : Q .normal a w) : SeqT P os Q S .nil a w := fun l _ hc => ⟨by simpa [okT] using hc, h⟩
theorem seqT_read {i : Nat} {o : Oper} {v : Value} (hi : os[i]? = some o) (hQ : ∀ c a w, Q (.panic c) (a.put o.dst v) w → Q (.panic c) a w) (hS : S w) (hy : YieldsIf P os.toArray S o v a)
    (h : SeqT P os Q S r (a.put o.dst v) w) : SeqT P os Q S (.rd i r) a w := fun l hs hc => by
  simp only [okT, Bool.and_eq_true] at hc
  exact wpAnyH_take (oi := o) (by simpa using hi) hs hc.1.1 hc.1.2 hQ hy hS (h _ hs hc.2)
theorem seqT_do {i : Nat} {o : Oper} (hi : os[i]? = some o)
    (h : ∀ K' : Act → World → Prop, Shut (∀ (a' : Act) (w' : World) (S' : World → Prop), (∀ W, S' W → S W) → S' w' → SeqT P os Q S' r a' w' → K' a' w') →
      if Region.wanted o (yielded os.toArray a.tmps) = true then Oper.wp P o a w K' Q else K' (a.put o.dst undef) w) : SeqT P os Q S (.dn i r) a w := fun l hs hc => by
  simp only [okT, Bool.and_eq_true, beq_iff_eq] at hc
  refine wpAnyH_all hc.1 (by simp) (fun j hj => ?_)
  obtain rfl : j = i := by simpa using hj
  exact wpOp_step (o := o) (by simpa using hi) (fun K' hK => h K' (fun a' w' S' hSS hS' hq => hK a' w' ⟨hSS _ hS', wpAnyH_weak hSS _ _ _ _ (hq _ hs hc.2)⟩))
theorem seqT_fork {i j : Nat} {o p : Oper} (hi : os[i]? = some o) (hj : os[j]? = some p)
    (h1 : ∀ K' : Act → World → Prop, Shut (∀ (a' : Act) (w' : World) (S' : World → Prop), (∀ W, S' W → S W) → S' w' → SeqT P os Q S' r a' w' → K' a' w') →
      if Region.wanted o (yielded os.toArray a.tmps) = true then Oper.wp P o a w K' Q else K' (a.put o.dst undef) w)
    (h2 : ∀ K' : Act → World → Prop, Shut (∀ (a' : Act) (w' : World) (S' : World → Prop), (∀ W, S' W → S W) → S' w' → SeqT P os Q S' s a' w' → K' a' w') →
      if Region.wanted p (yielded os.toArray a.tmps) = true then Oper.wp P p a w K' Q else K' (a.put p.dst undef) w) : SeqT P os Q S (.fk i j r s) a w := fun l hs hc => by
  simp only [okT, Bool.and_eq_true, beq_iff_eq] at hc
  obtain ⟨⟨⟨hr, hcn⟩, hc1⟩, hc2⟩ := hc
  refine wpAnyH_all hr (by simp) (fun k hk => ?_)
  simp only [List.mem_cons, List.not_mem_nil, or_false] at hk
  rcases hk with rfl | rfl
  · exact wpOp_step (o := o) (by simpa using hi) (fun K' hK => h1 K' (fun a' w' S' hSS hS' hq => hK a' w' ⟨hSS _ hS', wpAnyH_weak hSS _ _ _ _ (hq _ hs hc1)⟩))
  · exact wpOp_step (o := p) (by simpa using hj) (fun K' hK => h2 K' (fun a' w' S' hSS hS' hq => hK a' w' ⟨hSS _ hS', wpAnyH_weak hSS _ _ _ _ (by rw [hcn]; exact hq _ hs hc2)⟩))
theorem seqT_fork3 {i j k : Nat} {t : Tr} {o p q : Oper} (hi : os[i]? = some o) (hj : os[j]? = some p) (hk : os[k]? = some q)
    (h1 : ∀ K' : Act → World → Prop, Shut (∀ (a' : Act) (w' : World) (S' : World → Prop), (∀ W, S' W → S W) → S' w' → SeqT P os Q S' r a' w' → K' a' w') →
      if Region.wanted o (yielded os.toArray a.tmps) = true then Oper.wp P o a w K' Q else K' (a.put o.dst undef) w)
    (h2 : ∀ K' : Act → World → Prop, Shut (∀ (a' : Act) (w' : World) (S' : World → Prop), (∀ W, S' W → S W) → S' w' → SeqT P os Q S' s a' w' → K' a' w') →
      if Region.wanted p (yielded os.toArray a.tmps) = true then Oper.wp P p a w K' Q else K' (a.put p.dst undef) w)
    (h3 : ∀ K' : Act → World → Prop, Shut (∀ (a' : Act) (w' : World) (S' : World → Prop), (∀ W, S' W → S W) → S' w' → SeqT P os Q S' t a' w' → K' a' w') →
      if Region.wanted q (yielded os.toArray a.tmps) = true then Oper.wp P q a w K' Q else K' (a.put q.dst undef) w) : SeqT P os Q S (.fk3 i j k r s t) a w := fun l hs hc => by
  simp only [okT, Bool.and_eq_true, beq_iff_eq] at hc
  obtain ⟨⟨⟨⟨⟨hr, hcs⟩, hct⟩, hc1⟩, hc2⟩, hc3⟩ := hc
  refine wpAnyH_all hr (by simp) (fun x hx => ?_)
  simp only [List.mem_cons, List.not_mem_nil, or_false] at hx
  rcases hx with rfl | rfl | rfl
  · exact wpOp_step (o := o) (by simpa using hi) (fun K' hK => h1 K' (fun a' w' S' hSS hS' hq => hK a' w' ⟨hSS _ hS', wpAnyH_weak hSS _ _ _ _ (hq _ hs hc1)⟩))
  · exact wpOp_step (o := p) (by simpa using hj) (fun K' hK => h2 K' (fun a' w' S' hSS hS' hq => hK a' w' ⟨hSS _ hS', wpAnyH_weak hSS _ _ _ _ (by rw [hcs]; exact hq _ hs hc2)⟩))
  · exact wpOp_step (o := q) (by simpa using hk) (fun K' hK => h3 K' (fun a' w' S' hSS hS' hq => hK a' w' ⟨hSS _ hS', wpAnyH_weak hSS _ _ _ _ (by rw [hct]; exact hq _ hs hc3)⟩))
theorem region_tree {id : Nat} (S : World → Prop) (t : Tr) (hm : P.follows .mixedOrders = true) (hs : Region.noSelect os.toArray = true) (hlen : t.cnt = os.toArray.size)
    (hc : okT os.toArray t (Array.replicate os.toArray.size false) = true) (h : SeqT P os Q S t a w.drew) : (Code.region id os.toArray true).wp P Q a w := by
  refine wp_region_held (S := S) hm ?_
  rw [← hlen]
  have := h (Array.replicate os.toArray.size false) hs hc
  rw [← hlen] at this
  exact this
end
end Go.Proofs.Ytjiofhlmfmhhmaa
