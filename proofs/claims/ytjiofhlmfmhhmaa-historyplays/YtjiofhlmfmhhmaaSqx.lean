/- A region that draws its order, walked in ONE typed order, where one operation k (a store) ends what the condition on the worlds says: whatever k waits for may still be taken first. Nothing of the program. -/
import Derived.Test.YtjiofhlmfmhhmaaSeq
set_option maxRecDepth 100000
namespace Go.Proofs.Ytjiofhlmfmhhmaa
open Go.RowKit

/-- Whatever order is picked from here on; S holds behind every operation that is carried out ahead of operation k. -/
def wpAnyX (P : Program) (md : Region.Mode) (ops : Array Oper) (Q : Exit → Act → World → Prop) (S : World → Prop) (k : Nat) : Nat → Array Bool → Act → World → Prop
  | 0, listed, a, w => Region.ready md ops listed = [] ∧ Q .normal a w
  | fuel + 1, listed, a, w =>
    (Region.ready md ops listed = [] → Q .normal a w) ∧
    ∀ i ∈ Region.ready md ops listed, wpOp P ops Q i (fun a' w' => ((listed.setIfInBounds i true).getD k false = true ∨ S w') ∧ wpAnyX P md ops Q S k fuel (listed.setIfInBounds i true) a' w') a w

section
variable {P : Program} {ops : Array Oper} {Q : Exit → Act → World → Prop} {md : Region.Mode} {S : World → Prop} {k : Nat}
theorem wpAny_of_X : ∀ (fuel : Nat) (listed : Array Bool) (a : Act) (w : World), wpAnyX P md ops Q S k fuel listed a w → wpAny P md ops Q fuel listed a w
  | 0, _, _, _, h => h
  | fuel + 1, _, _, _, h => ⟨h.1, fun i hi => wpOp_mono (fun a' w' h' => wpAny_of_X fuel _ a' w' h'.2) (h.2 i hi)⟩

theorem getD_set_other {l : Array Bool} {j c : Nat} (d : Bool) (h : j ≠ c) : (l.setIfInBounds j true).getD c d = l.getD c d := by
  rw [Array.getD_eq_getD_getElem?, Array.getD_eq_getD_getElem?, Array.getElem?_setIfInBounds_ne h]

/-- Taken first: whatever waits for it (the list D, k among it) has not come up. -/
theorem wpAnyX_first {i : Nat} {oi : Oper} {v : Value} (hi : ops[i]? = some oi) (hsel : ∀ (j : Nat) (o : Oper) cs b, ops[j]? = some o → o.op ≠ .select cs b)
    (hQ : ∀ c a w, Q (.panic c) (a.put oi.dst v) w → Q (.panic c) a w) (D : List Nat) (hk : k ∈ D)
    (hD : ∀ c ∈ D, c ≠ i ∧ ∃ oc, ops[c]? = some oc ∧ ∃ e ∈ oc.after, Region.binds md e = true ∧ (e.on = i ∨ e.on ∈ D)) :
    ∀ (fuel : Nat) (listed : Array Bool) (a : Act) (w : World),
      (∀ j oj, ops[j]? = some oj → j ≠ i → listed.getD j true = false → (∀ e ∈ oj.after, Region.binds md e = true → e.on ≠ i) → oi.apart ops oj = true) →
      i ∈ Region.ready md ops listed → YieldsIf P ops S oi v a → S w → (∀ c ∈ D, listed.getD c true = false) →
      wpAnyX P md ops Q S k fuel (listed.setIfInBounds i true) (a.put oi.dst v) w → wpAnyX P md ops Q S k (fuel + 1) listed a w := by
  intro fuel
  induction fuel with
  | zero =>
    intro listed a w _ hr hy hS _ H
    refine ⟨fun h => (by rw [h] at hr; cases hr), fun j hj => ?_⟩
    by_cases hji : j = i
    · subst hji; exact hy.wpOp hi hS ⟨.inr hS, H⟩
    · have := ready_mono hj hji
      rw [H.1] at this
      cases this
  | succ fuel ih =>
    intro listed a w hfree hr hy hS hun H
    refine ⟨fun h => (by rw [h] at hr; cases hr), fun j hj => ?_⟩
    by_cases hji : j = i
    · subst hji; exact hy.wpOp hi hS ⟨.inr hS, H⟩
    · have h1 := H.2 j (ready_mono hj hji)
      obtain ⟨hjun, oj, hoj, hall⟩ := mem_ready.1 hj
      have hnl : ∀ c, listed.getD c true = false → ¬ listed.getD c false = true := fun c h0 h1 => by
        rw [Array.getD_eq_getD_getElem?] at h0 h1
        cases hc : listed[c]? with
        | none => rw [hc] at h0; cases h0
        | some x => rw [hc] at h0 h1; simp at h0 h1; rw [h0] at h1; cases h1
      have hin : listed.getD i true = false := (mem_ready.1 hr).1
      have hnot : ∀ e ∈ oj.after, Region.binds md e = true → e.on ≠ i := fun e he hb heq => by
        have h1 := hall e he hb
        rw [heq] at h1
        exact hnl i hin h1
      have hjD : j ∉ D := fun hm => by
        obtain ⟨_, oc, hoc, e, he, hb, hon⟩ := hD j hm
        rw [hoj] at hoc
        injection hoc with hoc
        subst hoc
        rcases hon with hon | hon
        · exact hnot e he hb hon
        · exact hnl e.on (hun e.on hon) (hall e he hb)
      have h2 := wpOp_putIf hoj (hfree j oj hoj hji hjun hnot) (fun cs b => hsel i oi cs b hi) (fun cs b => hsel j oj cs b hoj) hQ hy h1
      have hfree' : ∀ c ok, ops[c]? = some ok → c ≠ i → (listed.setIfInBounds j true).getD c true = false →
          (∀ e ∈ ok.after, Region.binds md e = true → e.on ≠ i) → oi.apart ops ok = true := fun c ok hc hci hun hno => by
        refine hfree c ok hc hci ?_ hno
        by_cases hjk : j = c
        · subst hjk; exact hjun
        · rw [getD_set_other true hjk] at hun; exact hun
      have hkn : ((listed.setIfInBounds i true).setIfInBounds j true).getD k false = true → False := fun h => by
        rw [getD_set_other false (show j ≠ k from fun e => hjD (e ▸ hk)), getD_set_other false (show i ≠ k from fun e => (hD k hk).1 e.symm)] at h
        exact hnl k (hun k hk) h
      have hun' : ∀ c ∈ D, (listed.setIfInBounds j true).getD c true = false := fun c hc => by
        rw [getD_set_other true (show j ≠ c from fun e => hjD (e ▸ hc))]; exact hun c hc
      refine wpOp_mono (fun a' w' h3 => ?_) h2
      have hS' : S w' := h3.2.1.resolve_left (fun h => hkn h)
      refine ⟨.inr hS', ih (listed.setIfInBounds j true) a' w' hfree' (ready_mono hr (Ne.symm hji)) h3.1 hS' hun' ?_⟩
      rw [Array.setIfInBounds_comm _ _ hji]
      exact h3.2.2
theorem wpAnyX_all {rs : List Nat} {fuel : Nat} {listed : Array Bool} {a : Act} {w : World} (hr : Region.ready md ops listed = rs) (hne : rs ≠ [])
    (h : ∀ i ∈ rs, wpOp P ops Q i (fun a' w' => ((listed.setIfInBounds i true).getD k false = true ∨ S w') ∧ wpAnyX P md ops Q S k fuel (listed.setIfInBounds i true) a' w') a w) : wpAnyX P md ops Q S k (fuel + 1) listed a w :=
  ⟨fun h0 => absurd (hr ▸ h0) hne, hr ▸ h⟩
theorem wpAnyX_weak {S' : World → Prop} (hSS : ∀ W, S' W → S W) : ∀ (n : Nat) (l : Array Bool) (a : Act) (w : World), wpAnyX P md ops Q S' k n l a w → wpAnyX P md ops Q S k n l a w
  | 0, _, _, _, h => h
  | n + 1, _, _, _, h => ⟨h.1, fun i hi => wpOp_mono (fun a' w' h' => ⟨h'.1.imp id (hSS _), wpAnyX_weak hSS n _ a' w' h'.2⟩) (h.2 i hi)⟩
end

/-- Does operation c wait for i, or for one of the list? -/
def waitsB (ops : Array Oper) (i : Nat) (D : List Nat) (c : Nat) : Bool := match ops[c]? with
  | some o => o.after.any (fun e => Region.binds .any e && (e.on == i || D.contains e.on))
  | none => false
/-- All that wait for i, by whichever road. -/
def waiters (ops : Array Oper) (i : Nat) : List Nat := (List.range ops.size).foldl (fun D c => if waitsB ops i D c && c != i then c :: D else D) []
def waitOk (ops : Array Oper) (i k : Nat) (l : Array Bool) : Bool := let D := waiters ops i; D.contains k && D.all (fun c => c != i && waitsB ops i D c && !(l.getD c true))
/-- The order typed out: each reader (false) may be taken first, and k waits for it; each other operation (true) comes up alone. -/
def ordX (ops : Array Oper) (k : Nat) : List (Nat × Bool) → Array Bool → Bool
  | [], l => (Region.ready .any ops l).isEmpty
  | (i, false) :: r, l => Region.free .any ops l i && (Region.ready .any ops l).contains i && waitOk ops i k l && ordX ops k r (l.setIfInBounds i true)
  | (i, true) :: r, l => (Region.ready .any ops l == [i]) && ordX ops k r (l.setIfInBounds i true)
def SeqX (P : Program) (os : List Oper) (Q : Exit → Act → World → Prop) (S : World → Prop) (k : Nat) (ord : List (Nat × Bool)) (a : Act) (w : World) : Prop :=
  ∀ l, Region.noSelect os.toArray = true → ordX os.toArray k ord l = true → wpAnyX P .any os.toArray Q S k ord.length l a w

section
variable {P : Program} {os : List Oper} {Q : Exit → Act → World → Prop} {S : World → Prop} {k : Nat} {ord : List (Nat × Bool)} {a : Act} {w : World}
theorem seqX_end (h : Q .normal a w) : SeqX P os Q S k [] a w := fun l _ hc => ⟨by simpa [ordX] using hc, h⟩
theorem seqX_read {i : Nat} {o : Oper} {v : Value} (hi : os[i]? = some o) (hQ : ∀ c a w, Q (.panic c) (a.put o.dst v) w → Q (.panic c) a w) (hS : S w) (hy : YieldsIf P os.toArray S o v a)
    (h : SeqX P os Q S k ord (a.put o.dst v) w) : SeqX P os Q S k ((i, false) :: ord) a w := fun l hs hc => by
  simp only [ordX, Bool.and_eq_true] at hc
  obtain ⟨⟨⟨hf, hr⟩, hw⟩, hrest⟩ := hc
  simp only [waitOk, Bool.and_eq_true, List.all_eq_true] at hw
  obtain ⟨hk, hD⟩ := hw
  refine wpAnyX_first (by simpa using hi) (Region.noSelect_spec hs) hQ (waiters os.toArray i) (by simpa using hk) (fun c hc => ?_) _ l a w (Region.free_spec (by simpa using hi) hf) (by simpa using hr) hy hS (fun c hc => ?_) (h _ hs hrest)
  · obtain ⟨⟨h1, h2⟩, h3⟩ := hD c hc
    refine ⟨by simpa using h1, ?_⟩
    unfold waitsB at h2
    cases ho : os.toArray[c]? with
    | none => rw [ho] at h2; cases h2
    | some oc =>
      rw [ho] at h2
      simp only [Array.any_eq_true', Bool.and_eq_true, Bool.or_eq_true, beq_iff_eq, List.contains_iff_mem] at h2
      obtain ⟨e, he, hb, hon⟩ := h2
      exact ⟨oc, rfl, e, he, hb, hon⟩
  · obtain ⟨_, h3⟩ := hD c hc
    simpa using h3
theorem seqX_do {i : Nat} {o : Oper} (hi : os[i]? = some o)
    (h : ∀ K' : Act → World → Prop, Shut (∀ (a' : Act) (w' : World) (S' : World → Prop), (∀ W, S' W → S W) → S' w' → SeqX P os Q S' k ord a' w' → K' a' w') →
      if Region.wanted o (yielded os.toArray a.tmps) = true then Oper.wp P o a w K' Q else K' (a.put o.dst undef) w) : SeqX P os Q S k ((i, true) :: ord) a w := fun l hs hc => by
  simp only [ordX, Bool.and_eq_true, beq_iff_eq] at hc
  refine wpAnyX_all hc.1 (by simp) (fun j hj => ?_)
  obtain rfl : j = i := by simpa using hj
  exact wpOp_step (o := o) (by simpa using hi) (fun K' hK => h K' (fun a' w' S' hSS hS' hq => hK a' w' ⟨.inr (hSS _ hS'), wpAnyX_weak hSS _ _ _ _ (hq _ hs hc.2)⟩))
/-- The operation k itself, the last one: nothing is asked behind it. -/
theorem seqX_last {o : Oper} (hi : os[k]? = some o)
    (h : ∀ K' : Act → World → Prop, Shut (∀ (a' : Act) (w' : World), Q .normal a' w' → K' a' w') →
      if Region.wanted o (yielded os.toArray a.tmps) = true then Oper.wp P o a w K' Q else K' (a.put o.dst undef) w) : SeqX P os Q S k [(k, true)] a w := fun l hs hc => by
  simp only [ordX, Bool.and_eq_true, beq_iff_eq] at hc
  have hkl : k < l.size ∨ ¬ k < l.size := Nat.lt_or_ge k l.size |>.imp id Nat.not_lt.2
  refine wpAnyX_all hc.1 (by simp) (fun j hj => ?_)
  obtain rfl : j = k := by simpa using hj
  have hlt : j < l.size := by
    have hm : j ∈ Region.ready .any os.toArray l := by rw [hc.1]; simp
    have := (mem_ready.1 hm).1
    rw [Array.getD_eq_getD_getElem?] at this
    rcases Nat.lt_or_ge j l.size with h | h
    · exact h
    · rw [Array.getElem?_eq_none h] at this; cases this
  exact wpOp_step (o := o) (by simpa using hi) (fun K' hK => h K' (fun a' w' hq => hK a' w' ⟨.inl (by rw [Array.getD_eq_getD_getElem?, Array.getElem?_setIfInBounds_self_of_lt hlt]; rfl), (by simpa using hc.2), hq⟩))
theorem region_seqX {id : Nat} (S : World → Prop) (k : Nat) (ord : List (Nat × Bool)) (hm : P.follows .mixedOrders = true) (hs : Region.noSelect os.toArray = true) (hlen : ord.length = os.toArray.size)
    (hc : ordX os.toArray k ord (Array.replicate os.toArray.size false) = true) (h : SeqX P os Q S k ord a w.drew) : (Code.region id os.toArray true).wp P Q a w := by
  refine wp_region_any hm (wpAny_of_X (S := S) (k := k) _ _ _ _ ?_)
  have := h (Array.replicate os.toArray.size false) hs hc
  rw [hlen] at this
  exact this
end
end Go.Proofs.Ytjiofhlmfmhhmaa
