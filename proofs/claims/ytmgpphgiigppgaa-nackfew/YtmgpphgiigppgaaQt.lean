/- Numbers that are asked for again, plain: what pairs ask for (expand), the pairs of a row of numbers (pk); what was packed asks for just that row; no pair could have taken the next one's first number. No program. -/
import Derived.Test.YtmgpphgiigppgaaQa
import Derived.Test.YtmgpphgiigppgaaSp
namespace Go.Proofs.Ytmgpphgiigppgaa
set_option linter.unusedVariables false

def bitB (b : Int) (i : Nat) : Bool := decide (b / 2 ^ i % 2 = 1)
/-- The numbers of the bits below k. -/
def upTo (pid b : Int) : Nat → List Int
  | 0 => []
  | k + 1 => upTo pid b k ++ (if bitB b k then [(pid + k + 1) % 65536] else [])
def exp1 (p : Int × Int) : List Int := p.1 :: upTo p.1 p.2 16
def expand : List (Int × Int) → List Int
  | [] => []
  | p :: r => exp1 p ++ expand r
theorem expand_append : ∀ a b, expand (a ++ b) = expand a ++ expand b
  | [], b => rfl
  | p :: r, b => by rw [List.cons_append, expand, expand, expand_append r b, List.append_assoc]
theorem expand_snoc (a : List (Int × Int)) (p : Int × Int) : expand (a ++ [p]) = expand a ++ exp1 p := by rw [expand_append]; simp [expand]

theorem p2_pos : ∀ k : Nat, (0 : Int) < 2 ^ k
  | 0 => by decide
  | k + 1 => by have := p2_pos k; rw [Int.pow_succ]; omega
theorem p2_split {i k : Nat} (h : i ≤ k) : (2 : Int) ^ k = 2 ^ (k - i) * 2 ^ i := by rw [← Int.pow_add, Nat.sub_add_cancel h]
theorem p2_mono {h k : Nat} (hk : h ≤ k) : (2 : Int) ^ h ≤ 2 ^ k := by
  rw [p2_split hk]
  have h1 := p2_pos (k - h)
  have h2 := p2_pos h
  have : (1 : Int) * 2 ^ h ≤ 2 ^ (k - h) * 2 ^ h := Int.mul_le_mul_of_nonneg_right (by omega) (Int.le_of_lt h2)
  simpa using this
theorem bit_low {b : Int} {i k : Nat} (h : i < k) : bitB (b + 2 ^ k) i = bitB b i := by
  have h2 := p2_pos i
  have e : (b + 2 ^ k) / 2 ^ i = b / 2 ^ i + 2 ^ (k - i) := by rw [p2_split (Nat.le_of_lt h), Int.add_mul_ediv_right _ _ (Int.ne_of_gt h2)]
  have e2 : (2 : Int) ^ (k - i) = 2 * 2 ^ (k - i - 1) := by rw [show k - i = k - i - 1 + 1 from by omega, Int.pow_succ, Int.mul_comm]; simp
  unfold bitB
  rw [e, e2]
  congr 1
  rw [eq_iff_iff]
  omega
theorem bit_top {b : Int} {k : Nat} (h0 : 0 ≤ b) (h : b < 2 ^ k) : bitB (b + 2 ^ k) k = true := by
  have h2 := p2_pos k
  have e : (b + 2 ^ k) / 2 ^ k = b / 2 ^ k + 1 := by
    have := Int.add_mul_ediv_right b 1 (Int.ne_of_gt h2)
    simpa using this
  unfold bitB
  rw [e, Int.ediv_eq_zero_of_lt h0 h]
  decide
theorem bit_over {b : Int} {i : Nat} (h0 : 0 ≤ b) (h : b < 2 ^ i) : bitB b i = false := by
  unfold bitB
  rw [Int.ediv_eq_zero_of_lt h0 h]
  decide
theorem upTo_over (pid : Int) {b : Int} {k : Nat} (h0 : 0 ≤ b) (h : b < 2 ^ k) : ∀ n, k ≤ n → upTo pid b n = upTo pid b k
  | 0, hn => by rw [show k = 0 from by omega]
  | n + 1, hn => by
    by_cases hk : k = n + 1
    · rw [hk]
    · have hle : k ≤ n := by omega
      rw [upTo, upTo_over pid h0 h n hle, bit_over h0 (Int.lt_of_lt_of_le h (p2_mono hle))]
      simp
theorem upTo_low (pid b : Int) (k : Nat) : ∀ i, i ≤ k → upTo pid (b + 2 ^ k) i = upTo pid b i
  | 0, _ => rfl
  | i + 1, h => by rw [upTo, upTo, upTo_low pid b k i (by omega), bit_low (show i < k from by omega)]
/-- One bit more, above all that there are: one number more, the last one. -/
theorem exp_join (pid b : Int) (k : Nat) (h0 : 0 ≤ b) (h : b < 2 ^ k) (hk : k < 16) : exp1 (pid, b + 2 ^ k) = exp1 (pid, b) ++ [(pid + k + 1) % 65536] := by
  have h2 := p2_pos k
  have e : b + 2 ^ k < 2 ^ (k + 1) := by rw [Int.pow_succ]; omega
  unfold exp1
  show pid :: upTo pid (b + 2 ^ k) 16 = (pid :: upTo pid b 16) ++ _
  rw [upTo_over pid (by omega) e 16 (by omega), upTo_over pid h0 h 16 (by omega), upTo, upTo_low pid b k k (Nat.le_refl _), bit_top h0 h]
  simp
theorem exp_zero (pid : Int) : exp1 (pid, 0) = [pid] := by
  unfold exp1
  show pid :: upTo pid 0 16 = _
  rw [upTo_over pid (k := 0) (by decide) (by decide) 16 (by omega)]
  rfl
theorem upTo_words (pid b : Int) : ∀ n, ∀ x ∈ upTo pid b n, U16 x
  | 0, x, hx => by simp [upTo] at hx
  | n + 1, x, hx => by
    rw [upTo, List.mem_append] at hx
    rcases hx with hx | hx
    · exact upTo_words pid b n x hx
    · split at hx
      · simp only [List.mem_cons, List.not_mem_nil, or_false] at hx
        subst hx
        exact ⟨by omega, by omega⟩
      · simp at hx
theorem expand_words : ∀ l : List (Int × Int), (∀ p ∈ l, U16 p.1) → ∀ x ∈ expand l, U16 x
  | [], _, x, hx => by simp [expand] at hx
  | p :: r, h, x, hx => by
    rw [expand, List.mem_append] at hx
    rcases hx with hx | hx
    · rw [exp1, List.mem_cons] at hx
      rcases hx with rfl | hx
      · exact h p (by simp)
      · exact upTo_words _ _ _ x hx
    · exact expand_words r (fun q hq => h q (by simp [hq])) x hx
/-- How many: one, and one more for each bit. -/
theorem upTo_len (pid b : Int) (j : Nat) : ((upTo pid b (j + 1)).length : Int) = (upTo pid b j).length + b / 2 ^ j % 2 := by
  rw [upTo, List.length_append]
  have : b / 2 ^ j % 2 = 0 ∨ b / 2 ^ j % 2 = 1 := by omega
  rcases this with h | h
  · rw [if_neg (by simp [bitB, h]), h]; simp
  · rw [if_pos (by simp [bitB, h]), h]; simp
theorem exp1_len_le (p : Int × Int) : (exp1 p).length ≤ 17 := by
  have h : ∀ n, (upTo p.1 p.2 n).length ≤ n := fun n => by
    induction n with
    | zero => simp [upTo]
    | succ n ih => rw [upTo, List.length_append]; split <;> simp <;> omega
  have := h 16
  simp only [exp1, List.length_cons]
  omega
theorem expand_len_le : ∀ l : List (Int × Int), (expand l).length ≤ 17 * l.length
  | [] => by simp [expand]
  | p :: r => by have := exp1_len_le p; have := expand_len_le r; simp only [expand, List.length_append, List.length_cons]; omega
/-- All moved by as much. -/
theorem upTo_move (pid b k : Int) : ∀ n, upTo ((pid + k) % 65536) b n = (upTo pid b n).map (fun x => (x + k) % 65536)
  | 0 => rfl
  | n + 1 => by
    rw [upTo, upTo, upTo_move pid b k n, List.map_append]
    congr 1
    split
    · simp only [List.map_cons, List.map_nil]
      congr 1
      omega
    · rfl
theorem exp1_move (k : Int) (p : Int × Int) : exp1 ((p.1 + k) % 65536, p.2) = (exp1 p).map (fun x => (x + k) % 65536) := by
  unfold exp1
  rw [List.map_cons, ← upTo_move]
theorem expand_move (k : Int) : ∀ l : List (Int × Int), expand (l.map (fun p => ((p.1 + k) % 65536, p.2))) = (expand l).map (fun x => (x + k) % 65536)
  | [] => rfl
  | p :: r => by rw [List.map_cons, expand, expand, expand_move k r, List.map_append, exp1_move]

/-- Does the pair p, whose last number was 'last', take x? -/
def joins (p : Int × Int) (last x : Int) : Bool := decide (1 ≤ (x - p.1) % 65536) && decide ((x - p.1) % 65536 ≤ 16) && ah16 x last
def bitAt (p : Int × Int) (x : Int) : Int := 2 ^ (((x - p.1) % 65536).toNat - 1)
def pkStep (ps : List (Int × Int)) (last x : Int) : List (Int × Int) := match ps.getLast? with
  | some p => if joins p last x then ps.dropLast ++ [(p.1, p.2 + bitAt p x)] else ps ++ [(x, 0)]
  | none => [(x, 0)]
def pkGo (ps : List (Int × Int)) (last : Int) : List Int → List (Int × Int)
  | [] => ps
  | x :: r => pkGo (pkStep ps last x) x r
def pk (m : List Int) : List (Int × Int) := pkGo [] 0 m
theorem pkGo_snoc (x : Int) : ∀ (m : List Int) (ps : List (Int × Int)) (last : Int), pkGo ps last (m ++ [x]) = pkStep (pkGo ps last m) (m.getLastD last) x
  | [], ps, last => rfl
  | y :: r, ps, last => by
    rw [List.cons_append, pkGo, pkGo_snoc x r, pkGo]
    congr 1
    cases r <;> rfl
theorem pk_snoc (m : List Int) (x : Int) : pk (m ++ [x]) = pkStep (pk m) (m.getLastD 0) x := pkGo_snoc x m [] 0
theorem pkStep_first (last x : Int) : pkStep [] last x = [(x, 0)] := rfl
theorem pkStep_join (qs : List (Int × Int)) (p : Int × Int) (last x : Int) (h : joins p last x = true) : pkStep (qs ++ [p]) last x = qs ++ [(p.1, p.2 + bitAt p x)] := by
  unfold pkStep
  rw [List.getLast?_append]
  simp [h]
theorem pkStep_new (qs : List (Int × Int)) (p : Int × Int) (last x : Int) (h : joins p last x = false) : pkStep (qs ++ [p]) last x = (qs ++ [p]) ++ [(x, 0)] := by
  unfold pkStep
  rw [List.getLast?_append]
  simp [h]
theorem take_snoc' {α : Type} (m : List α) (i : Nat) (x : α) (h : m[i]? = some x) : m.take (i + 1) = m.take i ++ [x] := by rw [List.take_add_one, h]; rfl

theorem snoc_rec {α : Type} {P : List α → Prop} (h0 : P []) (h1 : ∀ l x, P l → P (l ++ [x])) : ∀ l, P l := by
  intro l
  have : ∀ n (l : List α), l.length = n → P l := by
    intro n
    induction n with
    | zero => intro l hl; rw [List.eq_nil_of_length_eq_zero hl]; exact h0
    | succ n ih =>
      intro l hl
      have hne : l ≠ [] := by intro h; rw [h] at hl; simp at hl
      rw [← List.dropLast_concat_getLast hne]
      exact h1 _ _ (ih _ (by rw [List.length_dropLast]; omega))
  exact this _ l rfl
/-- What holds of the pairs of a row of numbers. -/
structure PkOk (m : List Int) (ps : List (Int × Int)) : Prop where
  exp : expand ps = m
  words : ∀ p ∈ ps, U16 p.1 ∧ U16 p.2
  last : ∀ qs p, ps = qs ++ [p] → ∃ h : Nat, h ≤ 16 ∧ (m.getLastD 0 - p.1) % 65536 = h ∧ 0 ≤ p.2 ∧ p.2 < 2 ^ h ∧ (exp1 p).getLastD 0 = m.getLastD 0
  apart : ∀ i q p, ps[i]? = some q → ps[i + 1]? = some p → joins q ((exp1 q).getLastD 0) p.1 = false
  some_ : m ≠ [] → ∃ qs p, ps = qs ++ [p]
theorem getLastD_snoc {α : Type} (l : List α) (x d : α) : (l ++ [x]).getLastD d = x := by simp [List.getLastD_eq_getLast?]
theorem PkOk.step {m : List Int} {ps : List (Int × Int)} (H : PkOk m ps) {x : Int} (hx : U16 x) (hl : m ≠ [] → U16 (m.getLastD 0)) : PkOk (m ++ [x]) (pkStep ps (m.getLastD 0) x) := by
  by_cases hm : m = []
  · subst hm
    have hp : ps = [] := by
      rcases List.eq_nil_or_concat ps with h | ⟨qs, p, h⟩
      · exact h
      · have e := H.exp
        rw [h, List.concat_eq_append, expand_snoc] at e
        simp [exp1] at e
    subst hp
    refine ⟨by rw [pkStep_first]; simp [expand, exp_zero], ?_, ?_, ?_, fun _ => ⟨[], (x, 0), rfl⟩⟩
    · intro p hp
      rw [pkStep_first, List.mem_singleton] at hp
      subst hp
      exact ⟨hx, Int.le_refl 0, show (0 : Int) ≤ 65535 from by decide⟩
    · intro qs p e
      rw [pkStep_first] at e
      have e2 : qs = [] ∧ (x, (0 : Int)) = p := by
        cases qs with
        | nil => simpa using e
        | cons a r => have := congrArg List.length e; simp at this
      obtain ⟨-, rfl⟩ := e2
      exact ⟨0, by omega, by rw [getLastD_snoc]; simp, Int.le_refl 0, show (0 : Int) < 2 ^ 0 from by decide, by rw [exp_zero]; simp⟩
    · intro i q p h1 h2
      rw [pkStep_first] at h2
      simp at h2
  · obtain ⟨qs, p, rfl⟩ := H.some_ hm
    obtain ⟨h, h16, hd, h0, hlt, hgl⟩ := H.last qs p rfl
    obtain ⟨hp1, hp2⟩ := H.words p (by simp)
    have hlu := hl hm
    generalize m.getLastD 0 = last at *
    rcases hj : joins p last x with _ | _
    · rw [pkStep_new _ _ _ _ hj]
      refine ⟨by rw [expand_snoc, H.exp, exp_zero], ?_, ?_, ?_, fun _ => ⟨_, _, rfl⟩⟩
      · intro q hq
        rw [List.mem_append, List.mem_singleton] at hq
        rcases hq with hq | rfl
        · exact H.words q hq
        · exact ⟨hx, Int.le_refl 0, show (0 : Int) ≤ 65535 from by decide⟩
      · intro qs' p' e
        obtain ⟨-, rfl⟩ : qs ++ [p] = qs' ∧ (x, (0 : Int)) = p' := by simpa using List.append_inj' e rfl
        exact ⟨0, by omega, by rw [getLastD_snoc]; simp, Int.le_refl 0, show (0 : Int) < 2 ^ 0 from by decide, by rw [exp_zero, getLastD_snoc]; simp⟩
      · intro i q r h1 h2
        by_cases hi : i + 1 < (qs ++ [p]).length
        · rw [List.getElem?_append_left hi] at h2
          rw [List.getElem?_append_left (by omega)] at h1
          exact H.apart i q r h1 h2
        · have hlen : (qs ++ [p]).length = qs.length + 1 := by simp
          have hi2 : i = qs.length := by
            have := (List.getElem?_eq_some_iff.1 h2).1
            simp at this
            omega
          subst hi2
          rw [List.getElem?_append_right (by omega), hlen, Nat.sub_self] at h2
          rw [List.getElem?_append_left (by omega), List.getElem?_append_right (by omega), Nat.sub_self] at h1
          simp only [List.getElem?_cons_zero, Option.some.injEq] at h1 h2
          subst h1; subst h2
          rw [hgl]
          exact hj
    · have hj' := hj
      simp only [joins, Bool.and_eq_true, decide_eq_true_eq] at hj'
      obtain ⟨⟨hd1, hd2⟩, hah0⟩ := hj'
      have hah : 0 < d16 x last := of_decide_eq_true hah0
      unfold d16 at hah
      obtain ⟨d, hdd⟩ : ∃ d : Nat, (x - p.1) % 65536 = d := ⟨((x - p.1) % 65536).toNat, by omega⟩
      have hgt : h < d := by
        have := hx.1; have := hx.2; have := hlu.1; have := hlu.2; have := hp1.1; have := hp1.2
        omega
      obtain ⟨k, rfl⟩ : ∃ k, d = k + 1 := ⟨d - 1, by omega⟩
      have hb : bitAt p x = 2 ^ k := by unfold bitAt; rw [hdd]; simp
      have hpk : p.2 < 2 ^ k := Int.lt_of_lt_of_le hlt (p2_mono (by omega))
      have hxe : (p.1 + (k : Int) + 1) % 65536 = x := by have := hx.1; have := hx.2; omega
      have hje := exp_join p.1 p.2 k h0 hpk (by omega)
      rw [hxe] at hje
      have hk2 := p2_pos k
      have hlt2 : p.2 + 2 ^ k < 2 ^ (k + 1) := by rw [Int.pow_succ]; omega
      have h65 : (2 : Int) ^ (k + 1) ≤ 65536 := p2_mono (show k + 1 ≤ 16 from by omega)
      rw [pkStep_join _ _ _ _ hj, hb]
      refine ⟨?_, ?_, ?_, ?_, fun _ => ⟨_, _, rfl⟩⟩
      · have e := H.exp
        rw [expand_snoc] at e ⊢
        rw [hje, ← List.append_assoc, e]
      · intro q hq
        rw [List.mem_append, List.mem_singleton] at hq
        rcases hq with hq | rfl
        · exact H.words q (by simp [hq])
        · exact ⟨hp1, by show 0 ≤ p.2 + 2 ^ k; omega, by show p.2 + 2 ^ k ≤ 65535; omega⟩
      · intro qs' p' e
        obtain ⟨-, rfl⟩ : qs = qs' ∧ (p.1, p.2 + 2 ^ k) = p' := by simpa using List.append_inj' e rfl
        exact ⟨k + 1, by omega, by rw [getLastD_snoc]; exact hdd, by show 0 ≤ p.2 + 2 ^ k; omega, hlt2, by rw [hje, getLastD_snoc, getLastD_snoc]⟩
      · intro i q r h1 h2
        by_cases hi : i + 1 < qs.length
        · rw [List.getElem?_append_left hi] at h2
          rw [List.getElem?_append_left (by omega)] at h1
          exact H.apart i q r (by rw [List.getElem?_append_left (by omega)]; exact h1) (by rw [List.getElem?_append_left hi]; exact h2)
        · have hi2 : i + 1 = qs.length := by
            have := (List.getElem?_eq_some_iff.1 h2).1
            simp at this
            omega
          rw [hi2, List.getElem?_append_right (Nat.le_refl _), Nat.sub_self] at h2
          rw [List.getElem?_append_left (by omega)] at h1
          simp only [List.getElem?_cons_zero, Option.some.injEq] at h2
          subst h2
          exact H.apart i q p (by rw [List.getElem?_append_left (by omega)]; exact h1) (by rw [hi2, List.getElem?_append_right (Nat.le_refl _), Nat.sub_self]; rfl)
theorem pk_ok : ∀ m : List Int, (∀ x ∈ m, U16 x) → PkOk m (pk m) := by
  refine snoc_rec ?_ ?_
  · intro _
    refine ⟨rfl, fun p hp => by simp [pk, pkGo] at hp, fun qs p e => ?_, fun i q p h => by simp [pk, pkGo] at h, fun h => absurd rfl h⟩
    have := congrArg List.length e
    simp [pk, pkGo] at this
  · intro m x ih h
    rw [pk_snoc]
    refine (ih (fun y hy => h y (by simp [hy]))).step (h x (by simp)) (fun hm => ?_)
    obtain ⟨r, y, rfl⟩ : ∃ r y, m = r ++ [y] := ⟨m.dropLast, m.getLast hm, (List.dropLast_concat_getLast hm).symm⟩
    rw [getLastD_snoc]
    exact h y (by simp)
end Go.Proofs.Ytmgpphgiigppgaa
