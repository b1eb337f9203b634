/- Feedback items, plain: how one stands in bytes (encI), which may be (MayI), what bytes begin with (iE, iV, iN); what is put is read, what is read is put as it was, each beginning is too short. No program. -/
import Derived.Test.YtolobojidnomfaaPure
set_option maxRecDepth 100000
namespace Go.Proofs.Ytolobojidnomfaa
set_option linter.unusedVariables false

structure Blo where
  ssrc : Int
  lost : Int
  total : Int
  high : Int
  jit : Int
  last : Int
  delay : Int
structure Itm where
  kind : Int
  ssrc : Int
  ntp : Int
  time : Int
  pks : Int
  ocs : Int
  blocks : List Blo
  gone : List Int
  media : Int
  pairs : List (Int × Int)
def U32 (x : Int) : Prop := 0 ≤ x ∧ x ≤ 4294967295
def U16 (x : Int) : Prop := 0 ≤ x ∧ x ≤ 65535
structure Blo.Ok (x : Blo) : Prop where
  ssrc : U32 x.ssrc
  lost : 0 ≤ x.lost ∧ x.lost ≤ 255
  total : U32 x.total
  high : U32 x.high
  jit : U32 x.jit
  last : U32 x.last
  delay : U32 x.delay
structure Itm.Ok (i : Itm) : Prop where
  ssrc : U32 i.ssrc
  ntp : 0 ≤ i.ntp ∧ i.ntp ≤ 18446744073709551615
  time : U32 i.time
  pks : U32 i.pks
  ocs : U32 i.ocs
  blocks : ∀ x ∈ i.blocks, x.Ok
  gone : ∀ x ∈ i.gone, U32 x
  media : U32 i.media
  pairs : ∀ x ∈ i.pairs, U16 x.1 ∧ U16 x.2
def zeroItm : Itm := ⟨0, 0, 0, 0, 0, 0, [], [], 0, []⟩

/-- Which may be. -/
def sendZ (i : Itm) : Bool := decide (i.ntp = 0) && decide (i.time = 0) && decide (i.pks = 0) && decide (i.ocs = 0)
def repMay (i : Itm) : Bool := decide (i.blocks.length ≤ 15) && i.blocks.all (fun x => decide (x.total < 16777216))
def mayI (i : Itm) : Bool :=
  if i.kind = 200 then decide (i.gone.length = 0) && decide (i.pairs.length = 0) && decide (i.media = 0) && repMay i
  else if i.kind = 201 then sendZ i && decide (i.gone.length = 0) && decide (i.pairs.length = 0) && decide (i.media = 0) && repMay i
  else if i.kind = 203 then sendZ i && decide (i.blocks.length = 0) && decide (i.pairs.length = 0) && decide (i.media = 0) && decide (i.ssrc = 0) && decide (1 ≤ i.gone.length) && decide (i.gone.length ≤ 15)
  else if i.kind = 205 then sendZ i && decide (i.blocks.length = 0) && decide (i.gone.length = 0) && decide (1 ≤ i.pairs.length) && decide (i.pairs.length ≤ 16)
  else if i.kind = 206 then sendZ i && decide (i.blocks.length = 0) && decide (i.gone.length = 0) && decide (i.pairs.length = 0)
  else false
def MaySend (i : Itm) : Prop := i.ntp = 0 ∧ i.time = 0 ∧ i.pks = 0 ∧ i.ocs = 0
def MayRep (i : Itm) : Prop := i.blocks.length ≤ 15 ∧ ∀ x ∈ i.blocks, x.total < 16777216
def MayI (i : Itm) : Prop :=
  (i.kind = 200 ∧ i.gone = [] ∧ i.pairs = [] ∧ i.media = 0 ∧ MayRep i) ∨ (i.kind = 201 ∧ MaySend i ∧ i.gone = [] ∧ i.pairs = [] ∧ i.media = 0 ∧ MayRep i) ∨
  (i.kind = 203 ∧ MaySend i ∧ i.blocks = [] ∧ i.pairs = [] ∧ i.media = 0 ∧ i.ssrc = 0 ∧ 1 ≤ i.gone.length ∧ i.gone.length ≤ 15) ∨
  (i.kind = 205 ∧ MaySend i ∧ i.blocks = [] ∧ i.gone = [] ∧ 1 ≤ i.pairs.length ∧ i.pairs.length ≤ 16) ∨ (i.kind = 206 ∧ MaySend i ∧ i.blocks = [] ∧ i.gone = [] ∧ i.pairs = [])
theorem mayI_iff (i : Itm) : mayI i = true ↔ MayI i := by
  unfold mayI MayI sendZ repMay MaySend MayRep
  by_cases h0 : i.kind = 200
  · simp [h0, and_assoc]
  by_cases h1 : i.kind = 201
  · simp [h1, and_assoc]
  by_cases h2 : i.kind = 203
  · simp [h2, and_assoc]
  by_cases h3 : i.kind = 205
  · simp [h3, and_assoc]
  by_cases h4 : i.kind = 206
  · simp [h4, and_assoc]
  simp [h0, h1, h2, h3, h4]

/-- How one stands in bytes. -/
def bloB (x : Blo) : List Int := be 4 x.ssrc ++ (be 1 x.lost ++ (be 3 x.total ++ (be 4 x.high ++ (be 4 x.jit ++ (be 4 x.last ++ be 4 x.delay)))))
def blosB : List Blo → List Int
  | [] => []
  | x :: r => bloB x ++ blosB r
def pairsB : List (Int × Int) → List Int
  | [] => []
  | x :: r => be 2 x.1 ++ (be 2 x.2 ++ pairsB r)
def bodyI (i : Itm) : List Int :=
  (if i.kind = 203 then [] else be 4 i.ssrc) ++ ((if i.kind = 200 then be 8 i.ntp ++ (be 4 i.time ++ (be 4 i.pks ++ be 4 i.ocs)) else []) ++
    ((if i.kind = 205 ∨ i.kind = 206 then be 4 i.media else []) ++ (blosB i.blocks ++ (bes i.gone ++ pairsB i.pairs))))
def cntI (i : Itm) : Nat := if i.kind = 205 ∨ i.kind = 206 then 1 else i.blocks.length + i.gone.length
def encI (i : Itm) : List Int := [128 + (cntI i : Int), i.kind, 0, ((bodyI i).length / 4 : Nat)] ++ bodyI i

/-- What bytes begin with: the error of a head (its kind, its count, its words); of all; the item; how many bytes. -/
def hE (k c g : Int) : Int :=
  if k = 200 then (if 15 < c ∨ g ≠ 6 + 6 * c then 1 else 0) else if k = 201 then (if 15 < c ∨ g ≠ 1 + 6 * c then 1 else 0)
  else if k = 203 then (if c < 1 ∨ 15 < c ∨ g ≠ c then 1 else 0) else if k = 205 then (if c ≠ 1 then 4 else if g < 3 ∨ 18 < g then 1 else 0)
  else if k = 206 then (if c ≠ 1 then 4 else if g ≠ 2 then 1 else 0) else 4
def cI (b : List Int) : Int := b.getD 0 0 % 32
def gI (b : List Int) : Int := b.getD 2 0 * 256 + b.getD 3 0
def iE (b : List Int) : Int :=
  if b.length < 4 then 2 else if b.getD 0 0 / 32 ≠ 4 then 1 else if hE (b.getD 1 0) (cI b) (gI b) ≠ 0 then hE (b.getD 1 0) (cI b) (gI b) else if (b.length : Int) < 4 + 4 * gI b then 2 else 0
def iN (b : List Int) : Nat := (4 + 4 * gI b).toNat
def blosAt (b : List Int) : Nat → Nat → List Blo
  | _, 0 => []
  | i, n + 1 => ⟨nb b i 4, nb b (i + 4) 1, nb b (i + 5) 3, nb b (i + 8) 4, nb b (i + 12) 4, nb b (i + 16) 4, nb b (i + 20) 4⟩ :: blosAt b (i + 24) n
def pairsAt (b : List Int) : Nat → Nat → List (Int × Int)
  | _, 0 => []
  | i, n + 1 => (nb b i 2, nb b (i + 2) 2) :: pairsAt b (i + 4) n
def iV (b : List Int) : Itm :=
  if b.getD 1 0 = 200 then ⟨200, nb b 4 4, nb b 8 8, nb b 16 4, nb b 20 4, nb b 24 4, blosAt b 28 (cI b).toNat, [], 0, []⟩
  else if b.getD 1 0 = 201 then ⟨201, nb b 4 4, 0, 0, 0, 0, blosAt b 8 (cI b).toNat, [], 0, []⟩
  else if b.getD 1 0 = 203 then ⟨203, 0, 0, 0, 0, 0, [], wordsAt b 4 (cI b).toNat, 0, []⟩
  else if b.getD 1 0 = 205 then ⟨205, nb b 4 4, 0, 0, 0, 0, [], [], nb b 8 4, pairsAt b 12 (gI b - 2).toNat⟩
  else ⟨206, nb b 4 4, 0, 0, 0, 0, [], [], nb b 8 4, []⟩

theorem bloB_length (x : Blo) : (bloB x).length = 24 := by simp [bloB, be_length]
theorem blosB_length : ∀ l, (blosB l).length = 24 * l.length
  | [] => rfl
  | x :: r => by simp [blosB, bloB_length, blosB_length r]; omega
theorem pairsB_length : ∀ l, (pairsB l).length = 4 * l.length
  | [] => rfl
  | x :: r => by simp [pairsB, be_length, pairsB_length r]; omega
theorem bloB_bytes (x : Blo) : Bytes (bloB x) := ((be_bytes 4 _).append ((be_bytes 1 _).append ((be_bytes 3 _).append ((be_bytes 4 _).append ((be_bytes 4 _).append ((be_bytes 4 _).append (be_bytes 4 _)))))))
theorem blosB_bytes : ∀ l, Bytes (blosB l)
  | [] => Bytes.nil
  | x :: r => (bloB_bytes x).append (blosB_bytes r)
theorem pairsB_bytes : ∀ l, Bytes (pairsB l)
  | [] => Bytes.nil
  | x :: r => (be_bytes 2 _).append ((be_bytes 2 _).append (pairsB_bytes r))
theorem bes_bytes : ∀ l, Bytes (bes l)
  | [] => Bytes.nil
  | x :: r => (be_bytes 4 _).append (bes_bytes r)
theorem p4 {x : Int} (h : U32 x) : x < 256 ^ 4 := by have := h.2; omega
theorem blos_mid : ∀ (xs : List Blo) (l r : List Int), (∀ x ∈ xs, x.Ok ∧ x.total < 16777216) → blosAt (l ++ (blosB xs ++ r)) l.length xs.length = xs
  | [], l, r, _ => rfl
  | x :: xs, l, r, h => by
    obtain ⟨ho, ht⟩ := h x (by simp)
    have ih := blos_mid xs (l ++ bloB x) r (fun y hy => h y (by simp [hy]))
    rw [List.length_append, bloB_length] at ih
    have e : l ++ (blosB (x :: xs) ++ r) = l ++ bloB x ++ (blosB xs ++ r) := by simp [blosB]
    rw [e, List.length_cons, blosAt, ih]
    have f : ∀ (u v : List Int) (i k : Nat) (n : Int), bloB x = u ++ (be k n ++ v) → u.length = i → 0 ≤ n → n < 256 ^ k → nb (l ++ bloB x ++ (blosB xs ++ r)) (l.length + i) k = n := fun u v i k n h1 h2 h3 h4 =>
      nb_at _ (l ++ u) (v ++ (blosB xs ++ r)) _ k n (by rw [h1]; simp) (by simp [h2]) h3 h4
    have f0 : nb (l ++ bloB x ++ (blosB xs ++ r)) l.length 4 = x.ssrc := f [] _ 0 4 x.ssrc rfl rfl ho.ssrc.1 (p4 ho.ssrc)
    have f1 := f (be 4 x.ssrc) _ 4 1 x.lost rfl (by simp [be_length]) ho.lost.1 (by have := ho.lost.2; omega)
    have f2 := f (be 4 x.ssrc ++ be 1 x.lost) (be 4 x.high ++ (be 4 x.jit ++ (be 4 x.last ++ be 4 x.delay))) 5 3 x.total (by simp [bloB]) (by simp [be_length]) ho.total.1 (by omega)
    have f3 := f (be 4 x.ssrc ++ (be 1 x.lost ++ be 3 x.total)) (be 4 x.jit ++ (be 4 x.last ++ be 4 x.delay)) 8 4 x.high (by simp [bloB]) (by simp [be_length]) ho.high.1 (p4 ho.high)
    have f4 := f (be 4 x.ssrc ++ (be 1 x.lost ++ (be 3 x.total ++ be 4 x.high))) (be 4 x.last ++ be 4 x.delay) 12 4 x.jit (by simp [bloB]) (by simp [be_length]) ho.jit.1 (p4 ho.jit)
    have f5 := f (be 4 x.ssrc ++ (be 1 x.lost ++ (be 3 x.total ++ (be 4 x.high ++ be 4 x.jit)))) (be 4 x.delay) 16 4 x.last (by simp [bloB]) (by simp [be_length]) ho.last.1 (p4 ho.last)
    have f6 := f (be 4 x.ssrc ++ (be 1 x.lost ++ (be 3 x.total ++ (be 4 x.high ++ (be 4 x.jit ++ be 4 x.last))))) [] 20 4 x.delay (by simp [bloB]) (by simp [be_length]) ho.delay.1 (p4 ho.delay)
    rw [f0, f1, f2, f3, f4, f5, f6]
theorem pairs_mid : ∀ (xs : List (Int × Int)) (l r : List Int), (∀ x ∈ xs, U16 x.1 ∧ U16 x.2) → pairsAt (l ++ (pairsB xs ++ r)) l.length xs.length = xs
  | [], l, r, _ => rfl
  | x :: xs, l, r, h => by
    obtain ⟨h1, h2⟩ := h x (by simp)
    have ih := pairs_mid xs (l ++ (be 2 x.1 ++ be 2 x.2)) r (fun y hy => h y (by simp [hy]))
    rw [show (l ++ (be 2 x.1 ++ be 2 x.2)).length = l.length + 4 from by simp [be_length]] at ih
    have e : l ++ (pairsB (x :: xs) ++ r) = l ++ (be 2 x.1 ++ be 2 x.2) ++ (pairsB xs ++ r) := by simp [pairsB]
    rw [e, List.length_cons, pairsAt, ih]
    rw [nb_at _ l (be 2 x.2 ++ (pairsB xs ++ r)) _ 2 x.1 (by simp) rfl h1.1 (by have := h1.2; omega), nb_at _ (l ++ be 2 x.1) (pairsB xs ++ r) _ 2 x.2 (by simp) (by simp [be_length]) h2.1 (by have := h2.2; omega)]
theorem take_split (b : List Int) (i k m : Nat) : (b.drop i).take k ++ (b.drop (i + k)).take m = (b.drop i).take (k + m) := by
  rw [List.take_add, List.drop_drop]
theorem bloB_at (b : List Int) (hb : Bytes b) (i : Nat) (h : i + 24 ≤ b.length) :
    bloB ⟨nb b i 4, nb b (i + 4) 1, nb b (i + 5) 3, nb b (i + 8) 4, nb b (i + 12) 4, nb b (i + 16) 4, nb b (i + 20) 4⟩ = (b.drop i).take 24 := by
  simp only [bloB]
  rw [be_nb b hb i 4 (by omega), be_nb b hb (i + 4) 1 (by omega), be_nb b hb (i + 5) 3 (by omega), be_nb b hb (i + 8) 4 (by omega), be_nb b hb (i + 12) 4 (by omega), be_nb b hb (i + 16) 4 (by omega), be_nb b hb (i + 20) 4 (by omega)]
  rw [take_split b (i + 16) 4 4, take_split b (i + 12) 4 8, take_split b (i + 8) 4 12, take_split b (i + 5) 3 16, take_split b (i + 4) 1 19, take_split b i 4 20]
theorem blosB_at (b : List Int) (hb : Bytes b) : ∀ (n i : Nat), i + 24 * n ≤ b.length → blosB (blosAt b i n) = (b.drop i).take (24 * n)
  | 0, i, _ => by simp [blosAt, blosB]
  | n + 1, i, h => by rw [blosAt, blosB, bloB_at b hb i (by omega), blosB_at b hb n (i + 24) (by omega), take_split, show 24 + 24 * n = 24 * (n + 1) from by omega]
theorem pairsB_at (b : List Int) (hb : Bytes b) : ∀ (n i : Nat), i + 4 * n ≤ b.length → pairsB (pairsAt b i n) = (b.drop i).take (4 * n)
  | 0, i, _ => by simp [pairsAt, pairsB]
  | n + 1, i, h => by rw [pairsAt, pairsB, be_nb b hb i 2 (by omega), be_nb b hb (i + 2) 2 (by omega), pairsB_at b hb n (i + 4) (by omega), take_split b (i + 2) 2, take_split b i 2, show 2 + (2 + 4 * n) = 4 * (n + 1) from by omega]
theorem blosAt_length (b : List Int) : ∀ (n i : Nat), (blosAt b i n).length = n
  | 0, _ => rfl
  | n + 1, i => by simp [blosAt, blosAt_length b n]
theorem pairsAt_length (b : List Int) : ∀ (n i : Nat), (pairsAt b i n).length = n
  | 0, _ => rfl
  | n + 1, i => by simp [pairsAt, pairsAt_length b n]
theorem nb32 (b : List Int) (hb : Bytes b) (i : Nat) : U32 (nb b i 4) := by have := nb_bd b hb i 4; exact ⟨this.1, by omega⟩
theorem nb16 (b : List Int) (hb : Bytes b) (i : Nat) : U16 (nb b i 2) := by have := nb_bd b hb i 2; exact ⟨this.1, by omega⟩
theorem blosAt_ok (b : List Int) (hb : Bytes b) : ∀ (n i : Nat), ∀ x ∈ blosAt b i n, x.Ok ∧ x.total < 16777216
  | 0, _, x, hx => by simp [blosAt] at hx
  | n + 1, i, x, hx => by
    simp only [blosAt, List.mem_cons] at hx
    rcases hx with rfl | hx
    · have h1 := nb_bd b hb (i + 4) 1
      have h3 := nb_bd b hb (i + 5) 3
      have h5 : nb b (i + 4) 1 ≤ 255 := by omega
      have h6 : nb b (i + 5) 3 ≤ 4294967295 := by omega
      have h7 : nb b (i + 5) 3 < 16777216 := by omega
      exact ⟨⟨nb32 b hb i, ⟨h1.1, h5⟩, ⟨h3.1, h6⟩, nb32 b hb _, nb32 b hb _, nb32 b hb _, nb32 b hb _⟩, h7⟩
    · exact blosAt_ok b hb n (i + 24) x hx
theorem pairsAt_ok (b : List Int) (hb : Bytes b) : ∀ (n i : Nat), ∀ x ∈ pairsAt b i n, U16 x.1 ∧ U16 x.2
  | 0, _, x, hx => by simp [pairsAt] at hx
  | n + 1, i, x, hx => by
    simp only [pairsAt, List.mem_cons] at hx
    rcases hx with rfl | hx
    · exact ⟨nb16 b hb _, nb16 b hb _⟩
    · exact pairsAt_ok b hb n (i + 4) x hx

/-- The words of one that may be. -/
theorem body_words (i : Itm) (h : MayI i) : (bodyI i).length = 4 * ((bodyI i).length / 4) ∧ (bodyI i).length / 4 ≤ 96 ∧ hE i.kind (cntI i) (((bodyI i).length / 4 : Nat) : Int) = 0 ∧ cntI i ≤ 15 ∧ 200 ≤ i.kind ∧ i.kind ≤ 206 := by
  rcases h with ⟨hk, hg, hp, hm, hr⟩ | ⟨hk, hs, hg, hp, hm, hr⟩ | ⟨hk, hs, hb, hp, hm, h0, h1, h2⟩ | ⟨hk, hs, hb, hg, h1, h2⟩ | ⟨hk, hs, hb, hg, hp⟩
  · have h1 := hr.1
    have e : (bodyI i).length = 4 * (6 + 6 * i.blocks.length) := by simp [bodyI, hk, hg, hp, be_length, blosB_length, bes_length, pairsB]; omega
    have c : cntI i = i.blocks.length := by simp [cntI, hk, hg]
    rw [e, Nat.mul_div_cancel_left _ (by decide), c, hk]
    refine ⟨rfl, by omega, ?_, by omega, by omega, by omega⟩
    unfold hE
    rw [if_pos rfl, if_neg (by omega)]
  · have h1 := hr.1
    have e : (bodyI i).length = 4 * (1 + 6 * i.blocks.length) := by simp [bodyI, hk, hg, hp, be_length, blosB_length, bes_length, pairsB]; omega
    have c : cntI i = i.blocks.length := by simp [cntI, hk, hg]
    rw [e, Nat.mul_div_cancel_left _ (by decide), c, hk]
    refine ⟨rfl, by omega, ?_, by omega, by omega, by omega⟩
    unfold hE
    rw [if_neg (by decide), if_pos rfl, if_neg (by omega)]
  · have e : (bodyI i).length = 4 * i.gone.length := by simp [bodyI, hk, hb, hp, blosB, bes_length, pairsB]
    have c : cntI i = i.gone.length := by simp [cntI, hk, hb]
    rw [e, Nat.mul_div_cancel_left _ (by decide), c, hk]
    refine ⟨rfl, by omega, ?_, by omega, by omega, by omega⟩
    unfold hE
    rw [if_neg (by decide), if_neg (by decide), if_pos rfl, if_neg (by omega)]
  · have e : (bodyI i).length = 4 * (2 + i.pairs.length) := by simp [bodyI, hk, hb, hg, be_length, blosB, bes_length, pairsB_length]; omega
    have c : cntI i = 1 := by simp [cntI, hk]
    rw [e, Nat.mul_div_cancel_left _ (by decide), c, hk]
    refine ⟨rfl, by omega, ?_, by omega, by omega, by omega⟩
    unfold hE
    rw [if_neg (by decide), if_neg (by decide), if_neg (by decide), if_pos rfl, if_neg (by decide), if_neg (by omega)]
  · have e : (bodyI i).length = 4 * 2 := by simp [bodyI, hk, hb, hg, hp, be_length, blosB, bes_length, pairsB]
    have c : cntI i = 1 := by simp [cntI, hk]
    rw [e, Nat.mul_div_cancel_left _ (by decide), c, hk]
    exact ⟨rfl, by omega, by decide, by omega, by omega, by omega⟩
theorem encI_length (i : Itm) : (encI i).length = 4 + (bodyI i).length := by simp [encI]; omega
theorem encI_bytes (i : Itm) (h : MayI i) : Bytes (encI i) := by
  obtain ⟨-, h1, -, h3, h4, h5⟩ := body_words i h
  have hb : Bytes (bodyI i) := by
    unfold bodyI
    refine Bytes.append ?_ (Bytes.append ?_ (Bytes.append ?_ ((blosB_bytes _).append ((bes_bytes _).append (pairsB_bytes _)))))
    · split
      · exact Bytes.nil
      · exact be_bytes _ _
    · split
      · exact (be_bytes _ _).append ((be_bytes _ _).append ((be_bytes _ _).append (be_bytes _ _)))
      · exact Bytes.nil
    · split
      · exact be_bytes _ _
      · exact Bytes.nil
  refine Bytes.append ?_ hb
  intro x hx
  simp only [List.mem_cons, List.not_mem_nil, or_false] at hx
  rcases hx with rfl | rfl | rfl | rfl <;> omega
theorem enc_g (i : Itm) (t : List Int) : gI (encI i ++ t) = (((bodyI i).length / 4 : Nat) : Int) := by
  show (0 : Int) * 256 + (((bodyI i).length / 4 : Nat) : Int) = _
  omega
section
variable {i : Itm} (h : MayI i) (t : List Int)
include h
theorem enc_c : cI (encI i ++ t) = cntI i := by
  obtain ⟨-, -, -, h3, -, -⟩ := body_words i h
  show (128 + (cntI i : Int)) % 32 = _
  omega
theorem enc_n : iN (encI i ++ t) = (encI i).length := by
  obtain ⟨h0, -, -, -, -, -⟩ := body_words i h
  rw [iN, enc_g, encI_length]
  omega
theorem enc_e : iE (encI i ++ t) = 0 := by
  obtain ⟨h0, h1, h2, h3, -, -⟩ := body_words i h
  have hl : (encI i ++ t).length = 4 + (bodyI i).length + t.length := by rw [List.length_append, encI_length]
  unfold iE
  rw [enc_c h, enc_g, show (encI i ++ t).getD 1 0 = i.kind from rfl, h2, show (encI i ++ t).getD 0 0 = 128 + (cntI i : Int) from rfl, hl,
    if_neg (by omega), if_neg (by omega), if_neg (by decide), if_neg (by omega)]
theorem enc_cut (n : Nat) (hn : n < (encI i).length) : iE ((encI i).take n) = 2 := by
  obtain ⟨h0, h1, h2, h3, -, -⟩ := body_words i h
  rw [encI_length] at hn
  have hl : ((encI i).take n).length = n := by rw [List.length_take, encI_length]; omega
  unfold iE
  by_cases h4 : n < 4
  · rw [if_pos (by omega)]
  · have g : ∀ j, j < 4 → ((encI i).take n).getD j 0 = (encI i).getD j 0 := fun j hj => getD_take _ _ _ (by omega)
    rw [cI, gI, g 0 (by omega), g 1 (by omega), g 2 (by omega), g 3 (by omega)]
    have e1 := enc_c h []
    have e2 := enc_g i []
    rw [List.append_nil] at e1 e2
    rw [show (encI i).getD 0 0 % 32 = _ from e1, show (encI i).getD 2 0 * 256 + (encI i).getD 3 0 = _ from e2, show (encI i).getD 1 0 = i.kind from rfl, h2, show (encI i).getD 0 0 = 128 + (cntI i : Int) from rfl, hl,
      if_neg (by omega), if_neg (by omega), if_neg (by decide), if_pos (by omega)]
theorem enc_v (ho : i.Ok) : iV (encI i ++ t) = i := by
  have hc := enc_c h t
  have hg := enc_g i t
  have hk : (encI i ++ t).getD 1 0 = i.kind := rfl
  unfold iV
  rw [hk, hc, hg]
  have hd : ∀ (x : List Int), encI i ++ t = [128 + (cntI i : Int), i.kind, 0, ((bodyI i).length / 4 : Nat)] ++ (bodyI i ++ t) := fun _ => by simp [encI]
  generalize hH : [128 + (cntI i : Int), i.kind, 0, (((bodyI i).length / 4 : Nat) : Int)] = H at *
  have hH4 : H.length = 4 := by rw [← hH]; rfl
  rw [hd []]
  obtain ⟨kind, ssrc, ntp, time, pks, ocs, blocks, gone, media, pairs⟩ := i
  rcases h with ⟨k, g, p, m, r⟩ | ⟨k, s, g, p, m, r⟩ | ⟨k, s, b, p, m, z, r1, r2⟩ | ⟨k, s, b, g, r1, r2⟩ | ⟨k, s, b, g, p⟩
  · simp only at k g p m
    subst k g p m
    simp only [bodyI, cntI, bes, pairsB, if_true, if_false, Int.reduceEq, List.append_nil, List.nil_append, List.append_assoc, or_self, List.length_nil, Nat.add_zero, Int.toNat_natCast]
    simp only [Itm.mk.injEq, and_true, true_and]
    refine ⟨?_, ?_, ?_, ?_, ?_, ?_⟩
    · exact nb_at _ H _ _ 4 ssrc rfl hH4 ho.ssrc.1 (p4 ho.ssrc)
    · exact nb_at _ (H ++ be 4 ssrc) (be 4 time ++ (be 4 pks ++ (be 4 ocs ++ (blosB blocks ++ t)))) _ 8 ntp (by simp) (by simp [hH4, be_length]) ho.ntp.1 (by have := ho.ntp.2; simp only at this; omega)
    · exact nb_at _ (H ++ (be 4 ssrc ++ be 8 ntp)) (be 4 pks ++ (be 4 ocs ++ (blosB blocks ++ t))) _ 4 time (by simp) (by simp [hH4, be_length]) ho.time.1 (p4 ho.time)
    · exact nb_at _ (H ++ (be 4 ssrc ++ (be 8 ntp ++ be 4 time))) (be 4 ocs ++ (blosB blocks ++ t)) _ 4 pks (by simp) (by simp [hH4, be_length]) ho.pks.1 (p4 ho.pks)
    · exact nb_at _ (H ++ (be 4 ssrc ++ (be 8 ntp ++ (be 4 time ++ be 4 pks)))) (blosB blocks ++ t) _ 4 ocs (by simp) (by simp [hH4, be_length]) ho.ocs.1 (p4 ho.ocs)
    · have := blos_mid blocks (H ++ (be 4 ssrc ++ (be 8 ntp ++ (be 4 time ++ (be 4 pks ++ be 4 ocs))))) t (fun x hx => ⟨ho.blocks x hx, r.2 x hx⟩)
      rw [show (H ++ (be 4 ssrc ++ (be 8 ntp ++ (be 4 time ++ (be 4 pks ++ be 4 ocs))))).length = 28 from by simp [hH4, be_length]] at this
      simpa using this
  · simp only at k g p m
    subst k g p m
    obtain ⟨s1, s2, s3, s4⟩ := s
    simp only at s1 s2 s3 s4
    subst s1 s2 s3 s4
    simp only [bodyI, cntI, bes, pairsB, if_true, if_false, Int.reduceEq, List.append_nil, List.nil_append, List.append_assoc, or_self, List.length_nil, Nat.add_zero, Int.toNat_natCast]
    simp only [Itm.mk.injEq, and_true, true_and]
    refine ⟨?_, ?_⟩
    · exact nb_at _ H _ _ 4 ssrc rfl hH4 ho.ssrc.1 (p4 ho.ssrc)
    · have := blos_mid blocks (H ++ be 4 ssrc) t (fun x hx => ⟨ho.blocks x hx, r.2 x hx⟩)
      rw [show (H ++ be 4 ssrc).length = 8 from by simp [hH4, be_length]] at this
      simpa using this
  · obtain ⟨s1, s2, s3, s4⟩ := s
    simp only at k b p m z s1 s2 s3 s4
    subst k b p m z s1 s2 s3 s4
    simp only [bodyI, cntI, blosB, pairsB, if_true, if_false, Int.reduceEq, List.append_nil, List.nil_append, or_self, List.length_nil, Nat.zero_add, Int.toNat_natCast]
    simp only [Itm.mk.injEq, and_true, true_and]
    have := wordsAt_mid gone H t (fun x hx => ho.gone x hx)
    rw [hH4] at this
    exact this
  · obtain ⟨s1, s2, s3, s4⟩ := s
    simp only at k b g s1 s2 s3 s4
    subst k b g s1 s2 s3 s4
    have hn : (bodyI ⟨205, ssrc, 0, 0, 0, 0, [], [], media, pairs⟩).length / 4 = 2 + pairs.length := by simp [bodyI, be_length, blosB, bes, pairsB_length]; omega
    rw [hn]
    simp only [bodyI, blosB, bes, if_true, if_false, Int.reduceEq, List.nil_append, List.append_assoc, true_or]
    simp only [Itm.mk.injEq, true_and]
    refine ⟨?_, ?_, ?_⟩
    · exact nb_at _ H _ _ 4 ssrc rfl hH4 ho.ssrc.1 (p4 ho.ssrc)
    · exact nb_at _ (H ++ be 4 ssrc) (pairsB pairs ++ t) _ 4 media (by simp) (by simp [hH4, be_length]) ho.media.1 (p4 ho.media)
    · have := pairs_mid pairs (H ++ (be 4 ssrc ++ be 4 media)) t (fun x hx => ho.pairs x hx)
      rw [show (H ++ (be 4 ssrc ++ be 4 media)).length = 12 from by simp [hH4, be_length]] at this
      rw [show (((2 + pairs.length : Nat) : Int) - 2).toNat = pairs.length from by omega]
      simpa using this
  · obtain ⟨s1, s2, s3, s4⟩ := s
    simp only at k b g p s1 s2 s3 s4
    subst k b g p s1 s2 s3 s4
    simp only [bodyI, blosB, bes, pairsB, if_true, if_false, Int.reduceEq, List.append_nil, List.nil_append, List.append_assoc, or_true]
    simp only [Itm.mk.injEq, and_true, true_and]
    refine ⟨?_, ?_⟩
    · exact nb_at _ H _ _ 4 ssrc rfl hH4 ho.ssrc.1 (p4 ho.ssrc)
    · exact nb_at _ (H ++ be 4 ssrc) t _ 4 media (by simp) (by simp [hH4, be_length]) ho.media.1 (p4 ho.media)
end

/-- What bytes that begin with one have. -/
theorem iE_ok {b : List Int} (h : iE b = 0) : 4 ≤ b.length ∧ b.getD 0 0 / 32 = 4 ∧ hE (b.getD 1 0) (cI b) (gI b) = 0 ∧ 4 + 4 * gI b ≤ b.length := by
  unfold iE at h
  split at h
  · omega
  · split at h
    · omega
    · split at h
      · omega
      · split at h
        · omega
        · rename_i h1 h2 h3 h4
          exact ⟨by omega, Decidable.not_not.1 h2, Decidable.not_not.1 h3, by omega⟩
theorem four_hd (b : List Int) (n : Nat) (h : 4 ≤ b.length) : [b.getD 0 0, b.getD 1 0, b.getD 2 0, b.getD 3 0] ++ (b.drop 4).take n = b.take (4 + n) := by
  obtain ⟨x0, x1, x2, x3, r, rfl⟩ : ∃ x0 x1 x2 x3 r, b = x0 :: x1 :: x2 :: x3 :: r := by
    match b, h with
    | x0 :: x1 :: x2 :: x3 :: r, _ => exact ⟨_, _, _, _, _, rfl⟩
  rw [Nat.add_comm 4 n]
  simp
theorem get_encI (b : List Int) (hb : Bytes b) (h : iE b = 0) : (iV b).Ok ∧ MayI (iV b) ∧ encI (iV b) = b.take (iN b) ∧ iN b ≤ b.length ∧ 8 ≤ iN b := by
  obtain ⟨h4, h0, hh, hl⟩ := iE_ok h
  have b0 := hb.getD 0
  have b1 := hb.getD 1
  have b2 := hb.getD 2
  have b3 := hb.getD 3
  have hg0 : 0 ≤ gI b := by unfold gI; omega
  have hc0 : 0 ≤ cI b ∧ cI b < 32 := by unfold cI; omega
  have hcd : b.getD 0 0 = 128 + cI b := by unfold cI; omega
  obtain ⟨c, hc⟩ : ∃ c : Nat, cI b = c := ⟨(cI b).toNat, by omega⟩
  obtain ⟨g, hg⟩ : ∃ g : Nat, gI b = g := ⟨(gI b).toNat, by omega⟩
  have hlen : 4 + 4 * g ≤ b.length := by omega
  have hN : iN b = 4 + 4 * g := by unfold iN; omega
  have hgs : g ≤ 255 → b.getD 2 0 = 0 ∧ b.getD 3 0 = g := by unfold gI at hg; omega
  rw [hc, hg] at hh
  rw [hN, ← four_hd b (4 * g) h4]
  have z32 : U32 0 := ⟨by decide, by decide⟩
  have z64 : (0 : Int) ≤ 0 ∧ (0 : Int) ≤ 18446744073709551615 := ⟨by decide, by decide⟩
  have q32 := nb32 b hb
  have en : ∀ (i : Itm) (n : Nat), bodyI i = (b.drop 4).take (4 * g) → cntI i = c → i.kind = b.getD 1 0 → g ≤ 255 → encI i = [b.getD 0 0, b.getD 1 0, b.getD 2 0, b.getD 3 0] ++ (b.drop 4).take (4 * g) := by
    intro i n e1 e2 e3 e4
    have e5 : ((b.drop 4).take (4 * g)).length = 4 * g := by rw [List.length_take, List.length_drop]; omega
    rw [encI, e1, e5, Nat.mul_div_cancel_left _ (by decide), e2, e3, (hgs e4).1, (hgs e4).2, hcd, hc]
  unfold hE at hh
  unfold iV
  rw [hc, hg, Int.toNat_natCast]
  split at hh
  · rename_i k
    split at hh
    · omega
    · rename_i hn
      obtain ⟨hn1, hn2⟩ : c ≤ 15 ∧ g = 6 + 6 * c := by omega
      rw [if_pos k]
      refine ⟨⟨q32 4, ?_, q32 16, q32 20, q32 24, fun x hx => (blosAt_ok b hb c 28 x hx).1, fun x hx => by simp at hx, z32, fun x hx => by simp at hx⟩, .inl ⟨rfl, rfl, rfl, rfl, by simpa [blosAt_length] using hn1, fun x hx => (blosAt_ok b hb c 28 x hx).2⟩, en _ 0 ?_ ?_ k.symm (by omega), by omega, by omega⟩
      · have := nb_bd b hb 8 8
        exact ⟨this.1, by have := this.2; show nb b 8 8 ≤ _; omega⟩
      · simp only [bodyI, if_true, if_false, Int.reduceEq, bes, pairsB, List.append_nil, List.nil_append, or_self]
        rw [be_nb b hb 4 4 (by omega), be_nb b hb 8 8 (by omega), be_nb b hb 16 4 (by omega), be_nb b hb 20 4 (by omega), be_nb b hb 24 4 (by omega), blosB_at b hb c 28 (by omega)]
        rw [List.append_assoc, List.append_assoc, List.append_assoc, take_split b 24 4, take_split b 20 4, take_split b 16 4, take_split b 8 8, take_split b 4 4, hn2]
        exact congrArg (List.take · _) (by omega)
      · simp [cntI, blosAt_length]
  · split at hh
    · rename_i k0 k
      split at hh
      · omega
      · rename_i hn
        obtain ⟨hn1, hn2⟩ : c ≤ 15 ∧ g = 1 + 6 * c := by omega
        rw [if_neg k0, if_pos k]
        refine ⟨⟨q32 4, z64, z32, z32, z32, fun x hx => (blosAt_ok b hb c 8 x hx).1, fun x hx => by simp at hx, z32, fun x hx => by simp at hx⟩, .inr (.inl ⟨rfl, ⟨rfl, rfl, rfl, rfl⟩, rfl, rfl, rfl, by simpa [blosAt_length] using hn1, fun x hx => (blosAt_ok b hb c 8 x hx).2⟩), en _ 0 ?_ ?_ k.symm (by omega), by omega, by omega⟩
        · simp only [bodyI, if_false, Int.reduceEq, bes, pairsB, List.append_nil, List.nil_append, or_self]
          rw [be_nb b hb 4 4 (by omega), blosB_at b hb c 8 (by omega), take_split b 4 4, hn2]
          exact congrArg (List.take · _) (by omega)
        · simp [cntI, blosAt_length]
    · split at hh
      · rename_i k0 k1 k
        split at hh
        · omega
        · rename_i hn
          obtain ⟨hn0, hn1, hn2⟩ : 1 ≤ c ∧ c ≤ 15 ∧ g = c := by omega
          rw [if_neg k0, if_neg k1, if_pos k]
          refine ⟨⟨z32, z64, z32, z32, z32, fun x hx => by simp at hx, fun x hx => wordsAt_words b hb c 4 x hx, z32, fun x hx => by simp at hx⟩, .inr (.inr (.inl ⟨rfl, ⟨rfl, rfl, rfl, rfl⟩, rfl, rfl, rfl, rfl, by simpa [wordsAt_length] using hn0, by simpa [wordsAt_length] using hn1⟩)), en _ 0 ?_ ?_ k.symm (by omega), by omega, by omega⟩
          · simp only [bodyI, if_true, if_false, Int.reduceEq, blosB, pairsB, List.append_nil, List.nil_append, or_self]
            rw [bes_wordsAt b hb c 4 (by omega), hn2]
          · simp [cntI, wordsAt_length]
      · split at hh
        · rename_i k0 k1 k2 k
          split at hh
          · omega
          · split at hh
            · omega
            · rename_i hc1 hn
              obtain ⟨hn0, hn1, hc2⟩ : 3 ≤ g ∧ g ≤ 18 ∧ c = 1 := by omega
              rw [if_neg k0, if_neg k1, if_neg k2, if_pos k]
              refine ⟨⟨q32 4, z64, z32, z32, z32, fun x hx => by simp at hx, fun x hx => by simp at hx, q32 8, fun x hx => pairsAt_ok b hb _ 12 x hx⟩, .inr (.inr (.inr (.inl ⟨rfl, ⟨rfl, rfl, rfl, rfl⟩, rfl, rfl, by simp only [pairsAt_length]; omega, by simp only [pairsAt_length]; omega⟩))), en _ 0 ?_ ?_ k.symm (by omega), by omega, by omega⟩
              · simp only [bodyI, if_true, if_false, Int.reduceEq, bes, blosB, List.nil_append, true_or]
                rw [be_nb b hb 4 4 (by omega), be_nb b hb 8 4 (by omega), pairsB_at b hb _ 12 (by omega), take_split b 8 4, take_split b 4 4]
                exact congrArg (List.take · _) (by omega)
              · simp [cntI, hc2]
        · split at hh
          · rename_i k0 k1 k2 k3 k
            split at hh
            · omega
            · split at hh
              · omega
              · rename_i hc1 hn
                obtain ⟨hn0, hc2⟩ : g = 2 ∧ c = 1 := by omega
                rw [if_neg k0, if_neg k1, if_neg k2, if_neg k3]
                refine ⟨⟨q32 4, z64, z32, z32, z32, fun x hx => by simp at hx, fun x hx => by simp at hx, q32 8, fun x hx => by simp at hx⟩, .inr (.inr (.inr (.inr ⟨rfl, ⟨rfl, rfl, rfl, rfl⟩, rfl, rfl, rfl⟩))), en _ 0 ?_ ?_ k.symm (by omega), by omega, by omega⟩
                · simp only [bodyI, if_true, if_false, Int.reduceEq, bes, blosB, pairsB, List.append_nil, List.nil_append, or_true]
                  rw [be_nb b hb 4 4 (by omega), be_nb b hb 8 4 (by omega), take_split b 4 4, hn0]
                · simp [cntI, hc2]
          · omega
end Go.Proofs.Ytolobojidnomfaa
