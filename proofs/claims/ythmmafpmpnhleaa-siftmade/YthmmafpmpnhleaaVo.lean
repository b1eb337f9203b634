/- The contract of rtcp.Get. -/
import Derived.Test.YthmmafpmpnhleaaVl
import Derived.Test.YthmmafpmpnhleaaVn
import Derived.Handy
set_option maxRecDepth 100000
namespace Go.Proofs.Ythmmafpmpnhleaa.Fbk
open Go.RowKit
set_option linter.unusedVariables false

/-- A row of items, and an error. -/
def RetIts (w : World) (is : List Itm) (n : Int) (e : Ending) (w' : World) : Prop :=
  ∃ A c ps, e = .returned (.tuple #[.slice A is.length c, .int .i64 n]) ∧ its ps = is ∧ ItsOwn w' w.heap.size A is.length c ps ∧ Below w.heap.size w w'
theorem RetIts.none_ {w w' : World} {n : Int} (hb : Below w.heap.size w w') : RetIts w [] n (.returned (.tuple #[.slice none 0 0, .int .i64 n])) w' := ⟨none, 0, [], rfl, rfl, ItsOwn.nil _ _, hb⟩
/-- What is known ahead of a round: at_ bytes were taken, ps read. -/
structure GL (xs : List Int) (at_ : Nat) (is : List Itm) : Prop where
  le : at_ ≤ xs.length
  n8 : is.length ≤ 8
  bytes : xs.length ≤ 512
  on : at_ < xs.length ∨ is.length = 0 → gLE 8 xs = gLE (8 - is.length) (xs.drop at_) ∧ gLV 8 xs = is ++ gLV (8 - is.length) (xs.drop at_)
  off : ¬ (at_ < xs.length ∨ is.length = 0) → gLE 8 xs = 0 ∧ gLV 8 xs = is
theorem GL.start {xs : List Int} (h : xs.length ≤ 512) : GL xs 0 [] := ⟨Nat.zero_le _, by simp, h, fun _ => ⟨rfl, rfl⟩, fun h => absurd (.inr rfl) h⟩
theorem getLE_of {xs : List Int} (h : xs.length ≤ 512) : getLE xs = gLE 8 xs := by rw [getLE, if_neg (by omega)]
theorem GL.full {xs : List Int} {at_ : Nat} {is : List Itm} (g : GL xs at_ is) (h : at_ < xs.length ∨ is.length = 0) (h8 : is.length = 8) : getLE xs = 3 ∧ getLV xs = [] := by
  have e : getLE xs = 3 := by rw [getLE_of g.bytes, (g.on h).1, h8]; rfl
  exact ⟨e, getLV_no (by rw [e]; decide)⟩
theorem GL.bad {xs : List Int} {at_ : Nat} {is : List Itm} (g : GL xs at_ is) (h : at_ < xs.length ∨ is.length = 0) (h8 : is.length ≠ 8) (he : iE (xs.drop at_) ≠ 0) : getLE xs = iE (xs.drop at_) ∧ getLV xs = [] := by
  obtain ⟨k, hk⟩ : ∃ k, 8 - is.length = k + 1 := ⟨7 - is.length, by have := g.n8; omega⟩
  have e : getLE xs = iE (xs.drop at_) := by rw [getLE_of g.bytes, (g.on h).1, hk, gLE, if_neg he]
  exact ⟨e, getLV_no (by rw [e]; exact he)⟩
theorem GL.step {xs : List Int} {at_ : Nat} {is : List Itm} (g : GL xs at_ is) (hb : Bytes xs) (h : at_ < xs.length ∨ is.length = 0) (h8 : is.length ≠ 8) (he : iE (xs.drop at_) = 0) : GL xs (at_ + iN (xs.drop at_)) (is ++ [iV (xs.drop at_)]) ∧ 4 ≤ iN (xs.drop at_) := by
  obtain ⟨k, hk⟩ : ∃ k, 8 - is.length = k + 1 := ⟨7 - is.length, by have := g.n8; omega⟩
  obtain ⟨e1, e2⟩ := g.on h
  have hbd : Bytes (xs.drop at_) := fun x hx => hb x (List.mem_of_mem_drop hx)
  obtain ⟨h1, h2, h3, h4, h5⟩ := get_encI (xs.drop at_) hbd he
  have hd : (xs.drop at_).length = xs.length - at_ := List.length_drop ..
  have hle := g.le
  have h5' : iN (xs.drop at_) ≤ xs.length - at_ := by
    obtain ⟨q1, q2, q3, q4⟩ := iE_ok he
    have : 0 ≤ gI (xs.drop at_) := by have a := hbd.getD 2; have b := hbd.getD 3; unfold gI; omega
    unfold iN; omega
  have h4' : 4 ≤ iN (xs.drop at_) := by
    have : 0 ≤ gI (xs.drop at_) := by have a := hbd.getD 2; have b := hbd.getD 3; unfold gI; omega
    unfold iN; omega
  have u1 : gLE (k + 1) (xs.drop at_) = if (xs.drop at_).length ≤ iN (xs.drop at_) then 0 else gLE k ((xs.drop at_).drop (iN (xs.drop at_))) := by rw [gLE, if_pos he]
  have u2 : gLV (k + 1) (xs.drop at_) = iV (xs.drop at_) :: (if (xs.drop at_).length ≤ iN (xs.drop at_) then [] else gLV k ((xs.drop at_).drop (iN (xs.drop at_)))) := by rw [gLV]
  rw [hk, u1] at e1
  rw [hk, u2] at e2
  have hl : (is ++ [iV (xs.drop at_)]).length = is.length + 1 := by simp
  have hd2 : (xs.drop at_).drop (iN (xs.drop at_)) = xs.drop (at_ + iN (xs.drop at_)) := by rw [List.drop_drop]
  refine ⟨⟨by omega, by rw [hl]; have := g.n8; omega, g.bytes, fun ho => ?_, fun ho => ?_⟩, h4'⟩
  · rw [hl] at ho ⊢
    have hlt : at_ + iN (xs.drop at_) < xs.length := by omega
    rw [if_neg (by omega), hd2] at e1 e2
    rw [show 8 - (is.length + 1) = k from by omega, e1, e2]
    exact ⟨rfl, by simp⟩
  · rw [hl] at ho
    rw [if_pos (by omega)] at e1 e2
    exact ⟨e1, e2⟩
theorem GL.done {xs : List Int} {at_ : Nat} {is : List Itm} (g : GL xs at_ is) (h : ¬ (at_ < xs.length ∨ is.length = 0)) : getLE xs = 0 ∧ getLV xs = is := by
  have e : getLE xs = 0 := by rw [getLE_of g.bytes, (g.off h).1]
  exact ⟨e, by rw [getLV, if_pos e, (g.off h).2]⟩
theorem ItsOwn.blk_lt {w : World} {base n c g : Nat} {A : Option Addr} {ps : List (Itm × ILoc)} (h : ItsOwn w base A n c ps) (e : A = some ⟨g, 0, none⟩) : g < w.heap.size := by
  rcases h.row.2.2.2 with ⟨rfl, -, -⟩ | ⟨g', T, e', -, hk, -⟩
  · cases e
  · rw [e] at e'
    simp only [Option.some.injEq, Addr.mk.injEq, and_true] at e'
    subst e'
    exact lt_of_some hk
set_option maxHeartbeats 1000000 in
theorem getl_big (a : Option Addr) (n c : Nat) (w : World) (h : 512 < n) : Calls Try.prog 20 #[.slice a n c] w (RetIts w [] 5) := by
  have h' : (512 : Int) < n := by omega
  go_enter Try.func20, Try.ntmps20
  go_wp2
  go_ret2
  exact RetIts.none_ (Below.refl _ _)
set_option maxRecDepth 100000 in
set_option maxHeartbeats 8000000 in
theorem getl_ok (a : Option Addr) (n c B : Nat) (xs : List Int) (w : World) (hn : n ≤ 512) (hlc : n ≤ c) (hr : Rd w B a n xs) (hB : B ≤ w.heap.size) : Calls Try.prog 20 #[.slice a n c] w (RetIts w (getLV xs) (getLE xs)) := by
  have hx := hr.1
  have hby := hr.2.1
  have HR := Lib.hid hr
  have HX := Lib.hid hx
  have HY := Lib.hid hby
  have h' : ¬ (512 : Int) < n := by omega
  have HG0 := Lib.hid (GL.start (xs := xs) (by omega))
  have fin : Hid (∀ A N c w1 is (E : Int) (ps : List (Itm × ILoc)), getLE xs = E → getLV xs = is → its ps = is → is.length = N → ItsOwn w1 w.heap.size A N c ps → Below w.heap.size w w1 → RetIts w (getLV xs) (getLE xs) (.returned (.tuple #[.slice A N c, .int .i64 E])) w1) := by
    intro A N c w1 is E ps h1 h2 h3 h4 h5 h6
    subst h4
    rw [h1, h2]
    exact ⟨A, c, ps, rfl, h3, h5, h6⟩
  clear hr hx hby
  go_enter Try.func20, Try.ntmps20
  go_wp2
  go_loopw [4, 5] (fun sl sa wx => ∃ (at_ N : Nat) (A : Option Addr) (cc : Nat) (ps : List (Itm × ILoc)), at_ ≤ n ∧ N ≤ 8 ∧ sa = .int .i64 at_ ∧ sl = .slice A N cc ∧ Hid (GL xs at_ (its ps)) ∧ Hid ((its ps).length = N) ∧ Hid (ItsOwn wx w.heap.size A N cc ps) ∧ Hid (Below w.heap.size w wx)) (fun _ sa _ => n + 1 - (intOf sa).toNat)
  case atStart => exact ⟨0, 0, none, 0, [], by omega, by omega, rfl, rfl, HG0, rfl, ItsOwn.nil _ _, Below.refl _ _⟩
  case round =>
    obtain ⟨at_, N, A, cc, ps, hat, hN8, rfl, rfl, hG, hL, ho, hb⟩ := hrel
    rename World => wx
    by_cases hlt : at_ < n ∨ N = 0
    · have HON := Lib.hid (show at_ < xs.length ∨ (its ps).length = 0 from by rw [HX.out, hL.out]; exact hlt)
      have hcond : ((at_ : Int) < n) ∨ ((N : Int) = 0) := by omega
      by_cases h8 : N = 8
      · subst h8
        obtain ⟨e1, e2⟩ := hG.out.full HON.out hL.out
        have HE1 := Lib.hid e1
        have HE2 := Lib.hid e2
        have hlt' : at_ < n := by omega
        clear e1 e2 hlt hcond
        go_wp2
        go_ret2
        exact fin.out none 0 0 wx [] 3 [] HE1.out HE2.out rfl rfl (ItsOwn.nil _ _) hb.out
      · have HON8 := Lib.hid (show (its ps).length ≠ 8 from by rw [hL.out]; exact h8)
        have h8' : ((N : Int) == 8) = false := by simp; omega
        obtain ⟨X, hX, s1⟩ := cut_from_any a n c at_ at_ rfl hat
        have hrd := rd_from (HR.out.below (hb.out.mono hB)) hat hlc hX
        have CO := Lib.hid (one_any X (n - at_) (c - at_) B (xs.drop at_) wx (by unfold maxLen; omega) (by omega) hrd (Nat.le_trans hB hb.out.size))
        clear hX hrd hcond
        rcases hlt with hlt | hlt
        case inl =>
          go_wp2_with fail
          refine CO.out.mono ?_
          rintro e w1 ⟨l, rfl, hi, ha, hb1⟩
          have hBx := hb.out.trans (hb1.mono hb.out.size)
          by_cases he : iE (xs.drop at_) = 0
          · obtain ⟨hG2, hm4⟩ := hG.out.step HY.out HON.out HON8.out he
            have hg1 : gIV (xs.drop at_) = iV (xs.drop at_) := by rw [gIV, if_pos he]
            have hg2 : gIN (xs.drop at_) = iN (xs.drop at_) := by rw [gIN, if_pos he]
            rw [hg1] at hi
            rw [hg1, hg2, he]
            clear hg1 hg2 he HON HON8 CO
            generalize iV (xs.drop at_) = i at *
            generalize iN (xs.drop at_) = m at *
            obtain ⟨v, hv⟩ : ∃ v : IV, v = ivOf i l := ⟨_, rfl⟩
            rw [← hv]
            have hA := (Below.refl w1.heap.size w1).alloc (Nat.le_refl _) (iobj v)
            have hA2 := (Below.refl (w1.alloc (iobj v)).heap.size (w1.alloc (iobj v))).alloc (Nat.le_refl _) (iobj v)
            have hA3 := hA.trans (hA2.mono hA.size)
            have HQ : Hid (IBlk (w1.alloc (iobj v)) w1.heap.size v) := IBlk.new w1 v
            have HO3 : Hid (ItsOwn ((w1.alloc (iobj v)).alloc (iobj v)) w.heap.size A N cc ps) := (ho.out.bel hb1).bel hA3
            have HB3 : Hid (Below w.heap.size w ((w1.alloc (iobj v)).alloc (iobj v))) := hBx.trans (hA3.mono hBx.size)
            have HR3 : Hid (ItsRd ((w1.alloc (iobj v)).alloc (iobj v)) ((w1.alloc (iobj v)).alloc (iobj v)).heap.size (some ⟨(w1.alloc (iobj v)).heap.size, 0, none⟩) 1 [(i, l)]) := its_one (by rw [← hv]; exact IBlk.new _ v) ((hi.below hA3).more hA3.size)
            have hsz : (w1.alloc (iobj v)).heap.size = w1.heap.size + 1 := by simp
            rw [hsz] at HR3
            have HNE : Hid (∀ g, A = some ⟨g, 0, none⟩ → ∀ p ∈ [(i, l)], INe g p.1 p.2) := fun g e p hp => by
              simp only [List.mem_cons, List.not_mem_nil, or_false] at hp
              subst hp
              exact INe.of_lt ha (ho.out.blk_lt e)
            have hmn : at_ + m ≤ n := by have := hG2.le; rw [HX.out] at this; exact this
            have HG3 := Lib.hid hG2
            have HI3 : Hid (its (ps ++ [(i, l)]) = its ps ++ [i]) := by show (ps ++ [(i, l)]).map Prod.fst = ps.map Prod.fst ++ [i]; rw [List.map_append]; rfl
            have HL3 : Hid ((its (ps ++ [(i, l)])).length = N + 1) := by show (its (ps ++ [(i, l)])).length = N + 1; rw [HI3.out, List.length_append, hL.out]; rfl
            obtain ⟨c0, c1, c2, c3, c4, c5, c6, c7, c8, c9⟩ := HQ.out.cells
            clear hG2 hi ha hb1 hBx hv hA hA2 hA3 hsz hG hL ho hb HQ
            go_wp2_with (at_builtin; refine wpList_append_its (N := N + 1) rfl (.tmp 35) (.tmp 37) rfl (ps ++ [(i, l)]) rfl rfl rfl rfl HO3.out HR3.out HNE.out HB3.out.size (by omega) ?_; intro A4 c4' w4 ho4 hb4; have HO4 := Lib.hid ho4; have HB4 := Lib.hid (HB3.out.trans hb4); clear ho4 hb4 HO3 HR3 HNE HB3 c0 c1 c2 c3 c4 c5 c6 c7 c8 c9)
            go_roundw
            case rel => exact ⟨at_ + m, N + 1, A4, c4', ps ++ [(i, l)], by omega, by omega, by go_num, rfl, (by rw [HI3.out]; exact HG3.out), HL3.out, HO4.out, HB4.out⟩
            case measure => simp [intOf]; omega
          · obtain ⟨e1, e2⟩ := hG.out.bad HON.out HON8.out he
            have HE1 := Lib.hid e1
            have HE2 := Lib.hid e2
            have hE : (iE (xs.drop at_) != 0) = true := by simpa using he
            clear e1 e2 he hi ha HON HON8 CO hG hL ho
            generalize iE (xs.drop at_) = E at *
            obtain ⟨v, hv⟩ : ∃ v : IV, v = ivOf (gIV (xs.drop at_)) l := ⟨_, rfl⟩
            rw [← hv]
            generalize gIN (xs.drop at_) = m at *
            have HB3 : Hid (Below w.heap.size w (w1.alloc (iobj v))) := hBx.alloc hBx.size _
            clear hBx hb1 hv hb
            go_wp2
            go_ret2
            exact fin.out none 0 0 _ [] E [] HE1.out HE2.out rfl rfl (ItsOwn.nil _ _) HB3.out
        case inr =>
          subst hlt
          by_cases hlt2 : (at_ : Int) < n
          case pos =>
            go_wp2_with fail
            refine CO.out.mono ?_
            rintro e w1 ⟨l, rfl, hi, ha, hb1⟩
            have hBx := hb.out.trans (hb1.mono hb.out.size)
            by_cases he : iE (xs.drop at_) = 0
            · obtain ⟨hG2, hm4⟩ := hG.out.step HY.out HON.out HON8.out he
              have hg1 : gIV (xs.drop at_) = iV (xs.drop at_) := by rw [gIV, if_pos he]
              have hg2 : gIN (xs.drop at_) = iN (xs.drop at_) := by rw [gIN, if_pos he]
              rw [hg1] at hi
              rw [hg1, hg2, he]
              clear hg1 hg2 he HON HON8 CO
              generalize iV (xs.drop at_) = i at *
              generalize iN (xs.drop at_) = m at *
              obtain ⟨v, hv⟩ : ∃ v : IV, v = ivOf i l := ⟨_, rfl⟩
              rw [← hv]
              have hA := (Below.refl w1.heap.size w1).alloc (Nat.le_refl _) (iobj v)
              have hA2 := (Below.refl (w1.alloc (iobj v)).heap.size (w1.alloc (iobj v))).alloc (Nat.le_refl _) (iobj v)
              have hA3 := hA.trans (hA2.mono hA.size)
              have HQ : Hid (IBlk (w1.alloc (iobj v)) w1.heap.size v) := IBlk.new w1 v
              have HO3 : Hid (ItsOwn ((w1.alloc (iobj v)).alloc (iobj v)) w.heap.size A 0 cc ps) := (ho.out.bel hb1).bel hA3
              have HB3 : Hid (Below w.heap.size w ((w1.alloc (iobj v)).alloc (iobj v))) := hBx.trans (hA3.mono hBx.size)
              have HR3 : Hid (ItsRd ((w1.alloc (iobj v)).alloc (iobj v)) ((w1.alloc (iobj v)).alloc (iobj v)).heap.size (some ⟨(w1.alloc (iobj v)).heap.size, 0, none⟩) 1 [(i, l)]) := its_one (by rw [← hv]; exact IBlk.new _ v) ((hi.below hA3).more hA3.size)
              have hsz : (w1.alloc (iobj v)).heap.size = w1.heap.size + 1 := by simp
              rw [hsz] at HR3
              have HNE : Hid (∀ g, A = some ⟨g, 0, none⟩ → ∀ p ∈ [(i, l)], INe g p.1 p.2) := fun g e p hp => by
                simp only [List.mem_cons, List.not_mem_nil, or_false] at hp
                subst hp
                exact INe.of_lt ha (ho.out.blk_lt e)
              have hmn : at_ + m ≤ n := by have := hG2.le; rw [HX.out] at this; exact this
              have HG3 := Lib.hid hG2
              have HI3 : Hid (its (ps ++ [(i, l)]) = its ps ++ [i]) := by show (ps ++ [(i, l)]).map Prod.fst = ps.map Prod.fst ++ [i]; rw [List.map_append]; rfl
              have HL3 : Hid ((its (ps ++ [(i, l)])).length = 1) := by show (its (ps ++ [(i, l)])).length = 1; rw [HI3.out, List.length_append, hL.out]; rfl
              obtain ⟨c0, c1, c2, c3, c4, c5, c6, c7, c8, c9⟩ := HQ.out.cells
              clear hG2 hi ha hb1 hBx hv hA hA2 hA3 hsz hG hL ho hb HQ
              go_wp2_with (at_builtin; refine wpList_append_its (N := 1) rfl (.tmp 35) (.tmp 37) rfl (ps ++ [(i, l)]) rfl rfl rfl rfl HO3.out HR3.out HNE.out HB3.out.size (by omega) ?_; intro A4 c4' w4 ho4 hb4; have HO4 := Lib.hid ho4; have HB4 := Lib.hid (HB3.out.trans hb4); clear ho4 hb4 HO3 HR3 HNE HB3 c0 c1 c2 c3 c4 c5 c6 c7 c8 c9)
              go_roundw
              case rel => exact ⟨at_ + m, 1, A4, c4', ps ++ [(i, l)], by omega, by omega, by go_num, rfl, (by rw [HI3.out]; exact HG3.out), HL3.out, HO4.out, HB4.out⟩
              case measure => simp [intOf]; omega
            · obtain ⟨e1, e2⟩ := hG.out.bad HON.out HON8.out he
              have HE1 := Lib.hid e1
              have HE2 := Lib.hid e2
              have hE : (iE (xs.drop at_) != 0) = true := by simpa using he
              clear e1 e2 he hi ha HON HON8 CO hG hL ho
              generalize iE (xs.drop at_) = E at *
              obtain ⟨v, hv⟩ : ∃ v : IV, v = ivOf (gIV (xs.drop at_)) l := ⟨_, rfl⟩
              rw [← hv]
              generalize gIN (xs.drop at_) = m at *
              have HB3 : Hid (Below w.heap.size w (w1.alloc (iobj v))) := hBx.alloc hBx.size _
              clear hBx hb1 hv hb
              go_wp2
              go_ret2
              exact fin.out none 0 0 _ [] E [] HE1.out HE2.out rfl rfl (ItsOwn.nil _ _) HB3.out
          case neg =>
            go_wp2_with fail
            refine CO.out.mono ?_
            rintro e w1 ⟨l, rfl, hi, ha, hb1⟩
            have hBx := hb.out.trans (hb1.mono hb.out.size)
            by_cases he : iE (xs.drop at_) = 0
            · exfalso
              obtain ⟨hG2, hm4⟩ := hG.out.step HY.out HON.out HON8.out he
              have hmn := hG2.le
              rw [HX.out] at hmn
              omega
            · obtain ⟨e1, e2⟩ := hG.out.bad HON.out HON8.out he
              have HE1 := Lib.hid e1
              have HE2 := Lib.hid e2
              have hE : (iE (xs.drop at_) != 0) = true := by simpa using he
              clear e1 e2 he hi ha HON HON8 CO hG hL ho
              generalize iE (xs.drop at_) = E at *
              obtain ⟨v, hv⟩ : ∃ v : IV, v = ivOf (gIV (xs.drop at_)) l := ⟨_, rfl⟩
              rw [← hv]
              generalize gIN (xs.drop at_) = m at *
              have HB3 : Hid (Below w.heap.size w (w1.alloc (iobj v))) := hBx.alloc hBx.size _
              clear hBx hb1 hv hb
              go_wp2
              go_ret2
              exact fin.out none 0 0 _ [] E [] HE1.out HE2.out rfl rfl (ItsOwn.nil _ _) HB3.out
    · have hlt1 : ¬ (at_ : Int) < n := by omega
      have hlt2 : ((N : Int) == 0) = false := by simp; omega
      obtain ⟨e1, e2⟩ := hG.out.done (by rw [HX.out, hL.out]; exact hlt)
      have HE1 := Lib.hid e1
      have HE2 := Lib.hid e2
      clear e1 e2 hlt HG0
      go_wp2
      go_ret2
      exact fin.out A N cc wx (its ps) 0 ps HE1.out HE2.out rfl hL.out ho.out hb.out
theorem rc_get (a : Option Addr) (n c B : Nat) (xs : List Int) (w : World) (hlc : n ≤ c) (hr : Rd w B a n xs) (hB : B ≤ w.heap.size) : Calls Try.prog 20 #[.slice a n c] w (RetIts w (getLV xs) (getLE xs)) := by
  by_cases h : n ≤ 512
  · exact getl_ok a n c B xs w h hlc hr hB
  · have e : getLE xs = 5 := by rw [getLE, if_pos (by rw [hr.1]; omega)]
    rw [getLV_no (by rw [e]; decide), e]
    exact getl_big a n c w (by omega)
end Go.Proofs.Ythmmafpmpnhleaa.Fbk
