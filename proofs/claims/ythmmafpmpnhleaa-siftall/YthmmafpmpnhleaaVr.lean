/- The contract of the reference's GetItems. -/
import Derived.Test.YthmmafpmpnhleaaVo
import Derived.Test.YthmmafpmpnhleaaQmc
set_option maxRecDepth 100000
namespace Go.Proofs.Ythmmafpmpnhleaa.Fbk
open Go.RowKit
set_option linter.unusedVariables false

/-- Items, an error; their lists were made behind the call's beginning. -/
def RetItsA (w : World) (is : List Itm) (n : Int) (e : Ending) (w' : World) : Prop :=
  ∃ A c ps, e = .returned (.tuple #[.slice A is.length c, .int .i64 n]) ∧ its ps = is ∧ ItsOwn w' w.heap.size A is.length c ps ∧ (∀ p ∈ ps, IAb w.heap.size p.2) ∧ Below w.heap.size w w'
def lenS : Value → Nat
  | .slice _ n _ => n
  | _ => 0
set_option maxHeartbeats 1000000 in
theorem rgetl_big (a : Option Addr) (n c : Nat) (w : World) (h : 512 < n) : Calls Try.prog 27 #[.slice a n c] w (RetIts w [] 5) := by
  have h' : (512 : Int) < n := by omega
  go_enter Try.func27, Try.ntmps27
  go_wp2
  go_ret2
  exact RetIts.none_ (Below.refl _ _)
set_option maxRecDepth 100000 in
set_option maxHeartbeats 8000000 in
theorem rgetl_ok (a : Option Addr) (n c B : Nat) (xs : List Int) (w : World) (hn : n ≤ 512) (hlc : n ≤ c) (hr : Rd w B a n xs) (hB : B ≤ w.heap.size) : Calls Try.prog 27 #[.slice a n c] w (RetItsA w (getLV xs) (getLE xs)) := by
  have HR := Lib.hid hr
  have HX := Lib.hid hr.1
  have HY := Lib.hid hr.2.1
  have h' : ¬ (512 : Int) < n := by omega
  have HG0 := Lib.hid (GL.start (xs := xs) (by rw [hr.1]; omega))
  have fin : Hid (∀ A N c w1 is (E : Int) (ps : List (Itm × ILoc)), getLE xs = E → getLV xs = is → its ps = is → is.length = N → ItsOwn w1 w.heap.size A N c ps → (∀ p ∈ ps, IAb w.heap.size p.2) → Below w.heap.size w w1 → RetItsA w (getLV xs) (getLE xs) (.returned (.tuple #[.slice A N c, .int .i64 E])) w1) := by
    intro A N c w1 is E ps h1 h2 h3 h4 h5 h7 h6
    subst h4
    rw [h1, h2]
    exact ⟨A, c, ps, rfl, h3, h5, h7, h6⟩
  clear hr
  go_enter Try.func27, Try.ntmps27
  go_wp2
  go_loopw [0, 4, 5] (fun sb sl sf wx => ∃ (at_ K C : Nat) (X : Option Addr) (N : Nat) (A : Option Addr) (cc : Nat) (ps : List (Itm × ILoc)) (fb : Bool), at_ + K = n ∧ at_ + C = c ∧ K ≤ C ∧ N ≤ 8 ∧ sb = .slice X K C ∧ sl = .slice A N cc ∧ sf = .bool fb ∧ (fb = true ↔ N = 0) ∧ Hid (GL xs at_ (its ps)) ∧ Hid ((its ps).length = N) ∧ Hid (ItsOwn wx w.heap.size A N cc ps ∧ ∀ p ∈ ps, IAb w.heap.size p.2) ∧ Hid (Rd w B X K (xs.drop at_)) ∧ Hid (Below w.heap.size w wx)) (fun sb _ _ _ => lenS sb)
  case atStart => exact ⟨0, n, c, a, 0, none, 0, [], true, by omega, by omega, hlc, by omega, rfl, rfl, rfl, by simp, HG0, rfl, ⟨ItsOwn.nil _ _, fun p hp => by simp at hp⟩, HR, Below.refl _ _⟩
  case round =>
    obtain ⟨at_, K, C, X, N, A, cc, ps, fb, hat, hatc, hKC, hN8, rfl, rfl, rfl, hfb, hG, hL, ho, HRd, hb⟩ := hrel
    rename World => wx
    have CO := Lib.hid (gi_all X K C B (xs.drop at_) wx (by unfold maxLen; omega) hKC (HRd.out.below (hb.out.mono hB)) (Nat.le_trans hB hb.out.size))
    rcases fb with _ | _
    case true =>
      obtain rfl : N = 0 := hfb.1 rfl
      have HON := Lib.hid (show at_ < xs.length ∨ (its ps).length = 0 from .inr hL.out)
      have HON8 := Lib.hid (show (its ps).length ≠ 8 from by rw [hL.out]; decide)
      clear hfb
      go_wp2_with fail
      refine CO.out.mono ?_
      rintro e w1 ⟨l, rfl, hi, ha, hb1⟩
      have hBx := hb.out.trans (hb1.mono hb.out.size)
      by_cases he : iE (xs.drop at_) = 0
      · obtain ⟨hG2, hm4⟩ := hG.out.step HY.out HON.out HON8.out he
        have hg1 : gIV (xs.drop at_) = iV (xs.drop at_) := by rw [gIV, if_pos he]
        have hg2 : gIN (xs.drop at_) = iN (xs.drop at_) := by rw [gIN, if_pos he]
        rw [hg1] at hi
        rw [hg1, hg2, he]
        clear hg1 hg2 he HON HON8 CO
        generalize iV (xs.drop at_) = i at *
        generalize iN (xs.drop at_) = m at *
        have hmn : m ≤ K := by have := hG2.le; rw [HX.out] at this; omega
        obtain ⟨X2, hX2, s1⟩ := cut_from_any X K C m m rfl hmn
        have hrd2 := rd_from HRd.out hmn hKC hX2
        rw [List.drop_drop] at hrd2
        have HRd2 := Lib.hid hrd2
        clear hX2 hrd2 HRd
        obtain ⟨v, hv⟩ : ∃ v : IV, v = ivOf i l := ⟨_, rfl⟩
        rw [← hv]
        have hA := (Below.refl w1.heap.size w1).alloc (Nat.le_refl _) (iobj v)
        have hA2 := (Below.refl (w1.alloc (iobj v)).heap.size (w1.alloc (iobj v))).alloc (Nat.le_refl _) (iobj v)
        have hA3 := hA.trans (hA2.mono hA.size)
        have HQ : Hid (IBlk (w1.alloc (iobj v)) w1.heap.size v) := IBlk.new w1 v
        have HO3 : Hid (ItsOwn ((w1.alloc (iobj v)).alloc (iobj v)) w.heap.size A 0 cc ps) := (ho.out.1.bel hb1).bel hA3
        have HB3 : Hid (Below w.heap.size w ((w1.alloc (iobj v)).alloc (iobj v))) := hBx.trans (hA3.mono hBx.size)
        have HR3 : Hid (ItsRd ((w1.alloc (iobj v)).alloc (iobj v)) ((w1.alloc (iobj v)).alloc (iobj v)).heap.size (some ⟨(w1.alloc (iobj v)).heap.size, 0, none⟩) 1 [(i, l)]) := its_one (by rw [← hv]; exact IBlk.new _ v) ((hi.below hA3).more hA3.size)
        have hsz : (w1.alloc (iobj v)).heap.size = w1.heap.size + 1 := by simp
        rw [hsz] at HR3
        have HNE : Hid (∀ g, A = some ⟨g, 0, none⟩ → ∀ p ∈ [(i, l)], INe g p.1 p.2) := fun g e p hp => by
          simp only [List.mem_cons, List.not_mem_nil, or_false] at hp
          subst hp
          exact INe.of_lt ha (ho.out.1.blk_lt e)
        have HAB : Hid (∀ p ∈ ps ++ [(i, l)], IAb w.heap.size p.2) := fun p hp => by
          rcases List.mem_append.1 hp with hp | hp
          · exact ho.out.2 p hp
          · simp only [List.mem_cons, List.not_mem_nil, or_false] at hp
            subst hp
            have hz := hb.out.size
            exact ⟨fun b off e => Nat.le_trans hz (ha.1 b off e), fun b off e => Nat.le_trans hz (ha.2.1 b off e), fun b off e => Nat.le_trans hz (ha.2.2 b off e)⟩
        have HG3 := Lib.hid hG2
        have HI3 : Hid (its (ps ++ [(i, l)]) = its ps ++ [i]) := by show (ps ++ [(i, l)]).map Prod.fst = ps.map Prod.fst ++ [i]; rw [List.map_append]; rfl
        have HL3 : Hid ((its (ps ++ [(i, l)])).length = 1) := by show (its (ps ++ [(i, l)])).length = 1; rw [HI3.out, List.length_append, hL.out]; rfl
        obtain ⟨c0, c1, c2, c3, c4, c5, c6, c7, c8, c9⟩ := HQ.out.cells
        clear hG2 hi ha hb1 hBx hv hA hA2 hA3 hsz hG hL ho hb HQ
        go_wp2_with (at_builtin; refine wpList_append_its (N := 1) rfl (.tmp 30) (.tmp 32) rfl (ps ++ [(i, l)]) rfl rfl rfl rfl HO3.out HR3.out HNE.out HB3.out.size (by omega) ?_; intro A4 c4' w4 ho4 hb4; have HO4 := Lib.hid ho4; have HB4 := Lib.hid (HB3.out.trans hb4); clear ho4 hb4 HO3 HR3 HNE HB3 c0 c1 c2 c3 c4 c5 c6 c7 c8 c9)
        go_roundw
        case rel => exact ⟨at_ + m, K - m, C - m, X2, 1, A4, c4', ps ++ [(i, l)], false, by omega, by omega, by omega, by omega, rfl, rfl, rfl, by simp, (by rw [HI3.out]; exact HG3.out), HL3.out, ⟨HO4.out, HAB.out⟩, HRd2.out, HB4.out⟩
        case measure => simp [lenS]; omega
      · obtain ⟨e1, e2⟩ := hG.out.bad HON.out HON8.out he
        have HE1 := Lib.hid e1
        have HE2 := Lib.hid e2
        have hE : (iE (xs.drop at_) != 0) = true := by simpa using he
        clear e1 e2 he hi ha HON HON8 CO hG hL ho HRd
        generalize iE (xs.drop at_) = E at *
        obtain ⟨v, hv⟩ : ∃ v : IV, v = ivOf (gIV (xs.drop at_)) l := ⟨_, rfl⟩
        rw [← hv]
        generalize gIN (xs.drop at_) = m at *
        have HB3 : Hid (Below w.heap.size w (w1.alloc (iobj v))) := hBx.alloc hBx.size _
        clear hBx hb1 hv hb
        go_wp2
        go_ret2
        exact fin.out none 0 0 _ [] E [] HE1.out HE2.out rfl rfl (ItsOwn.nil _ _) (fun p hp => by simp at hp) HB3.out
    case false =>
      have hN0 : N ≠ 0 := fun h => by have := hfb.2 h; cases this
      clear hfb
      by_cases hK : 0 < K
      · have HON := Lib.hid (show at_ < xs.length ∨ (its ps).length = 0 from .inl (by rw [HX.out]; omega))
        have hK' : (0 : Int) < K := by omega
        by_cases h8 : N = 8
        · subst h8
          obtain ⟨e1, e2⟩ := hG.out.full HON.out hL.out
          have HE1 := Lib.hid e1
          have HE2 := Lib.hid e2
          clear e1 e2
          go_wp2
          go_ret2
          exact fin.out none 0 0 wx [] 3 [] HE1.out HE2.out rfl rfl (ItsOwn.nil _ _) (fun p hp => by simp at hp) hb.out
        · have HON8 := Lib.hid (show (its ps).length ≠ 8 from by rw [hL.out]; exact h8)
          have h8' : ((N : Int) == 8) = false := by simp; omega
          go_wp2_with fail
          refine CO.out.mono ?_
          rintro e w1 ⟨l, rfl, hi, ha, hb1⟩
          have hBx := hb.out.trans (hb1.mono hb.out.size)
          by_cases he : iE (xs.drop at_) = 0
          · obtain ⟨hG2, hm4⟩ := hG.out.step HY.out HON.out HON8.out he
            have hg1 : gIV (xs.drop at_) = iV (xs.drop at_) := by rw [gIV, if_pos he]
            have hg2 : gIN (xs.drop at_) = iN (xs.drop at_) := by rw [gIN, if_pos he]
            rw [hg1] at hi
            rw [hg1, hg2, he]
            clear hg1 hg2 he HON HON8 CO
            generalize iV (xs.drop at_) = i at *
            generalize iN (xs.drop at_) = m at *
            have hmn : m ≤ K := by have := hG2.le; rw [HX.out] at this; omega
            obtain ⟨X2, hX2, s1⟩ := cut_from_any X K C m m rfl hmn
            have hrd2 := rd_from HRd.out hmn hKC hX2
            rw [List.drop_drop] at hrd2
            have HRd2 := Lib.hid hrd2
            clear hX2 hrd2 HRd
            obtain ⟨v, hv⟩ : ∃ v : IV, v = ivOf i l := ⟨_, rfl⟩
            rw [← hv]
            have hA := (Below.refl w1.heap.size w1).alloc (Nat.le_refl _) (iobj v)
            have hA2 := (Below.refl (w1.alloc (iobj v)).heap.size (w1.alloc (iobj v))).alloc (Nat.le_refl _) (iobj v)
            have hA3 := hA.trans (hA2.mono hA.size)
            have HQ : Hid (IBlk (w1.alloc (iobj v)) w1.heap.size v) := IBlk.new w1 v
            have HO3 : Hid (ItsOwn ((w1.alloc (iobj v)).alloc (iobj v)) w.heap.size A N cc ps) := (ho.out.1.bel hb1).bel hA3
            have HB3 : Hid (Below w.heap.size w ((w1.alloc (iobj v)).alloc (iobj v))) := hBx.trans (hA3.mono hBx.size)
            have HR3 : Hid (ItsRd ((w1.alloc (iobj v)).alloc (iobj v)) ((w1.alloc (iobj v)).alloc (iobj v)).heap.size (some ⟨(w1.alloc (iobj v)).heap.size, 0, none⟩) 1 [(i, l)]) := its_one (by rw [← hv]; exact IBlk.new _ v) ((hi.below hA3).more hA3.size)
            have hsz : (w1.alloc (iobj v)).heap.size = w1.heap.size + 1 := by simp
            rw [hsz] at HR3
            have HNE : Hid (∀ g, A = some ⟨g, 0, none⟩ → ∀ p ∈ [(i, l)], INe g p.1 p.2) := fun g e p hp => by
              simp only [List.mem_cons, List.not_mem_nil, or_false] at hp
              subst hp
              exact INe.of_lt ha (ho.out.1.blk_lt e)
            have HAB : Hid (∀ p ∈ ps ++ [(i, l)], IAb w.heap.size p.2) := fun p hp => by
              rcases List.mem_append.1 hp with hp | hp
              · exact ho.out.2 p hp
              · simp only [List.mem_cons, List.not_mem_nil, or_false] at hp
                subst hp
                have hz := hb.out.size
                exact ⟨fun b off e => Nat.le_trans hz (ha.1 b off e), fun b off e => Nat.le_trans hz (ha.2.1 b off e), fun b off e => Nat.le_trans hz (ha.2.2 b off e)⟩
            have HG3 := Lib.hid hG2
            have HI3 : Hid (its (ps ++ [(i, l)]) = its ps ++ [i]) := by show (ps ++ [(i, l)]).map Prod.fst = ps.map Prod.fst ++ [i]; rw [List.map_append]; rfl
            have HL3 : Hid ((its (ps ++ [(i, l)])).length = N + 1) := by show (its (ps ++ [(i, l)])).length = N + 1; rw [HI3.out, List.length_append, hL.out]; rfl
            obtain ⟨c0, c1, c2, c3, c4, c5, c6, c7, c8, c9⟩ := HQ.out.cells
            clear hG2 hi ha hb1 hBx hv hA hA2 hA3 hsz hG hL ho hb HQ
            go_wp2_with (at_builtin; refine wpList_append_its (N := N + 1) rfl (.tmp 30) (.tmp 32) rfl (ps ++ [(i, l)]) rfl rfl rfl rfl HO3.out HR3.out HNE.out HB3.out.size (by omega) ?_; intro A4 c4' w4 ho4 hb4; have HO4 := Lib.hid ho4; have HB4 := Lib.hid (HB3.out.trans hb4); clear ho4 hb4 HO3 HR3 HNE HB3 c0 c1 c2 c3 c4 c5 c6 c7 c8 c9)
            go_roundw
            case rel => exact ⟨at_ + m, K - m, C - m, X2, N + 1, A4, c4', ps ++ [(i, l)], false, by omega, by omega, by omega, by omega, rfl, rfl, rfl, by simp, (by rw [HI3.out]; exact HG3.out), HL3.out, ⟨HO4.out, HAB.out⟩, HRd2.out, HB4.out⟩
            case measure => simp [lenS]; omega
          · obtain ⟨e1, e2⟩ := hG.out.bad HON.out HON8.out he
            have HE1 := Lib.hid e1
            have HE2 := Lib.hid e2
            have hE : (iE (xs.drop at_) != 0) = true := by simpa using he
            clear e1 e2 he hi ha HON HON8 CO hG hL ho HRd
            generalize iE (xs.drop at_) = E at *
            obtain ⟨v, hv⟩ : ∃ v : IV, v = ivOf (gIV (xs.drop at_)) l := ⟨_, rfl⟩
            rw [← hv]
            generalize gIN (xs.drop at_) = m at *
            have HB3 : Hid (Below w.heap.size w (w1.alloc (iobj v))) := hBx.alloc hBx.size _
            clear hBx hb1 hv hb
            go_wp2
            go_ret2
            exact fin.out none 0 0 _ [] E [] HE1.out HE2.out rfl rfl (ItsOwn.nil _ _) (fun p hp => by simp at hp) HB3.out
      · obtain ⟨e1, e2⟩ := hG.out.done (by rw [HX.out, hL.out]; omega)
        have HE1 := Lib.hid e1
        have HE2 := Lib.hid e2
        have hK' : ¬ (0 : Int) < K := by omega
        clear e1 e2
        go_wp2
        go_ret2
        exact fin.out A N cc wx (its ps) 0 ps HE1.out HE2.out rfl hL.out ho.out.1 ho.out.2 hb.out
theorem rf_getA (a : Option Addr) (n c B : Nat) (xs : List Int) (w : World) (hlc : n ≤ c) (hr : Rd w B a n xs) (hB : B ≤ w.heap.size) : Calls Try.prog 27 #[.slice a n c] w (RetItsA w (getLV xs) (getLE xs)) := by
  by_cases h : n ≤ 512
  · exact rgetl_ok a n c B xs w h hlc hr hB
  · have e : getLE xs = 5 := by rw [getLE, if_pos (by rw [hr.1]; omega)]
    rw [getLV_no (by rw [e]; decide), e]
    exact (rgetl_big a n c w (by omega)).mono fun e w' ⟨A, c', ps, e1, e2, e3, e4⟩ => ⟨A, c', ps, e1, e2, e3, (by obtain rfl : ps = [] := List.map_eq_nil_iff.1 e2; intro p hp; simp at hp), e4⟩
theorem rf_get (a : Option Addr) (n c B : Nat) (xs : List Int) (w : World) (hlc : n ≤ c) (hr : Rd w B a n xs) (hB : B ≤ w.heap.size) : Calls Try.prog 27 #[.slice a n c] w (RetIts w (getLV xs) (getLE xs)) :=
  (rf_getA a n c B xs w hlc hr hB).mono fun _ _ ⟨A, c, ps, h1, h2, h3, _, h4⟩ => ⟨A, c, ps, h1, h2, h3, h4⟩
theorem IRd.farA {w w' : World} {B b : Nat} {i : Itm} {l : ILoc} (h : IRd w B i l) (ha : IAb b l) (hk : ∀ g : Nat, b ≤ g → w'.heap[g]? = w.heap[g]?) : IRd w' B i l := by
  have hc : ∀ g o : Nat, b ≤ g → w'.cell? ⟨g, o, none⟩ = w.cell? ⟨g, o, none⟩ := fun g o hg => by simp only [World.cell?, hk g hg]
  refine ⟨⟨h.blocks.1, fun hn => ?_⟩, ⟨h.gone.1, h.gone.2.1, fun hn => ?_⟩, ⟨h.pairs.1, fun hn => ?_⟩, h.bn, h.gn, h.pn, h.bc, h.gc, h.pc⟩
  · obtain ⟨b', off, e, hlt, hq⟩ := h.blocks.2 hn
    exact ⟨b', off, e, hlt, fun k x hx m v hv => by rw [hc b' _ (ha.1 b' off e)]; exact hq k x hx m v hv⟩
  · obtain ⟨b', off, e, hlt, hq⟩ := h.gone.2.2 hn
    exact ⟨b', off, e, hlt, fun k hk => by rw [hc b' _ (ha.2.1 b' off e)]; exact hq k hk⟩
  · obtain ⟨b', off, e, hlt, hq⟩ := h.pairs.2 hn
    exact ⟨b', off, e, hlt, fun k x hx m v hv => by rw [hc b' _ (ha.2.2 b' off e)]; exact hq k x hx m v hv⟩
/-- What is changed lies ahead of the row and of its items' lists. -/
theorem ItsOwn.far {w w' : World} {base n c : Nat} {A : Option Addr} {ps : List (Itm × ILoc)} (h : ItsOwn w base A n c ps) (ha : ∀ p ∈ ps, IAb base p.2) (hk : ∀ g : Nat, base ≤ g → w'.heap[g]? = w.heap[g]?) (hs : w.heap.size ≤ w'.heap.size) : ItsRd w' w'.heap.size A n ps :=
  ⟨(h.row.keepB fun g hg _ => hk g hg).rd, fun p hp => ((h.each p hp).farA (ha p hp) hk).more hs⟩
end Go.Proofs.Ythmmafpmpnhleaa.Fbk
