/- The contract of sift.Flat. -/
import Derived.Test.YthmmafpmpnhleaaTe
import Derived.Test.YthmmafpmpnhleaaTd
import Derived.Test.YthmmafpmpnhleaaTm
import Derived.Deep.Cut
import Derived.Deep.DeepCutAuto
set_option maxRecDepth 100000
namespace Go.Proofs.Ythmmafpmpnhleaa.Sft
open Go.RowKit
open Rtp (PV pkt pobj PBlk pvOf PRd zpv Off)
open Fbk (ILoc IRd ItsRd ItsOwn its OkL)
set_option linter.unusedVariables false

def flP : Ev → Pkt
  | .media p _ _ _ _ => p
  | _ => zeroPkt
def flL : Ev → Int
  | .media _ l _ _ _ => l
  | _ => 0
def flK : Ev → Bool
  | .media _ _ k _ _ => k
  | _ => false
def flS : Ev → Bool
  | .media _ _ _ s _ => s
  | _ => false
def flF : Ev → Int
  | .media _ _ _ _ f => f
  | _ => 0
def flI : Ev → List Itm
  | .feed is => is
  | _ => []
def RetF (w : World) (ev : Ev) (e : Ending) (w' : World) : Prop :=
  ∃ lc A c ps, e = .returned (.tuple #[pkt (pvOf (flP ev) lc), dsc (flL ev) (flK ev) (flS ev) (flF ev), .slice A (flI ev).length c]) ∧ PRd w' w'.heap.size (flP ev) lc ∧ ItsRd w' w'.heap.size A (flI ev).length ps ∧ its ps = flI ev ∧ Below w.heap.size w w'
theorem its_same {w w' : World} {B B' n : Nat} {a : Option Addr} {ps : List (Itm × ILoc)} (h : ItsRd w B a n ps) (hk : ∀ i : Nat, w'.heap[i]? = w.heap[i]?) (hB : B ≤ B') : ItsRd w' B' a n ps := by
  refine ItsRd.more (show ItsRd w' B a n ps from ⟨⟨h.row.1, fun hn => ?_⟩, fun p hp => (h.each p hp).keep fun k _ _ => hk k⟩) hB
  obtain ⟨b, off, e, hlt, hc⟩ := h.row.2 hn
  exact ⟨b, off, e, hlt, fun i x hx j v hv => (Fbk.cell_of_heap (hk b)).trans (hc i x hx j v hv)⟩
theorem prd_zero (w : World) (B : Nat) : PRd w B zeroPkt ⟨none, 0, none, 0, none, 0⟩ := ⟨Wd.none_ _ rfl, Rd.none_ _ rfl, Rd.none_ _ rfl, Nat.zero_le _, Nat.zero_le _, Nat.zero_le _, Nat.le_refl _, Nat.le_refl _, Nat.le_refl _⟩

set_option maxHeartbeats 4000000 in
theorem flat_none (w : World) : Calls Try.prog 12 #[.nilIface] w (RetF w .none) := by
  have h1 := as_mn
  have h2 := as_fn
  go_enter Try.func12, Try.ntmps12
  go_upto_region 7 with (fail)
  obtain ⟨w4, hw⟩ : ∃ w4, (((w.alloc (pobj zpv)).alloc D0).alloc (mobj zpv 0 false false 0)).alloc (fobj none 0 0) = w4 := ⟨_, rfl⟩
  have D : PBlk w4 w.heap.size zpv := by
    subst hw
    exact (((PBlk.new w zpv).below ((Below.refl (w.alloc (pobj zpv)).heap.size _).alloc (Nat.le_refl _) D0) (by simp)).below ((Below.refl ((w.alloc (pobj zpv)).alloc D0).heap.size _).alloc (Nat.le_refl _) (mobj zpv 0 false false 0)) (by simp <;> omega)).below ((Below.refl (((w.alloc (pobj zpv)).alloc D0).alloc (mobj zpv 0 false false 0)).heap.size _).alloc (Nat.le_refl _) (fobj none 0 0)) (by simp <;> omega)
  have E : DBlk w4 (w.heap.size + 1) 0 false false 0 := by
    subst hw
    have := DBlk.new (w.alloc (pobj zpv)) 0 false false 0
    rw [show (w.alloc (pobj zpv)).heap.size = w.heap.size + 1 from by simp] at this
    exact (this.below ((Below.refl ((w.alloc (pobj zpv)).alloc D0).heap.size _).alloc (Nat.le_refl _) (mobj zpv 0 false false 0)) (by simp)).below ((Below.refl (((w.alloc (pobj zpv)).alloc D0).alloc (mobj zpv 0 false false 0)).heap.size _).alloc (Nat.le_refl _) (fobj none 0 0)) (by simp <;> omega)
  have HB : Hid (Below w.heap.size w w4) := by
    subst hw
    exact ((((Below.refl w.heap.size w).alloc (Nat.le_refl _) (pobj zpv)).alloc (by simp) D0).alloc (by simp <;> omega) (mobj zpv 0 false false 0)).alloc (by simp <;> omega) (fobj none 0 0)
  rw [hw]
  clear hw
  have HM := Lib.hid (MW_at (u := zpv) (l' := 0) (k' := false) (s' := false) (f' := 0) D E (by omega) HB.out (Nat.le_refl _) (by omega))
  obtain ⟨f0, f1, f2, f3, f4, f5, f6, f7, f8, f9, f10, g0, g1, g2, g3, g4, g5, g6, g7, g8, g9, g10⟩ := D.cf
  have i0 := E.c0
  have i1 := E.c1
  have i2 := E.c2
  have i3 := E.c3
  have j0 := E.frozen 0
  have j1 := E.frozen 1
  have j2 := E.frozen 2
  have j3 := E.frozen 3
  clear D E
  go_wp2
  obtain ⟨m1, m2, m3, -, -⟩ := HM.out
  refine ret_pd (v := zpv) Try.results12 m1 m2 ⟨⟨none, 0, none, 0, none, 0⟩, none, 0, [], rfl, prd_zero _ _, ItsRd.nil _ _ _, rfl, m3⟩

set_option maxHeartbeats 4000000 in
theorem flat_feed (w : World) (A : Option Addr) (n c : Nat) (ps : List (Itm × ILoc)) (hi : ItsRd w w.heap.size A n ps) (hd : EvBd (.feed (its ps))) :
    Calls Try.prog 12 #[.iface 52 (fval A n c)] w (RetF w (.feed (its ps))) := by
  have h1 := as_mf
  have h2 := as_ff
  have hil : (its ps).length = n := by simp [its, hi.len]
  have CC : Hid (∀ W, Below w.heap.size w W → Calls Try.prog 30 #[.slice A n c] W (RetC W (its ps))) := fun W hW => copiedItems_any A n c W.heap.size ps W (hi.bel hW) (Nat.le_refl _) (hil ▸ hd.1) hd.2
  clear hi hd hil
  generalize its ps = is at *
  go_enter Try.func12, Try.ntmps12
  go_wp2_with fail
  obtain ⟨w4, hw⟩ : ∃ w4, (((w.alloc (pobj zpv)).alloc D0).alloc (mobj zpv 0 false false 0)).alloc (fobj A n c) = w4 := ⟨_, rfl⟩
  have D : PBlk w4 w.heap.size zpv := by
    subst hw
    exact (((PBlk.new w zpv).below ((Below.refl (w.alloc (pobj zpv)).heap.size _).alloc (Nat.le_refl _) D0) (by simp)).below ((Below.refl ((w.alloc (pobj zpv)).alloc D0).heap.size _).alloc (Nat.le_refl _) (mobj zpv 0 false false 0)) (by simp <;> omega)).below ((Below.refl (((w.alloc (pobj zpv)).alloc D0).alloc (mobj zpv 0 false false 0)).heap.size _).alloc (Nat.le_refl _) (fobj A n c)) (by simp <;> omega)
  have E : DBlk w4 (w.heap.size + 1) 0 false false 0 := by
    subst hw
    have := DBlk.new (w.alloc (pobj zpv)) 0 false false 0
    rw [show (w.alloc (pobj zpv)).heap.size = w.heap.size + 1 from by simp] at this
    exact (this.below ((Below.refl ((w.alloc (pobj zpv)).alloc D0).heap.size _).alloc (Nat.le_refl _) (mobj zpv 0 false false 0)) (by simp)).below ((Below.refl (((w.alloc (pobj zpv)).alloc D0).alloc (mobj zpv 0 false false 0)).heap.size _).alloc (Nat.le_refl _) (fobj A n c)) (by simp <;> omega)
  have hb4 : Below w.heap.size w w4 := by
    subst hw
    exact ((((Below.refl w.heap.size w).alloc (Nat.le_refl _) (pobj zpv)).alloc (by simp) D0).alloc (by simp <;> omega) (mobj zpv 0 false false 0)).alloc (by simp <;> omega) (fobj A n c)
  rw [hw]
  clear hw
  refine (CC.out w4 hb4).mono ?_
  rintro e w5 ⟨A', c', ps', rfl, he, ho, hb5⟩
  have HB := Lib.hid (hb4.trans (hb5.mono hb4.size))
  have D5 := D.below hb5 D.lt
  have E5 := E.below hb5 E.lt
  have HO := Lib.hid ho.rd
  have HE := Lib.hid he
  clear hb4 hb5 D E ho he CC
  have HM := Lib.hid (MW_at (u := zpv) (l' := 0) (k' := false) (s' := false) (f' := 0) D5 E5 (by omega) HB.out (Nat.le_refl _) (by omega))
  have HZ := Lib.hid (MW_zero D5 E5 (by omega))
  obtain ⟨f0, f1, f2, f3, f4, f5, f6, f7, f8, f9, f10, g0, g1, g2, g3, g4, g5, g6, g7, g8, g9, g10⟩ := D5.cf
  have i0 := E5.c0
  have i1 := E5.c1
  have i2 := E5.c2
  have i3 := E5.c3
  have j0 := E5.frozen 0
  have j1 := E5.frozen 1
  have j2 := E5.frozen 2
  have j3 := E5.frozen 3
  clear D5 E5
  go_wp2
  obtain ⟨m1, m2, m3, m4, -⟩ := HM.out
  refine ret_pd (v := zpv) Try.results12 m1 m2 ⟨⟨none, 0, none, 0, none, 0⟩, A', c', ps', rfl, prd_zero _ _, its_same HO.out HZ.out m4, HE.out, m3⟩

set_option maxHeartbeats 4000000 in
theorem flat_media (w : World) (p : Pkt) (lc : Rtp.Loc) (l : Int) (k s : Bool) (f : Int) (hq : PRd w w.heap.size p lc) (hd : EvBd (.media p l k s f)) :
    Calls Try.prog 12 #[.iface 50 (mval (pvOf p lc) l k s f)] w (RetF w (.media p l k s f)) := by
  have h1 := as_mm
  have CC : Hid (∀ W, Below w.heap.size w W → Calls Try.prog 29 #[pkt (pvOf p lc)] W (RetK W p)) := fun W hW => copiedPacket_any W W.heap.size p lc ((hq.below hW).more hW.size) (Nat.le_refl _) hd
  obtain ⟨v, hv⟩ : ∃ v, pvOf p lc = v := ⟨_, rfl⟩
  rw [hv] at CC ⊢
  clear hq hd hv
  go_enter Try.func12, Try.ntmps12
  go_wp2_with fail
  obtain ⟨w4, hw⟩ : ∃ w4, ((w.alloc (pobj zpv)).alloc D0).alloc (mobj v l k s f) = w4 := ⟨_, rfl⟩
  have D : PBlk w4 w.heap.size zpv := by
    subst hw
    exact ((PBlk.new w zpv).below ((Below.refl (w.alloc (pobj zpv)).heap.size _).alloc (Nat.le_refl _) D0) (by simp)).below ((Below.refl ((w.alloc (pobj zpv)).alloc D0).heap.size _).alloc (Nat.le_refl _) (mobj v l k s f)) (by simp <;> omega)
  have E : DBlk w4 (w.heap.size + 1) 0 false false 0 := by
    subst hw
    have := DBlk.new (w.alloc (pobj zpv)) 0 false false 0
    rw [show (w.alloc (pobj zpv)).heap.size = w.heap.size + 1 from by simp] at this
    exact this.below ((Below.refl ((w.alloc (pobj zpv)).alloc D0).heap.size _).alloc (Nat.le_refl _) (mobj v l k s f)) (by simp)
  have M : MBlk w4 (w.heap.size + 1 + 1) v l k s f := by
    subst hw
    have := MBlk.new ((w.alloc (pobj zpv)).alloc D0) v l k s f
    rw [show ((w.alloc (pobj zpv)).alloc D0).heap.size = w.heap.size + 1 + 1 from by simp] at this
    exact this
  have hb4 : Below w.heap.size w w4 := by
    subst hw
    exact (((Below.refl w.heap.size w).alloc (Nat.le_refl _) (pobj zpv)).alloc (by simp) D0).alloc (by simp <;> omega) (mobj v l k s f)
  rw [hw]
  clear hw
  have hs0 := M.lt
  have hS : MBlk w4.drew (w.heap.size + 1 + 1) v l k s f := M
  have HD := Lib.hid (show PBlk w4.drew w.heap.size zpv from D)
  have HE := Lib.hid (show DBlk w4.drew (w.heap.size + 1) 0 false false 0 from E)
  have HB4 : Hid (Below w.heap.size w w4.drew) := hb4.drew
  have HS4 : Hid (w.heap.size + 1 + 1 < w4.drew.heap.size) := hs0
  clear M D E hb4 hs0
  have q0 : ∀ W, MBlk W (w.heap.size + 1 + 1) v l k s f → W.cell? ⟨w.heap.size + 1 + 1, 0, none⟩ = some (.bool v.mrk) := fun W h => h.pc.1
  have q1 : ∀ W, MBlk W (w.heap.size + 1 + 1) v l k s f → W.cell? ⟨w.heap.size + 1 + 1, 1, none⟩ = some (.int .i64 v.ty) := fun W h => h.pc.2.1
  have q2 : ∀ W, MBlk W (w.heap.size + 1 + 1) v l k s f → W.cell? ⟨w.heap.size + 1 + 1, 2, none⟩ = some (.int .u16 v.seq) := fun W h => h.pc.2.2.1
  have q3 : ∀ W, MBlk W (w.heap.size + 1 + 1) v l k s f → W.cell? ⟨w.heap.size + 1 + 1, 3, none⟩ = some (.int .u32 v.time) := fun W h => h.pc.2.2.2.1
  have q4 : ∀ W, MBlk W (w.heap.size + 1 + 1) v l k s f → W.cell? ⟨w.heap.size + 1 + 1, 4, none⟩ = some (.int .u32 v.ssrc) := fun W h => h.pc.2.2.2.2.1
  have q5 : ∀ W, MBlk W (w.heap.size + 1 + 1) v l k s f → W.cell? ⟨w.heap.size + 1 + 1, 5, none⟩ = some (.slice v.ca v.cn v.cc) := fun W h => h.pc.2.2.2.2.2.1
  have q6 : ∀ W, MBlk W (w.heap.size + 1 + 1) v l k s f → W.cell? ⟨w.heap.size + 1 + 1, 6, none⟩ = some (.bool v.he) := fun W h => h.pc.2.2.2.2.2.2.1
  have q7 : ∀ W, MBlk W (w.heap.size + 1 + 1) v l k s f → W.cell? ⟨w.heap.size + 1 + 1, 7, none⟩ = some (.int .u16 v.prof) := fun W h => h.pc.2.2.2.2.2.2.2.1
  have q8 : ∀ W, MBlk W (w.heap.size + 1 + 1) v l k s f → W.cell? ⟨w.heap.size + 1 + 1, 8, none⟩ = some (.slice v.ea v.en v.ec) := fun W h => h.pc.2.2.2.2.2.2.2.2.1
  have q9 : ∀ W, MBlk W (w.heap.size + 1 + 1) v l k s f → W.cell? ⟨w.heap.size + 1 + 1, 9, none⟩ = some (.slice v.pa v.pn v.pc) := fun W h => h.pc.2.2.2.2.2.2.2.2.2.1
  have q10 : ∀ W, MBlk W (w.heap.size + 1 + 1) v l k s f → W.cell? ⟨w.heap.size + 1 + 1, 10, none⟩ = some (.int .i64 v.pad) := fun W h => h.pc.2.2.2.2.2.2.2.2.2.2
  have q11 : ∀ W, MBlk W (w.heap.size + 1 + 1) v l k s f → W.cell? ⟨w.heap.size + 1 + 1, 11, none⟩ = some (.int .i64 l) := fun W h => h.dc.1
  have q12 : ∀ W, MBlk W (w.heap.size + 1 + 1) v l k s f → W.cell? ⟨w.heap.size + 1 + 1, 12, none⟩ = some (.bool k) := fun W h => h.dc.2.1
  have q13 : ∀ W, MBlk W (w.heap.size + 1 + 1) v l k s f → W.cell? ⟨w.heap.size + 1 + 1, 13, none⟩ = some (.bool s) := fun W h => h.dc.2.2.1
  have q14 : ∀ W, MBlk W (w.heap.size + 1 + 1) v l k s f → W.cell? ⟨w.heap.size + 1 + 1, 14, none⟩ = some (.int .u16 f) := fun W h => h.dc.2.2.2
  generalize hg : w.heap.size + 1 + 1 = g at *
  refine region_seq (fun W => MBlk W g v l k s f) [(0, false), (1, false), (3, false), (4, false), (2, true), (5, true), (6, true), (7, false)] (by kernel_rfl) (by kernel_rfl) rfl (by kernel_rfl) ?_
  generalize w4.drew = u0 at *
  iterate 4 (refine seq_read (v := _) rfl (fun _ _ _ h => h) hS (Or.inl ⟨by rfl, fun W hW => by go_simp <;> with_reducible rfl⟩) ?_; simp only [Act.put, List.setIfInBounds_toArray, List.set_cons_zero, List.set_cons_succ])
  clear q0 q1 q2 q3 q4 q5 q6 q7 q8 q9 q10 q11 q12 q13 q14
  refine seq_do rfl (fun K hK => ?_)
  go_simp
  refine (CC.out _ HB4.out).mono ?_
  rintro e w5 ⟨lc', rfl, hq', hnw, hb5⟩
  obtain ⟨v', hv'⟩ : ∃ v', pvOf p lc' = v' := ⟨_, rfl⟩
  rw [hv']
  have HV := Lib.hid hv'
  have HB5 := Lib.hid (HB4.out.trans (hb5.mono HB4.out.size))
  have hS5 : MBlk w5 g v l k s f := hS.below hb5 hS.lt
  have D5 : PBlk w5 w.heap.size zpv := HD.out.below hb5 HD.out.lt
  have E5 : DBlk w5 (w.heap.size + 1) 0 false false 0 := HE.out.below hb5 HE.out.lt
  have HQ5 := Lib.hid hq'
  have HNW : Hid (Rtp.PNw (w.heap.size + 2) p lc') := by
    have := HS4.out
    exact ⟨fun h => (hnw.csrc h).imp fun a ha => ⟨ha.1, by have := ha.2; omega⟩, fun h => (hnw.ext h).imp fun a ha => ⟨ha.1, by have := ha.2; omega⟩, fun h => (hnw.pay h).imp fun a ha => ⟨ha.1, by have := ha.2; omega⟩⟩
  refine hK.out _ _ _ (fun W h => h) hS5 ?_
  clear hK K hb5 hq' hnw hv' CC hS HD HE HB4 HS4
  have HM := Lib.hid (MW_at (u := v') (l' := l) (k' := k) (s' := s) (f' := f) D5 E5 (by omega) HB5.out (Nat.le_refl _) (by omega))
  obtain ⟨f0, f1, f2, f3, f4, f5, f6, f7, f8, f9, f10, g0, g1, g2, g3, g4, g5, g6, g7, g8, g9, g10⟩ := D5.cf
  have i0 := E5.c0
  have i1 := E5.c1
  have i2 := E5.c2
  have i3 := E5.c3
  have j0 := E5.frozen 0
  have j1 := E5.frozen 1
  have j2 := E5.frozen 2
  have j3 := E5.frozen 3
  clear D5 E5
  have hs1 : g ≠ w.heap.size := by omega
  have hs2 : g ≠ w.heap.size + 1 := by omega
  generalize hr : w.heap.size + 1 = r at *
  refine seq_do rfl (fun K hK => ?_)
  go_simp
  have HO := Rtp.off_pstore w.heap.size w5 (.bool v'.mrk) (.int .i64 v'.ty) (.int .u16 v'.seq) (.int .u32 v'.time) (.int .u32 v'.ssrc) (.slice v'.ca v'.cn v'.cc) (.bool v'.he) (.int .u16 v'.prof) (.slice v'.ea v'.en v'.ec) (.slice v'.pa v'.pn v'.pc) (.int .i64 v'.pad)
  have hS6 : MBlk (PW w5 w.heap.size v') g v l k s f := (HO g hs1).trans hS5
  refine hK.out _ _ (fun W => MBlk W g v l k s f) (fun W h => h) hS6 ?_
  clear hK K
  refine seq_do rfl (fun K hK => ?_)
  go_simp
  have hS7 : MBlk (DW (PW w5 w.heap.size v') r l k s f) g v l k s f := (off_dstore r (PW w5 w.heap.size v') (.int .i64 l) (.bool k) (.bool s) (.int .u16 f) g hs2).trans hS6
  refine hK.out _ _ (fun W => MBlk W g v l k s f) (fun W h => h) hS7 ?_
  clear hK K HO
  iterate 1 (refine seq_read (v := _) rfl (fun _ _ _ h => h) hS7 (Or.inl ⟨by rfl, fun W hW => by go_simp <;> with_reducible rfl⟩) ?_; simp only [Act.put, List.setIfInBounds_toArray, List.set_cons_zero, List.set_cons_succ])
  refine seq_end ?_
  clear f0 f1 f2 f3 f4 f5 f6 f7 f8 f9 f10 g0 g1 g2 g3 g4 g5 g6 g7 g8 g9 g10 i0 i1 i2 i3 j0 j1 j2 j3
  go_wp2
  obtain ⟨m1, m2, m3, m4, m5⟩ := HM.out
  have m6 : PRd (MW w5 w.heap.size r v' l k s f) (MW w5 w.heap.size r v' l k s f).heap.size p lc' := (Rtp.PRd.far (b := w.heap.size + 2) HQ5.out HNW.out (fun i hi => m5 i (by omega) (by omega))).more m4
  refine ret_pd (W := MW w5 w.heap.size r v' l k s f) (v := v') Try.results12 m1 m2 ⟨lc', none, 0, [], by show _ = Ending.returned (.tuple #[pkt (pvOf p lc'), _, _]); rw [HV.out]; rfl, m6, ItsRd.nil _ _ _, rfl, m3⟩
theorem flat_any (w : World) (ev : Ev) (V : Value) (h : EvRd w w.heap.size ev V) (hd : EvBd ev) : Calls Try.prog 12 #[V] w (RetF w ev) := by
  cases h with
  | none => exact flat_none w
  | media p lc l k s f hq => exact flat_media w p lc l k s f hq hd
  | feed A n c ps hi hc => exact flat_feed w A n c ps hi hd
end Go.Proofs.Ythmmafpmpnhleaa.Sft
