/- The laws' kind and shown. · Of what was read: it may be, it is short, it is written as it was. Plain; and SiftBack, walked. -/
import Derived.Test.YthmmafpmpnhleaaTa
import Derived.Test.YthmmafpmpnhleaaKt
set_option maxRecDepth 100000
namespace Go.Proofs.Ythmmafpmpnhleaa.Sft
open Go.RowKit
open Rtp (PV pkt pobj PBlk pvOf PRd zpv Off)
open Fbk (ILoc IRd ItsRd ItsOwn its OkL putLB putLE getLE getLV)
set_option linter.unusedVariables false

theorem EvRd.feed_of {w : World} {B : Nat} {is : List Itm} {V : Value} (h : EvRd w B (.feed is) V) : ∃ A n c ps, V = .iface 52 (fval A n c) ∧ its ps = is ∧ ItsRd w B A n ps ∧ n ≤ c := by
  generalize he : Ev.feed is = ev at h
  cases h with
  | none => cases he
  | media p lc l k s f h => cases he
  | feed A n c ps hi hc => injection he with he; exact ⟨A, n, c, ps, rfl, he.symm, hi, hc⟩
theorem kd_m (v : Value) (w : World) : (callMethod (.iface 50 v) "Kind" #[]).run Try.prog w = .ok (.enter 126 #[v]) w := by kernel_rfl
theorem kd_f (v : Value) (w : World) : (callMethod (.iface 52 v) "Kind" #[]).run Try.prog w = .ok (.enter 127 #[v]) w := by kernel_rfl
def kindN : Ev → Int
  | .none => 0
  | .media .. => 1
  | .feed _ => 2
set_option maxHeartbeats 2000000 in
theorem kind_any (w : World) (B : Nat) (ev : Ev) (V : Value) (h : EvRd w B ev V) : Calls Try.prog 11 #[V] w (Rtp.RetI w (kindN ev)) := by
  cases h with
  | none =>
    go_enter Try.func11, Try.ntmps11
    go_wp2
    go_ret
    exact ⟨rfl, Below.refl _ _⟩
  | media p lc l k s f hq =>
    have h1 := kd_m
    clear hq
    go_enter Try.func11, Try.ntmps11
    go_wp2_with fail
    refine (kindM_any _ _ _ _ _ _).mono ?_
    rintro e w1 ⟨rfl, hb1⟩
    go_wp2
    go_ret
    exact ⟨rfl, hb1⟩
  | feed A n c ps hi hc =>
    have h1 := kd_f
    clear hi
    go_enter Try.func11, Try.ntmps11
    go_wp2_with fail
    refine (kindF_any _ _ _ _).mono ?_
    rintro e w1 ⟨rfl, hb1⟩
    go_wp2
    go_ret
    exact ⟨rfl, hb1⟩

def p0 : Pkt := ⟨false, 100, 0, 0, 0, [], false, 0, [], [128, 90, 0, 0], 0⟩
def i0 : Itm := ⟨206, 0, 0, 0, 0, 0, [], [], 9, []⟩
theorem p0_ok : p0.Ok := by
  refine ⟨by decide, by decide, by decide, by decide, by decide, by decide, Words.nil, by decide, by decide, Bytes.nil, ?_⟩
  intro x hx
  simp [p0] at hx
  omega
theorem i0_ok : OkL [i0] := by
  intro x hx
  simp only [List.mem_cons, List.not_mem_nil, or_false] at hx
  subst hx
  exact ⟨⟨by decide, by decide⟩, ⟨by decide, by decide⟩, ⟨by decide, by decide⟩, ⟨by decide, by decide⟩, ⟨by decide, by decide⟩, fun x hx => by simp [i0] at hx, fun x hx => by simp [i0] at hx, ⟨by decide, by decide⟩, fun x hx => by simp [i0] at hx⟩
theorem p0_err : putE p0 = 0 := by decide +kernel
theorem i0_err : putLE [i0] = 0 := by decide +kernel
theorem p0_of : ofE (putB p0) = 0 ∧ ofV (putB p0) = .media p0 0 true false 0 := by
  obtain ⟨h1, h2, -, h4, -⟩ := Rtp.put_get p0_ok p0_err
  have h5 : pQ (putB p0) = p0 := by
    rw [Rtp.gP, if_pos h1] at h2
    exact h2
  have e1 : ¬ 512 < (putB p0).length := by omega
  have e2 : ¬ (putB p0).length < 2 := by decide +kernel
  have e3 : ¬ sideB (putB p0) = true := by decide +kernel
  have e4 : gE p0.pay = 0 := by decide +kernel
  have e5 : medE (putB p0) = 0 := by rw [medE, if_pos h1, h5, e4]
  constructor
  · rw [ofE, if_neg e1, if_neg e2, if_neg e3, e5]
  · rw [ofV, if_neg e1, if_neg e2, if_neg e3, medV, if_pos e5, h5]
    rw [show gL p0.pay = 0 from by decide +kernel, show gK p0.pay = true from by decide +kernel, show gS p0.pay = false from by decide +kernel, show gF p0.pay = 0 from by decide +kernel]
theorem i0_of : ofE (putLB [i0]) = 0 ∧ ofV (putLB [i0]) = .feed [i0] := by
  obtain ⟨g1, g2, g3, g4, g5, -, -⟩ := Fbk.putL_get i0_ok i0_err
  have e1 : ¬ 512 < (putLB [i0]).length := by omega
  have e2 : ¬ (putLB [i0]).length < 2 := by decide +kernel
  have e3 : sideB (putLB [i0]) = true := by decide +kernel
  constructor
  · rw [ofE, if_neg e1, if_neg e2, if_pos e3, g1]
  · rw [ofV, if_neg e1, if_neg e2, if_pos e3, feeV, if_pos g1, g2]

abbrev iob : Obj := .cells #[.int .i64 206, .int .u32 0, .int .u64 0, .int .u32 0, .int .u32 0, .int .u32 0, .slice none 0 0, .slice none 0 0, .int .u32 9, .slice none 0 0] 68 (0, 0)
theorem iob_rd (w : World) : ItsRd (w.alloc iob) (w.alloc iob).heap.size (some ⟨w.heap.size, 0, none⟩) 1 [(i0, ⟨none, 0, none, 0, none, 0⟩)] :=
  Fbk.its_one (i := i0) (l := ⟨none, 0, none, 0, none, 0⟩) (heap_alloc_new w iob) ⟨RowRd.none_ _ rfl, Wd.none_ _ rfl, RowRd.none_ _ rfl, by decide, by decide, by decide, Nat.le_refl _, Nat.le_refl _, Nat.le_refl _⟩
set_option maxHeartbeats 8000000 in
theorem shown_any (w : World) : Calls Try.prog 8 #[] w (Rtp.RetB w true) := by
  have CD : Hid (∀ W, Calls Try.prog 23 #[dsc 0 true false 0] W (PutRow W [128, 90, 0, 0])) := fun W => put_yes 0 true false 0 W (by decide) (by decide) (by decide) (by decide)
  obtain ⟨P, hP⟩ : ∃ P : List Int, P = putB p0 := ⟨_, rfl⟩
  obtain ⟨Q, hQ⟩ : ∃ Q : List Int, Q = putLB [i0] := ⟨_, rfl⟩
  have CP : Hid (∀ W g, Blk W g [128, 90, 0, 0] [] → Calls Try.prog 21 #[.agg #[.bool false, .int .i64 100, .int .u16 0, .int .u32 0, .int .u32 0, .slice none 0 0, .bool false, .int .u16 0, .slice none 0 0, .slice (some ⟨g, 0, none⟩) 4 4, .int .i64 0]] W
      (Rtp.RetR W P 0)) := fun W g hk => by
    have hr : PRd W W.heap.size p0 ⟨none, 0, none, 0, some ⟨g, 0, none⟩, 4⟩ := ⟨Wd.none_ _ rfl, Rd.none_ _ rfl, hk.rd (by intro x hx; simp at hx; omega) rfl, by decide, by decide, by decide, Nat.le_refl _, Nat.le_refl _, Nat.le_refl _⟩
    have := Rtp.put_pkt W p0 ⟨none, 0, none, 0, some ⟨g, 0, none⟩, 4⟩ p0_ok hr (Nat.le_refl _)
    rw [← hP, p0_err] at this
    exact this
  have CI : Hid (∀ W : World, Calls Try.prog 24 #[.slice (some ⟨W.heap.size, 0, none⟩) 1 1] (W.alloc iob) (Fbk.RetR (W.alloc iob) Q 0)) := fun W => by
    have := Fbk.rc_put _ 1 1 (W.alloc iob).heap.size _ (W.alloc iob) (by decide) (iob_rd W) (Nat.le_refl _) i0_ok
    rw [show its [(i0, (⟨none, 0, none, 0, none, 0⟩ : ILoc))] = [i0] from rfl, i0_err, ← hQ] at this
    exact this
  have COp : Hid (∀ W A n c, Rd W W.heap.size A n P → n ≤ 140737488351232 → n ≤ c → Calls Try.prog 9 #[.slice A n c] W (RetE W (.media p0 0 true false 0) 0)) := fun W A n c hr h1 h2 => by
    have := of_any A n c _ P W (by unfold maxLen; omega) h2 hr (Nat.le_refl _)
    rw [hP, p0_of.1, p0_of.2] at this
    exact this
  have COi : Hid (∀ W A n c, Rd W W.heap.size A n Q → n ≤ 140737488351232 → n ≤ c → Calls Try.prog 9 #[.slice A n c] W (RetE W (.feed [i0]) 0)) := fun W A n c hr h1 h2 => by
    have := of_any A n c _ Q W (by unfold maxLen; omega) h2 hr (Nat.le_refl _)
    rw [hQ, i0_of.1, i0_of.2] at this
    exact this
  have hPl : P.length ≤ 512 := by rw [hP]; exact (Rtp.put_get p0_ok p0_err).2.2.2.1
  have hQl : Q.length ≤ 512 := by rw [hQ]; exact (Fbk.putL_get i0_ok i0_err).2.2.2.1
  have HPl := Lib.hid hPl
  have HQl := Lib.hid hQl
  have hkm := kd_m
  have hkf := kd_f
  clear hP hQ hPl hQl
  have CF1 : Hid (∀ W V, EvRd W W.heap.size (.media p0 0 true false 0) V → Calls Try.prog 12 #[V] W fun e w' => ∃ v A c, e = .returned (.tuple #[pkt v, dsc 0 true false 0, .slice A 0 c]) ∧ v.ty = 100 ∧ Below W.heap.size W w') := fun W V h =>
    (flat_any W _ V h (show p0.csrc.length * 4 ≤ 140737488355328 by decide)).mono fun e w' ⟨lc, A, c, ps, e1, _, _, _, hb⟩ => ⟨pvOf p0 lc, A, c, e1, rfl, hb⟩
  have CF2 : Hid (∀ W V, EvRd W W.heap.size (.feed [i0]) V → Calls Try.prog 12 #[V] W fun e w' => ∃ v b off c, e = .returned (.tuple #[pkt v, dsc 0 false false 0, .slice (some ⟨b, off, none⟩) 1 c]) ∧ b < w'.heap.size ∧ w'.cell? ⟨b, off + 8, none⟩ = some (.int .u32 9) ∧ Below W.heap.size W w') := fun W V h =>
    (flat_any W _ V h ⟨by decide, fun i hi => by simp only [List.mem_cons, List.not_mem_nil, or_false] at hi; subst hi; decide⟩).mono fun e w' ⟨lc, A, c, ps, e1, _, hi, he, hb⟩ => by
      obtain ⟨b, off, p, v, ea, hlt, hx, hm, rfl, -, -, -, -, -, -, -, -, -, d8, -⟩ := Fbk.its_at hi (show 0 < 1 by decide)
      subst ea
      have hp : p.1 = i0 := by
        have : p.1 ∈ its ps := List.mem_map.2 ⟨p, hm, rfl⟩
        rw [he] at this
        simpa [flI] using this
      refine ⟨_, b, off, c, e1, hlt, ?_, hb⟩
      rw [hp, show (Fbk.ivOf i0 p.2).media = 9 from rfl] at d8
      simpa using d8
  go_enter Try.func8, Try.ntmps8
  go_wp2_with fail
  refine (CD.out _).mono ?_
  rintro e w1 ⟨g, rfl, -, hg, hb1⟩
  go_wp2_with fail
  refine (CP.out w1 g hg).mono ?_
  rintro e w2 ⟨A, c, rfl, ho2, hb2⟩
  have HO2 := Lib.hid ho2
  have HB2 := Lib.hid (hb1.trans (hb2.mono hb1.size))
  clear hg hb1 hb2 ho2 CD CP
  go_wp2_with fail
  refine (CI.out w2).mono ?_
  rintro e w3 ⟨A', c', rfl, ho3, hb3⟩
  have hb23 : Below w2.heap.size w2 w3 := ((Below.refl _ _).alloc (Nat.le_refl _) iob).trans (hb3.mono (by simp))
  have HP3 := Lib.hid ((HO2.out.rd.below hb23).more hb23.size)
  have HQ3 := Lib.hid ho3.rd
  have HC := Lib.hid (And.intro HO2.out.2.2.1 ho3.2.2.1)
  have HB3 := Lib.hid (HB2.out.trans (hb23.mono HB2.out.size))
  clear hb3 hb23 ho3 HO2 HB2 CI
  go_wp2_with fail
  refine (COp.out w3 _ _ _ HP3.out (by have := HPl.out; omega) HC.out.1).mono ?_
  rintro e w4 ⟨V, rfl, hv, hb4⟩
  have HV4 := Lib.hid hv
  have HQ4 := Lib.hid ((HQ3.out.below hb4).more hb4.size)
  have HB4 := Lib.hid (HB3.out.trans (hb4.mono HB3.out.size))
  clear hb4 hv HP3 HQ3 HB3 COp
  go_wp2_with fail
  refine (COi.out w4 _ _ _ HQ4.out (by have := HQl.out; omega) HC.out.2).mono ?_
  rintro e w5 ⟨U, rfl, hu, hb5⟩
  have HV5 := Lib.hid (HV4.out.bel hb5)
  have HU5 := Lib.hid hu
  have HB5 := Lib.hid (HB4.out.trans (hb5.mono HB4.out.size))
  clear hb5 hu HV4 HQ4 HB4 COi HC
  obtain ⟨v, hv⟩ : ∃ v, V = .iface 50 (mval v 0 true false 0) := by
    cases HV5.out with
    | media p lc l k s f hq => exact ⟨_, rfl⟩
  obtain ⟨Ai, n, c', hu⟩ : ∃ A n c, U = .iface 52 (fval A n c) := by
    obtain ⟨A, n, c, ps, e, -⟩ := HU5.out.feed_of
    exact ⟨A, n, c, e⟩
  subst hv hu
  go_wp2_with fail
  refine (CF1.out w5 _ HV5.out).mono ?_
  rintro e w6 ⟨v6, A6, c6, rfl, hty, hb6⟩
  have HU6 := Lib.hid (HU5.out.bel hb6)
  have HB6 := Lib.hid (HB5.out.trans (hb6.mono HB5.out.size))
  have HT := Lib.hid hty
  clear hb6 HV5 HU5 HB5 CF1 hty
  have D6 : PBlk (w6.alloc (pobj v6)) w6.heap.size v6 := PBlk.new w6 v6
  have hb7 : Below w6.heap.size w6 ((w6.alloc (pobj v6)).alloc (.cells #[.int .i64 0, .bool true, .bool false, .int .u16 0] 35 (0, 0))) := ((Below.refl _ _).alloc (Nat.le_refl _) (pobj v6)).alloc (by simp) _
  have D7 := D6.below ((Below.refl (w6.alloc (pobj v6)).heap.size _).alloc (Nat.le_refl _) (.cells #[.int .i64 0, .bool true, .bool false, .int .u16 0] 35 (0, 0))) D6.lt
  have E7 : DBlk ((w6.alloc (pobj v6)).alloc (.cells #[.int .i64 0, .bool true, .bool false, .int .u16 0] 35 (0, 0))) (w6.heap.size + 1) 0 true false 0 := by
    have := DBlk.new (w6.alloc (pobj v6)) 0 true false 0
    rw [show (w6.alloc (pobj v6)).heap.size = w6.heap.size + 1 from by simp] at this
    exact this
  have HU7 := Lib.hid (HU6.out.bel hb7)
  have HB7 := Lib.hid (HB6.out.trans (hb7.mono HB6.out.size))
  clear D6 hb7 HU6 HB6
  go_wp2_with fail
  generalize (w6.alloc (pobj v6)).alloc (.cells #[.int .i64 0, .bool true, .bool false, .int .u16 0] 35 (0, 0)) = w7 at *
  generalize hq6 : w6.heap.size = q at *
  generalize hr6 : q + 1 = r at *
  refine (CF2.out w7 _ HU7.out).mono ?_
  rintro e w8 ⟨v8, b8, off8, c8, rfl, hlt8, d8, hb8⟩
  have D8 := D7.below hb8 D7.lt
  have E8 := E7.below hb8 E7.lt
  have HB8 := Lib.hid (HB7.out.trans (hb8.mono HB7.out.size))
  clear hb8 HU7 HB7 CF2 D7 E7
  have hb9 : Below w8.heap.size w8 ((w8.alloc (pobj v8)).alloc D0) := ((Below.refl _ _).alloc (Nat.le_refl _) (pobj v8)).alloc (by simp) _
  have D9 := D8.below hb9 D8.lt
  have E9 := E8.below hb9 E8.lt
  have m9 := (hb9.cell (p := ⟨b8, off8 + 8, none⟩) hlt8).trans d8
  have hlt9 := Nat.lt_of_lt_of_le hlt8 hb9.size
  have HB9 := Lib.hid (HB8.out.trans (hb9.mono HB8.out.size))
  clear hb9 D8 E8 HB8 d8 hlt8
  have t9 := D9.c1
  have e9 := E9.c1
  rw [HT.out] at t9
  have hq9 := D9.lt
  have hr9 := E9.lt
  go_wp2_with fail
  generalize (w8.alloc (pobj v8)).alloc D0 = w9 at *
  refine (kindM_any _ _ _ _ _ _).mono ?_
  rintro e w10 ⟨rfl, hb10⟩
  go_wp2_with fail
  refine (kindF_any _ _ _ _).mono ?_
  rintro e w11 ⟨rfl, hb11⟩
  have hb := hb10.trans (hb11.mono hb10.size)
  have t11 := (hb.cell (p := ⟨q, 1, none⟩) hq9).trans t9
  have e11 := (hb.cell (p := ⟨r, 1, none⟩) hr9).trans e9
  have m11 := (hb.cell (p := ⟨b8, off8 + 8, none⟩) hlt9).trans m9
  have HB11 := Lib.hid (HB9.out.trans (hb.mono HB9.out.size))
  clear hb10 hb11 hb D9 E9 hlt9 t9 e9 m9 hq9 hr9 HB9
  go_wp2
  go_ret
  exact ⟨rfl, HB11.out⟩
end Go.Proofs.Ythmmafpmpnhleaa.Sft

namespace Go.Proofs.Ythmmafpmpnhleaa.Sft
open Go.RowKit
open Rtp (PV pkt pobj PBlk pvOf PRd zpv Off)
open Fbk (ILoc IRd ItsRd ItsOwn its OkL MayL putLB putLE getLE getLV)
set_option linter.unusedVariables false

theorem may_short {is : List Itm} (h : MayL is) (hl : is.length ≤ 8) : EvBd (.feed is) := by
  refine ⟨by omega, fun i hi => ?_⟩
  rcases h i hi with ⟨-, h1, h2, -, h3, -⟩ | ⟨-, -, h1, h2, -, h3, -⟩ | ⟨-, -, h1, h2, -, -, -, h3⟩ | ⟨-, -, h1, h2, -, h3⟩ | ⟨-, -, h1, h2, h3⟩
  all_goals (simp only [h1, h2, List.length_nil]; first | omega | (simp only [h3, List.length_nil]; omega))
theorem descB_self {ys : List Int} (h : gE ys = 0) : descB ys (gL ys) (gK ys) (gS ys) (gF ys) = true := by simp [descB, deq, h]
theorem ofV_no {xs : List Int} (h : ofE xs ≠ 0) : ofV xs = .none := by
  unfold ofE at h
  unfold ofV
  split
  · rfl
  · rename_i h5
    rw [if_neg h5] at h
    split
    · rfl
    · rename_i h2
      rw [if_neg h2] at h
      split
      · rename_i hs
        rw [if_pos hs] at h
        rw [feeV, if_neg h]
      · rename_i hs
        rw [if_neg hs] at h
        rw [medV, if_neg h]
/-- What there is of bytes that are an event. -/
theorem of_ok {xs : List Int} (hb : Bytes xs) : EvOk (ofV xs) ∧ EvBd (ofV xs) ∧ (ofE xs = 0 → bytE (ofV xs) = 0 ∧ bytB (ofV xs) = xs) := by
  by_cases h : ofE xs = 0
  · unfold ofE at h
    unfold ofV
    split at h
    · omega
    · rename_i h5
      rw [if_neg h5]
      split at h
      · omega
      · rename_i h2
        rw [if_neg h2]
        split at h
        · rename_i hs
          rw [if_pos hs, feeV, if_pos h]
          obtain ⟨-, -, g3, g4, -, g6, g7, g8⟩ := Fbk.getLE_ok hb h
          exact ⟨g4, may_short g3 g6, fun _ => ⟨g7, g8⟩⟩
        · rename_i hs
          rw [if_neg hs, medV, if_pos h]
          unfold medE at h
          split at h
          · rename_i hp
            obtain ⟨g1, g2, g3⟩ := Rtp.get_put hb hp
            obtain ⟨-, m, -, -⟩ := get_enc xs hb hp
            refine ⟨g1, by have := m.csrc; show _ * 4 ≤ _; omega, fun _ => ⟨?_, ?_⟩⟩
            · simp only [bytE, descB_self h, if_true]; exact g2
            · simp only [bytB, descB_self h, if_true]; exact g3
          · rename_i hp
            exact absurd h hp
  · rw [ofV_no h]
    exact ⟨trivial, trivial, fun e => absurd e h⟩

set_option maxHeartbeats 4000000 in
theorem back_law (a : Option Addr) (len cap : Nat) (xs : List Int) (w : World) (hl : len ≤ 140737488351232) (hlc : len ≤ cap) (hr : Rd w w.heap.size a len xs) :
    Calls Try.prog 4 #[.slice a len cap] w (Rtp.RetB w true) := by
  have CO : Hid (∀ W, Below w.heap.size w W → Calls Try.prog 9 #[.slice a len cap] W (RetE W (ofV xs) (ofE xs))) := fun W hW => of_any a len cap w.heap.size xs W (by unfold maxLen; omega) hlc (hr.below hW) hW.size
  have SX : Hid (∀ W, Below w.heap.size w W → (convert 22 9 (.slice a len cap)).run Try.prog W = .ok (.string (strOfNums xs)) W) := fun W hW => str_run (hr.below hW)
  obtain ⟨o1, o2, o3⟩ := of_ok hr.2.1
  by_cases h : ofE xs = 0
  · obtain ⟨g1, g2⟩ := o3 h
    rw [h] at CO
    have CB : Hid (∀ W V, EvRd W W.heap.size (ofV xs) V → Calls Try.prog 15 #[V] W (Fbk.RetR W xs 0)) := fun W V hv => by
      have := bytes_any W _ V hv o1 o2
      rw [g1, g2] at this
      exact this
    clear g1 g2 o1 o2 o3 h hr
    generalize ofV xs = ev at *
    go_enter Try.func4, Try.ntmps4
    go_wp2_with fail
    refine (shown_any _).mono ?_
    rintro e w1 ⟨rfl, hb1⟩
    go_wp2_with fail
    refine (CO.out _ hb1).mono ?_
    rintro e w2 ⟨V, rfl, hv, hb2⟩
    have HB2 := Lib.hid (hb1.trans (hb2.mono hb1.size))
    have HV := Lib.hid hv
    clear hb1 hb2 hv CO
    go_wp2_with fail
    refine (CB.out w2 V HV.out).mono ?_
    rintro e w3 ⟨A, c, rfl, ho, hb3⟩
    have HB3 := Lib.hid (HB2.out.trans (hb3.mono HB2.out.size))
    have s1 := SX.out w3 HB3.out
    have s2 : (convert 22 9 (.slice A xs.length c)).run Try.prog w3 = .ok (.string (strOfNums xs)) w3 := str_run ho.rd
    clear hb3 ho CB SX HV HB2
    generalize xs.length = m at *
    go_wp2
    go_ret
    exact ⟨rfl, HB3.out⟩
  · rw [ofV_no h] at CO o1 o2
    have hn : (ofE xs != 0) = true := by simpa using h
    have CB : Hid (∀ W, Calls Try.prog 15 #[.nilIface] W (Fbk.RetR W [] 4)) := fun W => bytes_any W _ _ .none o1 o2
    generalize ofE xs = n at *
    clear o1 o2 o3 h hr SX
    go_enter Try.func4, Try.ntmps4
    go_wp2_with fail
    refine (shown_any _).mono ?_
    rintro e w1 ⟨rfl, hb1⟩
    go_wp2_with fail
    refine (CO.out _ hb1).mono ?_
    rintro e w2 ⟨V, rfl, hv, hb2⟩
    have HB2 := Lib.hid (hb1.trans (hb2.mono hb1.size))
    cases hv
    clear hb1 hb2 CO
    go_wp2_with fail
    refine (CB.out w2).mono ?_
    rintro e w3 ⟨A, c, rfl, ho, hb3⟩
    have HB3 := Lib.hid (HB2.out.trans (hb3.mono HB2.out.size))
    clear hb3 ho CB HB2
    go_wp2
    go_ret
    exact ⟨rfl, HB3.out⟩
end Go.Proofs.Ythmmafpmpnhleaa.Sft
