/- What is put is read, what is read is put, beginnings (with the errors of reports); the contract of 'shown'; the walks of ReportAll, ReportGets, ReportCut. -/
import Derived.Test.YtamihjhhpedgcaaQk
import Derived.Test.YtamihjhhpedgcaaQm
import Derived.Test.YtamihjhhpedgcaaQn
namespace Go.Proofs.Ytamihjhhpedgcaa.Fbk
open Go.RowKit
set_option linter.unusedVariables false

theorem encI_len4 (i : Itm) : 4 ≤ (encI i).length := by rw [encI_length]; omega
theorem rE_enc (i : Itm) (t : List Int) (hk : isRep i.kind = true) (hM : MayI i) : rE (encI i ++ t) = 0 ∧ gRN (encI i ++ t) = (encI i).length := by
  obtain ⟨-, -, -, h3, -, -⟩ := body_words i hM
  have e1 : rE (encI i ++ t) = 0 := by
    unfold rE
    rw [if_neg (by rw [List.length_append]; have := encI_len4 i; omega), show (encI i ++ t).getD 0 0 = 128 + (cntI i : Int) from rfl, if_neg (by omega), show (encI i ++ t).getD 1 0 = i.kind from rfl, if_neg (by rw [hk]; decide)]
    exact enc_e hM t
  exact ⟨e1, by rw [gRN, if_pos e1, enc_n hM]⟩
/-- What was put is read as it was. -/
theorem put_get {i : Itm} (ho : i.Ok) (h : putRE i = 0) (t : List Int) : rE (putRB i ++ t) = 0 ∧ gRV (putRB i ++ t) = i ∧ gRN (putRB i ++ t) = (putRB i).length ∧ Bytes (putRB i) ∧ (putRB i).length ≤ 1000 := by
  obtain ⟨hk, hM, hb⟩ := putRE_ok h
  obtain ⟨h1, h2⟩ := rE_enc i t hk hM
  have hw := body_words i hM
  rw [hb]
  refine ⟨h1, ?_, h2, encI_bytes i hM, by rw [encI_length]; omega⟩
  rw [gRV, if_pos h1]
  exact enc_v hM t ho
/-- What was read is put as it was. -/
theorem get_put {b : List Int} (hb : Bytes b) (h : rE b = 0) : (gRV b).Ok ∧ putRE (gRV b) = 0 ∧ putRB (gRV b) = b.take (gRN b) ∧ gRN b ≤ b.length ∧ 8 ≤ gRN b := by
  obtain ⟨hk, hi⟩ := rE_ok h
  obtain ⟨h1, h2, h3, h4, h5⟩ := get_encI b hb hi
  have hkk : (iV b).kind = b.getD 1 0 := by
    simp only [isRep, Bool.or_eq_true, decide_eq_true_eq] at hk
    unfold iV
    rcases hk with hk | hk
    · rw [if_pos hk, hk]
    · rw [if_neg (by omega), if_pos hk, hk]
  have e : putRE (iV b) = 0 := by rw [putRE, hkk, hk, (mayI_iff _).2 h2]; rfl
  rw [gRV, if_pos h, gRN, if_pos h]
  exact ⟨h1, e, by rw [putRB, if_pos e]; exact h3, h4, h5⟩
theorem cut_short {i : Itm} (h : putRE i = 0) (n : Nat) (hn : n < (putRB i).length) : rE ((putRB i).take n) = 2 := by
  obtain ⟨hk, hM, hb⟩ := putRE_ok h
  rw [hb] at hn ⊢
  obtain ⟨-, -, -, h3, -, -⟩ := body_words i hM
  have hl : ((encI i).take n).length = n := by rw [List.length_take]; omega
  unfold rE
  by_cases h4 : n < 4
  · rw [if_pos (by omega)]
  · have g : ∀ j, j < 4 → ((encI i).take n).getD j 0 = (encI i).getD j 0 := fun j hj => getD_take _ _ _ (by omega)
    rw [if_neg (by omega), g 0 (by omega), g 1 (by omega), show (encI i).getD 0 0 = 128 + (cntI i : Int) from rfl, if_neg (by omega), show (encI i).getD 1 0 = i.kind from rfl, if_neg (by rw [hk]; decide)]
    exact enc_cut hM n hn
theorem cut_to (a : Option Addr) (len cap k : Nat) (l : Int) (hl : l = k) (h : k ≤ cap) (W : World) :
    (Instr.slice 30 (.slice a len cap) none (some (.int .i64 l)) none).run Try.prog W = .ok (.slice a k cap) W := by
  subst hl
  obtain ⟨i0, hi0, hz0, hz1, hz2⟩ := info_parts info5
  have e := run_slice_h (P := Try.prog) (w := W) (t := 30) (a := a) (len := len) (cap := cap) (ht := Try.underlying30) .i64 (k : Int) (by omega) (by omega)
  rw [e, show Try.prog.elem 30 = 5 from rfl]
  have ha : a.map (·.add 0) = a := by cases a <;> simp [Addr.add]
  simp [sizeOf, typeInfo, hi0, sliced, ha]

def p0 : Itm := ⟨201, 1, 0, 0, 0, 0, [⟨2, 3, 4, 5, 6, 7, 8⟩], [], 0, []⟩
theorem p0_ok : p0.Ok := by
  have z : ∀ x : Int, 0 ≤ x → x ≤ 4294967295 → U32 x := fun x h1 h2 => ⟨h1, h2⟩
  refine ⟨z _ (by decide) (by decide), by decide, z _ (by decide) (by decide), z _ (by decide) (by decide), z _ (by decide) (by decide), ?_, fun x hx => by simp [p0] at hx, z _ (by decide) (by decide), fun x hx => by simp [p0] at hx⟩
  intro x hx
  simp only [p0, List.mem_cons, List.not_mem_nil, or_false] at hx
  subst hx
  exact ⟨z _ (by decide) (by decide), by decide, z _ (by decide) (by decide), z _ (by decide) (by decide), z _ (by decide) (by decide), z _ (by decide) (by decide), z _ (by decide) (by decide)⟩
theorem p0_err : putRE p0 = 0 := by decide +kernel
theorem p0_put : putRB p0 = [129, 201, 0, 7, 0, 0, 0, 1, 0, 0, 0, 2, 3, 0, 0, 4, 0, 0, 0, 5, 0, 0, 0, 6, 0, 0, 0, 7, 0, 0, 0, 8] := by decide +kernel
def p5 : Itm := ⟨5, 0, 0, 0, 0, 0, [], [], 0, []⟩
set_option maxHeartbeats 4000000 in
theorem shown_any (w : World) : Calls Try.prog 7 #[] w (RetB w true) := by
  obtain ⟨P, hP⟩ : ∃ P : List Int, P = putRB p0 := ⟨_, rfl⟩
  have hPl : P.length = 32 := by rw [hP, p0_put]; rfl
  have CP : Hid (∀ W g, KBlk W g ⟨2, 3, 4, 5, 6, 7, 8⟩ → Calls Try.prog 8 #[.agg #[.int .i64 201, .int .u32 1, .int .u64 0, .int .u32 0, .int .u32 0, .int .u32 0, .slice (some ⟨g, 0, none⟩) 1 1, .slice none 0 0, .int .u32 0, .slice none 0 0]] W (RetR W P 0)) := fun W g hk => by
    have hr : IRd W W.heap.size p0 ⟨some ⟨g, 0, none⟩, 1, none, 0, none, 0⟩ := ⟨rowRd_blk (L := bloL) (xs := [⟨2, 3, 4, 5, 6, 7, 8⟩]) hk rfl, Wd.none_ _ rfl, RowRd.none_ _ rfl, by decide, by decide, by decide, Nat.le_refl _, Nat.le_refl _, Nat.le_refl _⟩
    have := put_itm W p0 _ _ p0_ok hr (Nat.le_refl _)
    rw [p0_err, ← hP] at this
    exact this
  obtain ⟨g1, g2, g3, g4, -⟩ := put_get p0_ok p0_err []
  rw [List.append_nil, ← hP] at g1 g2 g3
  rw [← hP] at g4
  have CG : Hid (∀ W A c, Rd W W.heap.size A 32 P → 32 ≤ c → Calls Try.prog 13 #[.slice A 32 c] W fun e w' => ∃ ba bc ga gc pa pc, e = .returned (.tuple #[itm ⟨201, 1, 0, 0, 0, 0, ba, 1, bc, ga, 0, gc, 0, pa, 0, pc⟩, .int .i64 32, .int .i64 0]) ∧ IRd w' w'.heap.size p0 ⟨ba, bc, ga, gc, pa, pc⟩ ∧ Below W.heap.size W w') := fun W A c hr hc => by
    have := get_any A 32 c _ P W (by decide) hc hr (Nat.le_refl _)
    rw [g1, g2, g3, hPl] at this
    refine this.mono ?_
    rintro e w' ⟨⟨ba, bc, ga, gc, pa, pc⟩, rfl, h1, h2⟩
    exact ⟨ba, bc, ga, gc, pa, pc, rfl, h1, h2⟩
  have CM : Hid (∀ W, Calls Try.prog 12 #[.agg #[.int .i64 5, .int .u32 0, .int .u64 0, .int .u32 0, .int .u32 0, .int .u32 0, .slice none 0 0, .slice none 0 0, .int .u32 0, .slice none 0 0]] W (RetB W false)) := fun W => by
    have := may_itm W p5 ⟨none, 0, none, 0, none, 0⟩ W.heap.size ⟨RowRd.none_ _ rfl, Wd.none_ _ rfl, RowRd.none_ _ rfl, Nat.zero_le _, Nat.zero_le _, Nat.zero_le _, Nat.le_refl _, Nat.le_refl _, Nat.le_refl _⟩ (Nat.le_refl _)
    exact this
  have HT := Lib.hid (show P.take 8 = [129, 201, 0, 7, 0, 0, 0, 1] from by rw [hP, p0_put]; rfl)
  have HPL := Lib.hid hPl
  clear hP hPl g1 g2 g3
  have hb0 := (Below.refl w.heap.size w).alloc (Nat.le_refl _) (bloO ⟨2, 3, 4, 5, 6, 7, 8⟩)
  have hb1 := hb0.alloc hb0.size (iobj ⟨201, 1, 0, 0, 0, 0, some ⟨w.heap.size, 0, none⟩, 1, 1, none, 0, 0, 0, none, 0, 0⟩)
  have hk1 : KBlk ((w.alloc (bloO ⟨2, 3, 4, 5, 6, 7, 8⟩)).alloc (iobj ⟨201, 1, 0, 0, 0, 0, some ⟨w.heap.size, 0, none⟩, 1, 1, none, 0, 0, 0, none, 0, 0⟩)) w.heap.size ⟨2, 3, 4, 5, 6, 7, 8⟩ := (KBlk.new w _).bel ((Below.refl _ _).alloc (Nat.le_refl _) _)
  have HB1 := Lib.hid hb1
  have HK1 := Lib.hid hk1
  clear hb0 hb1 hk1
  go_enter Try.func7, Try.ntmps7
  go_wp2_with fail
  refine (CP.out _ _ HK1.out).mono ?_
  rintro e w1 ⟨A, c, rfl, ho, hb1⟩
  rw [HPL.out] at ho
  rw [HPL.out]
  have H1 := Lib.hid (HB1.out.trans (hb1.mono HB1.out.size))
  have HR1 := Lib.hid ho.rd
  have HC := Lib.hid (show 32 ≤ c from ho.2.2.1)
  clear hb1 ho CP HK1 HB1
  go_wp2_with fail
  refine (CG.out _ _ _ HR1.out HC.out).mono ?_
  rintro e w2 ⟨ba, bc, ga, gc, pa, pc, rfl, hq, hb2⟩
  have H2 := Lib.hid (H1.out.trans (hb2.mono H1.out.size))
  have R2 := (HR1.out.below hb2).more hb2.size
  obtain ⟨b, off, x, ea, hbB, hx, x0, x1, x2, x3, x4, x5, x6⟩ := blo_at (k := 0) (n := 1) (show RowRd bloL w2 w2.heap.size ba 1 [⟨2, 3, 4, 5, 6, 7, 8⟩] from hq.blocks) (by omega)
  obtain rfl : ba = some ⟨b, off, none⟩ := ea
  obtain rfl : (⟨2, 3, 4, 5, 6, 7, 8⟩ : Blo) = x := Option.some.inj hx
  clear hb2 CG H1 HR1 hx x0 x1 x3 x4 x5 x6 hq
  have hb3 := (Below.refl w2.heap.size w2).alloc (Nat.le_refl _) (iobj ⟨201, 1, 0, 0, 0, 0, some ⟨b, off, none⟩, 1, bc, ga, 0, gc, 0, pa, 0, pc⟩)
  have x2' : (w2.alloc (iobj ⟨201, 1, 0, 0, 0, 0, some ⟨b, off, none⟩, 1, bc, ga, 0, gc, 0, pa, 0, pc⟩)).cell? ⟨b, off + 2, none⟩ = some (.int .u32 4) := (hb3.cell (p := ⟨b, off + 2, none⟩) hbB).trans (by simpa using x2)
  have s0 := cut_to A 32 c 8 8 rfl (by have := HC.out; omega) (w2.alloc (iobj ⟨201, 1, 0, 0, 0, 0, some ⟨b, off, none⟩, 1, bc, ga, 0, gc, 0, pa, 0, pc⟩))
  have s1 : (convert 30 9 (.slice A 8 c)).run Try.prog (w2.alloc (iobj ⟨201, 1, 0, 0, 0, 0, some ⟨b, off, none⟩, 1, bc, ga, 0, gc, 0, pa, 0, pc⟩)) = .ok (.string ⟨#[129, 201, 0, 7, 0, 0, 0, 1]⟩) (w2.alloc (iobj ⟨201, 1, 0, 0, 0, 0, some ⟨b, off, none⟩, 1, bc, ga, 0, gc, 0, pa, 0, pc⟩)) := by
    have := (R2.below hb3).take (show 8 ≤ 32 from by omega)
    rw [HT.out] at this
    exact str_run this
  have HB3 := Lib.hid hb3
  clear R2 x2 hb3
  go_wp2_with fail
  refine (CM.out _).mono ?_
  rintro e w4 ⟨rfl, hb4⟩
  have HB4 := Lib.hid hb4
  clear s0 s1 x2' CM hb4
  go_wp2
  go_ret
  exact ⟨rfl, H2.out.trans ((HB3.out.trans (HB4.out.mono HB3.out.size)).mono H2.out.size)⟩
end Go.Proofs.Ytamihjhhpedgcaa.Fbk
