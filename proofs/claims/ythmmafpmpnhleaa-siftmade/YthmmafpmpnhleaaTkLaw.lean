/- For every input the Go function sluicegate/sluicegatelaw10.SiftMade returns true, and each argument reads afterwards as it read before: the given statement Rows.SiftMadeSaid. Conditions: none of ours. -/
import Derived.Test.YthmmafpmpnhleaaRows
import Derived.Test.YthmmafpmpnhleaaFr
import Derived.Test.YthmmafpmpnhleaaFp
import Derived.Test.YthmmafpmpnhleaaFd
import Derived.Test.YthmmafpmpnhleaaFi
import Derived.Test.YthmmafpmpnhleaaTk
import Derived.SizedLaws
import Derived.WalkKit
import Derived.ProofKit
import Derived.OpenShut
import Derived.ShutString
import Derived.ChangeOld
import Derived.Below
namespace Go.Proofs.Ythmmafpmpnhleaa.siftMade
open Go.ChangeShapes Go.WideShapes Go.ChangeAt Go.RowKit
set_option linter.unusedVariables false

theorem own : ownKnob Try.prog.godebug = none := by kernel_rfl
theorem laidOut : laidOutB Try.prog = true := by kernel_rfl

theorem walk (q0 : Pkt) (l0 : Rtp.Loc) (l1 : Int) (k1 s1 : Bool) (f1 : Int) (a2 : Option Addr) (cap2 : Nat) (ps2 : List (Itm × Fbk.ILoc)) (w : World) (ho0 : q0.Ok) (hr0 : Rtp.PRd w w.heap.size q0 l0) (hx0 : q0.csrc.length * 4 ≤ 140737488351232) (w1 : (Lit.int .u16 f1).wf = true) (c2 : ps2.length ≤ cap2) (n2 : ps2.length * 120 ≤ 140737488351232) (ok2 : Fbk.OkL (Fbk.its ps2)) (w2 : Fbk.ItsRd w w.heap.size a2 ps2.length ps2) (hx2 : (∀ i ∈ Fbk.its ps2, i.blocks.length * 28 ≤ 140737488351232 ∧ i.gone.length * 4 ≤ 140737488351232 ∧ i.pairs.length * 4 ≤ 140737488351232)) :
    Calls Try.prog 5 #[Rtp.pkt (Rtp.pvOf q0 l0), dsc l1 k1 s1 f1, .slice a2 ps2.length cap2] w fun e w' => e = .returned (.bool true) ∧ Below w.heap.size w w' :=
  Sft.made_law q0 l0 l1 k1 s1 f1 a2 ps2.length cap2 ps2 w ho0 hr0 (Nat.le_trans hx0 (by decide)) w2 c2 ok2 ⟨by have : (Fbk.its ps2).length = ps2.length := List.length_map _; omega, fun i hi => ⟨Nat.le_trans (hx2 i hi).1 (by decide), Nat.le_trans (hx2 i hi).2.1 (by decide), Nat.le_trans (hx2 i hi).2.2 (by decide)⟩⟩

set_option maxRecDepth 100000 in
theorem lifted (os : Os) (started : os.Started) (H : Type) (enc : TypeId × Value → H) :
    ReturnsInHanded {} Try.checked os 5 .any (Rows.siftMadeSpec.pre6 enc Try.prog Try.f5 Rows.siftMadeRow.domain false) (Rows.siftMadeSpec.post enc Try.prog Try.f5 false true false false) := by
  refine returnsInHanded_of_change_sized (C := Try.checked) own started (by kernel_rfl) Try.func5
    (ChangeSpec.witness6 (enc := enc) (C := Try.checked) false ⟨#[], #[.agg #[.bool false, .int .i64 0, .int .u16 0, .int .u32 0, .int .u32 0, .slice none 0 0, .bool false, .int .u16 0, .slice none 0 0, .slice none 0 0, .int .i64 0], .agg #[.int .i64 0, .bool false, .bool false, .int .u16 0], .slice none 0 0], []⟩ 8 (by kernel_rfl) (by kernel_rfl) (by kernel_rfl) (by kernel_rfl)) ?_
  intro W base args ds gs before hval0 hW hcnd hsz0 _
  have hval : ∀ (j : Nat) t v, Try.f5.params[j]? = some t → args[j]? = some v → Value.okWide Try.prog W .any base t v := hval0
  have hW' := hW
  obtain ⟨p, q, hA0, hV, rfl, hfz, hnd⟩ := hW
  have hA : DataW.TrodAll enc Try.prog W 0 (fun _ => true) true Try.f5.params.toList args.toList ds p := hA0
  have hsz : (DataW.weightsEach Try.prog (Try.f5.params.toList ++ Rows.siftMadeSpec.plain.varTypes Try.prog) (ds ++ gs)).all (· ≤ reachBytes) = true := hsz0
  clear hsz0
  rw [Try.params5] at hA hval hsz
  obtain ⟨v0, vs0, d0, ds0, p0, q0, hargs, rfl, rfl, h0, r0⟩ := trodAll_cons hA
  obtain ⟨v1, vs1, d1, ds1, p1, q1, rfl, rfl, rfl, h1, r1⟩ := trodAll_cons r0
  obtain ⟨v2, vs2, d2, ds2, p2, q2, rfl, rfl, rfl, h2, r2⟩ := trodAll_cons r1
  obtain ⟨rfl, rfl, rfl⟩ := trodAll_nil r2
  obtain rfl : args = #[v0, v1, v2] := by cases args; simp_all
  obtain ⟨rfl, rfl⟩ := trodVars_none hV
  have k0 := h0
  have lt0 : ∀ x ∈ p0, x.block < W.heap.size := by obtain ⟨m, hm⟩ := k0; exact DataW.trod_lt m _ _ _ hm
  obtain ⟨q0, l0, rfl, ho0, hr0, hx0⟩ := Rtp.open_pktB (hval 0 33 v0 rfl rfl) h0 hsz rfl rfl
  have k1 := h1
  have lt1 : ∀ x ∈ p1, x.block < W.heap.size := by obtain ⟨m, hm⟩ := k1; exact DataW.trod_lt m _ _ _ hm
  obtain ⟨l1, b1, s1, f1, rfl, -, w1⟩ := open_desc (hval 1 35 v1 rfl rfl) h1
  have k2 := h2
  have lt2 : ∀ x ∈ p2, x.block < W.heap.size := by obtain ⟨m, hm⟩ := k2; exact DataW.trod_lt m _ _ _ hm
  obtain ⟨a2, cap2, ps2, rfl, c2, n2, ok2, w2, hx2⟩ : ∃ (a : Option Addr) (cap : Nat) (ps : List (Itm × Fbk.ILoc)), v2 = .slice a ps.length cap ∧ ps.length ≤ cap ∧ ps.length * 120 ≤ 140737488351232 ∧ Fbk.OkL (Fbk.its ps) ∧ Fbk.ItsRd W W.heap.size a ps.length ps ∧ (∀ i ∈ Fbk.its ps, i.blocks.length * 28 ≤ 140737488351232 ∧ i.gone.length * 4 ≤ 140737488351232 ∧ i.pairs.length * 4 ≤ 140737488351232) := by
    obtain ⟨a, len, cap, rfl⟩ := okWide_slice Try.underlying36 (hval 2 36 v2 rfl rfl)
    obtain ⟨fuel, hf⟩ := h2
    exact Fbk.open_itsB (j0 := 2) hf hsz rfl rfl
  clear hA0 hval0
  refine (walk q0 l0 l1 b1 s1 f1 a2 cap2 ps2 W ho0 hr0 hx0 w1 c2 n2 ok2 w2 hx2).mono fun e W' ⟨he, bel⟩ => ?_
  subst he
  exact ⟨_, rfl, _, _, _, [], _, [], hW', trodAll_mk1 (shut_bool Try.underlying4 _), (trodAll_cons_mk (Below.trod laidOut (by kernel_rfl) (of_decide_eq_true (by kernel_rfl)) k0 bel lt0) (trodAll_cons_mk (Below.trod laidOut (by kernel_rfl) (of_decide_eq_true (by kernel_rfl)) k1 bel lt1) (trodAll_cons_mk (Below.trod laidOut (by kernel_rfl) (of_decide_eq_true (by kernel_rfl)) k2 bel lt2) trodAll_mk0))), rfl, bel.frame _, fun h => by cases h⟩

theorem over : Rows.siftMadeRow.holds Try.pinned (OpenSpec.ofChange Rows.siftMadeSpec) :=
  OpenClaim.holds_of_wide 5 Try.f5 rfl rfl rfl rfl rfl rfl rfl ⟨rfl, rfl, rfl, rfl, rfl⟩ rfl rfl rfl rfl rfl (by kernel_rfl) Try.func5 (by kernel_rfl)
    (of_decide_eq_true (by kernel_rfl)) (by unfold Func.isWrapper; first | (rw [if_pos (by decide +kernel)]; kernel_rfl) | (rw [if_neg (by decide +kernel)]; exact ⟨rfl, rfl⟩))
    (fun os started H enc _ => lifted os started H enc)

theorem proved : Rows.SiftMadeSaid := over
#print axioms proved
end Go.Proofs.Ythmmafpmpnhleaa.siftMade
