/- For every input the Go function sluicegate/sluicegatelaw8.NackJoin returns true, and each argument reads afterwards as it read before: where the arguments are together of bulk at most 1048576: the given statement Rows.NackJoinUptoSaid. Conditions: that bound, which the statement bears. -/
import Derived.Test.YtmgpphgiigppgaaRows
import Derived.Test.YtmgpphgiigppgaaFr
import Derived.Test.YtmgpphgiigppgaaUb
import Derived.JoinedCond
import Derived.Test.YtmgpphgiigppgaaUl
import Derived.Test.YtmgpphgiigppgaaFpr
import Derived.SizedLaws
import Derived.WalkKit
import Derived.ProofKit
import Derived.OpenShut
import Derived.ShutString
import Derived.ChangeOld
import Derived.Below
namespace Go.Proofs.Ytmgpphgiigppgaa.nackJoin
open Go.ChangeShapes Go.WideShapes Go.ChangeAt Go.RowKit
set_option linter.unusedVariables false

theorem own : ownKnob Try.prog.godebug = none := by kernel_rfl
theorem laidOut : laidOutB Try.prog = true := by kernel_rfl

theorem walk (a0 : Option Addr) (cap0 : Nat) (xs0 : List (Int × Int)) (a1 : Option Addr) (cap1 : Nat) (xs1 : List (Int × Int)) (w : World) (c0 : xs0.length ≤ cap0) (ok0 : ∀ x ∈ xs0, U16 x.1 ∧ U16 x.2) (w0 : RowRd Fbk.pairL w w.heap.size a0 xs0.length xs0) (u0 : xs0.length ≤ 1048576) (c1 : xs1.length ≤ cap1) (ok1 : ∀ x ∈ xs1, U16 x.1 ∧ U16 x.2) (w1 : RowRd Fbk.pairL w w.heap.size a1 xs1.length xs1) (u1 : xs1.length ≤ 1048576) :
    Calls Try.prog 7 #[.slice a0 xs0.length cap0, .slice a1 xs1.length cap1] w fun e w' => e = .returned (.bool true) ∧ Below w.heap.size w w' :=
  Nck.join_any a0 a1 cap0 cap1 w.heap.size xs0 xs1 w u0 u1 w0 w1 (Nat.le_refl _) ok0 ok1

set_option maxRecDepth 100000 in
theorem lifted (os : Os) (started : os.Started) (H : Type) (enc : TypeId × Value → H) (F : Stop.Interp) :
    ReturnsInHanded {} Try.checked os 7 .any ((Rows.OpenSpec.upto Rows.nackJoinSpec).pre6 enc Try.prog Try.f7 Rows.nackJoinUptoRow.domain false) (((Rows.OpenSpec.upto Rows.nackJoinSpec).at F).post enc Try.prog Try.f7 false true false false) := by
  refine returnsInHanded_of_cond (C := Try.checked) (s := Rows.OpenSpec.upto Rows.nackJoinSpec) (k := Rows.uptoSmall) rfl own started (by kernel_rfl) Try.func7
    (OpenSpec.witness (enc := enc) (C := Try.checked) (s := Rows.OpenSpec.upto Rows.nackJoinSpec) (k := Rows.uptoSmall) rfl false ⟨#[], #[.slice none 0 0, .slice none 0 0], []⟩ 8 (by kernel_rfl) (by kernel_rfl) (by kernel_rfl)
      (x := ([.nil, .nil], [], [])) (by kernel_rfl) rfl (by kernel_rfl)) ?_
  intro W base args ds gs before hval0 hW _ hk0 _
  have hval : ∀ (j : Nat) t v, Try.f7.params[j]? = some t → args[j]? = some v → Value.okWide Try.prog W .any base t v := hval0
  have hW' := hW
  obtain ⟨p, q, hA0, hV, rfl, hfz, hnd⟩ := hW
  have hA : DataW.TrodAll enc Try.prog W 0 (fun _ => true) true Try.f7.params.toList args.toList ds p := hA0
  have hk : Rows.uptoSmall H (ds ++ gs) = true := hk0
  clear hk0
  rw [Try.params7] at hA hval
  obtain ⟨v0, vs0, d0, ds0, p0, q0, hargs, rfl, rfl, h0, r0⟩ := trodAll_cons hA
  obtain ⟨v1, vs1, d1, ds1, p1, q1, rfl, rfl, rfl, h1, r1⟩ := trodAll_cons r0
  obtain ⟨rfl, rfl, rfl⟩ := trodAll_nil r1
  obtain rfl : args = #[v0, v1] := by cases args; simp_all
  obtain ⟨rfl, rfl⟩ := trodVars_none hV
  have k0 := h0
  have lt0 : ∀ x ∈ p0, x.block < W.heap.size := by obtain ⟨m, hm⟩ := k0; exact DataW.trod_lt m _ _ _ hm
  obtain ⟨a0, cap0, xs0, rfl, c0, -, ok0, w0, u0⟩ : ∃ (a : Option Addr) (cap : Nat) (xs : List (Int × Int)), v0 = .slice a xs.length cap ∧ xs.length ≤ cap ∧ xs.length ≤ 140737488351232 ∧ (∀ x ∈ xs, U16 x.1 ∧ U16 x.2) ∧ RowRd Fbk.pairL W W.heap.size a xs.length xs ∧ xs.length ≤ 1048576 := by
    obtain ⟨a, len, cap, rfl⟩ := okWide_slice Try.underlying22 (hval 0 22 v0 rfl rfl)
    obtain ⟨fuel, hf⟩ := h0
    obtain ⟨a', cap', xs, e, h1, h2, h3, h4, h5⟩ := Fbk.open_pairs_upto hf (fun el sp hy => upto_slice (j := 0) hk (by rw [show d0 = .slice el sp from hy]; rfl))
    exact ⟨a', cap', xs, e, h1, h2, h3, h4, h5⟩
  have k1 := h1
  have lt1 : ∀ x ∈ p1, x.block < W.heap.size := by obtain ⟨m, hm⟩ := k1; exact DataW.trod_lt m _ _ _ hm
  obtain ⟨a1, cap1, xs1, rfl, c1, -, ok1, w1, u1⟩ : ∃ (a : Option Addr) (cap : Nat) (xs : List (Int × Int)), v1 = .slice a xs.length cap ∧ xs.length ≤ cap ∧ xs.length ≤ 140737488351232 ∧ (∀ x ∈ xs, U16 x.1 ∧ U16 x.2) ∧ RowRd Fbk.pairL W W.heap.size a xs.length xs ∧ xs.length ≤ 1048576 := by
    obtain ⟨a, len, cap, rfl⟩ := okWide_slice Try.underlying22 (hval 1 22 v1 rfl rfl)
    obtain ⟨fuel, hf⟩ := h1
    obtain ⟨a', cap', xs, e, h1, h2, h3, h4, h5⟩ := Fbk.open_pairs_upto hf (fun el sp hy => upto_slice (j := 1) hk (by rw [show d1 = .slice el sp from hy]; rfl))
    exact ⟨a', cap', xs, e, h1, h2, h3, h4, h5⟩
  clear hA0 hval0
  refine (walk a0 cap0 xs0 a1 cap1 xs1 W c0 ok0 w0 u0 c1 ok1 w1 u1).mono fun e W' ⟨he, bel⟩ => ?_
  subst he
  exact ⟨_, rfl, _, _, _, [], _, [], hW', trodAll_mk1 (shut_bool Try.underlying4 _), (trodAll_cons_mk (Below.trod laidOut (by kernel_rfl) (of_decide_eq_true (by kernel_rfl)) k0 bel lt0) (trodAll_cons_mk (Below.trod laidOut (by kernel_rfl) (of_decide_eq_true (by kernel_rfl)) k1 bel lt1) trodAll_mk0)), rfl, bel.frame _, fun h => by cases h⟩

theorem proved : Rows.NackJoinUptoSaid :=
  OpenClaim.holds_of_cond 7 Try.f7 rfl rfl rfl rfl rfl rfl rfl ⟨rfl, rfl, rfl, rfl, rfl⟩ rfl rfl rfl rfl rfl (by kernel_rfl) Try.func7 (by kernel_rfl)
    (of_decide_eq_true (by kernel_rfl)) (by unfold Func.isWrapper; first | (rw [if_pos (by decide +kernel)]; kernel_rfl) | (rw [if_neg (by decide +kernel)]; exact ⟨rfl, rfl⟩))
    (fun os started H enc _ F => lifted os started H enc F)
#print axioms proved
end Go.Proofs.Ytmgpphgiigppgaa.nackJoin
