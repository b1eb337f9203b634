/- The contract of desc.read. -/
import Derived.Test.YtkeecdccjjoaaaaDb
import Derived.IntWalk
namespace Go.Proofs.Ytkeecdccjjoaaaa
open Go.RowKit
set_option linter.unusedVariables false

def keyV (x : Int) : Bool := decide (128 ≤ x)
def staV (x : Int) : Bool := decide (x / 64 % 2 = 1)
def RetD (w : World) (l : Int) (k s : Bool) (f : Int) (e : Ending) (w' : World) : Prop := e = .returned (dsc l k s f) ∧ Below w.heap.size w w'

theorem byte_all (p : Int → Bool) (h : (List.range 256).all (fun n => p n) = true) (x : Int) (h0 : 0 ≤ x) (h1 : x ≤ 255) : p x = true := by
  obtain ⟨n, rfl⟩ := Int.eq_ofNat_of_zero_le h0
  exact List.all_eq_true.1 h n (List.mem_range.2 (by omega))
theorem and_3 (x : Int) (h0 : 0 ≤ x) (h1 : x ≤ 255) : bits BinOp.and IntKind.u8 x 3 = x % 4 :=
  of_decide_eq_true (byte_all (fun x => decide (bits BinOp.and IntKind.u8 x 3 = x % 4)) (by decide +kernel) x h0 h1)
theorem and_128 (x : Int) (h0 : 0 ≤ x) (h1 : x ≤ 255) : (bits BinOp.and IntKind.u8 x 128 != 0) = keyV x :=
  of_decide_eq_true (byte_all (fun x => decide ((bits BinOp.and IntKind.u8 x 128 != 0) = keyV x)) (by decide +kernel) x h0 h1)
theorem and_64 (x : Int) (h0 : 0 ≤ x) (h1 : x ≤ 255) : (bits BinOp.and IntKind.u8 x 64 != 0) = staV x :=
  of_decide_eq_true (byte_all (fun x => decide ((bits BinOp.and IntKind.u8 x 64 != 0) = staV x)) (by decide +kernel) x h0 h1)

theorem wrap16 (n : Int) (h0 : 0 ≤ n) (h1 : n ≤ 65535) : IntKind.u16.wrap n = n := by simp [IntKind.wrap, IntKind.bits, IntKind.signed]; omega
theorem or_u16 (m x : Int) (h0 : 0 ≤ m) (h1 : m ≤ 255) (h2 : 0 ≤ x) (h3 : x ≤ 255) : bits BinOp.or IntKind.u16 (m * 256) x = m * 256 + x := by
  rw [u16_or _ _ (by omega) (by omega) h2 (by omega)]
  obtain ⟨a, rfl⟩ := Int.eq_ofNat_of_zero_le h0
  obtain ⟨b, rfl⟩ := Int.eq_ofNat_of_zero_le h2
  have hb : b < 2 ^ 8 := by omega
  have e := Nat.two_pow_add_eq_or_of_lt hb a
  rw [show ((a : Int) * 256).toNat = 2 ^ 8 * a from by omega, Int.toNat_natCast, ← e]
  omega

set_option maxHeartbeats 1000000 in
theorem read_any (b off len cap : Nat) (x0 x1 x2 x3 : Int) (w : World) (hl : len ≤ maxLen) (h4 : 4 ≤ len) (hb : b < w.heap.size) (h0 : w.cell? ⟨b, off, none⟩ = some (.int .u8 x0)) (h2 : w.cell? ⟨b, off + 2, none⟩ = some (.int .u8 x2))
    (h3 : w.cell? ⟨b, off + 3, none⟩ = some (.int .u8 x3)) (b0 : 0 ≤ x0 ∧ x0 ≤ 255) (b2 : 0 ≤ x2 ∧ x2 ≤ 255) (b3 : 0 ≤ x3 ∧ x3 ≤ 255) :
    Calls Try.prog 14 #[.slice (some ⟨b, off, none⟩) len cap] w (RetD w (x0 % 4) (keyV x0) (staV x0) (x2 * 256 + x3)) := by
  have hp0 : 0 < len := by omega
  have hp2 : 2 < len := by omega
  have hp3 : 3 < len := by omega
  unfold maxLen at hl
  have C0 : Hid (∀ W, Below w.heap.size w W → W.cell? ⟨b, off, none⟩ = some (.int .u8 x0)) := fun W hW => (hW.cell (p := ⟨b, off, none⟩) hb).trans h0
  have C2 : Hid (∀ W, Below w.heap.size w W → W.cell? ⟨b, off + 2, none⟩ = some (.int .u8 x2)) := fun W hW => (hW.cell (p := ⟨b, off + 2, none⟩) hb).trans h2
  have C3 : Hid (∀ W, Below w.heap.size w W → W.cell? ⟨b, off + 3, none⟩ = some (.int .u8 x3)) := fun W hW => (hW.cell (p := ⟨b, off + 3, none⟩) hb).trans h3
  clear h0 h2 h3
  have hi2 : (2 : Int) < len := by omega
  have hi3 : (3 : Int) < len := by omega
  have e0 := and_3 x0 b0.1 b0.2
  have e1 : IntKind.i64.wrap (x0 % 4) = x0 % 4 := IntWalk.i64_in _ (by omega)
  have e2 := and_128 x0 b0.1 b0.2
  have e3 := and_64 x0 b0.1 b0.2
  have e4 : IntKind.u16.wrap x2 = x2 := wrap16 x2 b2.1 (by omega)
  have e5 : IntKind.u16.wrap (x2 * 256) = x2 * 256 := wrap16 _ (by omega) (by omega)
  have e6 : IntKind.u16.wrap x3 = x3 := wrap16 x3 b3.1 (by omega)
  have e7 : bits BinOp.or IntKind.u16 (x2 * 256) x3 = x2 * 256 + x3 := or_u16 x2 x3 b2.1 b2.2 b3.1 b3.2
  go_enter Try.func14, Try.ntmps14
  go_wp2_with fail
  have hS : Below w.heap.size w (w.alloc (.cells #[.int .i64 0, .bool false, .bool false, .int .u16 0] 24)).drew := ((Below.refl _ w).alloc (Nat.le_refl _) _).drew
  have c0 := C0.out
  have c2 := C2.out
  have c3 := C3.out
  refine region_seq (fun W => Below w.heap.size w W) [(0, false), (1, false), (2, false), (3, false), (4, false), (5, false), (6, false), (7, false), (8, false), (9, false), (10, false), (11, false), (12, false), (13, false), (14, false), (15, false), (16, false), (17, false), (18, false), (19, false), (20, false), (21, false), (22, false), (23, false), (24, false), (25, false), (26, true)] (by kernel_rfl) (by kernel_rfl) rfl (by kernel_rfl) ?_
  iterate 26 (refine seq_read (v := _) rfl (fun _ _ _ h => h) hS (Or.inl ⟨by rfl, fun W hW => by go_simp <;> with_reducible rfl⟩) ?_; simp only [Act.put, List.setIfInBounds_toArray, List.set_cons_zero, List.set_cons_succ])
  refine seq_do rfl (fun K hK => ?_)
  go_simp
  refine hK.out _ _ (fun W => Below w.heap.size w W) (fun W hW => hW) (((Below.refl _ w).alloc (Nat.le_refl _) _).drew) ?_
  clear hK K
  refine seq_end ?_
  go_wp2
  exact bodyPost_ret (v := dsc (x0 % 4) (keyV x0) (staV x0) (x2 * 256 + x3)) (by simp [results, Try.results14, go_sem]) rfl ⟨rfl, ((Below.refl _ w).alloc (Nat.le_refl _) _).drew⟩
end Go.Proofs.Ytkeecdccjjoaaaa
