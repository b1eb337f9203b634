/- The contracts of desc.May, desc.first, desc.Put. · The contract of desc.Put. · The contract of desc.read. -/
import Derived.Test.YtdnnfoacpjgloaaXr
import Derived.Test.YtdnnfoacpjgloaaSeq
import Derived.IntWalk
set_option maxRecDepth 100000
namespace Go.Proofs.Ytdnnfoacpjgloaa
open Go.RowKit
set_option linter.unusedVariables false

/-- A descriptor, as a value. -/
abbrev dsc (l : Int) (k s : Bool) (f : Int) : Value := .agg #[.int .i64 l, .bool k, .bool s, .int .u16 f]
def mayB (l : Int) : Bool := decide (0 ≤ l ∧ l ≤ 2)
def firstV (l : Int) : Bool → Bool → Int
  | false, false => l
  | false, true => l + 64
  | true, false => l + 128
  | true, true => l + 192

theorem ret_int {k : IntKind} {a b : Int} (h : a = b) : Ending.returned (.int k a) = .returned (.int k b) := by rw [h]
theorem mayB_t {l : Int} (h : mayB l = true) : 0 ≤ l ∧ l ≤ 2 := by simpa [mayB] using h
theorem firstV_bd {l : Int} (h0 : 0 ≤ l) (h2 : l ≤ 3) (k s : Bool) : 0 ≤ firstV l k s ∧ firstV l k s ≤ 255 := by cases k <;> cases s <;> simp only [firstV] <;> omega

set_option maxHeartbeats 400000 in
theorem may_any (l : Int) (k s : Bool) (f : Int) (w : World) :
    Calls Try.prog 67 #[dsc l k s f] w fun e w' => e = .returned (.bool (mayB l)) ∧ Below w.heap.size w w' := by
  by_cases h0 : 0 ≤ l
  · go_enter Try.func67, Try.ntmps67
    go_wp2
    go_ret
    exact ⟨ret_bool (by rw [Bool.eq_iff_iff]; simp [mayB]; omega), (Below.refl _ _).alloc (Nat.le_refl _) _⟩
  · go_enter Try.func67, Try.ntmps67
    go_wp2
    go_ret
    exact ⟨ret_bool (by simp [mayB]; omega), (Below.refl _ _).alloc (Nat.le_refl _) _⟩

theorem or_128 : ∀ l : Int, 0 ≤ l → l ≤ 3 → bits BinOp.or IntKind.u8 l 128 = l + 128 := by
  intro l h0 h3
  obtain rfl | rfl | rfl | rfl : l = 0 ∨ l = 1 ∨ l = 2 ∨ l = 3 := by omega
  all_goals decide +kernel
theorem or_64 : ∀ l : Int, 0 ≤ l → l ≤ 3 → bits BinOp.or IntKind.u8 l 64 = l + 64 := by
  intro l h0 h3
  obtain rfl | rfl | rfl | rfl : l = 0 ∨ l = 1 ∨ l = 2 ∨ l = 3 := by omega
  all_goals decide +kernel
theorem or_192 : ∀ l : Int, 0 ≤ l → l ≤ 3 → bits BinOp.or IntKind.u8 (l + 128) 64 = l + 192 := by
  intro l h0 h3
  obtain rfl | rfl | rfl | rfl : l = 0 ∨ l = 1 ∨ l = 2 ∨ l = 3 := by omega
  all_goals decide +kernel

set_option maxHeartbeats 400000 in
theorem first_any (l : Int) (k s : Bool) (f : Int) (w : World) (h0 : 0 ≤ l) (h3 : l ≤ 3) :
    Calls Try.prog 68 #[dsc l k s f] w fun e w' => e = .returned (.int .u8 (firstV l k s)) ∧ Below w.heap.size w w' := by
  have e1 := or_128 l h0 h3
  have e2 := or_64 l h0 h3
  have e3 := or_192 l h0 h3
  have e4 : IntKind.u8.wrap l = l := by
    obtain rfl | rfl | rfl | rfl : l = 0 ∨ l = 1 ∨ l = 2 ∨ l = 3 := by omega
    all_goals decide +kernel
  cases k <;> cases s
  · clear e1 e2 e3
    go_enter Try.func68, Try.ntmps68
    go_wp2
    go_ret
    exact ⟨rfl, (Below.refl _ _).alloc (Nat.le_refl _) _⟩
  · clear e1 e3
    go_enter Try.func68, Try.ntmps68
    go_wp2
    go_ret
    exact ⟨rfl, (Below.refl _ _).alloc (Nat.le_refl _) _⟩
  · clear e2 e3
    go_enter Try.func68, Try.ntmps68
    go_wp2
    go_ret
    exact ⟨rfl, (Below.refl _ _).alloc (Nat.le_refl _) _⟩
  · clear e2
    go_enter Try.func68, Try.ntmps68
    go_wp2
    go_ret
    exact ⟨rfl, (Below.refl _ _).alloc (Nat.le_refl _) _⟩

/-- Nothing is put. -/
theorem put_no (l : Int) (k s : Bool) (f : Int) (w : World) (hm : mayB l = false) :
    Calls Try.prog 46 #[dsc l k s f] w fun e w' => e = .returned (.slice none 0 0) ∧ Below w.heap.size w w' := by
  have C := fun W => (hm ▸ may_any l k s f W : Calls Try.prog 67 #[dsc l k s f] W fun e w' => e = .returned (.bool false) ∧ Below W.heap.size W w')
  have HC := Lib.hid C
  clear C hm
  go_enter Try.func46, Try.ntmps46
  go_wp2_with fail
  refine (HC.out _).mono ?_
  rintro e w1 ⟨rfl, hb1⟩
  go_wp2
  go_ret
  exact ⟨rfl, ((Below.refl w.heap.size w).alloc (Nat.le_refl _) _).trans (hb1.mono (by simp))⟩
end Go.Proofs.Ytdnnfoacpjgloaa

namespace Go.Proofs.Ytdnnfoacpjgloaa
open Go.RowKit
set_option linter.unusedVariables false

/-- A descriptor that lies at block b. -/
def DBlk (w : World) (b : Nat) (l : Int) (k s : Bool) (f : Int) : Prop := w.heap[b]? = some (.cells #[.int .i64 l, .bool k, .bool s, .int .u16 f] 82 (0, 0))
section
variable {w w' : World} {b B : Nat} {l f : Int} {k s : Bool}
theorem DBlk.new (w : World) (l : Int) (k s : Bool) (f : Int) : DBlk (w.alloc (.cells #[.int .i64 l, .bool k, .bool s, .int .u16 f] 82)) w.heap.size l k s f := heap_alloc_new w _
theorem DBlk.below (h : DBlk w b l k s f) (hb : Below B w w') (hg : b < B) : DBlk w' b l k s f := (hb.block b hg).trans h
theorem DBlk.lt (h : DBlk w b l k s f) : b < w.heap.size := by
  rcases Nat.lt_or_ge b w.heap.size with hlt | hge
  · exact hlt
  · unfold DBlk at h; rw [Array.getElem?_eq_none hge] at h; cases h
theorem DBlk.c0 (h : DBlk w b l k s f) : w.cell? ⟨b, 0, none⟩ = some (.int .i64 l) := cell_of_row w b 0 _ 82 (0, 0) h
theorem DBlk.c1 (h : DBlk w b l k s f) : w.cell? ⟨b, 1, none⟩ = some (.bool k) := cell_of_row w b 1 _ 82 (0, 0) h
theorem DBlk.c2 (h : DBlk w b l k s f) : w.cell? ⟨b, 2, none⟩ = some (.bool s) := cell_of_row w b 2 _ 82 (0, 0) h
theorem DBlk.c3 (h : DBlk w b l k s f) : w.cell? ⟨b, 3, none⟩ = some (.int .u16 f) := cell_of_row w b 3 _ 82 (0, 0) h
end

theorem wrap8 (n : Int) (h0 : 0 ≤ n) (h1 : n ≤ 255) : IntKind.u8.wrap n = n := by simp [IntKind.wrap, IntKind.bits, IntKind.signed]; omega
theorem wrap8m (n : Int) : IntKind.u8.wrap n = n % 256 := by simp [IntKind.wrap, IntKind.bits, IntKind.signed]

/-- A descriptor's bytes. -/
def putV (l : Int) (k s : Bool) (f : Int) : List Int := [firstV l k s, 90, f / 256, f % 256]
def PutRow (w : World) (xs : List Int) (e : Ending) (w' : World) : Prop := ∃ g, e = .returned (.slice (some ⟨g, 0, none⟩) 4 4) ∧ w.heap.size ≤ g ∧ Blk w' g xs [] ∧ Below w.heap.size w w'

set_option maxHeartbeats 1000000 in
theorem put_yes (l : Int) (k s : Bool) (f : Int) (w : World) (h0 : 0 ≤ l) (h2 : l ≤ 2) (hf0 : 0 ≤ f) (hf : f ≤ 65535) :
    Calls Try.prog 46 #[dsc l k s f] w (PutRow w (putV l k s f)) := by
  have CM : Hid (∀ W, Calls Try.prog 67 #[dsc l k s f] W fun e w' => e = .returned (.bool true) ∧ Below W.heap.size W w') := fun W => (show mayB l = true from by simp [mayB]; omega) ▸ may_any l k s f W
  obtain ⟨x, hx⟩ : ∃ x, firstV l k s = x := ⟨_, rfl⟩
  have CF : Hid (∀ W, Calls Try.prog 68 #[dsc l k s f] W fun e w' => e = .returned (.int .u8 x) ∧ Below W.heap.size W w') := fun W => hx ▸ first_any l k s f W h0 (by omega)
  have HX := Lib.hid hx
  clear hx
  go_enter Try.func46, Try.ntmps46
  go_wp2_with fail
  refine (CM.out _).mono ?_
  rintro e w1 ⟨rfl, hb1⟩
  have D1 : DBlk w1 w.heap.size l k s f := (DBlk.new w l k s f).below hb1 (by simp)
  have H1 : Hid (Below w.heap.size w w1) := ((Below.refl w.heap.size w).alloc (Nat.le_refl _) _).trans (hb1.mono (by simp))
  have hz : w.heap.size < w1.heap.size := D1.lt
  clear hb1
  have c0 : ∀ W, Below w1.heap.size w1 W → W.cell? ⟨w.heap.size, 0, none⟩ = some (.int .i64 l) := fun W hW => (D1.below hW D1.lt).c0
  have c1 : ∀ W, Below w1.heap.size w1 W → W.cell? ⟨w.heap.size, 1, none⟩ = some (.bool k) := fun W hW => (D1.below hW D1.lt).c1
  have c2 : ∀ W, Below w1.heap.size w1 W → W.cell? ⟨w.heap.size, 2, none⟩ = some (.bool s) := fun W hW => (D1.below hW D1.lt).c2
  have c3 : ∀ W, Below w1.heap.size w1 W → W.cell? ⟨w.heap.size, 3, none⟩ = some (.int .u16 f) := fun W hW => (D1.below hW D1.lt).c3
  clear D1
  go_wp2_with fail
  have hS : Below w1.heap.size w1 w1.drew := (Below.refl _ w1).drew
  refine region_seq (fun W => Below w1.heap.size w1 W) [(0, false), (2, false), (3, false), (4, false), (5, false), (6, false), (7, false), (8, false), (1, true), (9, true), (10, false)] (by kernel_rfl) (by kernel_rfl) rfl (by kernel_rfl) ?_
  iterate 8 (refine seq_read (v := _) rfl (fun _ _ _ h => h) hS (Or.inl ⟨by rfl, fun W hW => by go_simp <;> with_reducible rfl⟩) ?_; simp only [Act.put, List.setIfInBounds_toArray, List.set_cons_zero, List.set_cons_succ])
  refine seq_do rfl (fun K hK => ?_)
  go_simp
  refine (CF.out _).mono ?_
  rintro e w2 ⟨rfl, hb2⟩
  have hb12 : Below w1.heap.size w1 w2 := hS.trans hb2
  refine hK.out _ _ (fun W => Below w2.heap.size w2 W) (fun W hW => hb12.trans (hW.mono hb12.size)) (Below.refl _ _) ?_
  clear hK K c0 c1 c2 c3 hS
  refine seq_do rfl (fun K hK => ?_)
  go_simp
  rw [wrap8 (f / 256) (by omega) (by omega), wrap8m f]
  have hb3 : Below w2.heap.size w2 (w2.alloc (.cells #[.int .u8 x, .int .u8 90, .int .u8 (f / 256), .int .u8 (f % 256)] 5)) := (Below.refl _ _).alloc (Nat.le_refl _) _
  have HB := alloc_blk w2 [x, 90, f / 256, f % 256]
  refine hK.out _ _ (fun W => Below w2.heap.size w2 W) (fun W hW => hW) hb3 ?_
  clear hK K
  iterate 1 (refine seq_read (v := _) rfl (fun _ _ _ h => h) hb3 (Or.inl ⟨by rfl, fun W hW => by go_simp <;> with_reducible rfl⟩) ?_; simp only [Act.put, List.setIfInBounds_toArray, List.set_cons_zero, List.set_cons_succ])
  refine seq_end ?_
  go_wp2
  go_ret
  have hb : Below w.heap.size w w2 := H1.out.trans (hb12.mono H1.out.size)
  refine ⟨_, rfl, hb.size, ?_, hb.trans (hb3.mono hb.size)⟩
  rw [putV, HX.out]
  exact HB
end Go.Proofs.Ytdnnfoacpjgloaa

namespace Go.Proofs.Ytdnnfoacpjgloaa
open Go.RowKit
set_option linter.unusedVariables false

def keyV (x : Int) : Bool := decide (128 ≤ x)
def staV (x : Int) : Bool := decide (x / 64 % 2 = 1)
def RetD (w : World) (l : Int) (k s : Bool) (f : Int) (e : Ending) (w' : World) : Prop := e = .returned (dsc l k s f) ∧ Below w.heap.size w w'

theorem byte_all (p : Int → Bool) (h : (List.range 256).all (fun n => p n) = true) (x : Int) (h0 : 0 ≤ x) (h1 : x ≤ 255) : p x = true := by
  obtain ⟨n, rfl⟩ := Int.eq_ofNat_of_zero_le h0
  exact List.all_eq_true.1 h n (List.mem_range.2 (by omega))
theorem and_3 (x : Int) (h0 : 0 ≤ x) (h1 : x ≤ 255) : bits BinOp.and IntKind.u8 x 3 = x % 4 :=
  of_decide_eq_true (byte_all (fun x => decide (bits BinOp.and IntKind.u8 x 3 = x % 4)) (by decide +kernel) x h0 h1)
theorem and_128 (x : Int) (h0 : 0 ≤ x) (h1 : x ≤ 255) : (bits BinOp.and IntKind.u8 x 128 != 0) = keyV x :=
  of_decide_eq_true (byte_all (fun x => decide ((bits BinOp.and IntKind.u8 x 128 != 0) = keyV x)) (by decide +kernel) x h0 h1)
theorem and_64 (x : Int) (h0 : 0 ≤ x) (h1 : x ≤ 255) : (bits BinOp.and IntKind.u8 x 64 != 0) = staV x :=
  of_decide_eq_true (byte_all (fun x => decide ((bits BinOp.and IntKind.u8 x 64 != 0) = staV x)) (by decide +kernel) x h0 h1)

theorem wrap16 (n : Int) (h0 : 0 ≤ n) (h1 : n ≤ 65535) : IntKind.u16.wrap n = n := by simp [IntKind.wrap, IntKind.bits, IntKind.signed]; omega
theorem or_u16 (m x : Int) (h0 : 0 ≤ m) (h1 : m ≤ 255) (h2 : 0 ≤ x) (h3 : x ≤ 255) : bits BinOp.or IntKind.u16 (m * 256) x = m * 256 + x := by
  rw [u16_or _ _ (by omega) (by omega) h2 (by omega)]
  obtain ⟨a, rfl⟩ := Int.eq_ofNat_of_zero_le h0
  obtain ⟨b, rfl⟩ := Int.eq_ofNat_of_zero_le h2
  have hb : b < 2 ^ 8 := by omega
  have e := Nat.two_pow_add_eq_or_of_lt hb a
  rw [show ((a : Int) * 256).toNat = 2 ^ 8 * a from by omega, Int.toNat_natCast, ← e]
  omega

set_option maxHeartbeats 1000000 in
theorem read_any (b off len cap : Nat) (x0 x1 x2 x3 : Int) (w : World) (hl : len ≤ maxLen) (h4 : 4 ≤ len) (hb : b < w.heap.size) (h0 : w.cell? ⟨b, off, none⟩ = some (.int .u8 x0)) (h2 : w.cell? ⟨b, off + 2, none⟩ = some (.int .u8 x2))
    (h3 : w.cell? ⟨b, off + 3, none⟩ = some (.int .u8 x3)) (b0 : 0 ≤ x0 ∧ x0 ≤ 255) (b2 : 0 ≤ x2 ∧ x2 ≤ 255) (b3 : 0 ≤ x3 ∧ x3 ≤ 255) :
    Calls Try.prog 87 #[.slice (some ⟨b, off, none⟩) len cap] w (RetD w (x0 % 4) (keyV x0) (staV x0) (x2 * 256 + x3)) := by
  have hp0 : 0 < len := by omega
  have hp2 : 2 < len := by omega
  have hp3 : 3 < len := by omega
  unfold maxLen at hl
  have C0 : Hid (∀ W, Below w.heap.size w W → W.cell? ⟨b, off, none⟩ = some (.int .u8 x0)) := fun W hW => (hW.cell (p := ⟨b, off, none⟩) hb).trans h0
  have C2 : Hid (∀ W, Below w.heap.size w W → W.cell? ⟨b, off + 2, none⟩ = some (.int .u8 x2)) := fun W hW => (hW.cell (p := ⟨b, off + 2, none⟩) hb).trans h2
  have C3 : Hid (∀ W, Below w.heap.size w W → W.cell? ⟨b, off + 3, none⟩ = some (.int .u8 x3)) := fun W hW => (hW.cell (p := ⟨b, off + 3, none⟩) hb).trans h3
  clear h0 h2 h3
  have hi2 : (2 : Int) < len := by omega
  have hi3 : (3 : Int) < len := by omega
  have e0 := and_3 x0 b0.1 b0.2
  have e1 : IntKind.i64.wrap (x0 % 4) = x0 % 4 := IntWalk.i64_in _ (by omega)
  have e2 := and_128 x0 b0.1 b0.2
  have e3 := and_64 x0 b0.1 b0.2
  have e4 : IntKind.u16.wrap x2 = x2 := wrap16 x2 b2.1 (by omega)
  have e5 : IntKind.u16.wrap (x2 * 256) = x2 * 256 := wrap16 _ (by omega) (by omega)
  have e6 : IntKind.u16.wrap x3 = x3 := wrap16 x3 b3.1 (by omega)
  have e7 : bits BinOp.or IntKind.u16 (x2 * 256) x3 = x2 * 256 + x3 := or_u16 x2 x3 b2.1 b2.2 b3.1 b3.2
  go_enter Try.func87, Try.ntmps87
  go_wp2_with fail
  have hS : Below w.heap.size w (w.alloc (.cells #[.int .i64 0, .bool false, .bool false, .int .u16 0] 82)).drew := ((Below.refl _ w).alloc (Nat.le_refl _) _).drew
  have c0 := C0.out
  have c2 := C2.out
  have c3 := C3.out
  refine region_seq (fun W => Below w.heap.size w W) [(0, false), (1, false), (2, false), (3, false), (4, false), (5, false), (6, false), (7, false), (8, false), (9, false), (10, false), (11, false), (12, false), (13, false), (14, false), (15, false), (16, false), (17, false), (18, false), (19, false), (20, false), (21, false), (22, false), (23, false), (24, false), (25, false), (26, true)] (by kernel_rfl) (by kernel_rfl) rfl (by kernel_rfl) ?_
  iterate 26 (refine seq_read (v := _) rfl (fun _ _ _ h => h) hS (Or.inl ⟨by rfl, fun W hW => by go_simp <;> with_reducible rfl⟩) ?_; simp only [Act.put, List.setIfInBounds_toArray, List.set_cons_zero, List.set_cons_succ])
  refine seq_do rfl (fun K hK => ?_)
  go_simp
  refine hK.out _ _ (fun W => Below w.heap.size w W) (fun W hW => hW) (((Below.refl _ w).alloc (Nat.le_refl _) _).drew) ?_
  clear hK K
  refine seq_end ?_
  go_wp2
  exact bodyPost_ret (v := dsc (x0 % 4) (keyV x0) (staV x0) (x2 * 256 + x3)) (by simp [results, Try.results87, go_sem]) rfl ⟨rfl, ((Below.refl _ w).alloc (Nat.le_refl _) _).drew⟩
end Go.Proofs.Ytdnnfoacpjgloaa
