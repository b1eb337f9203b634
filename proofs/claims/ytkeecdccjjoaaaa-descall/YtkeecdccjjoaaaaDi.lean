/- The walk of DescBack. -/
import Derived.Test.YtkeecdccjjoaaaaDg
namespace Go.Proofs.Ytkeecdccjjoaaaa
open Go.RowKit
set_option linter.unusedVariables false

theorem form_no (a : Int) (h0 : 0 ≤ a) (h1 : a ≤ 255) (h : formB a 90 = false) : (bits BinOp.and IntKind.u8 a 60 != 0) = true ∨ ((bits BinOp.and IntKind.u8 a 60 != 0) = false ∧ (bits BinOp.and IntKind.u8 a 3 == 3) = true) := by
  have := byte_all (fun a => formB a 90 || (bits BinOp.and IntKind.u8 a 60 != 0) || (bits BinOp.and IntKind.u8 a 3 == 3)) (by decide +kernel) a h0 h1
  simp only [h, Bool.false_or, Bool.or_eq_true] at this
  rcases hb : (bits BinOp.and IntKind.u8 a 60 != 0) with _ | _
  · rw [hb] at this
    exact .inr ⟨rfl, by simpa using this⟩
  · exact .inl rfl

theorem four {a b c d : Int} (h0 : 0 ≤ a ∧ a ≤ 255) (h1 : 0 ≤ b ∧ b ≤ 255) (h2 : 0 ≤ c ∧ c ≤ 255) (h3 : 0 ≤ d ∧ d ≤ 255) : Bytes [a, b, c, d] := by
  intro x hx
  simp only [List.mem_cons, List.not_mem_nil, or_false] at hx
  omega

/-- Four bytes that are none. -/
theorem four_no (a b c d : Int) (hf : formB a b = false) : gL [a, b, c, d] = 0 ∧ gK [a, b, c, d] = false ∧ gS [a, b, c, d] = false ∧ gF [a, b, c, d] = 0 ∧ gE [a, b, c, d] = 1 := by
  have ho : gOk [a, b, c, d] = false := by simp [gOk, hf]
  refine ⟨by rw [gL, ho]; rfl, by rw [gK, ho]; rfl, by rw [gS, ho]; rfl, by rw [gF, ho]; rfl, ?_⟩
  simp [gE, hf]
theorem four_yes (a b c d : Int) (hf : formB a b = true) : gL [a, b, c, d] = a % 4 ∧ gK [a, b, c, d] = keyV a ∧ gS [a, b, c, d] = staV a ∧ gF [a, b, c, d] = c * 256 + d ∧ gE [a, b, c, d] = 0 := by
  have ho : gOk [a, b, c, d] = true := by simp [gOk, hf]
  refine ⟨by rw [gL, ho]; rfl, by rw [gK, ho]; rfl, by rw [gS, ho]; rfl, by rw [gF, ho]; rfl, ?_⟩
  simp [gE, hf]

set_option maxHeartbeats 1000000 in
theorem back_no (a b c d : Int) (w : World) (h0 : 0 ≤ a ∧ a ≤ 255) (h1 : 0 ≤ b ∧ b ≤ 255) (h2 : 0 ≤ c ∧ c ≤ 255) (h3 : 0 ≤ d ∧ d ≤ 255) (hf : formB a b = false) :
    Calls Try.prog 5 #[.int .u8 a, .int .u8 b, .int .u8 c, .int .u8 d] w fun e w' => e = .returned (.bool true) ∧ Below w.heap.size w w' := by
  have CG : Hid (∀ W g, Blk W g [a, b, c, d] [] → Calls Try.prog 8 #[.slice (some ⟨g, 0, none⟩) 4 4] W (RetG W 0 false false 0 1)) := fun W g hk => by
    have := get_any (some ⟨g, 0, none⟩) 4 4 W.heap.size [a, b, c, d] W (by decide) (hk.rd (four h0 h1 h2 h3) rfl) (Nat.le_refl _)
    obtain ⟨e1, e2, e3, e4, e5⟩ := four_no a b c d hf
    rw [e1, e2, e3, e4, e5] at this
    exact this
  have hway : (b != 90) = true ∨ ((b != 90) = false ∧ (bits BinOp.and IntKind.u8 a 60 != 0) = true) ∨ ((b != 90) = false ∧ (bits BinOp.and IntKind.u8 a 60 != 0) = false ∧ (bits BinOp.and IntKind.u8 a 3 == 3) = true) := by
    rcases hb : (b != 90) with _ | _
    · obtain rfl : b = 90 := by simpa using hb
      rcases form_no a h0.1 h0.2 hf with h | h
      · exact .inr (.inl ⟨rfl, h⟩)
      · exact .inr (.inr ⟨rfl, h⟩)
    · exact .inl rfl
  clear hf
  rcases hway with v1 | ⟨v1, v2⟩ | ⟨v1, v2, v3⟩
  · go_enter Try.func5, Try.ntmps5
    go_wp2_with fail
    refine (shown_any _).mono ?_
    rintro e w1 ⟨rfl, hb1⟩
    go_wp2_with fail
    refine (CG.out _ _ (alloc4 w1 a b c d)).mono ?_
    rintro e w2 ⟨rfl, hb2⟩
    have H2 : Hid (Below w.heap.size w w2) := hb1.trans ((((Below.refl w1.heap.size w1).alloc (Nat.le_refl _) _).trans (hb2.mono (by simp))).mono hb1.size)
    clear hb1 hb2
    go_wp2
    go_ret
    exact ⟨rfl, H2.out.alloc H2.out.size _⟩
  · go_enter Try.func5, Try.ntmps5
    go_wp2_with fail
    refine (shown_any _).mono ?_
    rintro e w1 ⟨rfl, hb1⟩
    go_wp2_with fail
    refine (CG.out _ _ (alloc4 w1 a b c d)).mono ?_
    rintro e w2 ⟨rfl, hb2⟩
    have H2 : Hid (Below w.heap.size w w2) := hb1.trans ((((Below.refl w1.heap.size w1).alloc (Nat.le_refl _) _).trans (hb2.mono (by simp))).mono hb1.size)
    clear hb1 hb2
    go_wp2
    go_ret
    exact ⟨rfl, H2.out.alloc H2.out.size _⟩
  · go_enter Try.func5, Try.ntmps5
    go_wp2_with fail
    refine (shown_any _).mono ?_
    rintro e w1 ⟨rfl, hb1⟩
    go_wp2_with fail
    refine (CG.out _ _ (alloc4 w1 a b c d)).mono ?_
    rintro e w2 ⟨rfl, hb2⟩
    have H2 : Hid (Below w.heap.size w w2) := hb1.trans ((((Below.refl w1.heap.size w1).alloc (Nat.le_refl _) _).trans (hb2.mono (by simp))).mono hb1.size)
    clear hb1 hb2
    go_wp2
    go_ret
    exact ⟨rfl, H2.out.alloc H2.out.size _⟩

set_option maxHeartbeats 1000000 in
theorem back_yes (a b c d : Int) (w : World) (h0 : 0 ≤ a ∧ a ≤ 255) (h1 : 0 ≤ b ∧ b ≤ 255) (h2 : 0 ≤ c ∧ c ≤ 255) (h3 : 0 ≤ d ∧ d ≤ 255) (hf : formB a b = true) :
    Calls Try.prog 5 #[.int .u8 a, .int .u8 b, .int .u8 c, .int .u8 d] w fun e w' => e = .returned (.bool true) ∧ Below w.heap.size w w' := by
  have hput : putV (a % 4) (keyV a) (staV a) (c * 256 + d) = [a, b, c, d] := by
    simp only [formB, Bool.and_eq_true, beq_iff_eq] at hf
    rw [putV, hf.1.2, hf.2, show (c * 256 + d) / 256 = c from by omega, show (c * 256 + d) % 256 = d from by omega]
  have hmay : mayB (a % 4) = true := by
    simp only [formB, Bool.and_eq_true] at hf
    exact hf.1.1
  have CG : Hid (∀ W g, Blk W g [a, b, c, d] [] → Calls Try.prog 8 #[.slice (some ⟨g, 0, none⟩) 4 4] W (RetG W (a % 4) (keyV a) (staV a) (c * 256 + d) 0)) := fun W g hk => by
    have := get_any (some ⟨g, 0, none⟩) 4 4 W.heap.size [a, b, c, d] W (by decide) (hk.rd (four h0 h1 h2 h3) rfl) (Nat.le_refl _)
    obtain ⟨e1, e2, e3, e4, e5⟩ := four_yes a b c d hf
    rw [e1, e2, e3, e4, e5] at this
    exact this
  have CP : Hid (∀ W, Calls Try.prog 12 #[dsc (a % 4) (keyV a) (staV a) (c * 256 + d)] W (PutRow W [a, b, c, d])) := fun W => hput ▸ put_yes (a % 4) (keyV a) (staV a) (c * 256 + d) W (mayB_t hmay).1 (mayB_t hmay).2 (by omega) (by omega)
  have HB := Lib.hid (four h0 h1 h2 h3)
  clear hf hput hmay h0 h1 h2 h3
  generalize a % 4 = l at CG CP
  generalize keyV a = k at CG CP
  generalize staV a = s at CG CP
  generalize c * 256 + d = f at CG CP
  go_enter Try.func5, Try.ntmps5
  go_wp2_with fail
  refine (shown_any _).mono ?_
  rintro e w1 ⟨rfl, hb1⟩
  go_wp2_with fail
  refine (CG.out _ _ (alloc4 w1 a b c d)).mono ?_
  rintro e w2 ⟨rfl, hb2⟩
  have H2 : Hid (Below w.heap.size w w2) := hb1.trans ((((Below.refl w1.heap.size w1).alloc (Nat.le_refl _) _).trans (hb2.mono (by simp))).mono hb1.size)
  have B2 : Blk w2 w1.heap.size [a, b, c, d] [] := (alloc4 w1 a b c d).below hb2 (by simp)
  clear hb1 hb2
  generalize w1.heap.size = g at *
  go_wp2_with fail
  obtain ⟨w3, hw3⟩ : ∃ w3, w2.alloc (.cells #[.int .i64 l, .bool k, .bool s, .int .u16 f] 24) = w3 := ⟨_, rfl⟩
  have D3 : DBlk w3 w2.heap.size l k s f := hw3 ▸ DBlk.new w2 l k s f
  have B3 : Blk w3 g [a, b, c, d] [] := hw3 ▸ B2.alloc _
  have H3 : Hid (Below w.heap.size w w3) := hw3 ▸ H2.out.alloc H2.out.size _
  rw [hw3]
  generalize w2.heap.size = q at *
  clear hw3 H2 B2 w2
  have c0 : ∀ W, Below w3.heap.size w3 W → W.cell? ⟨q, 0, none⟩ = some (.int .i64 l) := fun W hW => (D3.below hW D3.lt).c0
  have c1 : ∀ W, Below w3.heap.size w3 W → W.cell? ⟨q, 1, none⟩ = some (.bool k) := fun W hW => (D3.below hW D3.lt).c1
  have c2 : ∀ W, Below w3.heap.size w3 W → W.cell? ⟨q, 2, none⟩ = some (.bool s) := fun W hW => (D3.below hW D3.lt).c2
  have c3 : ∀ W, Below w3.heap.size w3 W → W.cell? ⟨q, 3, none⟩ = some (.int .u16 f) := fun W hW => (D3.below hW D3.lt).c3
  have s3 : ∀ W, Below w3.heap.size w3 W → (convert 25 9 (.slice (some ⟨g, 0, none⟩) 4 4)).run Try.prog W = .ok (.string (strOfNums [a, b, c, d])) W := fun W hW => str_run ((B3.rd HB.out rfl).below hW)
  have hS : Below w3.heap.size w3 w3.drew := (Below.refl _ w3).drew
  clear D3 B3
  refine region_seq (fun W => Below w3.heap.size w3 W) [(0, false), (3, false), (4, false), (1, true), (2, false), (5, false), (6, false)] (by kernel_rfl) (by kernel_rfl) rfl (by kernel_rfl) ?_
  iterate 3 (refine seq_read (v := _) rfl (fun _ _ _ h => h) hS (Or.inl ⟨by rfl, fun W hW => by go_simp <;> with_reducible rfl⟩) ?_; simp only [Act.put, List.setIfInBounds_toArray, List.set_cons_zero, List.set_cons_succ])
  refine seq_do rfl (fun K hK => ?_)
  go_simp
  refine (CP.out _).mono ?_
  rintro e w4 ⟨p, rfl, hp, hk4, hb4⟩
  have hb34 : Below w3.heap.size w3 w4 := hS.trans hb4
  have s4 : ∀ W, Below w4.heap.size w4 W → (convert 25 9 (.slice (some ⟨p, 0, none⟩) 4 4)).run Try.prog W = .ok (.string (strOfNums [a, b, c, d])) W := fun W hW => str_run ((hk4.rd HB.out rfl).below hW)
  refine hK.out _ _ (fun W => Below w4.heap.size w4 W) (fun W hW => hb34.trans (hW.mono hb34.size)) (Below.refl _ _) ?_
  clear hK K hS hb4 hk4 s3 c0 c1 c2 c3 hp
  have hS : Below w4.heap.size w4 w4 := Below.refl _ _
  iterate 3 (refine seq_read (v := _) rfl (fun _ _ _ h => h) hS (Or.inl ⟨by rfl, fun W hW => by go_simp <;> with_reducible rfl⟩) ?_; simp only [Act.put, List.setIfInBounds_toArray, List.set_cons_zero, List.set_cons_succ])
  refine seq_end ?_
  go_wp2
  go_ret
  exact ⟨rfl, H3.out.trans (hb34.mono H3.out.size)⟩

theorem back_law (a b c d : Int) (w : World) (h0 : 0 ≤ a ∧ a ≤ 255) (h1 : 0 ≤ b ∧ b ≤ 255) (h2 : 0 ≤ c ∧ c ≤ 255) (h3 : 0 ≤ d ∧ d ≤ 255) :
    Calls Try.prog 5 #[.int .u8 a, .int .u8 b, .int .u8 c, .int .u8 d] w fun e w' => e = .returned (.bool true) ∧ Below w.heap.size w w' := by
  rcases hf : formB a b with _ | _
  · exact back_no a b c d w h0 h1 h2 h3 hf
  · exact back_yes a b c d w h0 h1 h2 h3 hf
end Go.Proofs.Ytkeecdccjjoaaaa
