/- The contract of 'shown'; what is put is read (with the errors). -/
import Derived.Test.YtiamdaeodkiccaaKs
import Derived.Test.YtiamdaeodkiccaaKt
namespace Go.Proofs.Ytiamdaeodkiccaa.Rtp
open Go.RowKit
set_option linter.unusedVariables false

/-- What was put is read as it was. -/
theorem put_get {p : Pkt} (ho : p.Ok) (h : putE p = 0) : pE (putB p) = 0 ∧ gP (putB p) = p ∧ Bytes (putB p) ∧ (putB p).length ≤ 512 ∧ ((putB p).length : Int) = sizeP p := by
  obtain ⟨hm, hl, hb, hs⟩ := putE_ok h
  obtain ⟨h1, h2, -, -⟩ := enc_get p ho hm hl
  rw [hb]
  exact ⟨h1, by rw [gP, h1, if_pos rfl]; exact h2, enc_bytes p ho hm, hl, hs⟩

def p0 : Pkt := ⟨true, 96, 1, 2, 3, [], false, 0, [], [7, 8], 2⟩
theorem p0_ok : p0.Ok := by
  refine ⟨by decide, by decide, by decide, by decide, by decide, by decide, Words.nil, by decide, by decide, Bytes.nil, ?_⟩
  intro x hx
  simp [p0] at hx
  omega
theorem p0_put : putB p0 = [160, 224, 0, 1, 0, 0, 0, 2, 0, 0, 0, 3, 7, 8, 0, 2] := by decide +kernel
theorem p0_err : putE p0 = 0 := by decide +kernel
theorem p0_size : sizeP p0 = 16 := by decide +kernel
theorem alloc2 (w : World) (x y : Int) : Blk (w.alloc (.cells #[.int .u8 x, .int .u8 y] 5)) w.heap.size [x, y] [] := alloc_blk w [x, y]

set_option maxHeartbeats 4000000 in
theorem shown_any (w : World) : Calls Try.prog 10 #[] w (RetB w true) := by
  have CP : Hid (∀ W g, Blk W g [7, 8] [] → Calls Try.prog 11 #[.agg #[.bool true, .int .i64 96, .int .u16 1, .int .u32 2, .int .u32 3, .slice none 0 0, .bool false, .int .u16 0, .slice none 0 0, .slice (some ⟨g, 0, none⟩) 2 2, .int .i64 2]] W
      (RetR W [160, 224, 0, 1, 0, 0, 0, 2, 0, 0, 0, 3, 7, 8, 0, 2] 0)) := fun W g hk => by
    have hr : PRd W W.heap.size p0 ⟨none, 0, none, 0, some ⟨g, 0, none⟩, 2⟩ := ⟨Wd.none_ _ rfl, Rd.none_ _ rfl, hk.rd (by intro x hx; simp at hx; omega) rfl, by decide, by decide, by decide, Nat.le_refl _, Nat.le_refl _, Nat.le_refl _⟩
    have := put_pkt W p0 ⟨none, 0, none, 0, some ⟨g, 0, none⟩, 2⟩ p0_ok hr (Nat.le_refl _)
    rw [p0_put, p0_err] at this
    exact this
  obtain ⟨h1, h2, h3, -, -⟩ := put_get p0_ok p0_err
  rw [p0_put] at h1 h2 h3
  have CG : Hid (∀ W A c, Rd W W.heap.size A 16 [160, 224, 0, 1, 0, 0, 0, 2, 0, 0, 0, 3, 7, 8, 0, 2] → 16 ≤ c → Calls Try.prog 17 #[.slice A 16 c] W fun e w' => ∃ A1 k1 A2 k2 A3 k3,
      e = .returned (.tuple #[pkt ⟨true, 96, 1, 2, 3, A1, 0, k1, false, 0, A2, 0, k2, A3, 2, k3, 2⟩, .int .i64 0]) ∧ PRd w' w'.heap.size p0 ⟨A1, k1, A2, k2, A3, k3⟩ ∧ Below W.heap.size W w') := fun W A c hr hc => by
    have := get_any A 16 c _ _ W (by decide) hc hr (Nat.le_refl _)
    rw [h1, h2] at this
    refine this.mono ?_
    rintro e w' ⟨⟨A1, k1, A2, k2, A3, k3⟩, rfl, hq, hb⟩
    exact ⟨A1, k1, A2, k2, A3, k3, rfl, hq, hb⟩
  clear h1 h2 h3
  go_enter Try.func10, Try.ntmps10
  go_wp2_with fail
  have hb0 := (Below.refl w.heap.size w).alloc (Nat.le_refl _) (.cells #[.int .u8 7, .int .u8 8] 5)
  refine (CP.out _ _ (alloc2 w 7 8)).mono ?_
  rintro e w1 ⟨A, c, rfl, ho, hb1⟩
  have H1 := Lib.hid (hb0.trans (hb1.mono hb0.size))
  have HR1 := Lib.hid (show Rd w1 w1.heap.size A 16 [160, 224, 0, 1, 0, 0, 0, 2, 0, 0, 0, 3, 7, 8, 0, 2] from ho.rd)
  have HC := Lib.hid (show 16 ≤ c from ho.2.2.1)
  clear hb0 hb1 ho CP
  go_wp2_with fail
  refine (CG.out _ _ _ HR1.out HC.out).mono ?_
  rintro e w2 ⟨A1, k1, A2, k2, A3, k3, rfl, hq, hb2⟩
  have H2 := Lib.hid (H1.out.trans (hb2.mono H1.out.size))
  have R2 := (HR1.out.below hb2).more hb2.size
  have HQ := Lib.hid hq
  clear hb2 CG H1 HR1 HC
  have hb3 := (Below.refl w2.heap.size w2).alloc (Nat.le_refl _) (pobj ⟨true, 96, 1, 2, 3, A1, 0, k1, false, 0, A2, 0, k2, A3, 2, k3, 2⟩)
  have D3 := PBlk.new w2 ⟨true, 96, 1, 2, 3, A1, 0, k1, false, 0, A2, 0, k2, A3, 2, k3, 2⟩
  have s1 : (convert 25 9 (.slice A 16 c)).run Try.prog (w2.alloc (pobj ⟨true, 96, 1, 2, 3, A1, 0, k1, false, 0, A2, 0, k2, A3, 2, k3, 2⟩)) = .ok (.string ⟨#[160, 224, 0, 1, 0, 0, 0, 2, 0, 0, 0, 3, 7, 8, 0, 2]⟩) (w2.alloc (pobj ⟨true, 96, 1, 2, 3, A1, 0, k1, false, 0, A2, 0, k2, A3, 2, k3, 2⟩)) :=
    str_run (R2.below hb3)
  have s2 : (convert 25 9 (.slice A3 2 k3)).run Try.prog (w2.alloc (pobj ⟨true, 96, 1, 2, 3, A1, 0, k1, false, 0, A2, 0, k2, A3, 2, k3, 2⟩)) = .ok (.string ⟨#[7, 8]⟩) (w2.alloc (pobj ⟨true, 96, 1, 2, 3, A1, 0, k1, false, 0, A2, 0, k2, A3, 2, k3, 2⟩)) :=
    str_run ((show Rd w2 w2.heap.size A3 2 [7, 8] from hq.pay).below hb3)
  clear D3 R2 hq
  go_wp2_with fail
  have CS := size_pkt (w2.alloc (pobj ⟨true, 96, 1, 2, 3, A1, 0, k1, false, 0, A2, 0, k2, A3, 2, k3, 2⟩)) p0 ⟨A1, k1, A2, k2, A3, k3⟩ (by decide) (by decide)
  rw [p0_size] at CS
  refine CS.mono ?_
  rintro e w4 ⟨rfl, hb4⟩
  clear s1 s2 CS
  go_wp2
  go_ret
  exact ⟨rfl, H2.out.trans ((hb3.trans (hb4.mono hb3.size)).mono H2.out.size)⟩
end Go.Proofs.Ytiamdaeodkiccaa.Rtp
