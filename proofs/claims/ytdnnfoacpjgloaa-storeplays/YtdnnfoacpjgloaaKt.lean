/- The contract of the reference's SamePacket, of two packets that are alike. · The contract of 'shown'; what is put is read (with the errors). · The walks of RtpBack, RtpOffset. -/
import Derived.Test.YtdnnfoacpjgloaaKg
import Derived.Test.YtdnnfoacpjgloaaKr
set_option maxRecDepth 100000
namespace Go.Proofs.Ytdnnfoacpjgloaa.Rtp
open Go.RowKit
set_option linter.unusedVariables false

def Sm (w : World) (v u : PV) (W : World) : Prop := Below w.heap.size w W ∧ PBlk W w.heap.size v ∧ PBlk W (w.heap.size + 1) u
end Go.Proofs.Ytdnnfoacpjgloaa.Rtp

namespace Go.Proofs.Ytdnnfoacpjgloaa.Rtp
open Go.RowKit
set_option linter.unusedVariables false

/-- What was put is read as it was. -/
theorem put_get {p : Pkt} (ho : p.Ok) (h : putE p = 0) : pE (putB p) = 0 ∧ gP (putB p) = p ∧ Bytes (putB p) ∧ (putB p).length ≤ 512 ∧ ((putB p).length : Int) = sizeP p := by
  obtain ⟨hm, hl, hb, hs⟩ := putE_ok h
  obtain ⟨h1, h2, -, -⟩ := enc_get p ho hm hl
  rw [hb]
  exact ⟨h1, by rw [gP, h1, if_pos rfl]; exact h2, enc_bytes p ho hm, hl, hs⟩

def p0 : Pkt := ⟨true, 96, 1, 2, 3, [], false, 0, [], [7, 8], 2⟩
theorem p0_ok : p0.Ok := by
  refine ⟨by decide, by decide, by decide, by decide, by decide, by decide, Words.nil, by decide, by decide, Bytes.nil, ?_⟩
  intro x hx
  simp [p0] at hx
  omega
theorem p0_put : putB p0 = [160, 224, 0, 1, 0, 0, 0, 2, 0, 0, 0, 3, 7, 8, 0, 2] := by decide +kernel
theorem p0_err : putE p0 = 0 := by decide +kernel
theorem p0_size : sizeP p0 = 16 := by decide +kernel
theorem alloc2 (w : World) (x y : Int) : Blk (w.alloc (.cells #[.int .u8 x, .int .u8 y] 5)) w.heap.size [x, y] [] := alloc_blk w [x, y]

end Go.Proofs.Ytdnnfoacpjgloaa.Rtp

namespace Go.Proofs.Ytdnnfoacpjgloaa.Rtp
open Go.RowKit
set_option linter.unusedVariables false

/-- What is read is put as it was. -/
theorem get_put {b : List Int} (hb : Bytes b) (h : pE b = 0) : (pQ b).Ok ∧ putE (pQ b) = 0 ∧ putB (pQ b) = b := by
  obtain ⟨h1, h2, h3, -⟩ := get_enc b hb h
  have hl := (pE_ok h).1
  have hm := (mayPB_iff _).2 h2
  have he := lenP_eq _ h2
  rw [h3] at he
  exact ⟨h1, by rw [putE, if_pos hm, if_neg (by omega)], by rw [putB, if_pos hm, if_neg (by omega), h3]⟩
theorem zero_rd (w : World) (B : Nat) : PRd w B zeroPkt ⟨none, 0, none, 0, none, 0⟩ := ⟨Wd.none_ _ rfl, Rd.none_ _ rfl, Rd.none_ _ rfl, Nat.zero_le _, Nat.zero_le _, Nat.zero_le _, Nat.le_refl _, Nat.le_refl _, Nat.le_refl _⟩

end Go.Proofs.Ytdnnfoacpjgloaa.Rtp
