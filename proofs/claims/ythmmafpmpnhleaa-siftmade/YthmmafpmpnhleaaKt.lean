/- The contract of the reference's SamePacket, of two packets that are alike. · The contract of 'shown'; what is put is read (with the errors). · The walks of RtpBack, RtpOffset. -/
import Derived.Test.YthmmafpmpnhleaaKg
import Derived.Test.YthmmafpmpnhleaaKr
set_option maxRecDepth 100000
namespace Go.Proofs.Ythmmafpmpnhleaa.Rtp
open Go.RowKit
set_option linter.unusedVariables false

def Sm (w : World) (v u : PV) (W : World) : Prop := Below w.heap.size w W ∧ PBlk W w.heap.size v ∧ PBlk W (w.heap.size + 1) u
set_option maxHeartbeats 4000000 in
theorem same_walk (mrk he : Bool) (ty seq time ssrc prof pad : Int) (ca ca' ea ea' pa pa' : Option Addr) (cn cc cc' en ec ec' pn pc pc' : Nat) (cs es ps : List Int) (w : World) (hcn : cn ≤ 140737488351232)
    (h1 : Wd w w.heap.size ca cn cs) (h2 : Wd w w.heap.size ca' cn cs) (h3 : Rd w w.heap.size ea en es) (h4 : Rd w w.heap.size ea' en es) (h5 : Rd w w.heap.size pa pn ps) (h6 : Rd w w.heap.size pa' pn ps) :
    Calls Try.prog 13 #[pkt ⟨mrk, ty, seq, time, ssrc, ca, cn, cc, he, prof, ea, en, ec, pa, pn, pc, pad⟩, pkt ⟨mrk, ty, seq, time, ssrc, ca', cn, cc', he, prof, ea', en, ec', pa', pn, pc', pad⟩] w (RetB w true) := by
  obtain ⟨v, hv⟩ : ∃ v : PV, v = ⟨mrk, ty, seq, time, ssrc, ca, cn, cc, he, prof, ea, en, ec, pa, pn, pc, pad⟩ := ⟨_, rfl⟩
  obtain ⟨u, hu⟩ : ∃ u : PV, u = ⟨mrk, ty, seq, time, ssrc, ca', cn, cc', he, prof, ea', en, ec', pa', pn, pc', pad⟩ := ⟨_, rfl⟩
  have HV := Lib.hid hv
  have HU := Lib.hid hu
  have H1 := Lib.hid h1
  have H2 := Lib.hid h2
  have S3 : Hid (∀ W, Below w.heap.size w W → (convert 22 9 (.slice ea en ec)).run Try.prog W = .ok (.string (strOfNums es)) W) := fun W hW => str_run (h3.below hW)
  have S4 : Hid (∀ W, Below w.heap.size w W → (convert 22 9 (.slice ea' en ec')).run Try.prog W = .ok (.string (strOfNums es)) W) := fun W hW => str_run (h4.below hW)
  have S5 : Hid (∀ W, Below w.heap.size w W → (convert 22 9 (.slice pa pn pc)).run Try.prog W = .ok (.string (strOfNums ps)) W) := fun W hW => str_run (h5.below hW)
  have S6 : Hid (∀ W, Below w.heap.size w W → (convert 22 9 (.slice pa' pn pc')).run Try.prog W = .ok (.string (strOfNums ps)) W) := fun W hW => str_run (h6.below hW)
  have HC : Hid (∀ k, k < cn → ∃ b off b' off' x, ca = some ⟨b, off, none⟩ ∧ ca' = some ⟨b', off', none⟩ ∧ (∀ W, Below w.heap.size w W → W.cell? ⟨b, off + k, none⟩ = some (.int .u32 x)) ∧ ∀ W, Below w.heap.size w W → W.cell? ⟨b', off' + k, none⟩ = some (.int .u32 x)) := fun k hk => by
    obtain ⟨b, off, e, hlt, hc⟩ := h1.2.2 (by omega)
    obtain ⟨b', off', e', hlt', hc'⟩ := h2.2.2 (by omega)
    exact ⟨b, off, b', off', _, e, e', fun W hW => (hW.cell (p := ⟨b, off + k, none⟩) hlt).trans (hc k hk), fun W hW => (hW.cell (p := ⟨b', off' + k, none⟩) hlt').trans (hc' k hk)⟩
  clear h1 h2 h3 h4 h5 h6 hv hu H1 H2
  have B1 := (Below.refl w.heap.size w).alloc (Nat.le_refl _) (pobj v)
  have B2 := B1.alloc B1.size (pobj u)
  have D1 : PBlk ((w.alloc (pobj v)).alloc (pobj u)) w.heap.size v := (PBlk.new w v).below ((Below.refl _ _).alloc (Nat.le_refl _) (pobj u)) (by simp)
  have D2 : PBlk ((w.alloc (pobj v)).alloc (pobj u)) (w.heap.size + 1) u := by
    have := PBlk.new (w.alloc (pobj v)) u
    simpa using this
  rw [HV.out] at B2 D1 D2
  rw [HU.out] at B2 D1 D2
  have HB := Lib.hid B2
  have HD1 := Lib.hid D1
  have HD2 := Lib.hid D2
  clear B1 B2 D1 D2 HV HU
  go_enter Try.func13, Try.ntmps13
  go_wp2
  go_loopw [16] (fun sk wx => ∃ k : Nat, k ≤ cn ∧ sk = .int .i64 k ∧ Below w.heap.size w wx ∧ PBlk wx w.heap.size ⟨mrk, ty, seq, time, ssrc, ca, cn, cc, he, prof, ea, en, ec, pa, pn, pc, pad⟩ ∧ PBlk wx (w.heap.size + 1) ⟨mrk, ty, seq, time, ssrc, ca', cn, cc', he, prof, ea', en, ec', pa', pn, pc', pad⟩)
    (fun sk _ => cn - (intOf sk).toNat)
  case atStart => exact ⟨0, by omega, rfl, HB.out, HD1.out, HD2.out⟩
  case round =>
    obtain ⟨k, hk, rfl, hb, d1, d2⟩ := hrel
    rename World => wx
    clear HB HD1 HD2
    by_cases hlt : k < cn
    · obtain ⟨b, off, b', off', x, rfl, rfl, hx, hx'⟩ := HC.out k hlt
      have hS : Sm w ⟨mrk, ty, seq, time, ssrc, some ⟨b, off, none⟩, cn, cc, he, prof, ea, en, ec, pa, pn, pc, pad⟩ ⟨mrk, ty, seq, time, ssrc, some ⟨b', off', none⟩, cn, cc', he, prof, ea', en, ec', pa', pn, pc', pad⟩ wx.drew := ⟨hb.drew, d1, d2⟩
      have k5 : ∀ W, Sm w ⟨mrk, ty, seq, time, ssrc, some ⟨b, off, none⟩, cn, cc, he, prof, ea, en, ec, pa, pn, pc, pad⟩ ⟨mrk, ty, seq, time, ssrc, some ⟨b', off', none⟩, cn, cc', he, prof, ea', en, ec', pa', pn, pc', pad⟩ W → W.cell? ⟨w.heap.size, 5, none⟩ = some (.slice (some ⟨b, off, none⟩) cn cc) := fun W h => h.2.1.c5
      have l5 : ∀ W, Sm w ⟨mrk, ty, seq, time, ssrc, some ⟨b, off, none⟩, cn, cc, he, prof, ea, en, ec, pa, pn, pc, pad⟩ ⟨mrk, ty, seq, time, ssrc, some ⟨b', off', none⟩, cn, cc', he, prof, ea', en, ec', pa', pn, pc', pad⟩ W → W.cell? ⟨w.heap.size + 1, 5, none⟩ = some (.slice (some ⟨b', off', none⟩) cn cc') := fun W h => h.2.2.c5
      have k1 : ∀ W, Sm w ⟨mrk, ty, seq, time, ssrc, some ⟨b, off, none⟩, cn, cc, he, prof, ea, en, ec, pa, pn, pc, pad⟩ ⟨mrk, ty, seq, time, ssrc, some ⟨b', off', none⟩, cn, cc', he, prof, ea', en, ec', pa', pn, pc', pad⟩ W → W.cell? ⟨b, off + k, none⟩ = some (.int .u32 x) := fun W h => hx W h.1
      have l1 : ∀ W, Sm w ⟨mrk, ty, seq, time, ssrc, some ⟨b, off, none⟩, cn, cc, he, prof, ea, en, ec, pa, pn, pc, pad⟩ ⟨mrk, ty, seq, time, ssrc, some ⟨b', off', none⟩, cn, cc', he, prof, ea', en, ec', pa', pn, pc', pad⟩ W → W.cell? ⟨b', off' + k, none⟩ = some (.int .u32 x) := fun W h => hx' W h.1
      clear hx hx' hb d1 d2
      go_wp2_with fail
      refine region_seq (Sm w ⟨mrk, ty, seq, time, ssrc, some ⟨b, off, none⟩, cn, cc, he, prof, ea, en, ec, pa, pn, pc, pad⟩ ⟨mrk, ty, seq, time, ssrc, some ⟨b', off', none⟩, cn, cc', he, prof, ea', en, ec', pa', pn, pc', pad⟩) [(0, false), (1, false), (2, false), (3, false), (4, false), (5, false), (6, false), (7, false), (8, false), (9, false), (10, false)] (by kernel_rfl) (by kernel_rfl) rfl (by kernel_rfl) ?_
      iterate 11 (refine seq_read (v := _) rfl (fun _ _ _ h => h) hS (Or.inl ⟨by rfl, fun W hW => by go_simp <;> with_reducible rfl⟩) ?_; simp only [Act.put, List.setIfInBounds_toArray, List.set_cons_zero, List.set_cons_succ])
      refine seq_end ?_
      clear k5 l5 k1 l1
      go_wp2
      go_roundw
      case rel =>
        exact ⟨k + 1, by omega, by go_num, hS.1, hS.2.1, hS.2.2⟩
      case measure => simp [intOf]; omega
    · obtain rfl : k = cn := by omega
      have s3 := S3.out wx hb
      have s4 := S4.out wx hb
      have s5 := S5.out wx hb
      have s6 := S6.out wx hb
      have f0 := d1.c0
      have f1 := d1.c1
      have f2 := d1.c2
      have f3 := d1.c3
      have f4 := d1.c4
      have f6 := d1.c6
      have f7 := d1.c7
      have f8 := d1.c8
      have f9 := d1.c9
      have f10 := d1.c10
      have g0 := d2.c0
      have g1 := d2.c1
      have g2 := d2.c2
      have g3 := d2.c3
      have g4 := d2.c4
      have g6 := d2.c6
      have g7 := d2.c7
      have g8 := d2.c8
      have g9 := d2.c9
      have g10 := d2.c10
      clear d1 d2
      go_wp2
      go_ret
      exact ⟨rfl, hb⟩
theorem same_any (w : World) (B : Nat) (p : Pkt) (l l' : Loc) (h : PRd w B p l) (h' : PRd w B p l') (hB : B ≤ w.heap.size) : Calls Try.prog 13 #[pkt (pvOf p l), pkt (pvOf p l')] w (RetB w true) :=
  same_walk p.mrk p.he p.ty p.seq p.time p.ssrc p.prof p.pad l.ca l'.ca l.ea l'.ea l.pa l'.pa p.csrc.length l.cc l'.cc p.ext.length l.ec l'.ec p.pay.length l.pc l'.pc p.csrc p.ext p.pay w h.cn (h.more hB).csrc (h'.more hB).csrc (h.more hB).ext (h'.more hB).ext (h.more hB).pay (h'.more hB).pay
end Go.Proofs.Ythmmafpmpnhleaa.Rtp

namespace Go.Proofs.Ythmmafpmpnhleaa.Rtp
open Go.RowKit
set_option linter.unusedVariables false

/-- What was put is read as it was. -/
theorem put_get {p : Pkt} (ho : p.Ok) (h : putE p = 0) : pE (putB p) = 0 ∧ gP (putB p) = p ∧ Bytes (putB p) ∧ (putB p).length ≤ 512 ∧ ((putB p).length : Int) = sizeP p := by
  obtain ⟨hm, hl, hb, hs⟩ := putE_ok h
  obtain ⟨h1, h2, -, -⟩ := enc_get p ho hm hl
  rw [hb]
  exact ⟨h1, by rw [gP, h1, if_pos rfl]; exact h2, enc_bytes p ho hm, hl, hs⟩

def p0 : Pkt := ⟨true, 96, 1, 2, 3, [], false, 0, [], [7, 8], 2⟩
theorem p0_ok : p0.Ok := by
  refine ⟨by decide, by decide, by decide, by decide, by decide, by decide, Words.nil, by decide, by decide, Bytes.nil, ?_⟩
  intro x hx
  simp [p0] at hx
  omega
theorem p0_put : putB p0 = [160, 224, 0, 1, 0, 0, 0, 2, 0, 0, 0, 3, 7, 8, 0, 2] := by decide +kernel
theorem p0_err : putE p0 = 0 := by decide +kernel
theorem p0_size : sizeP p0 = 16 := by decide +kernel
theorem alloc2 (w : World) (x y : Int) : Blk (w.alloc (.cells #[.int .u8 x, .int .u8 y] 5)) w.heap.size [x, y] [] := alloc_blk w [x, y]

end Go.Proofs.Ythmmafpmpnhleaa.Rtp

namespace Go.Proofs.Ythmmafpmpnhleaa.Rtp
open Go.RowKit
set_option linter.unusedVariables false

/-- What is read is put as it was. -/
theorem get_put {b : List Int} (hb : Bytes b) (h : pE b = 0) : (pQ b).Ok ∧ putE (pQ b) = 0 ∧ putB (pQ b) = b := by
  obtain ⟨h1, h2, h3, -⟩ := get_enc b hb h
  have hl := (pE_ok h).1
  have hm := (mayPB_iff _).2 h2
  have he := lenP_eq _ h2
  rw [h3] at he
  exact ⟨h1, by rw [putE, if_pos hm, if_neg (by omega)], by rw [putB, if_pos hm, if_neg (by omega), h3]⟩
theorem zero_rd (w : World) (B : Nat) : PRd w B zeroPkt ⟨none, 0, none, 0, none, 0⟩ := ⟨Wd.none_ _ rfl, Rd.none_ _ rfl, Rd.none_ _ rfl, Nat.zero_le _, Nat.zero_le _, Nat.zero_le _, Nat.le_refl _, Nat.le_refl _, Nat.le_refl _⟩

end Go.Proofs.Ythmmafpmpnhleaa.Rtp
