/- The contracts of the reference's MayPacket, Size. · The reference's Put of a packet that may be and is not too long. · The reference's Put of a packet that may be and is not too long: two of its ways. · The reference's Put of a packet that may be and is not too long: two of its ways. · The reference's Put of a packet that may be and is not too long: two of its ways. · The reference's Put of a packet that may be and is not too long: two of its ways. -/
import Derived.Test.YtdnnfoacpjgloaaKr
import Derived.Test.YtdnnfoacpjgloaaXh
set_option maxRecDepth 100000
namespace Go.Proofs.Ytdnnfoacpjgloaa.Rtp
open Go.RowKit
set_option linter.unusedVariables false

/-- The first of the reference's two questions. -/
def refA (v : PV) : Bool := decide (v.ty < 0) || decide (127 < v.ty) || (v.mrk && decide (64 ≤ v.ty) && decide (v.ty ≤ 95)) || decide (15 < v.cn) || decide (v.en % 4 ≠ 0)
def refB (v : PV) : Bool := (v.he || (decide (v.en = 0) && decide (v.prof = 0))) && decide (0 ≤ v.pad) && decide (v.pad ≤ 255)
theorem refAB (p : Pkt) (l : Loc) : (!refA (pvOf p l) && refB (pvOf p l)) = mayPB p := by
  unfold refA refB mayPB pvOf
  generalize p.ext.length = en
  generalize p.csrc.length = cn
  cases p.mrk <;> cases p.he <;> rw [Bool.eq_iff_iff] <;> simp <;> omega

set_option maxHeartbeats 4000000 in
theorem rmay_a (v : PV) (w : World) (hl : v.en ≤ 140737488351232) (h : refA v = true) : Calls Try.prog 60 #[pkt v] w (RetB w false) := by
  obtain ⟨mrk, ty, seq, time, ssrc, ca, cn, cc, he, prof, ea, en, ec, pa, pn, pc, pad⟩ := v
  simp only [refA, Bool.or_eq_true, Bool.and_eq_true, decide_eq_true_eq] at h hl
  have q : (en : Int).tmod 4 = en % 4 := Int.tmod_eq_emod_of_nonneg (by omega)
  by_cases h1 : ty < 0
  · go_enter Try.func60, Try.ntmps60
    go_wp2
    go_ret
    exact ⟨rfl, (Below.refl _ _).alloc (Nat.le_refl _) _⟩
  · by_cases h2 : 127 < ty
    · go_enter Try.func60, Try.ntmps60
      go_wp2
      go_ret
      exact ⟨rfl, (Below.refl _ _).alloc (Nat.le_refl _) _⟩
    · have hwy : (mrk = true ∧ 64 ≤ ty ∧ ty ≤ 95) ∨ (mrk = false ∧ (15 < cn ∨ (¬ 15 < cn ∧ en % 4 ≠ 0))) ∨ (mrk = true ∧ ¬ 64 ≤ ty ∧ (15 < cn ∨ (¬ 15 < cn ∧ en % 4 ≠ 0))) ∨ (mrk = true ∧ 64 ≤ ty ∧ ¬ ty ≤ 95 ∧ (15 < cn ∨ (¬ 15 < cn ∧ en % 4 ≠ 0))) := by
        cases mrk <;> simp at h ⊢ <;> omega
      rcases hwy with ⟨rfl, h3, h4⟩ | ⟨rfl, h5⟩ | ⟨rfl, h3, h5⟩ | ⟨rfl, h3, h4, h5⟩
      · go_enter Try.func60, Try.ntmps60
        go_wp2
        go_ret
        exact ⟨rfl, (Below.refl _ _).alloc (Nat.le_refl _) _⟩
      all_goals
        rcases h5 with h5 | ⟨h5, h6⟩
        case' inl => have h5' : (15 : Int) < cn := by omega
        case' inr =>
          have h5' : ¬ (15 : Int) < cn := by omega
          have h6' : ((en : Int) % 4 != 0) = true := by simp; omega
        all_goals
          clear h
          go_enter Try.func60, Try.ntmps60
          go_wp2
          go_ret
          exact ⟨rfl, (Below.refl _ _).alloc (Nat.le_refl _) _⟩

set_option maxHeartbeats 8000000 in
theorem rmay_b (v : PV) (w : World) (hl : v.en ≤ 140737488351232) (h : refA v = false) : Calls Try.prog 60 #[pkt v] w (RetB w (refB v)) := by
  obtain ⟨mrk, ty, seq, time, ssrc, ca, cn, cc, he, prof, ea, en, ec, pa, pn, pc, pad⟩ := v
  simp only [refA, Bool.or_eq_false_iff, decide_eq_false_iff_not] at h hl
  obtain ⟨⟨⟨⟨h1, h2⟩, h3⟩, h4⟩, h5⟩ := h
  have q : (en : Int).tmod 4 = en % 4 := Int.tmod_eq_emod_of_nonneg (by omega)
  have h4' : ¬ (15 : Int) < cn := by omega
  have h5' : ((en : Int) % 4 != 0) = false := by simp; omega
  have hB : refB ⟨mrk, ty, seq, time, ssrc, ca, cn, cc, he, prof, ea, en, ec, pa, pn, pc, pad⟩ = ((he || (decide (en = 0) && decide (prof = 0))) && decide (0 ≤ pad) && decide (pad ≤ 255)) := rfl
  rw [hB]
  have hwy : mrk = false ∨ (mrk = true ∧ ¬ 64 ≤ ty) ∨ (mrk = true ∧ 64 ≤ ty ∧ ¬ ty ≤ 95) := by
    cases mrk
    · exact .inl rfl
    · simp at h3; simp; omega
  have hex : he = true ∨ (he = false ∧ ¬ en = 0) ∨ (he = false ∧ en = 0) := by
    cases he
    · by_cases h0 : en = 0
      · exact .inr (.inr ⟨rfl, h0⟩)
      · exact .inr (.inl ⟨rfl, h0⟩)
    · exact .inl rfl
  clear h3 h4 h5 hB
  rcases hex with rfl | ⟨rfl, h0⟩ | ⟨rfl, rfl⟩
  case' inr.inl => have h0' : ¬ (en : Int) = 0 := by omega
  case' inl =>
    by_cases hp : 0 ≤ pad
  case' inr.inr =>
    by_cases hpr : prof = 0
    case' pos =>
      by_cases hp : 0 ≤ pad
  all_goals
    rcases hwy with rfl | ⟨rfl, h6⟩ | ⟨rfl, h6, h7⟩
    all_goals
      go_enter Try.func60, Try.ntmps60
      go_wp2
      go_ret
      exact ⟨ret_bool (by simp [*] <;> omega), (Below.refl _ _).alloc (Nat.le_refl _) _⟩

theorem rmay_pkt (w : World) (p : Pkt) (l : Loc) (hl : p.ext.length ≤ 140737488351232) : Calls Try.prog 60 #[pkt (pvOf p l)] w (RetB w (mayPB p)) := by
  rw [← refAB p l]
  cases h : refA (pvOf p l)
  · exact rmay_b (pvOf p l) w hl h
  · exact rmay_a (pvOf p l) w hl h

set_option maxHeartbeats 1000000 in
theorem rsize_any (v : PV) (w : World) (m : Bool) (hl : v.en ≤ 140737488351232) (hp : v.pn ≤ 140737488351232) (CM : ∀ W, Calls Try.prog 60 #[pkt v] W (RetB W m)) (hmb : m = true → v.cn ≤ 15 ∧ 0 ≤ v.pad ∧ v.pad ≤ 255) :
    Calls Try.prog 61 #[pkt v] w (RetI w (if m then lenV v else 0)) := by
  have hb : Below w.heap.size w (w.alloc (pobj v)) := (Below.refl _ _).alloc (Nat.le_refl _) _
  rcases m with _ | _
  · have HM := Lib.hid CM
    clear CM hmb
    go_enter Try.func61, Try.ntmps61
    go_wp2_with fail
    refine (HM.out _).mono ?_
    rintro e w1 ⟨rfl, hb1⟩
    go_wp2
    go_ret
    exact ⟨rfl, hb.trans (hb1.mono hb.size)⟩
  · obtain ⟨h1, h2, h3⟩ := hmb rfl
    have HM := Lib.hid CM
    clear CM hmb
    rcases hh : v.he with _ | _
    case' false => have HL := Lib.hid (show lenV v = 12 + 4 * v.cn + v.pn + v.pad from by simp [lenV, hh])
    case' true => have HL := Lib.hid (show lenV v = 12 + 4 * v.cn + v.pn + v.pad + (4 + v.en) from by simp [lenV, hh])
    all_goals
      have HH := Lib.hid hh
      clear hh
      go_enter Try.func61, Try.ntmps61
      go_wp2_with fail
      refine (HM.out _).mono ?_
      rintro e w1 ⟨rfl, hb1⟩
      have D1 : PBlk w1 w.heap.size v := (PBlk.new w v).below hb1 (by simp)
      have c5 := D1.c5
      have c6 := D1.c6
      rw [HH.out] at c6
      have c8 := D1.c8
      have c9 := D1.c9
      have c10 := D1.c10
      clear D1
      go_wp2
      go_ret
      exact ⟨ret_int (by rw [HL.out]), hb.trans (hb1.mono hb.size)⟩
theorem rsize_pkt (w : World) (p : Pkt) (l : Loc) (he : p.ext.length ≤ 140737488351232) (hp : p.pay.length ≤ 140737488351232) : Calls Try.prog 61 #[pkt (pvOf p l)] w (RetI w (sizeP p)) := by
  have := rsize_any (pvOf p l) w (mayPB p) he hp (fun W => rmay_pkt W p l he) (fun h => by have hm := (mayPB_iff p).1 h; exact ⟨hm.csrc, hm.pad0, hm.pad1⟩)
  rw [lenV_of] at this
  exact this
end Go.Proofs.Ytdnnfoacpjgloaa.Rtp

namespace Go.Proofs.Ytdnnfoacpjgloaa.Rtp
open Go.RowKit
set_option linter.unusedVariables false

/-- What an Append leaves: a row of M bytes in a block from w's second new one on. -/
def AppR (w W : World) (M : Nat) (zs : List Int) (e : Ending) (w' : World) : Prop := ∃ A c, e = .returned (.slice A M c) ∧ Own w' (w.heap.size + 1) A M c zs ∧ Below W.heap.size W w'
theorem app_any (w W : World) (A : Option Addr) (m M c s : Nat) (x : Int) (ys zs : List Int) (ho : Own W (w.heap.size + 1) A m c ys) (hW : w.heap.size + 1 ≤ W.heap.size) (hM : m + s = M) (hz : ys ++ be s x = zs) (hm : m ≤ 4096) (h1 : 1 ≤ s) (h2 : s ≤ 8) (hx : 0 ≤ x) (hx2 : x < 256 ^ s) :
    Calls Try.prog 62 #[.slice A m c, .int .i64 s, .int .u64 x] W (AppR w W M zs) := by
  subst hM; subst hz
  have hp := pow_le8 s h2
  have h := R1.rappend_any A m c W.heap.size (s : Int) x ys W (by omega) ho.rd (Nat.le_refl _) hx (by omega)
  have e : numApp ys s x = ys ++ be s x := by
    have e1 : sizeB s = true := by simp [sizeB]; omega
    have e2 : fitsB s x = true := by simp [fitsB]; exact hx2
    rw [numApp, e1, e2]; simp
  rw [e] at h
  have hl : (ys ++ be s x).length = m + s := by rw [List.length_append, be_length, ho.len]
  refine h.mono ?_
  rintro e w' ⟨A', c', rfl, ho', hb⟩
  rw [hl] at ho'
  exact ⟨A', c', by rw [hl], ho'.lower hW, hb⟩
theorem own_new (w W : World) (x y : Int) (hW : w.heap.size + 1 ≤ W.heap.size) (h0 : 0 ≤ x ∧ x ≤ 255) (h1 : 0 ≤ y ∧ y ≤ 255) : Own (W.alloc (.cells #[.int .u8 x, .int .u8 y] 5)) (w.heap.size + 1) (some ⟨W.heap.size, 0, none⟩) 2 2 [x, y] :=
  Own.of_blk (alloc_blk W [x, y]) hW (by intro z hz; simp only [List.mem_cons, List.not_mem_nil, or_false] at hz; omega) rfl (by unfold maxLen; omega)
theorem bes_snoc (l : List Int) (x : Int) : bes (l ++ [x]) = bes l ++ be 4 x := by
  induction l with
  | nil => simp [bes]
  | cons y l ih => simp only [List.cons_append, bes, ih, List.append_assoc]
theorem rep_snoc (n : Nat) : List.replicate (n + 1) (0 : Int) = List.replicate n 0 ++ [0] := List.replicate_succ'

end Go.Proofs.Ytdnnfoacpjgloaa.Rtp

namespace Go.Proofs.Ytdnnfoacpjgloaa.Rtp
open Go.RowKit
set_option linter.unusedVariables false

set_option maxHeartbeats 8000000 in
theorem rput_000 (v : PV) (N M1 : Nat) (cs es ps : List Int) (F S : Int) (w : World) (hF : 128 + (v.cn : Int) = F) (hS : v.ty = S) (hF1 : 0 ≤ F ∧ F ≤ 255) (hS1 : 0 ≤ S ∧ S ≤ 255) (hcn : v.cn ≤ 15) (hty : 0 ≤ v.ty ∧ v.ty ≤ 127) (hpad : 0 ≤ v.pad ∧ v.pad ≤ 255)
    (hs : 0 ≤ v.seq ∧ v.seq ≤ 65535) (ht : 0 ≤ v.time ∧ v.time ≤ 4294967295) (hz : 0 ≤ v.ssrc ∧ v.ssrc ≤ 4294967295) (hpr : 0 ≤ v.prof ∧ v.prof ≤ 65535) (hen : v.en ≤ 512) (hpn : v.pn ≤ 512) (hp : ¬ 0 < v.pad) (hh : v.he = false) (hm : v.mrk = false) (hN : N ≤ 512)
    (CM : Hid (∀ W, Calls Try.prog 60 #[pkt v] W (RetB W true))) (CS : Hid (∀ W, Calls Try.prog 61 #[pkt v] W (RetI W N)))
    (h1 : Wd w w.heap.size v.ca v.cn cs) (h2 : Rd w w.heap.size v.ea v.en es) (h3 : Rd w w.heap.size v.pa v.pn ps) (zs : List Int)
    (hzs : zs = ([F, S] ++ be 2 v.seq ++ be 4 v.time ++ be 4 v.ssrc ++ bes cs) ++ ps) :
    Calls Try.prog 44 #[pkt v] w (RetR w zs 0) := by
  subst hS
  have hb0 := (Below.refl w.heap.size w).alloc (Nat.le_refl _) (pobj v)
  have CA := Lib.hid (app_any w)
  have HH := Lib.hid hh
  have HM := Lib.hid hm
  have H2 := Lib.hid h2
  have H3 := Lib.hid h3
  have HZ := Lib.hid hzs
  obtain ⟨ca, hca⟩ : ∃ ca, v.ca = ca := ⟨_, rfl⟩
  rw [hca] at h1
  have HCA := Lib.hid hca
  have HCS : Hid (∀ W k, Below w.heap.size w W → k < v.cn → ∃ b off x, ca = some ⟨b, off, none⟩ ∧ cs.getD k 0 = x ∧ 0 ≤ x ∧ x ≤ 4294967295 ∧ W.cell? ⟨b, off + k, none⟩ = some (.int .u32 x)) := fun W k hW hk => by
    obtain ⟨b, off, e, hlt, hc⟩ := h1.2.2 (by omega)
    have := h1.2.1.getD k
    exact ⟨b, off, _, e, rfl, this.1, this.2, (hW.cell (p := ⟨b, off + k, none⟩) hlt).trans (hc k hk)⟩
  have HLC := Lib.hid h1.1
  have q0 : IntKind.u8.wrap F = F := wrap8 _ hF1.1 hF1.2
  have q1 : IntKind.u8.wrap v.ty = v.ty := wrap8 _ hS1.1 hS1.2
  have p1 : IntKind.u64.wrap v.seq = v.seq := by simp [IntKind.wrap, IntKind.bits, IntKind.signed]; omega
  have p2 : IntKind.u64.wrap v.time = v.time := by simp [IntKind.wrap, IntKind.bits, IntKind.signed]; omega
  have p3 : IntKind.u64.wrap v.ssrc = v.ssrc := by simp [IntKind.wrap, IntKind.bits, IntKind.signed]; omega
  have hN' : ¬ (512 : Int) < N := by omega
  obtain ⟨P, hP⟩ := Int.eq_ofNat_of_zero_le hpad.1
  have HPP := Lib.hid hP
  have hPb : P ≤ 255 := by omega
  have HFIN : Hid (∀ A c M W ys, ys = zs → Own W (w.heap.size + 1) A M c ys → Below w.heap.size w W → RetR w zs 0 (.returned (.tuple #[.slice A M c, .int .i64 0])) W) := by
    rintro A c M W ys rfl ho hb
    have hl := ho.len
    subst hl
    exact ⟨A, c, rfl, ho.lower (Nat.le_succ _), hb⟩
  have hp4 : IntKind.u64.wrap v.prof = v.prof := by simp [IntKind.wrap, IntKind.bits, IntKind.signed]; omega
  obtain ⟨n4, hn4⟩ : ∃ n4, v.en / 4 = n4 := ⟨_, rfl⟩
  have hn4b : n4 ≤ 65535 := by omega
  have q4 : (v.en : Int).tdiv 4 = (n4 : Int) := by rw [Int.tdiv_eq_ediv_of_nonneg (by omega)]; omega
  have hp5 : IntKind.u64.wrap (n4 : Int) = n4 := by simp [IntKind.wrap, IntKind.bits, IntKind.signed]; omega
  have HN4 := Lib.hid hn4
  have HP4 := Lib.hid hp4
  have HP5 := Lib.hid hp5
  have HQ4 := Lib.hid q4
  have hpp : P = 0 := by omega
  clear hh hm h1 h2 h3 hzs hca hP hp4 hn4 q4 hp5
  go_enter Try.func44, Try.ntmps44
  go_wp2_with fail
  refine (CM.out _).mono ?_
  rintro e w1 ⟨rfl, hb1⟩
  have D1 : PBlk w1 w.heap.size v := (PBlk.new w v).below hb1 (by simp)
  have B1 := Lib.hid (hb0.trans (hb1.mono hb0.size))
  clear hb0 hb1 CM
  obtain ⟨d0, d1, d2, d3, d4, d5, d6, d7, d8, d9, d10⟩ := D1.cells
  go_wp2_with fail
  clear d0 d1 d2 d3 d4 d5 d6 d7 d8 d9 d10
  refine (CS.out _).mono ?_
  rintro e w2 ⟨rfl, hb2⟩
  have D2 : PBlk w2 w.heap.size v := D1.below hb2 D1.lt
  have B2 := Lib.hid (B1.out.trans (hb2.mono B1.out.size))
  clear hb2 D1 B1 CS
  have hW2 : w.heap.size + 1 ≤ w2.heap.size := D2.lt
  have hb3 := (Below.refl w2.heap.size w2).alloc (Nat.le_refl _) (.cells #[.int .u8 F, .int .u8 v.ty] 5)
  have D3 := D2.below hb3 D2.lt
  have HO3 := Lib.hid (own_new w w2 F v.ty hW2 hF1 hS1)
  have d5 := D2.c5
  have d10 := D2.c10
  have d6 := D2.c6
  have d1 := D2.c1
  have d0 := D2.c0
  rw [HH.out] at d6
  rw [HM.out] at d0
  have d2 := D3.c2
  go_wp2_with fail
  clear d5 d10 d6 d1 d0 d2 p1
  have B3 := Lib.hid (B2.out.trans (hb3.mono B2.out.size))
  refine (CA.out _ _ 2 4 _ 2 v.seq [F, v.ty] ([F, v.ty] ++ be 2 v.seq) HO3.out (Nat.le_trans hW2 hb3.size) rfl rfl (by omega) (by omega) (by omega) hs.1 (by omega)).mono ?_
  rintro e w4 ⟨A4, c4, rfl, ho4, hb4⟩
  have D4 := D3.below hb4 D3.lt
  have HO4 := Lib.hid ho4
  have B4 := Lib.hid (B3.out.trans (hb4.mono B3.out.size))
  clear ho4 hb4 D3 D2 HO3 B3 B2 hb3 hW2
  have d3 := D4.c3
  go_wp2_with fail
  clear d3 p2
  refine (CA.out _ _ 4 8 _ 4 v.time _ ([F, v.ty] ++ be 2 v.seq ++ be 4 v.time) HO4.out D4.lt rfl rfl (by omega) (by omega) (by omega) ht.1 (by omega)).mono ?_
  rintro e w5 ⟨A5, c5, rfl, ho5, hb5⟩
  have D5 := D4.below hb5 D4.lt
  have HO5 := Lib.hid ho5
  have B5 := Lib.hid (B4.out.trans (hb5.mono B4.out.size))
  clear ho5 hb5 D4 HO4 B4
  have d4 := D5.c4
  go_wp2_with fail
  clear d4 p3
  refine (CA.out _ _ 8 12 _ 4 v.ssrc _ ([F, v.ty] ++ be 2 v.seq ++ be 4 v.time ++ be 4 v.ssrc) HO5.out D5.lt rfl rfl (by omega) (by omega) (by omega) hz.1 (by omega)).mono ?_
  rintro e w6 ⟨A6, c6, rfl, ho6, hb6⟩
  have D6 := D5.below hb6 D5.lt
  have HO6 := Lib.hid ho6
  have B6 := Lib.hid (B5.out.trans (hb6.mono B5.out.size))
  clear ho6 hb6 D5 HO5 B5

  have d5 := D6.c5
  rw [HCA.out] at d5
  obtain ⟨Hd, hHd⟩ : ∃ Hd, [F, v.ty] ++ be 2 v.seq ++ be 4 v.time ++ be 4 v.ssrc = Hd := ⟨_, rfl⟩
  rw [hHd] at HO6
  have HZ' := HZ.out
  rw [hHd] at HZ'
  have HZ2 := Lib.hid HZ'
  clear HZ HZ' hHd HCA
  go_wp2_with fail
  clear d5
  go_loopw [6, 58] (fun sb sk wx => ∃ (k : Nat) (A : Option Addr) (c : Nat), k ≤ v.cn ∧ sk = .int .i64 k ∧ sb = .slice A (12 + 4 * k) c ∧ Own wx (w.heap.size + 1) A (12 + 4 * k) c (Hd ++ bes (cs.take k)) ∧ Below w.heap.size w wx ∧ PBlk wx w.heap.size v)
    (fun _ sk _ => v.cn - (intOf sk).toNat)
  case atStart => exact ⟨0, A6, c6, by omega, rfl, rfl, by simpa [bes] using HO6.out, B6.out, D6⟩
  case round =>
    obtain ⟨k, A, c, hk, rfl, rfl, ho, hb, D⟩ := hrel
    rename World => wx
    clear HO6 B6 D6
    by_cases hlt : k < v.cn
    · obtain ⟨b, off, x, rfl, hx, hx0, hx1, hc⟩ := HCS.out wx k hb hlt
      have p4 : IntKind.u64.wrap x = x := by simp [IntKind.wrap, IntKind.bits, IntKind.signed]; omega
      have hl : Hd ++ bes (cs.take k) ++ be 4 x = Hd ++ bes (cs.take (k + 1)) := by rw [take_snoc k (by rw [HLC.out]; exact hlt), bes_snoc, hx, List.append_assoc]
      have C := CA.out wx A (12 + 4 * k) (12 + 4 * (k + 1)) c 4 x _ _ ho D.lt (by omega) hl (by omega) (by omega) (by omega) hx0 (by omega)
      have HC := Lib.hid C
      clear C hl hx
      go_wp2_with fail
      refine HC.out.mono ?_
      rintro e w7 ⟨A', c', rfl, ho', hb'⟩
      clear hc p4
      go_wp2
      go_roundw
      case rel => exact ⟨k + 1, A', c', by omega, by go_num, rfl, ho', hb.trans (hb'.mono hb.size), D.below hb' D.lt⟩
      case measure => simp [intOf]; omega
    · obtain rfl : k = v.cn := by omega
      rw [List.take_of_length_le (by rw [HLC.out]; exact Nat.le_refl _)] at ho
      clear HCS HLC
      obtain ⟨Y, hY⟩ : ∃ Y, Hd ++ bes cs = Y := ⟨_, rfl⟩
      rw [hY] at ho
      have HZ' := HZ2.out
      rw [hY] at HZ'
      have HZ3 := Lib.hid HZ'
      clear HZ2 HZ' hY
      obtain ⟨m, hm4⟩ : ∃ m, 12 + 4 * v.cn = m := ⟨_, rfl⟩
      have hmb : m ≤ 72 := by omega
      rw [hm4] at ho
      simp only [hm4]
      have d6 := D.c6
      rw [HH.out] at d6
      have d9 := D.c9
      go_wp2_with (at_builtin; refine wpList_append_bytes rfl (.tmp 85) (.tmp 87) rfl (w.heap.size + 1) w.heap.size m c v.pn v.pc (m + v.pn) A v.pa Y ps (Y ++ ps) rfl rfl rfl rfl ho (H3.out.below hb) D.lt (by omega) ?_
                   intro A11 c11 w11 ho11 hb11
                   have D11 := D.below hb11 (Nat.lt_succ_self _)
                   have B11 := Lib.hid (hb.trans (hb11.mono (Nat.le_succ _))))
      clear d6 d9 hb11 ho hb D
      obtain ⟨M, hM⟩ : ∃ M, m + v.pn = M := ⟨_, rfl⟩
      have hMb : M ≤ 2000 := by omega
      rw [hM] at ho11
      simp only [hM]
      have HZ' := HZ3.out
      obtain ⟨Z, hZ⟩ : ∃ Z, Y ++ ps = Z := ⟨_, rfl⟩
      rw [hZ] at HZ' ho11
      have HZ4 := Lib.hid HZ'
      have HO11 := Lib.hid ho11
      clear HZ' HZ3 hZ hM ho11 HN4 HP4 HP5 HQ4 H2 H3
      go_loopw [6, 9] (fun sb sk wx => ∃ (j : Nat) (A : Option Addr) (c : Nat), j ≤ P - 1 ∧ sk = .int .i64 ((j + 1 : Nat) : Int) ∧ sb = .slice A (M + j) c ∧ Own wx (w.heap.size + 1) A (M + j) c (Z ++ List.replicate j 0) ∧ Below w.heap.size w wx ∧ PBlk wx w.heap.size v)
        (fun _ sk _ => P - (intOf sk).toNat)
      case atStart => exact ⟨0, A11, c11, by omega, rfl, rfl, by simpa using HO11.out, B11.out, D11⟩
      case round =>
        obtain ⟨j, A', c', hj, rfl, rfl, ho, hb, D⟩ := hrel
        rename World => wy
        clear HO11 B11 D11
        have d10 := D.c10
        rw [HPP.out] at d10
        by_cases hlt : j + 1 < P
        · omega
        · obtain rfl : j = 0 := by omega
          have i1 : ¬ ((0 + 1 : Nat) : Int) < (P : Int) := by omega
          have i2 : ¬ (0 : Int) < (P : Int) := by omega
          go_wp2
          go_ret2
          refine HFIN.out A' c' _ _ _ ?_ ho hb
          rw [HZ4.out]; simp

set_option maxHeartbeats 8000000 in
theorem rput_001 (v : PV) (N M1 : Nat) (cs es ps : List Int) (F S : Int) (w : World) (hF : 128 + (v.cn : Int) = F) (hS : v.ty + 128 = S) (hF1 : 0 ≤ F ∧ F ≤ 255) (hS1 : 0 ≤ S ∧ S ≤ 255) (hcn : v.cn ≤ 15) (hty : 0 ≤ v.ty ∧ v.ty ≤ 127) (hpad : 0 ≤ v.pad ∧ v.pad ≤ 255)
    (hs : 0 ≤ v.seq ∧ v.seq ≤ 65535) (ht : 0 ≤ v.time ∧ v.time ≤ 4294967295) (hz : 0 ≤ v.ssrc ∧ v.ssrc ≤ 4294967295) (hpr : 0 ≤ v.prof ∧ v.prof ≤ 65535) (hen : v.en ≤ 512) (hpn : v.pn ≤ 512) (hp : ¬ 0 < v.pad) (hh : v.he = false) (hm : v.mrk = true) (hN : N ≤ 512)
    (CM : Hid (∀ W, Calls Try.prog 60 #[pkt v] W (RetB W true))) (CS : Hid (∀ W, Calls Try.prog 61 #[pkt v] W (RetI W N)))
    (h1 : Wd w w.heap.size v.ca v.cn cs) (h2 : Rd w w.heap.size v.ea v.en es) (h3 : Rd w w.heap.size v.pa v.pn ps) (zs : List Int)
    (hzs : zs = ([F, S] ++ be 2 v.seq ++ be 4 v.time ++ be 4 v.ssrc ++ bes cs) ++ ps) :
    Calls Try.prog 44 #[pkt v] w (RetR w zs 0) := by
  have hb0 := (Below.refl w.heap.size w).alloc (Nat.le_refl _) (pobj v)
  have CA := Lib.hid (app_any w)
  have HH := Lib.hid hh
  have HM := Lib.hid hm
  have H2 := Lib.hid h2
  have H3 := Lib.hid h3
  have HZ := Lib.hid hzs
  obtain ⟨ca, hca⟩ : ∃ ca, v.ca = ca := ⟨_, rfl⟩
  rw [hca] at h1
  have HCA := Lib.hid hca
  have HCS : Hid (∀ W k, Below w.heap.size w W → k < v.cn → ∃ b off x, ca = some ⟨b, off, none⟩ ∧ cs.getD k 0 = x ∧ 0 ≤ x ∧ x ≤ 4294967295 ∧ W.cell? ⟨b, off + k, none⟩ = some (.int .u32 x)) := fun W k hW hk => by
    obtain ⟨b, off, e, hlt, hc⟩ := h1.2.2 (by omega)
    have := h1.2.1.getD k
    exact ⟨b, off, _, e, rfl, this.1, this.2, (hW.cell (p := ⟨b, off + k, none⟩) hlt).trans (hc k hk)⟩
  have HLC := Lib.hid h1.1
  have q0 : IntKind.u8.wrap F = F := wrap8 _ hF1.1 hF1.2
  have q1 : IntKind.u8.wrap S = S := wrap8 _ hS1.1 hS1.2
  have p1 : IntKind.u64.wrap v.seq = v.seq := by simp [IntKind.wrap, IntKind.bits, IntKind.signed]; omega
  have p2 : IntKind.u64.wrap v.time = v.time := by simp [IntKind.wrap, IntKind.bits, IntKind.signed]; omega
  have p3 : IntKind.u64.wrap v.ssrc = v.ssrc := by simp [IntKind.wrap, IntKind.bits, IntKind.signed]; omega
  have hN' : ¬ (512 : Int) < N := by omega
  obtain ⟨P, hP⟩ := Int.eq_ofNat_of_zero_le hpad.1
  have HPP := Lib.hid hP
  have hPb : P ≤ 255 := by omega
  have HFIN : Hid (∀ A c M W ys, ys = zs → Own W (w.heap.size + 1) A M c ys → Below w.heap.size w W → RetR w zs 0 (.returned (.tuple #[.slice A M c, .int .i64 0])) W) := by
    rintro A c M W ys rfl ho hb
    have hl := ho.len
    subst hl
    exact ⟨A, c, rfl, ho.lower (Nat.le_succ _), hb⟩
  have hp4 : IntKind.u64.wrap v.prof = v.prof := by simp [IntKind.wrap, IntKind.bits, IntKind.signed]; omega
  obtain ⟨n4, hn4⟩ : ∃ n4, v.en / 4 = n4 := ⟨_, rfl⟩
  have hn4b : n4 ≤ 65535 := by omega
  have q4 : (v.en : Int).tdiv 4 = (n4 : Int) := by rw [Int.tdiv_eq_ediv_of_nonneg (by omega)]; omega
  have hp5 : IntKind.u64.wrap (n4 : Int) = n4 := by simp [IntKind.wrap, IntKind.bits, IntKind.signed]; omega
  have HN4 := Lib.hid hn4
  have HP4 := Lib.hid hp4
  have HP5 := Lib.hid hp5
  have HQ4 := Lib.hid q4
  have hpp : P = 0 := by omega
  clear hh hm h1 h2 h3 hzs hca hP hp4 hn4 q4 hp5
  go_enter Try.func44, Try.ntmps44
  go_wp2_with fail
  refine (CM.out _).mono ?_
  rintro e w1 ⟨rfl, hb1⟩
  have D1 : PBlk w1 w.heap.size v := (PBlk.new w v).below hb1 (by simp)
  have B1 := Lib.hid (hb0.trans (hb1.mono hb0.size))
  clear hb0 hb1 CM
  obtain ⟨d0, d1, d2, d3, d4, d5, d6, d7, d8, d9, d10⟩ := D1.cells
  go_wp2_with fail
  clear d0 d1 d2 d3 d4 d5 d6 d7 d8 d9 d10
  refine (CS.out _).mono ?_
  rintro e w2 ⟨rfl, hb2⟩
  have D2 : PBlk w2 w.heap.size v := D1.below hb2 D1.lt
  have B2 := Lib.hid (B1.out.trans (hb2.mono B1.out.size))
  clear hb2 D1 B1 CS
  have hW2 : w.heap.size + 1 ≤ w2.heap.size := D2.lt
  have hb3 := (Below.refl w2.heap.size w2).alloc (Nat.le_refl _) (.cells #[.int .u8 F, .int .u8 S] 5)
  have D3 := D2.below hb3 D2.lt
  have HO3 := Lib.hid (own_new w w2 F S hW2 hF1 hS1)
  have d5 := D2.c5
  have d10 := D2.c10
  have d6 := D2.c6
  have d1 := D2.c1
  have d0 := D2.c0
  rw [HH.out] at d6
  rw [HM.out] at d0
  have d2 := D3.c2
  go_wp2_with fail
  clear d5 d10 d6 d1 d0 d2 p1
  have B3 := Lib.hid (B2.out.trans (hb3.mono B2.out.size))
  refine (CA.out _ _ 2 4 _ 2 v.seq [F, S] ([F, S] ++ be 2 v.seq) HO3.out (Nat.le_trans hW2 hb3.size) rfl rfl (by omega) (by omega) (by omega) hs.1 (by omega)).mono ?_
  rintro e w4 ⟨A4, c4, rfl, ho4, hb4⟩
  have D4 := D3.below hb4 D3.lt
  have HO4 := Lib.hid ho4
  have B4 := Lib.hid (B3.out.trans (hb4.mono B3.out.size))
  clear ho4 hb4 D3 D2 HO3 B3 B2 hb3 hW2
  have d3 := D4.c3
  go_wp2_with fail
  clear d3 p2
  refine (CA.out _ _ 4 8 _ 4 v.time _ ([F, S] ++ be 2 v.seq ++ be 4 v.time) HO4.out D4.lt rfl rfl (by omega) (by omega) (by omega) ht.1 (by omega)).mono ?_
  rintro e w5 ⟨A5, c5, rfl, ho5, hb5⟩
  have D5 := D4.below hb5 D4.lt
  have HO5 := Lib.hid ho5
  have B5 := Lib.hid (B4.out.trans (hb5.mono B4.out.size))
  clear ho5 hb5 D4 HO4 B4
  have d4 := D5.c4
  go_wp2_with fail
  clear d4 p3
  refine (CA.out _ _ 8 12 _ 4 v.ssrc _ ([F, S] ++ be 2 v.seq ++ be 4 v.time ++ be 4 v.ssrc) HO5.out D5.lt rfl rfl (by omega) (by omega) (by omega) hz.1 (by omega)).mono ?_
  rintro e w6 ⟨A6, c6, rfl, ho6, hb6⟩
  have D6 := D5.below hb6 D5.lt
  have HO6 := Lib.hid ho6
  have B6 := Lib.hid (B5.out.trans (hb6.mono B5.out.size))
  clear ho6 hb6 D5 HO5 B5

  have d5 := D6.c5
  rw [HCA.out] at d5
  obtain ⟨Hd, hHd⟩ : ∃ Hd, [F, S] ++ be 2 v.seq ++ be 4 v.time ++ be 4 v.ssrc = Hd := ⟨_, rfl⟩
  rw [hHd] at HO6
  have HZ' := HZ.out
  rw [hHd] at HZ'
  have HZ2 := Lib.hid HZ'
  clear HZ HZ' hHd HCA
  go_wp2_with fail
  clear d5
  go_loopw [6, 58] (fun sb sk wx => ∃ (k : Nat) (A : Option Addr) (c : Nat), k ≤ v.cn ∧ sk = .int .i64 k ∧ sb = .slice A (12 + 4 * k) c ∧ Own wx (w.heap.size + 1) A (12 + 4 * k) c (Hd ++ bes (cs.take k)) ∧ Below w.heap.size w wx ∧ PBlk wx w.heap.size v)
    (fun _ sk _ => v.cn - (intOf sk).toNat)
  case atStart => exact ⟨0, A6, c6, by omega, rfl, rfl, by simpa [bes] using HO6.out, B6.out, D6⟩
  case round =>
    obtain ⟨k, A, c, hk, rfl, rfl, ho, hb, D⟩ := hrel
    rename World => wx
    clear HO6 B6 D6
    by_cases hlt : k < v.cn
    · obtain ⟨b, off, x, rfl, hx, hx0, hx1, hc⟩ := HCS.out wx k hb hlt
      have p4 : IntKind.u64.wrap x = x := by simp [IntKind.wrap, IntKind.bits, IntKind.signed]; omega
      have hl : Hd ++ bes (cs.take k) ++ be 4 x = Hd ++ bes (cs.take (k + 1)) := by rw [take_snoc k (by rw [HLC.out]; exact hlt), bes_snoc, hx, List.append_assoc]
      have C := CA.out wx A (12 + 4 * k) (12 + 4 * (k + 1)) c 4 x _ _ ho D.lt (by omega) hl (by omega) (by omega) (by omega) hx0 (by omega)
      have HC := Lib.hid C
      clear C hl hx
      go_wp2_with fail
      refine HC.out.mono ?_
      rintro e w7 ⟨A', c', rfl, ho', hb'⟩
      clear hc p4
      go_wp2
      go_roundw
      case rel => exact ⟨k + 1, A', c', by omega, by go_num, rfl, ho', hb.trans (hb'.mono hb.size), D.below hb' D.lt⟩
      case measure => simp [intOf]; omega
    · obtain rfl : k = v.cn := by omega
      rw [List.take_of_length_le (by rw [HLC.out]; exact Nat.le_refl _)] at ho
      clear HCS HLC
      obtain ⟨Y, hY⟩ : ∃ Y, Hd ++ bes cs = Y := ⟨_, rfl⟩
      rw [hY] at ho
      have HZ' := HZ2.out
      rw [hY] at HZ'
      have HZ3 := Lib.hid HZ'
      clear HZ2 HZ' hY
      obtain ⟨m, hm4⟩ : ∃ m, 12 + 4 * v.cn = m := ⟨_, rfl⟩
      have hmb : m ≤ 72 := by omega
      rw [hm4] at ho
      simp only [hm4]
      have d6 := D.c6
      rw [HH.out] at d6
      have d9 := D.c9
      go_wp2_with (at_builtin; refine wpList_append_bytes rfl (.tmp 85) (.tmp 87) rfl (w.heap.size + 1) w.heap.size m c v.pn v.pc (m + v.pn) A v.pa Y ps (Y ++ ps) rfl rfl rfl rfl ho (H3.out.below hb) D.lt (by omega) ?_
                   intro A11 c11 w11 ho11 hb11
                   have D11 := D.below hb11 (Nat.lt_succ_self _)
                   have B11 := Lib.hid (hb.trans (hb11.mono (Nat.le_succ _))))
      clear d6 d9 hb11 ho hb D
      obtain ⟨M, hM⟩ : ∃ M, m + v.pn = M := ⟨_, rfl⟩
      have hMb : M ≤ 2000 := by omega
      rw [hM] at ho11
      simp only [hM]
      have HZ' := HZ3.out
      obtain ⟨Z, hZ⟩ : ∃ Z, Y ++ ps = Z := ⟨_, rfl⟩
      rw [hZ] at HZ' ho11
      have HZ4 := Lib.hid HZ'
      have HO11 := Lib.hid ho11
      clear HZ' HZ3 hZ hM ho11 HN4 HP4 HP5 HQ4 H2 H3
      go_loopw [6, 9] (fun sb sk wx => ∃ (j : Nat) (A : Option Addr) (c : Nat), j ≤ P - 1 ∧ sk = .int .i64 ((j + 1 : Nat) : Int) ∧ sb = .slice A (M + j) c ∧ Own wx (w.heap.size + 1) A (M + j) c (Z ++ List.replicate j 0) ∧ Below w.heap.size w wx ∧ PBlk wx w.heap.size v)
        (fun _ sk _ => P - (intOf sk).toNat)
      case atStart => exact ⟨0, A11, c11, by omega, rfl, rfl, by simpa using HO11.out, B11.out, D11⟩
      case round =>
        obtain ⟨j, A', c', hj, rfl, rfl, ho, hb, D⟩ := hrel
        rename World => wy
        clear HO11 B11 D11
        have d10 := D.c10
        rw [HPP.out] at d10
        by_cases hlt : j + 1 < P
        · omega
        · obtain rfl : j = 0 := by omega
          have i1 : ¬ ((0 + 1 : Nat) : Int) < (P : Int) := by omega
          have i2 : ¬ (0 : Int) < (P : Int) := by omega
          go_wp2
          go_ret2
          refine HFIN.out A' c' _ _ _ ?_ ho hb
          rw [HZ4.out]; simp

end Go.Proofs.Ytdnnfoacpjgloaa.Rtp

namespace Go.Proofs.Ytdnnfoacpjgloaa.Rtp
open Go.RowKit
set_option linter.unusedVariables false

set_option maxHeartbeats 8000000 in
theorem rput_010 (v : PV) (N M1 : Nat) (cs es ps : List Int) (F S : Int) (w : World) (hF : 128 + (v.cn : Int) + 16 = F) (hS : v.ty = S) (hF1 : 0 ≤ F ∧ F ≤ 255) (hS1 : 0 ≤ S ∧ S ≤ 255) (hcn : v.cn ≤ 15) (hty : 0 ≤ v.ty ∧ v.ty ≤ 127) (hpad : 0 ≤ v.pad ∧ v.pad ≤ 255)
    (hs : 0 ≤ v.seq ∧ v.seq ≤ 65535) (ht : 0 ≤ v.time ∧ v.time ≤ 4294967295) (hz : 0 ≤ v.ssrc ∧ v.ssrc ≤ 4294967295) (hpr : 0 ≤ v.prof ∧ v.prof ≤ 65535) (hen : v.en ≤ 512) (hpn : v.pn ≤ 512) (hp : ¬ 0 < v.pad) (hh : v.he = true) (hm : v.mrk = false) (hN : N ≤ 512)
    (CM : Hid (∀ W, Calls Try.prog 60 #[pkt v] W (RetB W true))) (CS : Hid (∀ W, Calls Try.prog 61 #[pkt v] W (RetI W N)))
    (h1 : Wd w w.heap.size v.ca v.cn cs) (h2 : Rd w w.heap.size v.ea v.en es) (h3 : Rd w w.heap.size v.pa v.pn ps) (zs : List Int)
    (hzs : zs = ([F, S] ++ be 2 v.seq ++ be 4 v.time ++ be 4 v.ssrc ++ bes cs) ++ be 2 v.prof ++ be 2 ((v.en / 4 : Nat) : Int) ++ es ++ ps) :
    Calls Try.prog 44 #[pkt v] w (RetR w zs 0) := by
  subst hS
  have hb0 := (Below.refl w.heap.size w).alloc (Nat.le_refl _) (pobj v)
  have CA := Lib.hid (app_any w)
  have HH := Lib.hid hh
  have HM := Lib.hid hm
  have H2 := Lib.hid h2
  have H3 := Lib.hid h3
  have HZ := Lib.hid hzs
  obtain ⟨ca, hca⟩ : ∃ ca, v.ca = ca := ⟨_, rfl⟩
  rw [hca] at h1
  have HCA := Lib.hid hca
  have HCS : Hid (∀ W k, Below w.heap.size w W → k < v.cn → ∃ b off x, ca = some ⟨b, off, none⟩ ∧ cs.getD k 0 = x ∧ 0 ≤ x ∧ x ≤ 4294967295 ∧ W.cell? ⟨b, off + k, none⟩ = some (.int .u32 x)) := fun W k hW hk => by
    obtain ⟨b, off, e, hlt, hc⟩ := h1.2.2 (by omega)
    have := h1.2.1.getD k
    exact ⟨b, off, _, e, rfl, this.1, this.2, (hW.cell (p := ⟨b, off + k, none⟩) hlt).trans (hc k hk)⟩
  have HLC := Lib.hid h1.1
  have q0 : IntKind.u8.wrap F = F := wrap8 _ hF1.1 hF1.2
  have q1 : IntKind.u8.wrap v.ty = v.ty := wrap8 _ hS1.1 hS1.2
  have p1 : IntKind.u64.wrap v.seq = v.seq := by simp [IntKind.wrap, IntKind.bits, IntKind.signed]; omega
  have p2 : IntKind.u64.wrap v.time = v.time := by simp [IntKind.wrap, IntKind.bits, IntKind.signed]; omega
  have p3 : IntKind.u64.wrap v.ssrc = v.ssrc := by simp [IntKind.wrap, IntKind.bits, IntKind.signed]; omega
  have hN' : ¬ (512 : Int) < N := by omega
  obtain ⟨P, hP⟩ := Int.eq_ofNat_of_zero_le hpad.1
  have HPP := Lib.hid hP
  have hPb : P ≤ 255 := by omega
  have HFIN : Hid (∀ A c M W ys, ys = zs → Own W (w.heap.size + 1) A M c ys → Below w.heap.size w W → RetR w zs 0 (.returned (.tuple #[.slice A M c, .int .i64 0])) W) := by
    rintro A c M W ys rfl ho hb
    have hl := ho.len
    subst hl
    exact ⟨A, c, rfl, ho.lower (Nat.le_succ _), hb⟩
  have hp4 : IntKind.u64.wrap v.prof = v.prof := by simp [IntKind.wrap, IntKind.bits, IntKind.signed]; omega
  obtain ⟨n4, hn4⟩ : ∃ n4, v.en / 4 = n4 := ⟨_, rfl⟩
  have hn4b : n4 ≤ 65535 := by omega
  have q4 : (v.en : Int).tdiv 4 = (n4 : Int) := by rw [Int.tdiv_eq_ediv_of_nonneg (by omega)]; omega
  have hp5 : IntKind.u64.wrap (n4 : Int) = n4 := by simp [IntKind.wrap, IntKind.bits, IntKind.signed]; omega
  have HN4 := Lib.hid hn4
  have HP4 := Lib.hid hp4
  have HP5 := Lib.hid hp5
  have HQ4 := Lib.hid q4
  have hpp : P = 0 := by omega
  clear hh hm h1 h2 h3 hzs hca hP hp4 hn4 q4 hp5
  go_enter Try.func44, Try.ntmps44
  go_wp2_with fail
  refine (CM.out _).mono ?_
  rintro e w1 ⟨rfl, hb1⟩
  have D1 : PBlk w1 w.heap.size v := (PBlk.new w v).below hb1 (by simp)
  have B1 := Lib.hid (hb0.trans (hb1.mono hb0.size))
  clear hb0 hb1 CM
  obtain ⟨d0, d1, d2, d3, d4, d5, d6, d7, d8, d9, d10⟩ := D1.cells
  go_wp2_with fail
  clear d0 d1 d2 d3 d4 d5 d6 d7 d8 d9 d10
  refine (CS.out _).mono ?_
  rintro e w2 ⟨rfl, hb2⟩
  have D2 : PBlk w2 w.heap.size v := D1.below hb2 D1.lt
  have B2 := Lib.hid (B1.out.trans (hb2.mono B1.out.size))
  clear hb2 D1 B1 CS
  have hW2 : w.heap.size + 1 ≤ w2.heap.size := D2.lt
  have hb3 := (Below.refl w2.heap.size w2).alloc (Nat.le_refl _) (.cells #[.int .u8 F, .int .u8 v.ty] 5)
  have D3 := D2.below hb3 D2.lt
  have HO3 := Lib.hid (own_new w w2 F v.ty hW2 hF1 hS1)
  have d5 := D2.c5
  have d10 := D2.c10
  have d6 := D2.c6
  have d1 := D2.c1
  have d0 := D2.c0
  rw [HH.out] at d6
  rw [HM.out] at d0
  have d2 := D3.c2
  go_wp2_with fail
  clear d5 d10 d6 d1 d0 d2 p1
  have B3 := Lib.hid (B2.out.trans (hb3.mono B2.out.size))
  refine (CA.out _ _ 2 4 _ 2 v.seq [F, v.ty] ([F, v.ty] ++ be 2 v.seq) HO3.out (Nat.le_trans hW2 hb3.size) rfl rfl (by omega) (by omega) (by omega) hs.1 (by omega)).mono ?_
  rintro e w4 ⟨A4, c4, rfl, ho4, hb4⟩
  have D4 := D3.below hb4 D3.lt
  have HO4 := Lib.hid ho4
  have B4 := Lib.hid (B3.out.trans (hb4.mono B3.out.size))
  clear ho4 hb4 D3 D2 HO3 B3 B2 hb3 hW2
  have d3 := D4.c3
  go_wp2_with fail
  clear d3 p2
  refine (CA.out _ _ 4 8 _ 4 v.time _ ([F, v.ty] ++ be 2 v.seq ++ be 4 v.time) HO4.out D4.lt rfl rfl (by omega) (by omega) (by omega) ht.1 (by omega)).mono ?_
  rintro e w5 ⟨A5, c5, rfl, ho5, hb5⟩
  have D5 := D4.below hb5 D4.lt
  have HO5 := Lib.hid ho5
  have B5 := Lib.hid (B4.out.trans (hb5.mono B4.out.size))
  clear ho5 hb5 D4 HO4 B4
  have d4 := D5.c4
  go_wp2_with fail
  clear d4 p3
  refine (CA.out _ _ 8 12 _ 4 v.ssrc _ ([F, v.ty] ++ be 2 v.seq ++ be 4 v.time ++ be 4 v.ssrc) HO5.out D5.lt rfl rfl (by omega) (by omega) (by omega) hz.1 (by omega)).mono ?_
  rintro e w6 ⟨A6, c6, rfl, ho6, hb6⟩
  have D6 := D5.below hb6 D5.lt
  have HO6 := Lib.hid ho6
  have B6 := Lib.hid (B5.out.trans (hb6.mono B5.out.size))
  clear ho6 hb6 D5 HO5 B5

  have d5 := D6.c5
  rw [HCA.out] at d5
  obtain ⟨Hd, hHd⟩ : ∃ Hd, [F, v.ty] ++ be 2 v.seq ++ be 4 v.time ++ be 4 v.ssrc = Hd := ⟨_, rfl⟩
  rw [hHd] at HO6
  have HZ' := HZ.out
  rw [hHd] at HZ'
  have HZ2 := Lib.hid HZ'
  clear HZ HZ' hHd HCA
  go_wp2_with fail
  clear d5
  go_loopw [6, 58] (fun sb sk wx => ∃ (k : Nat) (A : Option Addr) (c : Nat), k ≤ v.cn ∧ sk = .int .i64 k ∧ sb = .slice A (12 + 4 * k) c ∧ Own wx (w.heap.size + 1) A (12 + 4 * k) c (Hd ++ bes (cs.take k)) ∧ Below w.heap.size w wx ∧ PBlk wx w.heap.size v)
    (fun _ sk _ => v.cn - (intOf sk).toNat)
  case atStart => exact ⟨0, A6, c6, by omega, rfl, rfl, by simpa [bes] using HO6.out, B6.out, D6⟩
  case round =>
    obtain ⟨k, A, c, hk, rfl, rfl, ho, hb, D⟩ := hrel
    rename World => wx
    clear HO6 B6 D6
    by_cases hlt : k < v.cn
    · obtain ⟨b, off, x, rfl, hx, hx0, hx1, hc⟩ := HCS.out wx k hb hlt
      have p4 : IntKind.u64.wrap x = x := by simp [IntKind.wrap, IntKind.bits, IntKind.signed]; omega
      have hl : Hd ++ bes (cs.take k) ++ be 4 x = Hd ++ bes (cs.take (k + 1)) := by rw [take_snoc k (by rw [HLC.out]; exact hlt), bes_snoc, hx, List.append_assoc]
      have C := CA.out wx A (12 + 4 * k) (12 + 4 * (k + 1)) c 4 x _ _ ho D.lt (by omega) hl (by omega) (by omega) (by omega) hx0 (by omega)
      have HC := Lib.hid C
      clear C hl hx
      go_wp2_with fail
      refine HC.out.mono ?_
      rintro e w7 ⟨A', c', rfl, ho', hb'⟩
      clear hc p4
      go_wp2
      go_roundw
      case rel => exact ⟨k + 1, A', c', by omega, by go_num, rfl, ho', hb.trans (hb'.mono hb.size), D.below hb' D.lt⟩
      case measure => simp [intOf]; omega
    · obtain rfl : k = v.cn := by omega
      rw [List.take_of_length_le (by rw [HLC.out]; exact Nat.le_refl _)] at ho
      clear HCS HLC
      obtain ⟨Y, hY⟩ : ∃ Y, Hd ++ bes cs = Y := ⟨_, rfl⟩
      rw [hY] at ho
      have HZ' := HZ2.out
      rw [hY] at HZ'
      have HZ3 := Lib.hid HZ'
      clear HZ2 HZ' hY
      obtain ⟨m, hm4⟩ : ∃ m, 12 + 4 * v.cn = m := ⟨_, rfl⟩
      have hmb : m ≤ 72 := by omega
      rw [hm4] at ho
      simp only [hm4]
      have d6 := D.c6
      rw [HH.out] at d6
      have d7 := D.c7
      have p4 := HP4.out
      have HO := Lib.hid ho
      go_wp2_with fail
      clear d6 d7 p4
      refine (CA.out wx A m (m + 2) c 2 v.prof Y (Y ++ be 2 v.prof) HO.out D.lt rfl rfl (by omega) (by omega) (by omega) hpr.1 (by omega)).mono ?_
      rintro e w8 ⟨A8, c8, rfl, ho8, hb8⟩
      have D8 := D.below hb8 D.lt
      have B8 := Lib.hid (hb.trans (hb8.mono hb.size))
      have HO8 := Lib.hid ho8
      clear ho8 hb8 D HO hb ho
      have d8 := D8.c8
      have p5 := HP5.out
      have q4 := HQ4.out
      go_wp2_with fail
      clear d8 p5 q4
      refine (CA.out w8 A8 (m + 2) (m + 4) c8 2 (n4 : Int) _ (Y ++ be 2 v.prof ++ be 2 (n4 : Int)) HO8.out D8.lt rfl rfl (by omega) (by omega) (by omega) (by omega) (by omega)).mono ?_
      rintro e w9 ⟨A9, c9, rfl, ho9, hb9⟩
      have D9 := D8.below hb9 D8.lt
      have B9 := Lib.hid (B8.out.trans (hb9.mono B8.out.size))
      clear hb9 D8 HO8 B8
      have d8 := D9.c8
      go_wp2_with (first
        | (at_builtin; refine wpList_append_bytes rfl (.tmp 81) (.tmp 83) rfl (w.heap.size + 1) w.heap.size (m + 4) c9 v.en v.ec (m + 4 + v.en) A9 v.ea (Y ++ be 2 v.prof ++ be 2 (n4 : Int)) es (Y ++ be 2 v.prof ++ be 2 (n4 : Int) ++ es) rfl rfl rfl rfl ho9 (H2.out.below B9.out) D9.lt (by omega) ?_
           intro A10 c10 w10 ho10 hb10
           have D10 := D9.below hb10 (Nat.lt_succ_self _)
           have B10 := Lib.hid (B9.out.trans (hb10.mono (Nat.le_succ _)))
           have d9 := D10.c9)
        | (at_builtin; refine wpList_append_bytes rfl (.tmp 85) (.tmp 87) rfl (w.heap.size + 1) w.heap.size (m + 4 + v.en) c10 v.pn v.pc (m + 4 + v.en + v.pn) A10 v.pa (Y ++ be 2 v.prof ++ be 2 (n4 : Int) ++ es) ps (Y ++ be 2 v.prof ++ be 2 (n4 : Int) ++ es ++ ps) rfl rfl rfl rfl ho10 (H3.out.below B10.out) D10.lt (by omega) ?_
           intro A11 c11 w11 ho11 hb11
           have D11 := D10.below hb11 (Nat.lt_succ_self _)
           have B11 := Lib.hid (B10.out.trans (hb11.mono (Nat.le_succ _)))))
      clear d8 d9 hb10 hb11 ho9 ho10 D9 D10 B9 B10
      obtain ⟨M, hM⟩ : ∃ M, m + 4 + v.en + v.pn = M := ⟨_, rfl⟩
      have hMb : M ≤ 2000 := by omega
      rw [hM] at ho11
      simp only [hM]
      have HZ' := HZ3.out
      rw [HN4.out] at HZ'
      obtain ⟨Z, hZ⟩ : ∃ Z, Y ++ be 2 v.prof ++ be 2 (n4 : Int) ++ es ++ ps = Z := ⟨_, rfl⟩
      rw [hZ] at HZ' ho11
      have HZ4 := Lib.hid HZ'
      have HO11 := Lib.hid ho11
      clear HZ' HZ3 hZ hM ho11 HN4 HP4 HP5 HQ4 H2 H3
      go_loopw [6, 9] (fun sb sk wx => ∃ (j : Nat) (A : Option Addr) (c : Nat), j ≤ P - 1 ∧ sk = .int .i64 ((j + 1 : Nat) : Int) ∧ sb = .slice A (M + j) c ∧ Own wx (w.heap.size + 1) A (M + j) c (Z ++ List.replicate j 0) ∧ Below w.heap.size w wx ∧ PBlk wx w.heap.size v)
        (fun _ sk _ => P - (intOf sk).toNat)
      case atStart => exact ⟨0, A11, c11, by omega, rfl, rfl, by simpa using HO11.out, B11.out, D11⟩
      case round =>
        obtain ⟨j, A', c', hj, rfl, rfl, ho, hb, D⟩ := hrel
        rename World => wy
        clear HO11 B11 D11
        have d10 := D.c10
        rw [HPP.out] at d10
        by_cases hlt : j + 1 < P
        · omega
        · obtain rfl : j = 0 := by omega
          have i1 : ¬ ((0 + 1 : Nat) : Int) < (P : Int) := by omega
          have i2 : ¬ (0 : Int) < (P : Int) := by omega
          go_wp2
          go_ret2
          refine HFIN.out A' c' _ _ _ ?_ ho hb
          rw [HZ4.out]; simp

set_option maxHeartbeats 8000000 in
theorem rput_011 (v : PV) (N M1 : Nat) (cs es ps : List Int) (F S : Int) (w : World) (hF : 128 + (v.cn : Int) + 16 = F) (hS : v.ty + 128 = S) (hF1 : 0 ≤ F ∧ F ≤ 255) (hS1 : 0 ≤ S ∧ S ≤ 255) (hcn : v.cn ≤ 15) (hty : 0 ≤ v.ty ∧ v.ty ≤ 127) (hpad : 0 ≤ v.pad ∧ v.pad ≤ 255)
    (hs : 0 ≤ v.seq ∧ v.seq ≤ 65535) (ht : 0 ≤ v.time ∧ v.time ≤ 4294967295) (hz : 0 ≤ v.ssrc ∧ v.ssrc ≤ 4294967295) (hpr : 0 ≤ v.prof ∧ v.prof ≤ 65535) (hen : v.en ≤ 512) (hpn : v.pn ≤ 512) (hp : ¬ 0 < v.pad) (hh : v.he = true) (hm : v.mrk = true) (hN : N ≤ 512)
    (CM : Hid (∀ W, Calls Try.prog 60 #[pkt v] W (RetB W true))) (CS : Hid (∀ W, Calls Try.prog 61 #[pkt v] W (RetI W N)))
    (h1 : Wd w w.heap.size v.ca v.cn cs) (h2 : Rd w w.heap.size v.ea v.en es) (h3 : Rd w w.heap.size v.pa v.pn ps) (zs : List Int)
    (hzs : zs = ([F, S] ++ be 2 v.seq ++ be 4 v.time ++ be 4 v.ssrc ++ bes cs) ++ be 2 v.prof ++ be 2 ((v.en / 4 : Nat) : Int) ++ es ++ ps) :
    Calls Try.prog 44 #[pkt v] w (RetR w zs 0) := by
  have hb0 := (Below.refl w.heap.size w).alloc (Nat.le_refl _) (pobj v)
  have CA := Lib.hid (app_any w)
  have HH := Lib.hid hh
  have HM := Lib.hid hm
  have H2 := Lib.hid h2
  have H3 := Lib.hid h3
  have HZ := Lib.hid hzs
  obtain ⟨ca, hca⟩ : ∃ ca, v.ca = ca := ⟨_, rfl⟩
  rw [hca] at h1
  have HCA := Lib.hid hca
  have HCS : Hid (∀ W k, Below w.heap.size w W → k < v.cn → ∃ b off x, ca = some ⟨b, off, none⟩ ∧ cs.getD k 0 = x ∧ 0 ≤ x ∧ x ≤ 4294967295 ∧ W.cell? ⟨b, off + k, none⟩ = some (.int .u32 x)) := fun W k hW hk => by
    obtain ⟨b, off, e, hlt, hc⟩ := h1.2.2 (by omega)
    have := h1.2.1.getD k
    exact ⟨b, off, _, e, rfl, this.1, this.2, (hW.cell (p := ⟨b, off + k, none⟩) hlt).trans (hc k hk)⟩
  have HLC := Lib.hid h1.1
  have q0 : IntKind.u8.wrap F = F := wrap8 _ hF1.1 hF1.2
  have q1 : IntKind.u8.wrap S = S := wrap8 _ hS1.1 hS1.2
  have p1 : IntKind.u64.wrap v.seq = v.seq := by simp [IntKind.wrap, IntKind.bits, IntKind.signed]; omega
  have p2 : IntKind.u64.wrap v.time = v.time := by simp [IntKind.wrap, IntKind.bits, IntKind.signed]; omega
  have p3 : IntKind.u64.wrap v.ssrc = v.ssrc := by simp [IntKind.wrap, IntKind.bits, IntKind.signed]; omega
  have hN' : ¬ (512 : Int) < N := by omega
  obtain ⟨P, hP⟩ := Int.eq_ofNat_of_zero_le hpad.1
  have HPP := Lib.hid hP
  have hPb : P ≤ 255 := by omega
  have HFIN : Hid (∀ A c M W ys, ys = zs → Own W (w.heap.size + 1) A M c ys → Below w.heap.size w W → RetR w zs 0 (.returned (.tuple #[.slice A M c, .int .i64 0])) W) := by
    rintro A c M W ys rfl ho hb
    have hl := ho.len
    subst hl
    exact ⟨A, c, rfl, ho.lower (Nat.le_succ _), hb⟩
  have hp4 : IntKind.u64.wrap v.prof = v.prof := by simp [IntKind.wrap, IntKind.bits, IntKind.signed]; omega
  obtain ⟨n4, hn4⟩ : ∃ n4, v.en / 4 = n4 := ⟨_, rfl⟩
  have hn4b : n4 ≤ 65535 := by omega
  have q4 : (v.en : Int).tdiv 4 = (n4 : Int) := by rw [Int.tdiv_eq_ediv_of_nonneg (by omega)]; omega
  have hp5 : IntKind.u64.wrap (n4 : Int) = n4 := by simp [IntKind.wrap, IntKind.bits, IntKind.signed]; omega
  have HN4 := Lib.hid hn4
  have HP4 := Lib.hid hp4
  have HP5 := Lib.hid hp5
  have HQ4 := Lib.hid q4
  have hpp : P = 0 := by omega
  clear hh hm h1 h2 h3 hzs hca hP hp4 hn4 q4 hp5
  go_enter Try.func44, Try.ntmps44
  go_wp2_with fail
  refine (CM.out _).mono ?_
  rintro e w1 ⟨rfl, hb1⟩
  have D1 : PBlk w1 w.heap.size v := (PBlk.new w v).below hb1 (by simp)
  have B1 := Lib.hid (hb0.trans (hb1.mono hb0.size))
  clear hb0 hb1 CM
  obtain ⟨d0, d1, d2, d3, d4, d5, d6, d7, d8, d9, d10⟩ := D1.cells
  go_wp2_with fail
  clear d0 d1 d2 d3 d4 d5 d6 d7 d8 d9 d10
  refine (CS.out _).mono ?_
  rintro e w2 ⟨rfl, hb2⟩
  have D2 : PBlk w2 w.heap.size v := D1.below hb2 D1.lt
  have B2 := Lib.hid (B1.out.trans (hb2.mono B1.out.size))
  clear hb2 D1 B1 CS
  have hW2 : w.heap.size + 1 ≤ w2.heap.size := D2.lt
  have hb3 := (Below.refl w2.heap.size w2).alloc (Nat.le_refl _) (.cells #[.int .u8 F, .int .u8 S] 5)
  have D3 := D2.below hb3 D2.lt
  have HO3 := Lib.hid (own_new w w2 F S hW2 hF1 hS1)
  have d5 := D2.c5
  have d10 := D2.c10
  have d6 := D2.c6
  have d1 := D2.c1
  have d0 := D2.c0
  rw [HH.out] at d6
  rw [HM.out] at d0
  have d2 := D3.c2
  go_wp2_with fail
  clear d5 d10 d6 d1 d0 d2 p1
  have B3 := Lib.hid (B2.out.trans (hb3.mono B2.out.size))
  refine (CA.out _ _ 2 4 _ 2 v.seq [F, S] ([F, S] ++ be 2 v.seq) HO3.out (Nat.le_trans hW2 hb3.size) rfl rfl (by omega) (by omega) (by omega) hs.1 (by omega)).mono ?_
  rintro e w4 ⟨A4, c4, rfl, ho4, hb4⟩
  have D4 := D3.below hb4 D3.lt
  have HO4 := Lib.hid ho4
  have B4 := Lib.hid (B3.out.trans (hb4.mono B3.out.size))
  clear ho4 hb4 D3 D2 HO3 B3 B2 hb3 hW2
  have d3 := D4.c3
  go_wp2_with fail
  clear d3 p2
  refine (CA.out _ _ 4 8 _ 4 v.time _ ([F, S] ++ be 2 v.seq ++ be 4 v.time) HO4.out D4.lt rfl rfl (by omega) (by omega) (by omega) ht.1 (by omega)).mono ?_
  rintro e w5 ⟨A5, c5, rfl, ho5, hb5⟩
  have D5 := D4.below hb5 D4.lt
  have HO5 := Lib.hid ho5
  have B5 := Lib.hid (B4.out.trans (hb5.mono B4.out.size))
  clear ho5 hb5 D4 HO4 B4
  have d4 := D5.c4
  go_wp2_with fail
  clear d4 p3
  refine (CA.out _ _ 8 12 _ 4 v.ssrc _ ([F, S] ++ be 2 v.seq ++ be 4 v.time ++ be 4 v.ssrc) HO5.out D5.lt rfl rfl (by omega) (by omega) (by omega) hz.1 (by omega)).mono ?_
  rintro e w6 ⟨A6, c6, rfl, ho6, hb6⟩
  have D6 := D5.below hb6 D5.lt
  have HO6 := Lib.hid ho6
  have B6 := Lib.hid (B5.out.trans (hb6.mono B5.out.size))
  clear ho6 hb6 D5 HO5 B5

  have d5 := D6.c5
  rw [HCA.out] at d5
  obtain ⟨Hd, hHd⟩ : ∃ Hd, [F, S] ++ be 2 v.seq ++ be 4 v.time ++ be 4 v.ssrc = Hd := ⟨_, rfl⟩
  rw [hHd] at HO6
  have HZ' := HZ.out
  rw [hHd] at HZ'
  have HZ2 := Lib.hid HZ'
  clear HZ HZ' hHd HCA
  go_wp2_with fail
  clear d5
  go_loopw [6, 58] (fun sb sk wx => ∃ (k : Nat) (A : Option Addr) (c : Nat), k ≤ v.cn ∧ sk = .int .i64 k ∧ sb = .slice A (12 + 4 * k) c ∧ Own wx (w.heap.size + 1) A (12 + 4 * k) c (Hd ++ bes (cs.take k)) ∧ Below w.heap.size w wx ∧ PBlk wx w.heap.size v)
    (fun _ sk _ => v.cn - (intOf sk).toNat)
  case atStart => exact ⟨0, A6, c6, by omega, rfl, rfl, by simpa [bes] using HO6.out, B6.out, D6⟩
  case round =>
    obtain ⟨k, A, c, hk, rfl, rfl, ho, hb, D⟩ := hrel
    rename World => wx
    clear HO6 B6 D6
    by_cases hlt : k < v.cn
    · obtain ⟨b, off, x, rfl, hx, hx0, hx1, hc⟩ := HCS.out wx k hb hlt
      have p4 : IntKind.u64.wrap x = x := by simp [IntKind.wrap, IntKind.bits, IntKind.signed]; omega
      have hl : Hd ++ bes (cs.take k) ++ be 4 x = Hd ++ bes (cs.take (k + 1)) := by rw [take_snoc k (by rw [HLC.out]; exact hlt), bes_snoc, hx, List.append_assoc]
      have C := CA.out wx A (12 + 4 * k) (12 + 4 * (k + 1)) c 4 x _ _ ho D.lt (by omega) hl (by omega) (by omega) (by omega) hx0 (by omega)
      have HC := Lib.hid C
      clear C hl hx
      go_wp2_with fail
      refine HC.out.mono ?_
      rintro e w7 ⟨A', c', rfl, ho', hb'⟩
      clear hc p4
      go_wp2
      go_roundw
      case rel => exact ⟨k + 1, A', c', by omega, by go_num, rfl, ho', hb.trans (hb'.mono hb.size), D.below hb' D.lt⟩
      case measure => simp [intOf]; omega
    · obtain rfl : k = v.cn := by omega
      rw [List.take_of_length_le (by rw [HLC.out]; exact Nat.le_refl _)] at ho
      clear HCS HLC
      obtain ⟨Y, hY⟩ : ∃ Y, Hd ++ bes cs = Y := ⟨_, rfl⟩
      rw [hY] at ho
      have HZ' := HZ2.out
      rw [hY] at HZ'
      have HZ3 := Lib.hid HZ'
      clear HZ2 HZ' hY
      obtain ⟨m, hm4⟩ : ∃ m, 12 + 4 * v.cn = m := ⟨_, rfl⟩
      have hmb : m ≤ 72 := by omega
      rw [hm4] at ho
      simp only [hm4]
      have d6 := D.c6
      rw [HH.out] at d6
      have d7 := D.c7
      have p4 := HP4.out
      have HO := Lib.hid ho
      go_wp2_with fail
      clear d6 d7 p4
      refine (CA.out wx A m (m + 2) c 2 v.prof Y (Y ++ be 2 v.prof) HO.out D.lt rfl rfl (by omega) (by omega) (by omega) hpr.1 (by omega)).mono ?_
      rintro e w8 ⟨A8, c8, rfl, ho8, hb8⟩
      have D8 := D.below hb8 D.lt
      have B8 := Lib.hid (hb.trans (hb8.mono hb.size))
      have HO8 := Lib.hid ho8
      clear ho8 hb8 D HO hb ho
      have d8 := D8.c8
      have p5 := HP5.out
      have q4 := HQ4.out
      go_wp2_with fail
      clear d8 p5 q4
      refine (CA.out w8 A8 (m + 2) (m + 4) c8 2 (n4 : Int) _ (Y ++ be 2 v.prof ++ be 2 (n4 : Int)) HO8.out D8.lt rfl rfl (by omega) (by omega) (by omega) (by omega) (by omega)).mono ?_
      rintro e w9 ⟨A9, c9, rfl, ho9, hb9⟩
      have D9 := D8.below hb9 D8.lt
      have B9 := Lib.hid (B8.out.trans (hb9.mono B8.out.size))
      clear hb9 D8 HO8 B8
      have d8 := D9.c8
      go_wp2_with (first
        | (at_builtin; refine wpList_append_bytes rfl (.tmp 81) (.tmp 83) rfl (w.heap.size + 1) w.heap.size (m + 4) c9 v.en v.ec (m + 4 + v.en) A9 v.ea (Y ++ be 2 v.prof ++ be 2 (n4 : Int)) es (Y ++ be 2 v.prof ++ be 2 (n4 : Int) ++ es) rfl rfl rfl rfl ho9 (H2.out.below B9.out) D9.lt (by omega) ?_
           intro A10 c10 w10 ho10 hb10
           have D10 := D9.below hb10 (Nat.lt_succ_self _)
           have B10 := Lib.hid (B9.out.trans (hb10.mono (Nat.le_succ _)))
           have d9 := D10.c9)
        | (at_builtin; refine wpList_append_bytes rfl (.tmp 85) (.tmp 87) rfl (w.heap.size + 1) w.heap.size (m + 4 + v.en) c10 v.pn v.pc (m + 4 + v.en + v.pn) A10 v.pa (Y ++ be 2 v.prof ++ be 2 (n4 : Int) ++ es) ps (Y ++ be 2 v.prof ++ be 2 (n4 : Int) ++ es ++ ps) rfl rfl rfl rfl ho10 (H3.out.below B10.out) D10.lt (by omega) ?_
           intro A11 c11 w11 ho11 hb11
           have D11 := D10.below hb11 (Nat.lt_succ_self _)
           have B11 := Lib.hid (B10.out.trans (hb11.mono (Nat.le_succ _)))))
      clear d8 d9 hb10 hb11 ho9 ho10 D9 D10 B9 B10
      obtain ⟨M, hM⟩ : ∃ M, m + 4 + v.en + v.pn = M := ⟨_, rfl⟩
      have hMb : M ≤ 2000 := by omega
      rw [hM] at ho11
      simp only [hM]
      have HZ' := HZ3.out
      rw [HN4.out] at HZ'
      obtain ⟨Z, hZ⟩ : ∃ Z, Y ++ be 2 v.prof ++ be 2 (n4 : Int) ++ es ++ ps = Z := ⟨_, rfl⟩
      rw [hZ] at HZ' ho11
      have HZ4 := Lib.hid HZ'
      have HO11 := Lib.hid ho11
      clear HZ' HZ3 hZ hM ho11 HN4 HP4 HP5 HQ4 H2 H3
      go_loopw [6, 9] (fun sb sk wx => ∃ (j : Nat) (A : Option Addr) (c : Nat), j ≤ P - 1 ∧ sk = .int .i64 ((j + 1 : Nat) : Int) ∧ sb = .slice A (M + j) c ∧ Own wx (w.heap.size + 1) A (M + j) c (Z ++ List.replicate j 0) ∧ Below w.heap.size w wx ∧ PBlk wx w.heap.size v)
        (fun _ sk _ => P - (intOf sk).toNat)
      case atStart => exact ⟨0, A11, c11, by omega, rfl, rfl, by simpa using HO11.out, B11.out, D11⟩
      case round =>
        obtain ⟨j, A', c', hj, rfl, rfl, ho, hb, D⟩ := hrel
        rename World => wy
        clear HO11 B11 D11
        have d10 := D.c10
        rw [HPP.out] at d10
        by_cases hlt : j + 1 < P
        · omega
        · obtain rfl : j = 0 := by omega
          have i1 : ¬ ((0 + 1 : Nat) : Int) < (P : Int) := by omega
          have i2 : ¬ (0 : Int) < (P : Int) := by omega
          go_wp2
          go_ret2
          refine HFIN.out A' c' _ _ _ ?_ ho hb
          rw [HZ4.out]; simp

end Go.Proofs.Ytdnnfoacpjgloaa.Rtp

namespace Go.Proofs.Ytdnnfoacpjgloaa.Rtp
open Go.RowKit
set_option linter.unusedVariables false

set_option maxHeartbeats 8000000 in
theorem rput_100 (v : PV) (N M1 : Nat) (cs es ps : List Int) (F S : Int) (w : World) (hF : 128 + (v.cn : Int) + 32 = F) (hS : v.ty = S) (hF1 : 0 ≤ F ∧ F ≤ 255) (hS1 : 0 ≤ S ∧ S ≤ 255) (hcn : v.cn ≤ 15) (hty : 0 ≤ v.ty ∧ v.ty ≤ 127) (hpad : 0 ≤ v.pad ∧ v.pad ≤ 255)
    (hs : 0 ≤ v.seq ∧ v.seq ≤ 65535) (ht : 0 ≤ v.time ∧ v.time ≤ 4294967295) (hz : 0 ≤ v.ssrc ∧ v.ssrc ≤ 4294967295) (hpr : 0 ≤ v.prof ∧ v.prof ≤ 65535) (hen : v.en ≤ 512) (hpn : v.pn ≤ 512) (hp : 0 < v.pad) (hh : v.he = false) (hm : v.mrk = false) (hN : N ≤ 512)
    (CM : Hid (∀ W, Calls Try.prog 60 #[pkt v] W (RetB W true))) (CS : Hid (∀ W, Calls Try.prog 61 #[pkt v] W (RetI W N)))
    (h1 : Wd w w.heap.size v.ca v.cn cs) (h2 : Rd w w.heap.size v.ea v.en es) (h3 : Rd w w.heap.size v.pa v.pn ps) (zs : List Int)
    (hzs : zs = ([F, S] ++ be 2 v.seq ++ be 4 v.time ++ be 4 v.ssrc ++ bes cs) ++ ps ++ List.replicate (v.pad.toNat - 1) 0 ++ [v.pad]) :
    Calls Try.prog 44 #[pkt v] w (RetR w zs 0) := by
  subst hS
  have hb0 := (Below.refl w.heap.size w).alloc (Nat.le_refl _) (pobj v)
  have CA := Lib.hid (app_any w)
  have HH := Lib.hid hh
  have HM := Lib.hid hm
  have H2 := Lib.hid h2
  have H3 := Lib.hid h3
  have HZ := Lib.hid hzs
  obtain ⟨ca, hca⟩ : ∃ ca, v.ca = ca := ⟨_, rfl⟩
  rw [hca] at h1
  have HCA := Lib.hid hca
  have HCS : Hid (∀ W k, Below w.heap.size w W → k < v.cn → ∃ b off x, ca = some ⟨b, off, none⟩ ∧ cs.getD k 0 = x ∧ 0 ≤ x ∧ x ≤ 4294967295 ∧ W.cell? ⟨b, off + k, none⟩ = some (.int .u32 x)) := fun W k hW hk => by
    obtain ⟨b, off, e, hlt, hc⟩ := h1.2.2 (by omega)
    have := h1.2.1.getD k
    exact ⟨b, off, _, e, rfl, this.1, this.2, (hW.cell (p := ⟨b, off + k, none⟩) hlt).trans (hc k hk)⟩
  have HLC := Lib.hid h1.1
  have q0 : IntKind.u8.wrap F = F := wrap8 _ hF1.1 hF1.2
  have q1 : IntKind.u8.wrap v.ty = v.ty := wrap8 _ hS1.1 hS1.2
  have p1 : IntKind.u64.wrap v.seq = v.seq := by simp [IntKind.wrap, IntKind.bits, IntKind.signed]; omega
  have p2 : IntKind.u64.wrap v.time = v.time := by simp [IntKind.wrap, IntKind.bits, IntKind.signed]; omega
  have p3 : IntKind.u64.wrap v.ssrc = v.ssrc := by simp [IntKind.wrap, IntKind.bits, IntKind.signed]; omega
  have hN' : ¬ (512 : Int) < N := by omega
  obtain ⟨P, hP⟩ := Int.eq_ofNat_of_zero_le hpad.1
  have HPP := Lib.hid hP
  have hPb : P ≤ 255 := by omega
  have HFIN : Hid (∀ A c M W ys, ys = zs → Own W (w.heap.size + 1) A M c ys → Below w.heap.size w W → RetR w zs 0 (.returned (.tuple #[.slice A M c, .int .i64 0])) W) := by
    rintro A c M W ys rfl ho hb
    have hl := ho.len
    subst hl
    exact ⟨A, c, rfl, ho.lower (Nat.le_succ _), hb⟩
  have hp4 : IntKind.u64.wrap v.prof = v.prof := by simp [IntKind.wrap, IntKind.bits, IntKind.signed]; omega
  obtain ⟨n4, hn4⟩ : ∃ n4, v.en / 4 = n4 := ⟨_, rfl⟩
  have hn4b : n4 ≤ 65535 := by omega
  have q4 : (v.en : Int).tdiv 4 = (n4 : Int) := by rw [Int.tdiv_eq_ediv_of_nonneg (by omega)]; omega
  have hp5 : IntKind.u64.wrap (n4 : Int) = n4 := by simp [IntKind.wrap, IntKind.bits, IntKind.signed]; omega
  have HN4 := Lib.hid hn4
  have HP4 := Lib.hid hp4
  have HP5 := Lib.hid hp5
  have HQ4 := Lib.hid q4
  have hpp : 1 ≤ P := by omega
  clear hh hm h1 h2 h3 hzs hca hP hp4 hn4 q4 hp5
  go_enter Try.func44, Try.ntmps44
  go_wp2_with fail
  refine (CM.out _).mono ?_
  rintro e w1 ⟨rfl, hb1⟩
  have D1 : PBlk w1 w.heap.size v := (PBlk.new w v).below hb1 (by simp)
  have B1 := Lib.hid (hb0.trans (hb1.mono hb0.size))
  clear hb0 hb1 CM
  obtain ⟨d0, d1, d2, d3, d4, d5, d6, d7, d8, d9, d10⟩ := D1.cells
  go_wp2_with fail
  clear d0 d1 d2 d3 d4 d5 d6 d7 d8 d9 d10
  refine (CS.out _).mono ?_
  rintro e w2 ⟨rfl, hb2⟩
  have D2 : PBlk w2 w.heap.size v := D1.below hb2 D1.lt
  have B2 := Lib.hid (B1.out.trans (hb2.mono B1.out.size))
  clear hb2 D1 B1 CS
  have hW2 : w.heap.size + 1 ≤ w2.heap.size := D2.lt
  have hb3 := (Below.refl w2.heap.size w2).alloc (Nat.le_refl _) (.cells #[.int .u8 F, .int .u8 v.ty] 5)
  have D3 := D2.below hb3 D2.lt
  have HO3 := Lib.hid (own_new w w2 F v.ty hW2 hF1 hS1)
  have d5 := D2.c5
  have d10 := D2.c10
  have d6 := D2.c6
  have d1 := D2.c1
  have d0 := D2.c0
  rw [HH.out] at d6
  rw [HM.out] at d0
  have d2 := D3.c2
  go_wp2_with fail
  clear d5 d10 d6 d1 d0 d2 p1
  have B3 := Lib.hid (B2.out.trans (hb3.mono B2.out.size))
  refine (CA.out _ _ 2 4 _ 2 v.seq [F, v.ty] ([F, v.ty] ++ be 2 v.seq) HO3.out (Nat.le_trans hW2 hb3.size) rfl rfl (by omega) (by omega) (by omega) hs.1 (by omega)).mono ?_
  rintro e w4 ⟨A4, c4, rfl, ho4, hb4⟩
  have D4 := D3.below hb4 D3.lt
  have HO4 := Lib.hid ho4
  have B4 := Lib.hid (B3.out.trans (hb4.mono B3.out.size))
  clear ho4 hb4 D3 D2 HO3 B3 B2 hb3 hW2
  have d3 := D4.c3
  go_wp2_with fail
  clear d3 p2
  refine (CA.out _ _ 4 8 _ 4 v.time _ ([F, v.ty] ++ be 2 v.seq ++ be 4 v.time) HO4.out D4.lt rfl rfl (by omega) (by omega) (by omega) ht.1 (by omega)).mono ?_
  rintro e w5 ⟨A5, c5, rfl, ho5, hb5⟩
  have D5 := D4.below hb5 D4.lt
  have HO5 := Lib.hid ho5
  have B5 := Lib.hid (B4.out.trans (hb5.mono B4.out.size))
  clear ho5 hb5 D4 HO4 B4
  have d4 := D5.c4
  go_wp2_with fail
  clear d4 p3
  refine (CA.out _ _ 8 12 _ 4 v.ssrc _ ([F, v.ty] ++ be 2 v.seq ++ be 4 v.time ++ be 4 v.ssrc) HO5.out D5.lt rfl rfl (by omega) (by omega) (by omega) hz.1 (by omega)).mono ?_
  rintro e w6 ⟨A6, c6, rfl, ho6, hb6⟩
  have D6 := D5.below hb6 D5.lt
  have HO6 := Lib.hid ho6
  have B6 := Lib.hid (B5.out.trans (hb6.mono B5.out.size))
  clear ho6 hb6 D5 HO5 B5

  have d5 := D6.c5
  rw [HCA.out] at d5
  obtain ⟨Hd, hHd⟩ : ∃ Hd, [F, v.ty] ++ be 2 v.seq ++ be 4 v.time ++ be 4 v.ssrc = Hd := ⟨_, rfl⟩
  rw [hHd] at HO6
  have HZ' := HZ.out
  rw [hHd] at HZ'
  have HZ2 := Lib.hid HZ'
  clear HZ HZ' hHd HCA
  go_wp2_with fail
  clear d5
  go_loopw [6, 58] (fun sb sk wx => ∃ (k : Nat) (A : Option Addr) (c : Nat), k ≤ v.cn ∧ sk = .int .i64 k ∧ sb = .slice A (12 + 4 * k) c ∧ Own wx (w.heap.size + 1) A (12 + 4 * k) c (Hd ++ bes (cs.take k)) ∧ Below w.heap.size w wx ∧ PBlk wx w.heap.size v)
    (fun _ sk _ => v.cn - (intOf sk).toNat)
  case atStart => exact ⟨0, A6, c6, by omega, rfl, rfl, by simpa [bes] using HO6.out, B6.out, D6⟩
  case round =>
    obtain ⟨k, A, c, hk, rfl, rfl, ho, hb, D⟩ := hrel
    rename World => wx
    clear HO6 B6 D6
    by_cases hlt : k < v.cn
    · obtain ⟨b, off, x, rfl, hx, hx0, hx1, hc⟩ := HCS.out wx k hb hlt
      have p4 : IntKind.u64.wrap x = x := by simp [IntKind.wrap, IntKind.bits, IntKind.signed]; omega
      have hl : Hd ++ bes (cs.take k) ++ be 4 x = Hd ++ bes (cs.take (k + 1)) := by rw [take_snoc k (by rw [HLC.out]; exact hlt), bes_snoc, hx, List.append_assoc]
      have C := CA.out wx A (12 + 4 * k) (12 + 4 * (k + 1)) c 4 x _ _ ho D.lt (by omega) hl (by omega) (by omega) (by omega) hx0 (by omega)
      have HC := Lib.hid C
      clear C hl hx
      go_wp2_with fail
      refine HC.out.mono ?_
      rintro e w7 ⟨A', c', rfl, ho', hb'⟩
      clear hc p4
      go_wp2
      go_roundw
      case rel => exact ⟨k + 1, A', c', by omega, by go_num, rfl, ho', hb.trans (hb'.mono hb.size), D.below hb' D.lt⟩
      case measure => simp [intOf]; omega
    · obtain rfl : k = v.cn := by omega
      rw [List.take_of_length_le (by rw [HLC.out]; exact Nat.le_refl _)] at ho
      clear HCS HLC
      obtain ⟨Y, hY⟩ : ∃ Y, Hd ++ bes cs = Y := ⟨_, rfl⟩
      rw [hY] at ho
      have HZ' := HZ2.out
      rw [hY] at HZ'
      have HZ3 := Lib.hid HZ'
      clear HZ2 HZ' hY
      obtain ⟨m, hm4⟩ : ∃ m, 12 + 4 * v.cn = m := ⟨_, rfl⟩
      have hmb : m ≤ 72 := by omega
      rw [hm4] at ho
      simp only [hm4]
      have d6 := D.c6
      rw [HH.out] at d6
      have d9 := D.c9
      go_wp2_with (at_builtin; refine wpList_append_bytes rfl (.tmp 85) (.tmp 87) rfl (w.heap.size + 1) w.heap.size m c v.pn v.pc (m + v.pn) A v.pa Y ps (Y ++ ps) rfl rfl rfl rfl ho (H3.out.below hb) D.lt (by omega) ?_
                   intro A11 c11 w11 ho11 hb11
                   have D11 := D.below hb11 (Nat.lt_succ_self _)
                   have B11 := Lib.hid (hb.trans (hb11.mono (Nat.le_succ _))))
      clear d6 d9 hb11 ho hb D
      obtain ⟨M, hM⟩ : ∃ M, m + v.pn = M := ⟨_, rfl⟩
      have hMb : M ≤ 2000 := by omega
      rw [hM] at ho11
      simp only [hM]
      have HZ' := HZ3.out
      obtain ⟨Z, hZ⟩ : ∃ Z, Y ++ ps = Z := ⟨_, rfl⟩
      rw [hZ] at HZ' ho11
      have HZ4 := Lib.hid HZ'
      have HO11 := Lib.hid ho11
      clear HZ' HZ3 hZ hM ho11 HN4 HP4 HP5 HQ4 H2 H3
      go_loopw [6, 9] (fun sb sk wx => ∃ (j : Nat) (A : Option Addr) (c : Nat), j ≤ P - 1 ∧ sk = .int .i64 ((j + 1 : Nat) : Int) ∧ sb = .slice A (M + j) c ∧ Own wx (w.heap.size + 1) A (M + j) c (Z ++ List.replicate j 0) ∧ Below w.heap.size w wx ∧ PBlk wx w.heap.size v)
        (fun _ sk _ => P - (intOf sk).toNat)
      case atStart => exact ⟨0, A11, c11, by omega, rfl, rfl, by simpa using HO11.out, B11.out, D11⟩
      case round =>
        obtain ⟨j, A', c', hj, rfl, rfl, ho, hb, D⟩ := hrel
        rename World => wy
        clear HO11 B11 D11
        have d10 := D.c10
        rw [HPP.out] at d10
        by_cases hlt : j + 1 < P
        · have i1 : ((j + 1 : Nat) : Int) < (P : Int) := by omega
          have HW := alloc1 wy 0
          have hbA := (Below.refl wy.heap.size wy).alloc (Nat.le_refl _) (.cells #[.int .u8 0] 5)
          have DA := D.below hbA D.lt
          have hB0 := hb.trans (hbA.mono hb.size)
          have hl : Z ++ List.replicate j 0 ++ [0] = Z ++ List.replicate (j + 1) 0 := by rw [rep_snoc, List.append_assoc]
          go_wp2_with (at_builtin; refine wpList_append_bytes rfl (.tmp 95) (.tmp 96) rfl (w.heap.size + 1) _ (M + j) c' 1 1 (M + (j + 1)) A' _ (Z ++ List.replicate j 0) [0] (Z ++ List.replicate (j + 1) 0) (by omega) hl rfl rfl (ho.below hbA (Nat.le_refl _)) (HW.rd (by intro x hx; simp at hx; omega) rfl) DA.lt (by omega) ?_; intro A3 c3 w3 ho3 hb3)
          go_roundw
          case rel => exact ⟨j + 1, A3, c3, by omega, by go_num, rfl, ho3, hB0.trans (hb3.mono (Nat.le_succ _)), DA.below hb3 (Nat.lt_succ_self _)⟩
          case measure => simp [intOf]; omega
        · obtain rfl : j = P - 1 := by omega
          have i1 : ¬ ((P - 1 + 1 : Nat) : Int) < (P : Int) := by omega
          have i2 : (0 : Int) < (P : Int) := by omega
          have q8 : IntKind.u8.wrap (P : Int) = P := wrap8 _ (by omega) (by have := HPP.out; omega)
          have HW := alloc1 wy (P : Int)
          have hbA := (Below.refl wy.heap.size wy).alloc (Nat.le_refl _) (.cells #[.int .u8 (P : Int)] 5)
          have DA := D.below hbA D.lt
          have hB0 := hb.trans (hbA.mono hb.size)
          go_wp2_with (at_builtin; refine wpList_append_bytes rfl (.tmp 101) (.tmp 105) rfl (w.heap.size + 1) _ (M + (P - 1)) c' 1 1 (M + (P - 1) + 1) A' _ (Z ++ List.replicate (P - 1) 0) [(P : Int)] (Z ++ List.replicate (P - 1) 0 ++ [(P : Int)]) rfl rfl rfl rfl (ho.below hbA (Nat.le_refl _)) (HW.rd (by intro x hx; simp at hx; have := HPP.out; omega) rfl) DA.lt (by omega) ?_; intro A3 c3 w3 ho3 hb3)
          go_ret2
          refine HFIN.out A3 c3 _ _ _ ?_ ho3 (hB0.trans (hb3.mono (Nat.le_succ _)))
          rw [HZ4.out, HPP.out, Int.toNat_natCast]

set_option maxHeartbeats 8000000 in
theorem rput_101 (v : PV) (N M1 : Nat) (cs es ps : List Int) (F S : Int) (w : World) (hF : 128 + (v.cn : Int) + 32 = F) (hS : v.ty + 128 = S) (hF1 : 0 ≤ F ∧ F ≤ 255) (hS1 : 0 ≤ S ∧ S ≤ 255) (hcn : v.cn ≤ 15) (hty : 0 ≤ v.ty ∧ v.ty ≤ 127) (hpad : 0 ≤ v.pad ∧ v.pad ≤ 255)
    (hs : 0 ≤ v.seq ∧ v.seq ≤ 65535) (ht : 0 ≤ v.time ∧ v.time ≤ 4294967295) (hz : 0 ≤ v.ssrc ∧ v.ssrc ≤ 4294967295) (hpr : 0 ≤ v.prof ∧ v.prof ≤ 65535) (hen : v.en ≤ 512) (hpn : v.pn ≤ 512) (hp : 0 < v.pad) (hh : v.he = false) (hm : v.mrk = true) (hN : N ≤ 512)
    (CM : Hid (∀ W, Calls Try.prog 60 #[pkt v] W (RetB W true))) (CS : Hid (∀ W, Calls Try.prog 61 #[pkt v] W (RetI W N)))
    (h1 : Wd w w.heap.size v.ca v.cn cs) (h2 : Rd w w.heap.size v.ea v.en es) (h3 : Rd w w.heap.size v.pa v.pn ps) (zs : List Int)
    (hzs : zs = ([F, S] ++ be 2 v.seq ++ be 4 v.time ++ be 4 v.ssrc ++ bes cs) ++ ps ++ List.replicate (v.pad.toNat - 1) 0 ++ [v.pad]) :
    Calls Try.prog 44 #[pkt v] w (RetR w zs 0) := by
  have hb0 := (Below.refl w.heap.size w).alloc (Nat.le_refl _) (pobj v)
  have CA := Lib.hid (app_any w)
  have HH := Lib.hid hh
  have HM := Lib.hid hm
  have H2 := Lib.hid h2
  have H3 := Lib.hid h3
  have HZ := Lib.hid hzs
  obtain ⟨ca, hca⟩ : ∃ ca, v.ca = ca := ⟨_, rfl⟩
  rw [hca] at h1
  have HCA := Lib.hid hca
  have HCS : Hid (∀ W k, Below w.heap.size w W → k < v.cn → ∃ b off x, ca = some ⟨b, off, none⟩ ∧ cs.getD k 0 = x ∧ 0 ≤ x ∧ x ≤ 4294967295 ∧ W.cell? ⟨b, off + k, none⟩ = some (.int .u32 x)) := fun W k hW hk => by
    obtain ⟨b, off, e, hlt, hc⟩ := h1.2.2 (by omega)
    have := h1.2.1.getD k
    exact ⟨b, off, _, e, rfl, this.1, this.2, (hW.cell (p := ⟨b, off + k, none⟩) hlt).trans (hc k hk)⟩
  have HLC := Lib.hid h1.1
  have q0 : IntKind.u8.wrap F = F := wrap8 _ hF1.1 hF1.2
  have q1 : IntKind.u8.wrap S = S := wrap8 _ hS1.1 hS1.2
  have p1 : IntKind.u64.wrap v.seq = v.seq := by simp [IntKind.wrap, IntKind.bits, IntKind.signed]; omega
  have p2 : IntKind.u64.wrap v.time = v.time := by simp [IntKind.wrap, IntKind.bits, IntKind.signed]; omega
  have p3 : IntKind.u64.wrap v.ssrc = v.ssrc := by simp [IntKind.wrap, IntKind.bits, IntKind.signed]; omega
  have hN' : ¬ (512 : Int) < N := by omega
  obtain ⟨P, hP⟩ := Int.eq_ofNat_of_zero_le hpad.1
  have HPP := Lib.hid hP
  have hPb : P ≤ 255 := by omega
  have HFIN : Hid (∀ A c M W ys, ys = zs → Own W (w.heap.size + 1) A M c ys → Below w.heap.size w W → RetR w zs 0 (.returned (.tuple #[.slice A M c, .int .i64 0])) W) := by
    rintro A c M W ys rfl ho hb
    have hl := ho.len
    subst hl
    exact ⟨A, c, rfl, ho.lower (Nat.le_succ _), hb⟩
  have hp4 : IntKind.u64.wrap v.prof = v.prof := by simp [IntKind.wrap, IntKind.bits, IntKind.signed]; omega
  obtain ⟨n4, hn4⟩ : ∃ n4, v.en / 4 = n4 := ⟨_, rfl⟩
  have hn4b : n4 ≤ 65535 := by omega
  have q4 : (v.en : Int).tdiv 4 = (n4 : Int) := by rw [Int.tdiv_eq_ediv_of_nonneg (by omega)]; omega
  have hp5 : IntKind.u64.wrap (n4 : Int) = n4 := by simp [IntKind.wrap, IntKind.bits, IntKind.signed]; omega
  have HN4 := Lib.hid hn4
  have HP4 := Lib.hid hp4
  have HP5 := Lib.hid hp5
  have HQ4 := Lib.hid q4
  have hpp : 1 ≤ P := by omega
  clear hh hm h1 h2 h3 hzs hca hP hp4 hn4 q4 hp5
  go_enter Try.func44, Try.ntmps44
  go_wp2_with fail
  refine (CM.out _).mono ?_
  rintro e w1 ⟨rfl, hb1⟩
  have D1 : PBlk w1 w.heap.size v := (PBlk.new w v).below hb1 (by simp)
  have B1 := Lib.hid (hb0.trans (hb1.mono hb0.size))
  clear hb0 hb1 CM
  obtain ⟨d0, d1, d2, d3, d4, d5, d6, d7, d8, d9, d10⟩ := D1.cells
  go_wp2_with fail
  clear d0 d1 d2 d3 d4 d5 d6 d7 d8 d9 d10
  refine (CS.out _).mono ?_
  rintro e w2 ⟨rfl, hb2⟩
  have D2 : PBlk w2 w.heap.size v := D1.below hb2 D1.lt
  have B2 := Lib.hid (B1.out.trans (hb2.mono B1.out.size))
  clear hb2 D1 B1 CS
  have hW2 : w.heap.size + 1 ≤ w2.heap.size := D2.lt
  have hb3 := (Below.refl w2.heap.size w2).alloc (Nat.le_refl _) (.cells #[.int .u8 F, .int .u8 S] 5)
  have D3 := D2.below hb3 D2.lt
  have HO3 := Lib.hid (own_new w w2 F S hW2 hF1 hS1)
  have d5 := D2.c5
  have d10 := D2.c10
  have d6 := D2.c6
  have d1 := D2.c1
  have d0 := D2.c0
  rw [HH.out] at d6
  rw [HM.out] at d0
  have d2 := D3.c2
  go_wp2_with fail
  clear d5 d10 d6 d1 d0 d2 p1
  have B3 := Lib.hid (B2.out.trans (hb3.mono B2.out.size))
  refine (CA.out _ _ 2 4 _ 2 v.seq [F, S] ([F, S] ++ be 2 v.seq) HO3.out (Nat.le_trans hW2 hb3.size) rfl rfl (by omega) (by omega) (by omega) hs.1 (by omega)).mono ?_
  rintro e w4 ⟨A4, c4, rfl, ho4, hb4⟩
  have D4 := D3.below hb4 D3.lt
  have HO4 := Lib.hid ho4
  have B4 := Lib.hid (B3.out.trans (hb4.mono B3.out.size))
  clear ho4 hb4 D3 D2 HO3 B3 B2 hb3 hW2
  have d3 := D4.c3
  go_wp2_with fail
  clear d3 p2
  refine (CA.out _ _ 4 8 _ 4 v.time _ ([F, S] ++ be 2 v.seq ++ be 4 v.time) HO4.out D4.lt rfl rfl (by omega) (by omega) (by omega) ht.1 (by omega)).mono ?_
  rintro e w5 ⟨A5, c5, rfl, ho5, hb5⟩
  have D5 := D4.below hb5 D4.lt
  have HO5 := Lib.hid ho5
  have B5 := Lib.hid (B4.out.trans (hb5.mono B4.out.size))
  clear ho5 hb5 D4 HO4 B4
  have d4 := D5.c4
  go_wp2_with fail
  clear d4 p3
  refine (CA.out _ _ 8 12 _ 4 v.ssrc _ ([F, S] ++ be 2 v.seq ++ be 4 v.time ++ be 4 v.ssrc) HO5.out D5.lt rfl rfl (by omega) (by omega) (by omega) hz.1 (by omega)).mono ?_
  rintro e w6 ⟨A6, c6, rfl, ho6, hb6⟩
  have D6 := D5.below hb6 D5.lt
  have HO6 := Lib.hid ho6
  have B6 := Lib.hid (B5.out.trans (hb6.mono B5.out.size))
  clear ho6 hb6 D5 HO5 B5

  have d5 := D6.c5
  rw [HCA.out] at d5
  obtain ⟨Hd, hHd⟩ : ∃ Hd, [F, S] ++ be 2 v.seq ++ be 4 v.time ++ be 4 v.ssrc = Hd := ⟨_, rfl⟩
  rw [hHd] at HO6
  have HZ' := HZ.out
  rw [hHd] at HZ'
  have HZ2 := Lib.hid HZ'
  clear HZ HZ' hHd HCA
  go_wp2_with fail
  clear d5
  go_loopw [6, 58] (fun sb sk wx => ∃ (k : Nat) (A : Option Addr) (c : Nat), k ≤ v.cn ∧ sk = .int .i64 k ∧ sb = .slice A (12 + 4 * k) c ∧ Own wx (w.heap.size + 1) A (12 + 4 * k) c (Hd ++ bes (cs.take k)) ∧ Below w.heap.size w wx ∧ PBlk wx w.heap.size v)
    (fun _ sk _ => v.cn - (intOf sk).toNat)
  case atStart => exact ⟨0, A6, c6, by omega, rfl, rfl, by simpa [bes] using HO6.out, B6.out, D6⟩
  case round =>
    obtain ⟨k, A, c, hk, rfl, rfl, ho, hb, D⟩ := hrel
    rename World => wx
    clear HO6 B6 D6
    by_cases hlt : k < v.cn
    · obtain ⟨b, off, x, rfl, hx, hx0, hx1, hc⟩ := HCS.out wx k hb hlt
      have p4 : IntKind.u64.wrap x = x := by simp [IntKind.wrap, IntKind.bits, IntKind.signed]; omega
      have hl : Hd ++ bes (cs.take k) ++ be 4 x = Hd ++ bes (cs.take (k + 1)) := by rw [take_snoc k (by rw [HLC.out]; exact hlt), bes_snoc, hx, List.append_assoc]
      have C := CA.out wx A (12 + 4 * k) (12 + 4 * (k + 1)) c 4 x _ _ ho D.lt (by omega) hl (by omega) (by omega) (by omega) hx0 (by omega)
      have HC := Lib.hid C
      clear C hl hx
      go_wp2_with fail
      refine HC.out.mono ?_
      rintro e w7 ⟨A', c', rfl, ho', hb'⟩
      clear hc p4
      go_wp2
      go_roundw
      case rel => exact ⟨k + 1, A', c', by omega, by go_num, rfl, ho', hb.trans (hb'.mono hb.size), D.below hb' D.lt⟩
      case measure => simp [intOf]; omega
    · obtain rfl : k = v.cn := by omega
      rw [List.take_of_length_le (by rw [HLC.out]; exact Nat.le_refl _)] at ho
      clear HCS HLC
      obtain ⟨Y, hY⟩ : ∃ Y, Hd ++ bes cs = Y := ⟨_, rfl⟩
      rw [hY] at ho
      have HZ' := HZ2.out
      rw [hY] at HZ'
      have HZ3 := Lib.hid HZ'
      clear HZ2 HZ' hY
      obtain ⟨m, hm4⟩ : ∃ m, 12 + 4 * v.cn = m := ⟨_, rfl⟩
      have hmb : m ≤ 72 := by omega
      rw [hm4] at ho
      simp only [hm4]
      have d6 := D.c6
      rw [HH.out] at d6
      have d9 := D.c9
      go_wp2_with (at_builtin; refine wpList_append_bytes rfl (.tmp 85) (.tmp 87) rfl (w.heap.size + 1) w.heap.size m c v.pn v.pc (m + v.pn) A v.pa Y ps (Y ++ ps) rfl rfl rfl rfl ho (H3.out.below hb) D.lt (by omega) ?_
                   intro A11 c11 w11 ho11 hb11
                   have D11 := D.below hb11 (Nat.lt_succ_self _)
                   have B11 := Lib.hid (hb.trans (hb11.mono (Nat.le_succ _))))
      clear d6 d9 hb11 ho hb D
      obtain ⟨M, hM⟩ : ∃ M, m + v.pn = M := ⟨_, rfl⟩
      have hMb : M ≤ 2000 := by omega
      rw [hM] at ho11
      simp only [hM]
      have HZ' := HZ3.out
      obtain ⟨Z, hZ⟩ : ∃ Z, Y ++ ps = Z := ⟨_, rfl⟩
      rw [hZ] at HZ' ho11
      have HZ4 := Lib.hid HZ'
      have HO11 := Lib.hid ho11
      clear HZ' HZ3 hZ hM ho11 HN4 HP4 HP5 HQ4 H2 H3
      go_loopw [6, 9] (fun sb sk wx => ∃ (j : Nat) (A : Option Addr) (c : Nat), j ≤ P - 1 ∧ sk = .int .i64 ((j + 1 : Nat) : Int) ∧ sb = .slice A (M + j) c ∧ Own wx (w.heap.size + 1) A (M + j) c (Z ++ List.replicate j 0) ∧ Below w.heap.size w wx ∧ PBlk wx w.heap.size v)
        (fun _ sk _ => P - (intOf sk).toNat)
      case atStart => exact ⟨0, A11, c11, by omega, rfl, rfl, by simpa using HO11.out, B11.out, D11⟩
      case round =>
        obtain ⟨j, A', c', hj, rfl, rfl, ho, hb, D⟩ := hrel
        rename World => wy
        clear HO11 B11 D11
        have d10 := D.c10
        rw [HPP.out] at d10
        by_cases hlt : j + 1 < P
        · have i1 : ((j + 1 : Nat) : Int) < (P : Int) := by omega
          have HW := alloc1 wy 0
          have hbA := (Below.refl wy.heap.size wy).alloc (Nat.le_refl _) (.cells #[.int .u8 0] 5)
          have DA := D.below hbA D.lt
          have hB0 := hb.trans (hbA.mono hb.size)
          have hl : Z ++ List.replicate j 0 ++ [0] = Z ++ List.replicate (j + 1) 0 := by rw [rep_snoc, List.append_assoc]
          go_wp2_with (at_builtin; refine wpList_append_bytes rfl (.tmp 95) (.tmp 96) rfl (w.heap.size + 1) _ (M + j) c' 1 1 (M + (j + 1)) A' _ (Z ++ List.replicate j 0) [0] (Z ++ List.replicate (j + 1) 0) (by omega) hl rfl rfl (ho.below hbA (Nat.le_refl _)) (HW.rd (by intro x hx; simp at hx; omega) rfl) DA.lt (by omega) ?_; intro A3 c3 w3 ho3 hb3)
          go_roundw
          case rel => exact ⟨j + 1, A3, c3, by omega, by go_num, rfl, ho3, hB0.trans (hb3.mono (Nat.le_succ _)), DA.below hb3 (Nat.lt_succ_self _)⟩
          case measure => simp [intOf]; omega
        · obtain rfl : j = P - 1 := by omega
          have i1 : ¬ ((P - 1 + 1 : Nat) : Int) < (P : Int) := by omega
          have i2 : (0 : Int) < (P : Int) := by omega
          have q8 : IntKind.u8.wrap (P : Int) = P := wrap8 _ (by omega) (by have := HPP.out; omega)
          have HW := alloc1 wy (P : Int)
          have hbA := (Below.refl wy.heap.size wy).alloc (Nat.le_refl _) (.cells #[.int .u8 (P : Int)] 5)
          have DA := D.below hbA D.lt
          have hB0 := hb.trans (hbA.mono hb.size)
          go_wp2_with (at_builtin; refine wpList_append_bytes rfl (.tmp 101) (.tmp 105) rfl (w.heap.size + 1) _ (M + (P - 1)) c' 1 1 (M + (P - 1) + 1) A' _ (Z ++ List.replicate (P - 1) 0) [(P : Int)] (Z ++ List.replicate (P - 1) 0 ++ [(P : Int)]) rfl rfl rfl rfl (ho.below hbA (Nat.le_refl _)) (HW.rd (by intro x hx; simp at hx; have := HPP.out; omega) rfl) DA.lt (by omega) ?_; intro A3 c3 w3 ho3 hb3)
          go_ret2
          refine HFIN.out A3 c3 _ _ _ ?_ ho3 (hB0.trans (hb3.mono (Nat.le_succ _)))
          rw [HZ4.out, HPP.out, Int.toNat_natCast]

end Go.Proofs.Ytdnnfoacpjgloaa.Rtp

namespace Go.Proofs.Ytdnnfoacpjgloaa.Rtp
open Go.RowKit
set_option linter.unusedVariables false

set_option maxHeartbeats 8000000 in
theorem rput_110 (v : PV) (N M1 : Nat) (cs es ps : List Int) (F S : Int) (w : World) (hF : 128 + (v.cn : Int) + 32 + 16 = F) (hS : v.ty = S) (hF1 : 0 ≤ F ∧ F ≤ 255) (hS1 : 0 ≤ S ∧ S ≤ 255) (hcn : v.cn ≤ 15) (hty : 0 ≤ v.ty ∧ v.ty ≤ 127) (hpad : 0 ≤ v.pad ∧ v.pad ≤ 255)
    (hs : 0 ≤ v.seq ∧ v.seq ≤ 65535) (ht : 0 ≤ v.time ∧ v.time ≤ 4294967295) (hz : 0 ≤ v.ssrc ∧ v.ssrc ≤ 4294967295) (hpr : 0 ≤ v.prof ∧ v.prof ≤ 65535) (hen : v.en ≤ 512) (hpn : v.pn ≤ 512) (hp : 0 < v.pad) (hh : v.he = true) (hm : v.mrk = false) (hN : N ≤ 512)
    (CM : Hid (∀ W, Calls Try.prog 60 #[pkt v] W (RetB W true))) (CS : Hid (∀ W, Calls Try.prog 61 #[pkt v] W (RetI W N)))
    (h1 : Wd w w.heap.size v.ca v.cn cs) (h2 : Rd w w.heap.size v.ea v.en es) (h3 : Rd w w.heap.size v.pa v.pn ps) (zs : List Int)
    (hzs : zs = ([F, S] ++ be 2 v.seq ++ be 4 v.time ++ be 4 v.ssrc ++ bes cs) ++ be 2 v.prof ++ be 2 ((v.en / 4 : Nat) : Int) ++ es ++ ps ++ List.replicate (v.pad.toNat - 1) 0 ++ [v.pad]) :
    Calls Try.prog 44 #[pkt v] w (RetR w zs 0) := by
  subst hS
  have hb0 := (Below.refl w.heap.size w).alloc (Nat.le_refl _) (pobj v)
  have CA := Lib.hid (app_any w)
  have HH := Lib.hid hh
  have HM := Lib.hid hm
  have H2 := Lib.hid h2
  have H3 := Lib.hid h3
  have HZ := Lib.hid hzs
  obtain ⟨ca, hca⟩ : ∃ ca, v.ca = ca := ⟨_, rfl⟩
  rw [hca] at h1
  have HCA := Lib.hid hca
  have HCS : Hid (∀ W k, Below w.heap.size w W → k < v.cn → ∃ b off x, ca = some ⟨b, off, none⟩ ∧ cs.getD k 0 = x ∧ 0 ≤ x ∧ x ≤ 4294967295 ∧ W.cell? ⟨b, off + k, none⟩ = some (.int .u32 x)) := fun W k hW hk => by
    obtain ⟨b, off, e, hlt, hc⟩ := h1.2.2 (by omega)
    have := h1.2.1.getD k
    exact ⟨b, off, _, e, rfl, this.1, this.2, (hW.cell (p := ⟨b, off + k, none⟩) hlt).trans (hc k hk)⟩
  have HLC := Lib.hid h1.1
  have q0 : IntKind.u8.wrap F = F := wrap8 _ hF1.1 hF1.2
  have q1 : IntKind.u8.wrap v.ty = v.ty := wrap8 _ hS1.1 hS1.2
  have p1 : IntKind.u64.wrap v.seq = v.seq := by simp [IntKind.wrap, IntKind.bits, IntKind.signed]; omega
  have p2 : IntKind.u64.wrap v.time = v.time := by simp [IntKind.wrap, IntKind.bits, IntKind.signed]; omega
  have p3 : IntKind.u64.wrap v.ssrc = v.ssrc := by simp [IntKind.wrap, IntKind.bits, IntKind.signed]; omega
  have hN' : ¬ (512 : Int) < N := by omega
  obtain ⟨P, hP⟩ := Int.eq_ofNat_of_zero_le hpad.1
  have HPP := Lib.hid hP
  have hPb : P ≤ 255 := by omega
  have HFIN : Hid (∀ A c M W ys, ys = zs → Own W (w.heap.size + 1) A M c ys → Below w.heap.size w W → RetR w zs 0 (.returned (.tuple #[.slice A M c, .int .i64 0])) W) := by
    rintro A c M W ys rfl ho hb
    have hl := ho.len
    subst hl
    exact ⟨A, c, rfl, ho.lower (Nat.le_succ _), hb⟩
  have hp4 : IntKind.u64.wrap v.prof = v.prof := by simp [IntKind.wrap, IntKind.bits, IntKind.signed]; omega
  obtain ⟨n4, hn4⟩ : ∃ n4, v.en / 4 = n4 := ⟨_, rfl⟩
  have hn4b : n4 ≤ 65535 := by omega
  have q4 : (v.en : Int).tdiv 4 = (n4 : Int) := by rw [Int.tdiv_eq_ediv_of_nonneg (by omega)]; omega
  have hp5 : IntKind.u64.wrap (n4 : Int) = n4 := by simp [IntKind.wrap, IntKind.bits, IntKind.signed]; omega
  have HN4 := Lib.hid hn4
  have HP4 := Lib.hid hp4
  have HP5 := Lib.hid hp5
  have HQ4 := Lib.hid q4
  have hpp : 1 ≤ P := by omega
  clear hh hm h1 h2 h3 hzs hca hP hp4 hn4 q4 hp5
  go_enter Try.func44, Try.ntmps44
  go_wp2_with fail
  refine (CM.out _).mono ?_
  rintro e w1 ⟨rfl, hb1⟩
  have D1 : PBlk w1 w.heap.size v := (PBlk.new w v).below hb1 (by simp)
  have B1 := Lib.hid (hb0.trans (hb1.mono hb0.size))
  clear hb0 hb1 CM
  obtain ⟨d0, d1, d2, d3, d4, d5, d6, d7, d8, d9, d10⟩ := D1.cells
  go_wp2_with fail
  clear d0 d1 d2 d3 d4 d5 d6 d7 d8 d9 d10
  refine (CS.out _).mono ?_
  rintro e w2 ⟨rfl, hb2⟩
  have D2 : PBlk w2 w.heap.size v := D1.below hb2 D1.lt
  have B2 := Lib.hid (B1.out.trans (hb2.mono B1.out.size))
  clear hb2 D1 B1 CS
  have hW2 : w.heap.size + 1 ≤ w2.heap.size := D2.lt
  have hb3 := (Below.refl w2.heap.size w2).alloc (Nat.le_refl _) (.cells #[.int .u8 F, .int .u8 v.ty] 5)
  have D3 := D2.below hb3 D2.lt
  have HO3 := Lib.hid (own_new w w2 F v.ty hW2 hF1 hS1)
  have d5 := D2.c5
  have d10 := D2.c10
  have d6 := D2.c6
  have d1 := D2.c1
  have d0 := D2.c0
  rw [HH.out] at d6
  rw [HM.out] at d0
  have d2 := D3.c2
  go_wp2_with fail
  clear d5 d10 d6 d1 d0 d2 p1
  have B3 := Lib.hid (B2.out.trans (hb3.mono B2.out.size))
  refine (CA.out _ _ 2 4 _ 2 v.seq [F, v.ty] ([F, v.ty] ++ be 2 v.seq) HO3.out (Nat.le_trans hW2 hb3.size) rfl rfl (by omega) (by omega) (by omega) hs.1 (by omega)).mono ?_
  rintro e w4 ⟨A4, c4, rfl, ho4, hb4⟩
  have D4 := D3.below hb4 D3.lt
  have HO4 := Lib.hid ho4
  have B4 := Lib.hid (B3.out.trans (hb4.mono B3.out.size))
  clear ho4 hb4 D3 D2 HO3 B3 B2 hb3 hW2
  have d3 := D4.c3
  go_wp2_with fail
  clear d3 p2
  refine (CA.out _ _ 4 8 _ 4 v.time _ ([F, v.ty] ++ be 2 v.seq ++ be 4 v.time) HO4.out D4.lt rfl rfl (by omega) (by omega) (by omega) ht.1 (by omega)).mono ?_
  rintro e w5 ⟨A5, c5, rfl, ho5, hb5⟩
  have D5 := D4.below hb5 D4.lt
  have HO5 := Lib.hid ho5
  have B5 := Lib.hid (B4.out.trans (hb5.mono B4.out.size))
  clear ho5 hb5 D4 HO4 B4
  have d4 := D5.c4
  go_wp2_with fail
  clear d4 p3
  refine (CA.out _ _ 8 12 _ 4 v.ssrc _ ([F, v.ty] ++ be 2 v.seq ++ be 4 v.time ++ be 4 v.ssrc) HO5.out D5.lt rfl rfl (by omega) (by omega) (by omega) hz.1 (by omega)).mono ?_
  rintro e w6 ⟨A6, c6, rfl, ho6, hb6⟩
  have D6 := D5.below hb6 D5.lt
  have HO6 := Lib.hid ho6
  have B6 := Lib.hid (B5.out.trans (hb6.mono B5.out.size))
  clear ho6 hb6 D5 HO5 B5

  have d5 := D6.c5
  rw [HCA.out] at d5
  obtain ⟨Hd, hHd⟩ : ∃ Hd, [F, v.ty] ++ be 2 v.seq ++ be 4 v.time ++ be 4 v.ssrc = Hd := ⟨_, rfl⟩
  rw [hHd] at HO6
  have HZ' := HZ.out
  rw [hHd] at HZ'
  have HZ2 := Lib.hid HZ'
  clear HZ HZ' hHd HCA
  go_wp2_with fail
  clear d5
  go_loopw [6, 58] (fun sb sk wx => ∃ (k : Nat) (A : Option Addr) (c : Nat), k ≤ v.cn ∧ sk = .int .i64 k ∧ sb = .slice A (12 + 4 * k) c ∧ Own wx (w.heap.size + 1) A (12 + 4 * k) c (Hd ++ bes (cs.take k)) ∧ Below w.heap.size w wx ∧ PBlk wx w.heap.size v)
    (fun _ sk _ => v.cn - (intOf sk).toNat)
  case atStart => exact ⟨0, A6, c6, by omega, rfl, rfl, by simpa [bes] using HO6.out, B6.out, D6⟩
  case round =>
    obtain ⟨k, A, c, hk, rfl, rfl, ho, hb, D⟩ := hrel
    rename World => wx
    clear HO6 B6 D6
    by_cases hlt : k < v.cn
    · obtain ⟨b, off, x, rfl, hx, hx0, hx1, hc⟩ := HCS.out wx k hb hlt
      have p4 : IntKind.u64.wrap x = x := by simp [IntKind.wrap, IntKind.bits, IntKind.signed]; omega
      have hl : Hd ++ bes (cs.take k) ++ be 4 x = Hd ++ bes (cs.take (k + 1)) := by rw [take_snoc k (by rw [HLC.out]; exact hlt), bes_snoc, hx, List.append_assoc]
      have C := CA.out wx A (12 + 4 * k) (12 + 4 * (k + 1)) c 4 x _ _ ho D.lt (by omega) hl (by omega) (by omega) (by omega) hx0 (by omega)
      have HC := Lib.hid C
      clear C hl hx
      go_wp2_with fail
      refine HC.out.mono ?_
      rintro e w7 ⟨A', c', rfl, ho', hb'⟩
      clear hc p4
      go_wp2
      go_roundw
      case rel => exact ⟨k + 1, A', c', by omega, by go_num, rfl, ho', hb.trans (hb'.mono hb.size), D.below hb' D.lt⟩
      case measure => simp [intOf]; omega
    · obtain rfl : k = v.cn := by omega
      rw [List.take_of_length_le (by rw [HLC.out]; exact Nat.le_refl _)] at ho
      clear HCS HLC
      obtain ⟨Y, hY⟩ : ∃ Y, Hd ++ bes cs = Y := ⟨_, rfl⟩
      rw [hY] at ho
      have HZ' := HZ2.out
      rw [hY] at HZ'
      have HZ3 := Lib.hid HZ'
      clear HZ2 HZ' hY
      obtain ⟨m, hm4⟩ : ∃ m, 12 + 4 * v.cn = m := ⟨_, rfl⟩
      have hmb : m ≤ 72 := by omega
      rw [hm4] at ho
      simp only [hm4]
      have d6 := D.c6
      rw [HH.out] at d6
      have d7 := D.c7
      have p4 := HP4.out
      have HO := Lib.hid ho
      go_wp2_with fail
      clear d6 d7 p4
      refine (CA.out wx A m (m + 2) c 2 v.prof Y (Y ++ be 2 v.prof) HO.out D.lt rfl rfl (by omega) (by omega) (by omega) hpr.1 (by omega)).mono ?_
      rintro e w8 ⟨A8, c8, rfl, ho8, hb8⟩
      have D8 := D.below hb8 D.lt
      have B8 := Lib.hid (hb.trans (hb8.mono hb.size))
      have HO8 := Lib.hid ho8
      clear ho8 hb8 D HO hb ho
      have d8 := D8.c8
      have p5 := HP5.out
      have q4 := HQ4.out
      go_wp2_with fail
      clear d8 p5 q4
      refine (CA.out w8 A8 (m + 2) (m + 4) c8 2 (n4 : Int) _ (Y ++ be 2 v.prof ++ be 2 (n4 : Int)) HO8.out D8.lt rfl rfl (by omega) (by omega) (by omega) (by omega) (by omega)).mono ?_
      rintro e w9 ⟨A9, c9, rfl, ho9, hb9⟩
      have D9 := D8.below hb9 D8.lt
      have B9 := Lib.hid (B8.out.trans (hb9.mono B8.out.size))
      clear hb9 D8 HO8 B8
      have d8 := D9.c8
      go_wp2_with (first
        | (at_builtin; refine wpList_append_bytes rfl (.tmp 81) (.tmp 83) rfl (w.heap.size + 1) w.heap.size (m + 4) c9 v.en v.ec (m + 4 + v.en) A9 v.ea (Y ++ be 2 v.prof ++ be 2 (n4 : Int)) es (Y ++ be 2 v.prof ++ be 2 (n4 : Int) ++ es) rfl rfl rfl rfl ho9 (H2.out.below B9.out) D9.lt (by omega) ?_
           intro A10 c10 w10 ho10 hb10
           have D10 := D9.below hb10 (Nat.lt_succ_self _)
           have B10 := Lib.hid (B9.out.trans (hb10.mono (Nat.le_succ _)))
           have d9 := D10.c9)
        | (at_builtin; refine wpList_append_bytes rfl (.tmp 85) (.tmp 87) rfl (w.heap.size + 1) w.heap.size (m + 4 + v.en) c10 v.pn v.pc (m + 4 + v.en + v.pn) A10 v.pa (Y ++ be 2 v.prof ++ be 2 (n4 : Int) ++ es) ps (Y ++ be 2 v.prof ++ be 2 (n4 : Int) ++ es ++ ps) rfl rfl rfl rfl ho10 (H3.out.below B10.out) D10.lt (by omega) ?_
           intro A11 c11 w11 ho11 hb11
           have D11 := D10.below hb11 (Nat.lt_succ_self _)
           have B11 := Lib.hid (B10.out.trans (hb11.mono (Nat.le_succ _)))))
      clear d8 d9 hb10 hb11 ho9 ho10 D9 D10 B9 B10
      obtain ⟨M, hM⟩ : ∃ M, m + 4 + v.en + v.pn = M := ⟨_, rfl⟩
      have hMb : M ≤ 2000 := by omega
      rw [hM] at ho11
      simp only [hM]
      have HZ' := HZ3.out
      rw [HN4.out] at HZ'
      obtain ⟨Z, hZ⟩ : ∃ Z, Y ++ be 2 v.prof ++ be 2 (n4 : Int) ++ es ++ ps = Z := ⟨_, rfl⟩
      rw [hZ] at HZ' ho11
      have HZ4 := Lib.hid HZ'
      have HO11 := Lib.hid ho11
      clear HZ' HZ3 hZ hM ho11 HN4 HP4 HP5 HQ4 H2 H3
      go_loopw [6, 9] (fun sb sk wx => ∃ (j : Nat) (A : Option Addr) (c : Nat), j ≤ P - 1 ∧ sk = .int .i64 ((j + 1 : Nat) : Int) ∧ sb = .slice A (M + j) c ∧ Own wx (w.heap.size + 1) A (M + j) c (Z ++ List.replicate j 0) ∧ Below w.heap.size w wx ∧ PBlk wx w.heap.size v)
        (fun _ sk _ => P - (intOf sk).toNat)
      case atStart => exact ⟨0, A11, c11, by omega, rfl, rfl, by simpa using HO11.out, B11.out, D11⟩
      case round =>
        obtain ⟨j, A', c', hj, rfl, rfl, ho, hb, D⟩ := hrel
        rename World => wy
        clear HO11 B11 D11
        have d10 := D.c10
        rw [HPP.out] at d10
        by_cases hlt : j + 1 < P
        · have i1 : ((j + 1 : Nat) : Int) < (P : Int) := by omega
          have HW := alloc1 wy 0
          have hbA := (Below.refl wy.heap.size wy).alloc (Nat.le_refl _) (.cells #[.int .u8 0] 5)
          have DA := D.below hbA D.lt
          have hB0 := hb.trans (hbA.mono hb.size)
          have hl : Z ++ List.replicate j 0 ++ [0] = Z ++ List.replicate (j + 1) 0 := by rw [rep_snoc, List.append_assoc]
          go_wp2_with (at_builtin; refine wpList_append_bytes rfl (.tmp 95) (.tmp 96) rfl (w.heap.size + 1) _ (M + j) c' 1 1 (M + (j + 1)) A' _ (Z ++ List.replicate j 0) [0] (Z ++ List.replicate (j + 1) 0) (by omega) hl rfl rfl (ho.below hbA (Nat.le_refl _)) (HW.rd (by intro x hx; simp at hx; omega) rfl) DA.lt (by omega) ?_; intro A3 c3 w3 ho3 hb3)
          go_roundw
          case rel => exact ⟨j + 1, A3, c3, by omega, by go_num, rfl, ho3, hB0.trans (hb3.mono (Nat.le_succ _)), DA.below hb3 (Nat.lt_succ_self _)⟩
          case measure => simp [intOf]; omega
        · obtain rfl : j = P - 1 := by omega
          have i1 : ¬ ((P - 1 + 1 : Nat) : Int) < (P : Int) := by omega
          have i2 : (0 : Int) < (P : Int) := by omega
          have q8 : IntKind.u8.wrap (P : Int) = P := wrap8 _ (by omega) (by have := HPP.out; omega)
          have HW := alloc1 wy (P : Int)
          have hbA := (Below.refl wy.heap.size wy).alloc (Nat.le_refl _) (.cells #[.int .u8 (P : Int)] 5)
          have DA := D.below hbA D.lt
          have hB0 := hb.trans (hbA.mono hb.size)
          go_wp2_with (at_builtin; refine wpList_append_bytes rfl (.tmp 101) (.tmp 105) rfl (w.heap.size + 1) _ (M + (P - 1)) c' 1 1 (M + (P - 1) + 1) A' _ (Z ++ List.replicate (P - 1) 0) [(P : Int)] (Z ++ List.replicate (P - 1) 0 ++ [(P : Int)]) rfl rfl rfl rfl (ho.below hbA (Nat.le_refl _)) (HW.rd (by intro x hx; simp at hx; have := HPP.out; omega) rfl) DA.lt (by omega) ?_; intro A3 c3 w3 ho3 hb3)
          go_ret2
          refine HFIN.out A3 c3 _ _ _ ?_ ho3 (hB0.trans (hb3.mono (Nat.le_succ _)))
          rw [HZ4.out, HPP.out, Int.toNat_natCast]

set_option maxHeartbeats 8000000 in
theorem rput_111 (v : PV) (N M1 : Nat) (cs es ps : List Int) (F S : Int) (w : World) (hF : 128 + (v.cn : Int) + 32 + 16 = F) (hS : v.ty + 128 = S) (hF1 : 0 ≤ F ∧ F ≤ 255) (hS1 : 0 ≤ S ∧ S ≤ 255) (hcn : v.cn ≤ 15) (hty : 0 ≤ v.ty ∧ v.ty ≤ 127) (hpad : 0 ≤ v.pad ∧ v.pad ≤ 255)
    (hs : 0 ≤ v.seq ∧ v.seq ≤ 65535) (ht : 0 ≤ v.time ∧ v.time ≤ 4294967295) (hz : 0 ≤ v.ssrc ∧ v.ssrc ≤ 4294967295) (hpr : 0 ≤ v.prof ∧ v.prof ≤ 65535) (hen : v.en ≤ 512) (hpn : v.pn ≤ 512) (hp : 0 < v.pad) (hh : v.he = true) (hm : v.mrk = true) (hN : N ≤ 512)
    (CM : Hid (∀ W, Calls Try.prog 60 #[pkt v] W (RetB W true))) (CS : Hid (∀ W, Calls Try.prog 61 #[pkt v] W (RetI W N)))
    (h1 : Wd w w.heap.size v.ca v.cn cs) (h2 : Rd w w.heap.size v.ea v.en es) (h3 : Rd w w.heap.size v.pa v.pn ps) (zs : List Int)
    (hzs : zs = ([F, S] ++ be 2 v.seq ++ be 4 v.time ++ be 4 v.ssrc ++ bes cs) ++ be 2 v.prof ++ be 2 ((v.en / 4 : Nat) : Int) ++ es ++ ps ++ List.replicate (v.pad.toNat - 1) 0 ++ [v.pad]) :
    Calls Try.prog 44 #[pkt v] w (RetR w zs 0) := by
  have hb0 := (Below.refl w.heap.size w).alloc (Nat.le_refl _) (pobj v)
  have CA := Lib.hid (app_any w)
  have HH := Lib.hid hh
  have HM := Lib.hid hm
  have H2 := Lib.hid h2
  have H3 := Lib.hid h3
  have HZ := Lib.hid hzs
  obtain ⟨ca, hca⟩ : ∃ ca, v.ca = ca := ⟨_, rfl⟩
  rw [hca] at h1
  have HCA := Lib.hid hca
  have HCS : Hid (∀ W k, Below w.heap.size w W → k < v.cn → ∃ b off x, ca = some ⟨b, off, none⟩ ∧ cs.getD k 0 = x ∧ 0 ≤ x ∧ x ≤ 4294967295 ∧ W.cell? ⟨b, off + k, none⟩ = some (.int .u32 x)) := fun W k hW hk => by
    obtain ⟨b, off, e, hlt, hc⟩ := h1.2.2 (by omega)
    have := h1.2.1.getD k
    exact ⟨b, off, _, e, rfl, this.1, this.2, (hW.cell (p := ⟨b, off + k, none⟩) hlt).trans (hc k hk)⟩
  have HLC := Lib.hid h1.1
  have q0 : IntKind.u8.wrap F = F := wrap8 _ hF1.1 hF1.2
  have q1 : IntKind.u8.wrap S = S := wrap8 _ hS1.1 hS1.2
  have p1 : IntKind.u64.wrap v.seq = v.seq := by simp [IntKind.wrap, IntKind.bits, IntKind.signed]; omega
  have p2 : IntKind.u64.wrap v.time = v.time := by simp [IntKind.wrap, IntKind.bits, IntKind.signed]; omega
  have p3 : IntKind.u64.wrap v.ssrc = v.ssrc := by simp [IntKind.wrap, IntKind.bits, IntKind.signed]; omega
  have hN' : ¬ (512 : Int) < N := by omega
  obtain ⟨P, hP⟩ := Int.eq_ofNat_of_zero_le hpad.1
  have HPP := Lib.hid hP
  have hPb : P ≤ 255 := by omega
  have HFIN : Hid (∀ A c M W ys, ys = zs → Own W (w.heap.size + 1) A M c ys → Below w.heap.size w W → RetR w zs 0 (.returned (.tuple #[.slice A M c, .int .i64 0])) W) := by
    rintro A c M W ys rfl ho hb
    have hl := ho.len
    subst hl
    exact ⟨A, c, rfl, ho.lower (Nat.le_succ _), hb⟩
  have hp4 : IntKind.u64.wrap v.prof = v.prof := by simp [IntKind.wrap, IntKind.bits, IntKind.signed]; omega
  obtain ⟨n4, hn4⟩ : ∃ n4, v.en / 4 = n4 := ⟨_, rfl⟩
  have hn4b : n4 ≤ 65535 := by omega
  have q4 : (v.en : Int).tdiv 4 = (n4 : Int) := by rw [Int.tdiv_eq_ediv_of_nonneg (by omega)]; omega
  have hp5 : IntKind.u64.wrap (n4 : Int) = n4 := by simp [IntKind.wrap, IntKind.bits, IntKind.signed]; omega
  have HN4 := Lib.hid hn4
  have HP4 := Lib.hid hp4
  have HP5 := Lib.hid hp5
  have HQ4 := Lib.hid q4
  have hpp : 1 ≤ P := by omega
  clear hh hm h1 h2 h3 hzs hca hP hp4 hn4 q4 hp5
  go_enter Try.func44, Try.ntmps44
  go_wp2_with fail
  refine (CM.out _).mono ?_
  rintro e w1 ⟨rfl, hb1⟩
  have D1 : PBlk w1 w.heap.size v := (PBlk.new w v).below hb1 (by simp)
  have B1 := Lib.hid (hb0.trans (hb1.mono hb0.size))
  clear hb0 hb1 CM
  obtain ⟨d0, d1, d2, d3, d4, d5, d6, d7, d8, d9, d10⟩ := D1.cells
  go_wp2_with fail
  clear d0 d1 d2 d3 d4 d5 d6 d7 d8 d9 d10
  refine (CS.out _).mono ?_
  rintro e w2 ⟨rfl, hb2⟩
  have D2 : PBlk w2 w.heap.size v := D1.below hb2 D1.lt
  have B2 := Lib.hid (B1.out.trans (hb2.mono B1.out.size))
  clear hb2 D1 B1 CS
  have hW2 : w.heap.size + 1 ≤ w2.heap.size := D2.lt
  have hb3 := (Below.refl w2.heap.size w2).alloc (Nat.le_refl _) (.cells #[.int .u8 F, .int .u8 S] 5)
  have D3 := D2.below hb3 D2.lt
  have HO3 := Lib.hid (own_new w w2 F S hW2 hF1 hS1)
  have d5 := D2.c5
  have d10 := D2.c10
  have d6 := D2.c6
  have d1 := D2.c1
  have d0 := D2.c0
  rw [HH.out] at d6
  rw [HM.out] at d0
  have d2 := D3.c2
  go_wp2_with fail
  clear d5 d10 d6 d1 d0 d2 p1
  have B3 := Lib.hid (B2.out.trans (hb3.mono B2.out.size))
  refine (CA.out _ _ 2 4 _ 2 v.seq [F, S] ([F, S] ++ be 2 v.seq) HO3.out (Nat.le_trans hW2 hb3.size) rfl rfl (by omega) (by omega) (by omega) hs.1 (by omega)).mono ?_
  rintro e w4 ⟨A4, c4, rfl, ho4, hb4⟩
  have D4 := D3.below hb4 D3.lt
  have HO4 := Lib.hid ho4
  have B4 := Lib.hid (B3.out.trans (hb4.mono B3.out.size))
  clear ho4 hb4 D3 D2 HO3 B3 B2 hb3 hW2
  have d3 := D4.c3
  go_wp2_with fail
  clear d3 p2
  refine (CA.out _ _ 4 8 _ 4 v.time _ ([F, S] ++ be 2 v.seq ++ be 4 v.time) HO4.out D4.lt rfl rfl (by omega) (by omega) (by omega) ht.1 (by omega)).mono ?_
  rintro e w5 ⟨A5, c5, rfl, ho5, hb5⟩
  have D5 := D4.below hb5 D4.lt
  have HO5 := Lib.hid ho5
  have B5 := Lib.hid (B4.out.trans (hb5.mono B4.out.size))
  clear ho5 hb5 D4 HO4 B4
  have d4 := D5.c4
  go_wp2_with fail
  clear d4 p3
  refine (CA.out _ _ 8 12 _ 4 v.ssrc _ ([F, S] ++ be 2 v.seq ++ be 4 v.time ++ be 4 v.ssrc) HO5.out D5.lt rfl rfl (by omega) (by omega) (by omega) hz.1 (by omega)).mono ?_
  rintro e w6 ⟨A6, c6, rfl, ho6, hb6⟩
  have D6 := D5.below hb6 D5.lt
  have HO6 := Lib.hid ho6
  have B6 := Lib.hid (B5.out.trans (hb6.mono B5.out.size))
  clear ho6 hb6 D5 HO5 B5

  have d5 := D6.c5
  rw [HCA.out] at d5
  obtain ⟨Hd, hHd⟩ : ∃ Hd, [F, S] ++ be 2 v.seq ++ be 4 v.time ++ be 4 v.ssrc = Hd := ⟨_, rfl⟩
  rw [hHd] at HO6
  have HZ' := HZ.out
  rw [hHd] at HZ'
  have HZ2 := Lib.hid HZ'
  clear HZ HZ' hHd HCA
  go_wp2_with fail
  clear d5
  go_loopw [6, 58] (fun sb sk wx => ∃ (k : Nat) (A : Option Addr) (c : Nat), k ≤ v.cn ∧ sk = .int .i64 k ∧ sb = .slice A (12 + 4 * k) c ∧ Own wx (w.heap.size + 1) A (12 + 4 * k) c (Hd ++ bes (cs.take k)) ∧ Below w.heap.size w wx ∧ PBlk wx w.heap.size v)
    (fun _ sk _ => v.cn - (intOf sk).toNat)
  case atStart => exact ⟨0, A6, c6, by omega, rfl, rfl, by simpa [bes] using HO6.out, B6.out, D6⟩
  case round =>
    obtain ⟨k, A, c, hk, rfl, rfl, ho, hb, D⟩ := hrel
    rename World => wx
    clear HO6 B6 D6
    by_cases hlt : k < v.cn
    · obtain ⟨b, off, x, rfl, hx, hx0, hx1, hc⟩ := HCS.out wx k hb hlt
      have p4 : IntKind.u64.wrap x = x := by simp [IntKind.wrap, IntKind.bits, IntKind.signed]; omega
      have hl : Hd ++ bes (cs.take k) ++ be 4 x = Hd ++ bes (cs.take (k + 1)) := by rw [take_snoc k (by rw [HLC.out]; exact hlt), bes_snoc, hx, List.append_assoc]
      have C := CA.out wx A (12 + 4 * k) (12 + 4 * (k + 1)) c 4 x _ _ ho D.lt (by omega) hl (by omega) (by omega) (by omega) hx0 (by omega)
      have HC := Lib.hid C
      clear C hl hx
      go_wp2_with fail
      refine HC.out.mono ?_
      rintro e w7 ⟨A', c', rfl, ho', hb'⟩
      clear hc p4
      go_wp2
      go_roundw
      case rel => exact ⟨k + 1, A', c', by omega, by go_num, rfl, ho', hb.trans (hb'.mono hb.size), D.below hb' D.lt⟩
      case measure => simp [intOf]; omega
    · obtain rfl : k = v.cn := by omega
      rw [List.take_of_length_le (by rw [HLC.out]; exact Nat.le_refl _)] at ho
      clear HCS HLC
      obtain ⟨Y, hY⟩ : ∃ Y, Hd ++ bes cs = Y := ⟨_, rfl⟩
      rw [hY] at ho
      have HZ' := HZ2.out
      rw [hY] at HZ'
      have HZ3 := Lib.hid HZ'
      clear HZ2 HZ' hY
      obtain ⟨m, hm4⟩ : ∃ m, 12 + 4 * v.cn = m := ⟨_, rfl⟩
      have hmb : m ≤ 72 := by omega
      rw [hm4] at ho
      simp only [hm4]
      have d6 := D.c6
      rw [HH.out] at d6
      have d7 := D.c7
      have p4 := HP4.out
      have HO := Lib.hid ho
      go_wp2_with fail
      clear d6 d7 p4
      refine (CA.out wx A m (m + 2) c 2 v.prof Y (Y ++ be 2 v.prof) HO.out D.lt rfl rfl (by omega) (by omega) (by omega) hpr.1 (by omega)).mono ?_
      rintro e w8 ⟨A8, c8, rfl, ho8, hb8⟩
      have D8 := D.below hb8 D.lt
      have B8 := Lib.hid (hb.trans (hb8.mono hb.size))
      have HO8 := Lib.hid ho8
      clear ho8 hb8 D HO hb ho
      have d8 := D8.c8
      have p5 := HP5.out
      have q4 := HQ4.out
      go_wp2_with fail
      clear d8 p5 q4
      refine (CA.out w8 A8 (m + 2) (m + 4) c8 2 (n4 : Int) _ (Y ++ be 2 v.prof ++ be 2 (n4 : Int)) HO8.out D8.lt rfl rfl (by omega) (by omega) (by omega) (by omega) (by omega)).mono ?_
      rintro e w9 ⟨A9, c9, rfl, ho9, hb9⟩
      have D9 := D8.below hb9 D8.lt
      have B9 := Lib.hid (B8.out.trans (hb9.mono B8.out.size))
      clear hb9 D8 HO8 B8
      have d8 := D9.c8
      go_wp2_with (first
        | (at_builtin; refine wpList_append_bytes rfl (.tmp 81) (.tmp 83) rfl (w.heap.size + 1) w.heap.size (m + 4) c9 v.en v.ec (m + 4 + v.en) A9 v.ea (Y ++ be 2 v.prof ++ be 2 (n4 : Int)) es (Y ++ be 2 v.prof ++ be 2 (n4 : Int) ++ es) rfl rfl rfl rfl ho9 (H2.out.below B9.out) D9.lt (by omega) ?_
           intro A10 c10 w10 ho10 hb10
           have D10 := D9.below hb10 (Nat.lt_succ_self _)
           have B10 := Lib.hid (B9.out.trans (hb10.mono (Nat.le_succ _)))
           have d9 := D10.c9)
        | (at_builtin; refine wpList_append_bytes rfl (.tmp 85) (.tmp 87) rfl (w.heap.size + 1) w.heap.size (m + 4 + v.en) c10 v.pn v.pc (m + 4 + v.en + v.pn) A10 v.pa (Y ++ be 2 v.prof ++ be 2 (n4 : Int) ++ es) ps (Y ++ be 2 v.prof ++ be 2 (n4 : Int) ++ es ++ ps) rfl rfl rfl rfl ho10 (H3.out.below B10.out) D10.lt (by omega) ?_
           intro A11 c11 w11 ho11 hb11
           have D11 := D10.below hb11 (Nat.lt_succ_self _)
           have B11 := Lib.hid (B10.out.trans (hb11.mono (Nat.le_succ _)))))
      clear d8 d9 hb10 hb11 ho9 ho10 D9 D10 B9 B10
      obtain ⟨M, hM⟩ : ∃ M, m + 4 + v.en + v.pn = M := ⟨_, rfl⟩
      have hMb : M ≤ 2000 := by omega
      rw [hM] at ho11
      simp only [hM]
      have HZ' := HZ3.out
      rw [HN4.out] at HZ'
      obtain ⟨Z, hZ⟩ : ∃ Z, Y ++ be 2 v.prof ++ be 2 (n4 : Int) ++ es ++ ps = Z := ⟨_, rfl⟩
      rw [hZ] at HZ' ho11
      have HZ4 := Lib.hid HZ'
      have HO11 := Lib.hid ho11
      clear HZ' HZ3 hZ hM ho11 HN4 HP4 HP5 HQ4 H2 H3
      go_loopw [6, 9] (fun sb sk wx => ∃ (j : Nat) (A : Option Addr) (c : Nat), j ≤ P - 1 ∧ sk = .int .i64 ((j + 1 : Nat) : Int) ∧ sb = .slice A (M + j) c ∧ Own wx (w.heap.size + 1) A (M + j) c (Z ++ List.replicate j 0) ∧ Below w.heap.size w wx ∧ PBlk wx w.heap.size v)
        (fun _ sk _ => P - (intOf sk).toNat)
      case atStart => exact ⟨0, A11, c11, by omega, rfl, rfl, by simpa using HO11.out, B11.out, D11⟩
      case round =>
        obtain ⟨j, A', c', hj, rfl, rfl, ho, hb, D⟩ := hrel
        rename World => wy
        clear HO11 B11 D11
        have d10 := D.c10
        rw [HPP.out] at d10
        by_cases hlt : j + 1 < P
        · have i1 : ((j + 1 : Nat) : Int) < (P : Int) := by omega
          have HW := alloc1 wy 0
          have hbA := (Below.refl wy.heap.size wy).alloc (Nat.le_refl _) (.cells #[.int .u8 0] 5)
          have DA := D.below hbA D.lt
          have hB0 := hb.trans (hbA.mono hb.size)
          have hl : Z ++ List.replicate j 0 ++ [0] = Z ++ List.replicate (j + 1) 0 := by rw [rep_snoc, List.append_assoc]
          go_wp2_with (at_builtin; refine wpList_append_bytes rfl (.tmp 95) (.tmp 96) rfl (w.heap.size + 1) _ (M + j) c' 1 1 (M + (j + 1)) A' _ (Z ++ List.replicate j 0) [0] (Z ++ List.replicate (j + 1) 0) (by omega) hl rfl rfl (ho.below hbA (Nat.le_refl _)) (HW.rd (by intro x hx; simp at hx; omega) rfl) DA.lt (by omega) ?_; intro A3 c3 w3 ho3 hb3)
          go_roundw
          case rel => exact ⟨j + 1, A3, c3, by omega, by go_num, rfl, ho3, hB0.trans (hb3.mono (Nat.le_succ _)), DA.below hb3 (Nat.lt_succ_self _)⟩
          case measure => simp [intOf]; omega
        · obtain rfl : j = P - 1 := by omega
          have i1 : ¬ ((P - 1 + 1 : Nat) : Int) < (P : Int) := by omega
          have i2 : (0 : Int) < (P : Int) := by omega
          have q8 : IntKind.u8.wrap (P : Int) = P := wrap8 _ (by omega) (by have := HPP.out; omega)
          have HW := alloc1 wy (P : Int)
          have hbA := (Below.refl wy.heap.size wy).alloc (Nat.le_refl _) (.cells #[.int .u8 (P : Int)] 5)
          have DA := D.below hbA D.lt
          have hB0 := hb.trans (hbA.mono hb.size)
          go_wp2_with (at_builtin; refine wpList_append_bytes rfl (.tmp 101) (.tmp 105) rfl (w.heap.size + 1) _ (M + (P - 1)) c' 1 1 (M + (P - 1) + 1) A' _ (Z ++ List.replicate (P - 1) 0) [(P : Int)] (Z ++ List.replicate (P - 1) 0 ++ [(P : Int)]) rfl rfl rfl rfl (ho.below hbA (Nat.le_refl _)) (HW.rd (by intro x hx; simp at hx; have := HPP.out; omega) rfl) DA.lt (by omega) ?_; intro A3 c3 w3 ho3 hb3)
          go_ret2
          refine HFIN.out A3 c3 _ _ _ ?_ ho3 (hB0.trans (hb3.mono (Nat.le_succ _)))
          rw [HZ4.out, HPP.out, Int.toNat_natCast]

end Go.Proofs.Ytdnnfoacpjgloaa.Rtp
