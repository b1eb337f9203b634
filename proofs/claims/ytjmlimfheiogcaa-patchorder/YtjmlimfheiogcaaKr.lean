/- The contract of rtp.Put. · The contracts of rtp.May, Size, Put, Get, whatever comes in. -/
import Derived.Test.YtjmlimfheiogcaaKq
import Derived.Test.YtjmlimfheiogcaaKg
import Derived.Test.YtjmlimfheiogcaaPt
namespace Go.Proofs.Ytjmlimfheiogcaa.Rtp
open Go.RowKit
set_option linter.unusedVariables false

/-- Bytes and what was wrong. -/
def RetR (w : World) (ys : List Int) (n : Int) (e : Ending) (w' : World) : Prop :=
  ∃ A c, e = .returned (.tuple #[.slice A ys.length c, .int .i64 n]) ∧ Own w' w.heap.size A ys.length c ys ∧ Below w.heap.size w w'

set_option maxHeartbeats 1000000 in
theorem put_none (v : PV) (w : World) (CS : Hid (∀ W, Calls Try.prog 51 #[pkt v] W (RetI W 0))) : Calls Try.prog 37 #[pkt v] w (RetR w [] 1) := by
  have hb : Below w.heap.size w (w.alloc (pobj v)) := (Below.refl _ _).alloc (Nat.le_refl _) _
  go_enter Try.func37, Try.ntmps37
  go_wp2_with fail
  refine (CS.out _).mono ?_
  rintro e w1 ⟨rfl, hb1⟩
  go_wp2
  go_ret2
  exact ⟨none, 0, rfl, Own.nil _ _, hb.trans (hb1.mono hb.size)⟩
set_option maxHeartbeats 1000000 in
theorem put_more (v : PV) (n : Int) (w : World) (hn : 512 < n) (CS : Hid (∀ W, Calls Try.prog 51 #[pkt v] W (RetI W n))) : Calls Try.prog 37 #[pkt v] w (RetR w [] 5) := by
  have hb : Below w.heap.size w (w.alloc (pobj v)) := (Below.refl _ _).alloc (Nat.le_refl _) _
  have hz : (n == 0) = false := by simp; omega
  go_enter Try.func37, Try.ntmps37
  go_wp2_with fail
  refine (CS.out _).mono ?_
  rintro e w1 ⟨rfl, hb1⟩
  go_wp2
  go_ret2
  exact ⟨none, 0, rfl, Own.nil _ _, hb.trans (hb1.mono hb.size)⟩

set_option maxHeartbeats 4000000 in
theorem put_walk (v : PV) (N at1_ at2_ : Nat) (ps L1 L2 L3 L5 : List Int) (w : World) (h12 : 12 ≤ N) (h512 : N ≤ 512) (hl3 : L3.length = N) (ha2 : at2_ + v.pn ≤ N)
    (CS : Hid (∀ W, Calls Try.prog 51 #[pkt v] W (RetI W N)))
    (CH : Hid (∀ W g, Blk W g (List.replicate N 0) [] → Calls Try.prog 52 #[.slice (some ⟨g, 0, none⟩) N N, pkt v] W (RetN W g L1)))
    (CC : Hid (∀ W g, Below w.heap.size w W → w.heap.size ≤ g → Blk W g L1 [] → Calls Try.prog 53 #[.slice (some ⟨g, 0, none⟩) N N, .int .i64 12, .slice v.ca v.cn v.cc] W (RetA W g L2 at1_)))
    (CE : Hid (v.he = true → ∀ W g, Below w.heap.size w W → w.heap.size ≤ g → Blk W g L2 [] → Calls Try.prog 54 #[.slice (some ⟨g, 0, none⟩) N N, .int .i64 at1_, pkt v] W (RetA W g L3 at2_)))
    (he0 : v.he = false → at1_ = at2_ ∧ L2 = L3) (hrp : ps.length = v.pn ∧ True) (hps : Hid (∀ W, Below w.heap.size w W → Rd W w.heap.size v.pa v.pn ps))
    (hpad : 0 ≤ v.pad ∧ v.pad ≤ 255) (h5 : L5 = if 0 < v.pad then (splice L3 at2_ ps).set (N - 1) v.pad else splice L3 at2_ ps) (h5l : L5.length = N) (h5b : Bytes L5) :
    Calls Try.prog 37 #[pkt v] w (RetR w L5 0) := by
  obtain ⟨i0, hi0, hz0, hz1, hz2⟩ := info_parts info5
  have HF : Hid (∀ g W, Blk W g L5 [] → w.heap.size ≤ g → Below w.heap.size w W → RetR w L5 0 (.returned (.tuple #[.slice (some ⟨g, 0, none⟩) N N, .int .i64 0])) W) := fun g W hk hg hb => by
    subst h5l
    exact ⟨_, _, rfl, Own.of_blk hk hg h5b rfl (by unfold maxLen; omega), hb⟩
  have HP := Lib.hid h5
  have hz : ((N : Int) == 0) = false := by simp; omega
  have hn0 : ¬ N = 0 := by omega
  clear h5 h5l h5b
  go_enter Try.func37, Try.ntmps37
  go_wp2_with fail
  have hb0 : Below w.heap.size w (w.alloc (pobj v)) := (Below.refl _ _).alloc (Nat.le_refl _) _
  refine (CS.out _).mono ?_
  rintro e w1 ⟨rfl, hb1⟩
  have D1 : PBlk w1 w.heap.size v := (PBlk.new w v).below hb1 (by simp)
  have H1 := Lib.hid (hb0.trans (hb1.mono hb0.size))
  clear hb0 hb1 CS
  go_wp2_with (at_make; refine wpList_make_full _ rfl _ _ 22 rfl w1.heap.size 5 i0 _ 1 Try.underlying22 hi0 hz0 hz1 .i64 .i64 _ _ N rfl rfl ?c1 ?c2 ?c3 ?c4 ?c5 ?_
               case c1 => omega
               case c2 => omega
               case c3 => rw [hz2]; omega
               case c4 => unfold maxLen; omega
               case c5 => exact Nat.le_refl _
               intro w2 hown hg2
               rw [bcells_zeros] at hown
               have HO := Lib.hid (own_blk hown rfl)
               have hb2 : Below w1.heap.size w1 w2 := (Below.refl _ _).grown hg2 (Nat.le_refl _) (by simp)
               have D2 : PBlk w2 w.heap.size v := D1.below hb2 D1.lt
               have H2 := Lib.hid (H1.out.trans (hb2.mono H1.out.size))
               have HQ := Lib.hid (show w.heap.size < w1.heap.size from D1.lt)
               clear hown hg2 hb2 D1
               generalize w1.heap.size = g at *
               have d0 := D2.c0
               have d1 := D2.c1
               have d2 := D2.c2
               have d3 := D2.c3
               have d4 := D2.c4
               have d5 := D2.c5
               have d6 := D2.c6
               have d7 := D2.c7
               have d8 := D2.c8
               have d9 := D2.c9
               have d10 := D2.c10)
  clear d0 d1 d2 d3 d4 d5 d6 d7 d8 d9 d10
  refine (CH.out _ g HO.out).mono ?_
  rintro e w3 ⟨rfl, hk3, hb3⟩
  have D3 : PBlk w3 w.heap.size v := D2.below hb3 HQ.out
  have H3 := Lib.hid (H2.out.trans (hb3.mono (Nat.le_of_lt HQ.out)))
  clear hb3 HO D2 CH H2 w2
  have d5 := D3.c5
  go_wp2_with fail
  clear d5
  refine (CC.out _ g H3.out (Nat.le_of_lt HQ.out) hk3).mono ?_
  rintro e w4 ⟨rfl, hk4, hb4⟩
  have D4 : PBlk w4 w.heap.size v := D3.below hb4 HQ.out
  have H4 := Lib.hid (H3.out.trans (hb4.mono (Nat.le_of_lt HQ.out)))
  clear hb4 hk3 D3 CC H3 w3
  rcases hh : v.he with _ | _
  · obtain ⟨rfl, rfl⟩ := he0 hh
    have d6 := D4.c6
    rw [hh] at d6
    have HH := Lib.hid hh
    clear CE he0 hh
    have D5 := D4
    have H5 := H4
    have hk5 := hk4
    obtain ⟨w5, hw5⟩ : ∃ w5, w4 = w5 := ⟨_, rfl⟩
    subst hw5
    clear D4 H4 hk4
    obtain ⟨X, HX, s1⟩ := cut_from g 0 N N at1_ (at1_ : Int) rfl (by omega)
    obtain ⟨w6, hcp, hk6, hg6⟩ := copy_into (w := w4.drew) (B := w.heap.size) (cap := v.pc) 3 hk5 hl3 (by omega) HX (hps.out _ H5.out.drew) ha2
    have HK6 := Lib.hid hk6
    have HB6 := Lib.hid (grown_below hg6 (show g ≤ w4.drew.heap.size from Nat.le_of_lt hk5.lt))
    have HX' := Lib.hid HX
    clear hk6 hps HX hi0 hz0 hz1 hz2
    have hS : PBlk w4.drew w.heap.size v := D5
    go_wp2_with fail
    have c9 : ∀ W, PBlk W w.heap.size v → W.cell? ⟨w.heap.size, 9, none⟩ = some (.slice v.pa v.pn v.pc) := fun W h => h.c9
    refine region_seq (fun W => PBlk W w.heap.size v) [(0, false), (1, false), (2, false), (3, false), (4, false), (5, true)] (by kernel_rfl) (by kernel_rfl) rfl (by kernel_rfl) ?_
    iterate 5 (refine seq_read (v := _) rfl (fun _ _ _ h => h) hS (Or.inl ⟨by rfl, fun W hW => by go_simp <;> with_reducible rfl⟩) ?_; simp only [Act.put, List.setIfInBounds_toArray, List.set_cons_zero, List.set_cons_succ])
    refine seq_do rfl (fun K hK => ?_)
    go_simp
    have D6 : PBlk w6 w.heap.size v := (hg6.block w.heap.size D5.lt (by have := HQ.out; simp; omega)).trans hS
    refine hK.out _ _ (fun W => PBlk W w.heap.size v) (fun W h => h) D6 ?_
    clear hK K c9 s1 hcp hS
    refine seq_end ?_
    have H6 := Lib.hid (H5.out.drew.trans (HB6.out.mono (Nat.le_of_lt HQ.out)))
    clear hg6 HB6 H5 hk5 D5 d6 w4
    have c10 := D6.c10
    by_cases hp : 0 < v.pad
    · have HL : Hid (L5 = (splice L2 at1_ ps).set (N - 1) v.pad) := HP.out.trans (if_pos hp)
      have hlen : (splice L2 at1_ ps).length = N := by rw [length_splice _ _ _ (by rw [hl3]; have := hrp.1; omega)]; exact hl3
      have y0 := HK6.out.cell (N - 1) (by rw [hlen]; omega)
      have z0 := HK6.out.frozen (N - 1)
      have d2 : (N : Int) - 1 = ((N - 1 : Nat) : Int) := by omega
      have hi : N - 1 < N := by omega
      have q : IntKind.u8.wrap v.pad = v.pad := wrap8 _ hpad.1 hpad.2
      obtain ⟨n0, y0⟩ : ∃ n, w6.cell? ⟨g, N - 1, none⟩ = some (.int .u8 n) := ⟨_, y0⟩
      go_wp2
      go_ret2
      refine HF.out g _ ?_ (Nat.le_of_lt HQ.out) (H6.out.setCell (p := ⟨g, N - 1, none⟩) (Nat.le_of_lt HQ.out) _)
      rw [HL.out]
      exact HK6.out.set_ (N - 1) (by rw [hlen]; omega) v.pad
    · have HL : Hid (L5 = splice L2 at1_ ps) := HP.out.trans (if_neg hp)
      go_wp2
      go_ret2
      refine HF.out g _ ?_ (Nat.le_of_lt HQ.out) H6.out
      rw [HL.out]
      exact HK6.out
  · have d0 := D4.c0
    have d1 := D4.c1
    have d2 := D4.c2
    have d3 := D4.c3
    have d4 := D4.c4
    have d5 := D4.c5
    have d6 := D4.c6
    have d7 := D4.c7
    have d8 := D4.c8
    have d9 := D4.c9
    have d10 := D4.c10
    rw [hh] at d6
    have C := CE.out hh w4 g H4.out (Nat.le_of_lt HQ.out) hk4
    simp only [pkt, hh] at C
    have HC := Lib.hid C
    have HH := Lib.hid hh
    clear CE he0 C hh
    go_wp2_with fail
    clear d0 d1 d2 d3 d4 d5 d6 d7 d8 d9 d10
    refine HC.out.mono ?_
    rintro e w5 ⟨rfl, hk5, hb5⟩
    have D5 : PBlk w5 w.heap.size v := D4.below hb5 HQ.out
    have H5 := Lib.hid (H4.out.trans (hb5.mono (Nat.le_of_lt HQ.out)))
    clear hb5 HC D4 H4 hk4 w4
    obtain ⟨X, HX, s1⟩ := cut_from g 0 N N at2_ (at2_ : Int) rfl (by omega)
    obtain ⟨w6, hcp, hk6, hg6⟩ := copy_into (w := w5.drew) (B := w.heap.size) (cap := v.pc) 3 hk5 hl3 (by omega) HX (hps.out _ H5.out.drew) ha2
    have HK6 := Lib.hid hk6
    have HB6 := Lib.hid (grown_below hg6 (show g ≤ w5.drew.heap.size from Nat.le_of_lt hk5.lt))
    have HX' := Lib.hid HX
    clear hk6 hps HX hi0 hz0 hz1 hz2
    have hS : PBlk w5.drew w.heap.size v := D5
    go_wp2_with fail
    have c9 : ∀ W, PBlk W w.heap.size v → W.cell? ⟨w.heap.size, 9, none⟩ = some (.slice v.pa v.pn v.pc) := fun W h => h.c9
    refine region_seq (fun W => PBlk W w.heap.size v) [(0, false), (1, false), (2, false), (3, false), (4, false), (5, true)] (by kernel_rfl) (by kernel_rfl) rfl (by kernel_rfl) ?_
    iterate 5 (refine seq_read (v := _) rfl (fun _ _ _ h => h) hS (Or.inl ⟨by rfl, fun W hW => by go_simp <;> with_reducible rfl⟩) ?_; simp only [Act.put, List.setIfInBounds_toArray, List.set_cons_zero, List.set_cons_succ])
    refine seq_do rfl (fun K hK => ?_)
    go_simp
    have D6 : PBlk w6 w.heap.size v := (hg6.block w.heap.size D5.lt (by have := HQ.out; simp; omega)).trans hS
    refine hK.out _ _ (fun W => PBlk W w.heap.size v) (fun W h => h) D6 ?_
    clear hK K c9 s1 hcp hS
    refine seq_end ?_
    have H6 := Lib.hid (H5.out.drew.trans (HB6.out.mono (Nat.le_of_lt HQ.out)))
    clear hg6 HB6 H5 hk5 D5 w5
    have c10 := D6.c10
    by_cases hp : 0 < v.pad
    · have HL : Hid (L5 = (splice L3 at2_ ps).set (N - 1) v.pad) := HP.out.trans (if_pos hp)
      have hlen : (splice L3 at2_ ps).length = N := by rw [length_splice _ _ _ (by rw [hl3]; have := hrp.1; omega)]; exact hl3
      have y0 := HK6.out.cell (N - 1) (by rw [hlen]; omega)
      have z0 := HK6.out.frozen (N - 1)
      have d2 : (N : Int) - 1 = ((N - 1 : Nat) : Int) := by omega
      have hi : N - 1 < N := by omega
      have q : IntKind.u8.wrap v.pad = v.pad := wrap8 _ hpad.1 hpad.2
      obtain ⟨n0, y0⟩ : ∃ n, w6.cell? ⟨g, N - 1, none⟩ = some (.int .u8 n) := ⟨_, y0⟩
      go_wp2
      go_ret2
      refine HF.out g _ ?_ (Nat.le_of_lt HQ.out) (H6.out.setCell (p := ⟨g, N - 1, none⟩) (Nat.le_of_lt HQ.out) _)
      rw [HL.out]
      exact HK6.out.set_ (N - 1) (by rw [hlen]; omega) v.pad
    · have HL : Hid (L5 = splice L3 at2_ ps) := HP.out.trans (if_neg hp)
      go_wp2
      go_ret2
      refine HF.out g _ ?_ (Nat.le_of_lt HQ.out) H6.out
      rw [HL.out]
      exact HK6.out
end Go.Proofs.Ytjmlimfheiogcaa.Rtp

namespace Go.Proofs.Ytjmlimfheiogcaa.Rtp
open Go.RowKit
set_option linter.unusedVariables false

theorem mayV_of (p : Pkt) (l : Loc) : mayV (pvOf p l) = mayPB p := by
  unfold mayV mayPB tyB extV pvOf
  generalize p.ext.length = en
  generalize p.csrc.length = cn
  cases p.mrk <;> cases p.he <;> rw [Bool.eq_iff_iff] <;> simp <;> omega
theorem lenV_of (p : Pkt) (l : Loc) : lenV (pvOf p l) = lenP p := by
  unfold lenV lenP pvOf
  cases p.he <;> simp <;> omega
theorem sizeV_of (p : Pkt) (l : Loc) : sizeV (pvOf p l) = sizeP p := by rw [sizeV, sizeP, mayV_of, lenV_of]

section
variable {w : World} {B : Nat} {p : Pkt} {l : Loc}
theorem may_pkt (w : World) (p : Pkt) (l : Loc) (hr : p.ext.length ≤ 140737488351232) : Calls Try.prog 59 #[pkt (pvOf p l)] w (RetB w (mayPB p)) := mayV_of p l ▸ may_any (pvOf p l) w hr
theorem size_pkt (w : World) (p : Pkt) (l : Loc) (he : p.ext.length ≤ 140737488351232) (hp : p.pay.length ≤ 140737488351232) : Calls Try.prog 51 #[pkt (pvOf p l)] w (RetI w (sizeP p)) := sizeV_of p l ▸ size_any (pvOf p l) w he hp

theorem put_pkt (w : World) (p : Pkt) (l : Loc) (ho : p.Ok) (hr : PRd w B p l) (hB : B ≤ w.heap.size) : Calls Try.prog 37 #[pkt (pvOf p l)] w (RetR w (putB p) (putE p)) := by
  have hr := hr.more hB
  have CS := fun W => size_pkt W p l hr.en hr.pn
  unfold putB putE
  unfold sizeP at CS
  cases hm : mayPB p
  · rw [hm] at CS
    exact put_none (pvOf p l) w CS
  · rw [hm, if_pos rfl] at CS
    rw [if_pos rfl, if_pos rfl]
    have hmay := (mayPB_iff p).1 hm
    by_cases h512 : 512 < lenP p
    · rw [if_pos h512, if_pos h512]
      exact put_more (pvOf p l) (lenP p) w h512 CS
    · rw [if_neg h512, if_neg h512]
      have hle := lenP_eq p hmay
      obtain ⟨N, hN⟩ : ∃ N : Nat, (N : Int) = lenP p := ⟨(enc p).length, hle⟩
      rw [← hN] at CS
      obtain ⟨r1, r2, r3, r4, r5, r6⟩ := row_lens p N hmay hN
      have e5 := row5_eq p N hmay hN
      have hlen := enc_length p hmay
      have hl12 := headB_length p
      have hp0 := hmay.pad0
      have hfirst : firstV (pvOf p l) = first p := rfl
      have hsecond : secondV (pvOf p l) = second p := rfl
      rw [← e5]
      refine put_walk (pvOf p l) N (12 + 4 * p.csrc.length) (atP p) p.pay (row1 p N) (row2 p N) (row3 p N) (row5 p N) w (by omega) (by omega) r3 r4 CS ?_ ?_ ?_ ?_ ⟨rfl, trivial⟩ ?_ ⟨hmay.pad0, hmay.pad1⟩ rfl (by rw [e5]; omega) (by rw [e5]; exact enc_bytes p ho hmay)
      · intro W g hk
        have := putHead_any g N (pvOf p l) (List.replicate N 0) W (by omega) (by omega) (by simp) hk hmay.csrc ⟨hmay.ty0, hmay.ty1⟩ ⟨ho.seq0, ho.seq1⟩ ⟨ho.time0, ho.time1⟩ ⟨ho.ssrc0, ho.ssrc1⟩
        exact this
      · intro W g hW hg hk
        have := putCsrc_any g N l.cc p.csrc.length 12 l.ca p.csrc (row1 p N) W (by omega) r1 hk ((hr.csrc.below hW).more hg) r5
        exact this
      · intro he W g hW hg hk
        have := putExt_any g N (12 + 4 * p.csrc.length) (pvOf p l) p.ext (row2 p N) W (by omega) r2 hk ((hr.ext.below hW).more hg) (r6 he) ⟨ho.prof0, ho.prof1⟩
        have he' : p.he = true := he
        rw [row3, atP, he', if_pos rfl, if_pos rfl]
        exact this
      · intro he
        have he' : p.he = false := he
        rw [row3, atP, he']
        exact ⟨rfl, rfl⟩
      · intro W hW
        exact hr.pay.below hW
end

theorem nb_mid' (xs : List Int) (i m j k : Nat) (h : j + k ≤ m) : nb ((xs.drop i).take m) j k = nb xs (i + j) k := by
  unfold nb
  rw [List.drop_take, List.take_take, Nat.min_eq_left (by omega), List.drop_drop]
theorem wordsAt_mid' (xs : List Int) (i m : Nat) : ∀ (n j : Nat), j + 4 * n ≤ m → wordsAt ((xs.drop i).take m) j n = wordsAt xs (i + j) n
  | 0, _, _ => rfl
  | n + 1, j, h => by rw [wordsAt, wordsAt, nb_mid' _ _ _ _ _ (by omega), wordsAt_mid' xs i m n (j + 4) (by omega), Nat.add_assoc]

end Go.Proofs.Ytjmlimfheiogcaa.Rtp
