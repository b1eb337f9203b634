/- Bytes that stand within a greater block, whichever its type: fields of a packet written there. -/
import Derived.Test.YtdnnfoacpjgloaaNa
set_option maxRecDepth 100000
namespace Go.Proofs.Ytdnnfoacpjgloaa.Pat
open Go.RowKit
set_option linter.unusedVariables false

/-- Bytes within a block of whatever type: P ahead of them, T behind them. -/
def BlkG (w : World) (g : Nat) (t : TypeId) (P : List Value) (cs : List Int) (T : List Value) : Prop := w.heap[g]? = some (.cells (P ++ (bcells cs ++ T)).toArray t (0, 0))
section
variable {w w' : World} {g : Nat} {t : TypeId} {P T : List Value} {cs : List Int}
theorem BlkG.lt (h : BlkG w g t P cs T) : g < w.heap.size := by
  rcases Nat.lt_or_ge g w.heap.size with hlt | hge
  · exact hlt
  · unfold BlkG at h; rw [Array.getElem?_eq_none hge] at h; cases h
theorem BlkG.cell (h : BlkG w g t P cs T) (i : Nat) (hi : i < cs.length) : w.cell? ⟨g, P.length + i, none⟩ = some (.int .u8 (cs.getD i 0)) := by
  rw [cell_of_row w g (P.length + i) _ t (0, 0) h, List.getElem?_toArray, List.getElem?_append_right (by omega), Nat.add_sub_cancel_left, List.getElem?_append_left (by rw [bcells_length]; exact hi), bcells_getElem? cs i hi]
theorem BlkG.frozen (h : BlkG w g t P cs T) (i : Nat) : w.frozen? ⟨g, i, none⟩ = false := frozen_of_row w g i _ t h
theorem BlkG.set_ (h : BlkG w g t P cs T) (i : Nat) (hi : i < cs.length) (x : Int) : BlkG (w.setCell ⟨g, P.length + i, none⟩ (.int .u8 x)) g t P (cs.set i x) T := by
  have := heap_setCell_same w g (P.length + i) _ t (.int .u8 x) h
  unfold BlkG
  rw [this, List.setIfInBounds_toArray, List.set_append_right _ _ (by omega), Nat.add_sub_cancel_left, List.set_append_left _ _ (by rw [bcells_length]; exact hi), bcells_set]
theorem BlkG.below {B : Nat} (h : BlkG w g t P cs T) (hb : Below B w w') (hg : g < B) : BlkG w' g t P cs T := (hb.block g hg).trans h
theorem BlkG.rd (h : BlkG w g t P cs T) (hb : Bytes cs) {n o : Nat} (hn : cs.length = n) (ho : P.length = o) : Rd w w.heap.size (some ⟨g, o, none⟩) n cs :=
  ⟨hn, hb, fun _ => ⟨g, o, rfl, h.lt, fun i hi => by rw [← ho]; exact h.cell i (by omega)⟩⟩
end
/-- The bytes xs at place o of block g, of whose cells all others stand. -/
def OwnG (w : World) (g o : Nat) (t : TypeId) (P T : List Value) (n c : Nat) (xs : List Int) : Prop := xs.length = n ∧ Bytes xs ∧ n ≤ c ∧ c ≤ maxLen ∧ P.length = o ∧ BlkG w g t P xs T
section
variable {w w' : World} {g o n c : Nat} {t : TypeId} {P T : List Value} {xs : List Int}
theorem OwnG.below {B : Nat} (h : OwnG w g o t P T n c xs) (hb : Below B w w') (hB : w.heap.size ≤ B) : OwnG w' g o t P T n c xs :=
  ⟨h.1, h.2.1, h.2.2.1, h.2.2.2.1, h.2.2.2.2.1, h.2.2.2.2.2.below hb (Nat.lt_of_lt_of_le h.2.2.2.2.2.lt hB)⟩
theorem OwnG.rd (h : OwnG w g o t P T n c xs) : Rd w w.heap.size (some ⟨g, o, none⟩) n xs := h.2.2.2.2.2.rd h.2.1 h.1 h.2.2.2.2.1
theorem OwnG.le (h : OwnG w g o t P T n c xs) : n ≤ maxLen := Nat.le_trans h.2.2.1 h.2.2.2.1
end
def WroteG (w : World) (g o : Nat) (t : TypeId) (P T : List Value) (n c : Nat) (xs : List Int) (ok : Bool) (e : Ending) (w' : World) : Prop := e = .returned (.bool ok) ∧ OwnG w' g o t P T n c xs ∧ At (some ⟨g, o, none⟩) w w'

set_option maxHeartbeats 400000 in
theorem write_g (a : Option Addr) (g o off n cap : Nat) (t : TypeId) (v : Int) (L : List Int) (P T : List Value) (w : World) (hP : P.length = o) (hn : n ≤ 8) (hv : 0 ≤ v) (hv2 : v ≤ 18446744073709551615)
    (ha : 0 < n → a = some ⟨g, o + off, none⟩) (hfit : off + n ≤ L.length) (hg : BlkG w g t P L T) :
    Calls Try.prog 82 #[.slice a n cap, .int .u64 v] w fun e w' => e = .returned (.tuple #[]) ∧ BlkG w' g t P (written L off n 0 v) T ∧ w.grownBy w' (some g) := by
  go_enter Try.func82, Try.ntmps82
  go_wp2
  go_loopw [1, 4] (fun sv si wx => ∃ i : Int, -1 ≤ i ∧ i < n ∧ si = .int .i64 i ∧ sv = .int .u64 (v / 256 ^ (n - (i + 1).toNat)) ∧ BlkG wx g t P (written L off n (i + 1).toNat v) T ∧ w.grownBy wx (some g))
    (fun _ si _ => (intOf si + 1).toNat)
  case atStart =>
    refine ⟨(n : Int) - 1, by omega, by omega, rfl, ?_, ?_, World.grownBy.refl w _⟩
    · rw [show ((n : Int) - 1 + 1).toNat = n from by omega]; simp
    · rw [show ((n : Int) - 1 + 1).toNat = n from by omega, written_full]; exact hg
  case round =>
    obtain ⟨i, hi1, hi2, rfl, rfl, hb, hgr⟩ := hrel
    by_cases hlt : 0 ≤ i
    · obtain ⟨j, rfl⟩ := Int.eq_ofNat_of_zero_le hlt
      obtain rfl := ha (by omega)
      rw [show ((j : Int) + 1).toNat = j + 1 from by omega] at hb
      have hc := hb.cell (off + j) (by rw [written_length _ _ _ _ _ hfit (by omega)]; omega)
      rw [hP, ← Nat.add_assoc] at hc
      have hf := hb.frozen (o + off + j)
      have hset := hb.set_ (off + j) (by rw [written_length _ _ _ _ _ hfit (by omega)]; omega) (v / 256 ^ (n - (j + 1)) % 256)
      rw [hP, ← Nat.add_assoc] at hset
      go_wp2
      go_roundw
      case rel =>
        refine ⟨(j : Int) - 1, by omega, by omega, rfl, ?_, ?_, only_setCell hgr rfl _⟩
        · rw [show ((j : Int) - 1 + 1).toNat = j from by omega, div_pow, show n - (j + 1) + 1 = n - j from by omega]
        · rw [show ((j : Int) - 1 + 1).toNat = j from by omega, ← written_step L off n j v hfit (by omega)]; exact hset
      case measure => simp [intOf]
    · obtain rfl : i = -1 := by omega
      go_wp2
      go_end0
      exact ⟨rfl, hb, hgr⟩
set_option maxHeartbeats 400000 in
theorem put_g (g o len cap : Nat) (i s : Nat) (n : Int) (t : TypeId) (L : List Int) (P T : List Value) (w : World) (hP : P.length = o) (hl : len ≤ maxLen) (hlc : len ≤ cap) (hn : 0 ≤ n) (hn2 : n ≤ 18446744073709551615)
    (hfit : len ≤ L.length) (hg : BlkG w g t P L T) (h1 : 1 ≤ s) (h2 : s ≤ 8) (h3 : i + s ≤ len) (hf : fitsB s n = true) :
    Calls Try.prog 71 #[.slice (some ⟨g, o, none⟩) len cap, .int .i64 i, .int .i64 s, .int .u64 n] w fun e w' => e = .returned (.bool true) ∧ BlkG w' g t P (written L i s 0 n) T ∧ w.grownBy w' (some g) := by
  have hw : withinB len i s = true := by simp [withinB]; omega
  have hl' := hl
  unfold maxLen at hl'
  have hsub : i + s - i = s := by omega
  go_enter Try.func71, Try.ntmps71
  go_wp2_with (first | (go_at_call 80; refine (Fld.within_any _ _ _ _ _ _ hl).mono ?_; rintro e w' ⟨rfl, rfl⟩) | (go_at_call 81; refine (Fld.fits_any _ _ _ (by omega) (by omega) hn hn2).mono ?_; rintro e w' ⟨rfl, rfl⟩))
  refine (write_g _ g o i s _ t n L P T _ hP h2 hn hn2 (fun _ => rfl) (by omega) hg).mono ?_
  rintro e w' ⟨rfl, hb, hgr⟩
  go_wp2
  go_ret
  exact ⟨rfl, hb, hgr⟩
/-- field.Put that fits. -/
theorem put_atG (g o n c i s : Nat) (t : TypeId) (P T : List Value) (y : Int) (xs : List Int) (w : World) (ho : OwnG w g o t P T n c xs) (h1 : 1 ≤ s) (h2 : s ≤ 8) (h3 : i + s ≤ n) (hy : 0 ≤ y) (hf : y < 256 ^ s) :
    Calls Try.prog 71 #[.slice (some ⟨g, o, none⟩) n c, .int .i64 i, .int .i64 s, .int .u64 y] w (WroteG w g o t P T n c (written xs i s 0 y) true) := by
  have hp := pow_le8 s h2
  obtain ⟨hx, hb, hnc, hcm, hP, hk⟩ := ho
  refine (put_g g o n c i s y t xs P T w hP (Nat.le_trans hnc hcm) hnc hy (by omega) (by omega) hk h1 h2 h3 (by simp [fitsB]; exact hf)).mono ?_
  rintro e w' ⟨rfl, hk', hg⟩
  have hlen := written_length xs i s 0 y (by omega) (by omega)
  exact ⟨rfl, ⟨by omega, written_bytes hb _ _ _, hnc, hcm, hP, hk'⟩, hg⟩
theorem seq_g (g o n c : Nat) (t : TypeId) (P T : List Value) (y : Int) (xs : List Int) (w : World) (ho : OwnG w g o t P T n c xs) (h0 : 0 ≤ y) (h1 : y ≤ 65535) :
    Calls Try.prog 52 #[.slice (some ⟨g, o, none⟩) n c, .int .u16 y] w (WroteG w g o t P T n c (seqL xs y) (media xs)) := by
  have CM := isMedia_any (some ⟨g, o, none⟩) n c w.heap.size xs w ho.le ho.2.2.1 ho.rd (Nat.le_refl _)
  by_cases h : pE xs = 0
  · have hm : media xs = true := decide_eq_true h
    rw [hm] at CM ⊢
    have hl := (pE_ok h).2.1
    have hn := ho.1
    have e := seqL_written ho.2.1 h y
    refine (seq_yes (some ⟨g, o, none⟩) n c y w (fun W w' => OwnG w' g o t P T n c (seqL xs y) ∧ At (some ⟨g, o, none⟩) W w') h0 h1 CM ?_).mono ?_
    · intro W hW
      have := put_atG g o n c 2 2 t P T y xs W (ho.below hW (Nat.le_refl _)) (by decide) (by decide) (by omega) h0 (by omega)
      rw [e] at this
      exact this
    · rintro e w' ⟨rfl, W, hW, h2, h3⟩
      exact ⟨rfl, h2, (At.of_below _ hW).trans h3⟩
  · have hm : media xs = false := decide_eq_false h
    rw [hm] at CM ⊢
    refine (seq_no (some ⟨g, o, none⟩) n c y w CM).mono ?_
    rintro e w' ⟨rfl, hW⟩
    rw [seqL, if_neg h]
    exact ⟨rfl, ho.below hW (Nat.le_refl _), At.of_below _ hW⟩
theorem time_g (g o n c : Nat) (t : TypeId) (P T : List Value) (y : Int) (xs : List Int) (w : World) (ho : OwnG w g o t P T n c xs) (h0 : 0 ≤ y) (h1 : y ≤ 4294967295) :
    Calls Try.prog 53 #[.slice (some ⟨g, o, none⟩) n c, .int .u32 y] w (WroteG w g o t P T n c (timeL xs y) (media xs)) := by
  have CM := isMedia_any (some ⟨g, o, none⟩) n c w.heap.size xs w ho.le ho.2.2.1 ho.rd (Nat.le_refl _)
  by_cases h : pE xs = 0
  · have hm : media xs = true := decide_eq_true h
    rw [hm] at CM ⊢
    have hl := (pE_ok h).2.1
    have hn := ho.1
    have e := timeL_written ho.2.1 h y
    refine (time_yes (some ⟨g, o, none⟩) n c y w (fun W w' => OwnG w' g o t P T n c (timeL xs y) ∧ At (some ⟨g, o, none⟩) W w') h0 h1 CM ?_).mono ?_
    · intro W hW
      have := put_atG g o n c 4 4 t P T y xs W (ho.below hW (Nat.le_refl _)) (by decide) (by decide) (by omega) h0 (by omega)
      rw [e] at this
      exact this
    · rintro e w' ⟨rfl, W, hW, h2, h3⟩
      exact ⟨rfl, h2, (At.of_below _ hW).trans h3⟩
  · have hm : media xs = false := decide_eq_false h
    rw [hm] at CM ⊢
    refine (time_no (some ⟨g, o, none⟩) n c y w CM).mono ?_
    rintro e w' ⟨rfl, hW⟩
    rw [timeL, if_neg h]
    exact ⟨rfl, ho.below hW (Nat.le_refl _), At.of_below _ hW⟩
theorem ssrc_g (g o n c : Nat) (t : TypeId) (P T : List Value) (y : Int) (xs : List Int) (w : World) (ho : OwnG w g o t P T n c xs) (h0 : 0 ≤ y) (h1 : y ≤ 4294967295) :
    Calls Try.prog 54 #[.slice (some ⟨g, o, none⟩) n c, .int .u32 y] w (WroteG w g o t P T n c (ssrcL xs y) (media xs)) := by
  have CM := isMedia_any (some ⟨g, o, none⟩) n c w.heap.size xs w ho.le ho.2.2.1 ho.rd (Nat.le_refl _)
  by_cases h : pE xs = 0
  · have hm : media xs = true := decide_eq_true h
    rw [hm] at CM ⊢
    have hl := (pE_ok h).2.1
    have hn := ho.1
    have e := ssrcL_written ho.2.1 h y
    refine (ssrc_yes (some ⟨g, o, none⟩) n c y w (fun W w' => OwnG w' g o t P T n c (ssrcL xs y) ∧ At (some ⟨g, o, none⟩) W w') h0 h1 CM ?_).mono ?_
    · intro W hW
      have := put_atG g o n c 8 4 t P T y xs W (ho.below hW (Nat.le_refl _)) (by decide) (by decide) (by omega) h0 (by omega)
      rw [e] at this
      exact this
    · rintro e w' ⟨rfl, W, hW, h2, h3⟩
      exact ⟨rfl, h2, (At.of_below _ hW).trans h3⟩
  · have hm : media xs = false := decide_eq_false h
    rw [hm] at CM ⊢
    refine (ssrc_no (some ⟨g, o, none⟩) n c y w CM).mono ?_
    rintro e w' ⟨rfl, hW⟩
    rw [ssrcL, if_neg h]
    exact ⟨rfl, ho.below hW (Nat.le_refl _), At.of_below _ hW⟩
set_option maxHeartbeats 2000000 in
theorem frame_yesG (g o n c at_ : Nat) (t : TypeId) (P T : List Value) (y fr l f x x1 x2 x3 : Int) (k s : Bool) (xs ys : List Int) (w : World) (hP : P.length = o) (hf0 : 0 ≤ fr) (hf1 : fr ≤ 65535) (hat : at_ < n) (hn : n ≤ 512) (hx : xs.length = n) (hk : BlkG w g t P xs T)
    (CD : Hid (Calls Try.prog 70 #[.slice (some ⟨g, o, none⟩) n c] w (RetT w l k s f at_ true)))
    (CM : Hid (∀ W, Calls Try.prog 67 #[dsc y k s fr] W fun e w' => e = .returned (.bool true) ∧ Below W.heap.size W w'))
    (CP : Hid (∀ W, Calls Try.prog 46 #[dsc y k s fr] W (PutRow W [x, x1, x2, x3])))
    (CF : Hid (∀ W, BlkG W g t P (xs.set at_ x) T → Calls Try.prog 71 #[.slice (some ⟨g, o, none⟩) n c, .int .i64 ((at_ : Int) + 2), .int .i64 2, .int .u64 fr] W (WroteG W g o t P T n c ys true))) :
    Calls Try.prog 51 #[.slice (some ⟨g, o, none⟩) n c, .int .i64 y, .int .u16 fr] w (WroteG w g o t P T n c ys true) := by
  have hgl := hk.lt
  have HK := Lib.hid hk
  clear hk
  go_enter Try.func51, Try.ntmps51
  go_wp2_with fail
  refine CD.out.mono ?_
  rintro e w1 ⟨rfl, hb1⟩
  have hb2 := hb1.alloc hb1.size (.cells #[.int .i64 y, .bool k, .bool s, .int .u16 fr] 82)
  have hz1 := hb1.size
  go_wp2_with fail
  refine (CM.out _).mono ?_
  rintro e w2 ⟨rfl, hb3⟩
  have D2 : DBlk w2 w1.heap.size y k s fr := (DBlk.new w1 y k s fr).below hb3 (by simp)
  have hb4 : Below w.heap.size w w2 := hb2.trans (hb3.mono hb2.size)
  clear hb1 hb2 hb3 CD CM
  have k0 := D2.c0
  have k1 := D2.c1
  have k2 := D2.c2
  have k3 := D2.c3
  clear D2
  go_wp2_with fail
  refine (CP.out _).mono ?_
  rintro e w3 ⟨q, rfl, hq, hk3, hb5⟩
  have hb6 : Below w.heap.size w w3 := hb4.trans (hb5.mono hb4.size)
  have hz2 := hb4.size
  have K := HK.out.below hb6 hgl
  have c0 : w3.cell? ⟨q, 0, none⟩ = some (.int .u8 x) := hk3.cell 0 (by simp)
  have cc := K.cell at_ (by omega)
  have hfz := K.frozen (o + at_)
  have K2 := K.set_ at_ (by omega) x
  rw [hP] at cc K2
  have HK2 := Lib.hid K2
  have HB := Lib.hid hb6
  clear K K2 hk3 hb5 hb6 hb4 k0 k1 k2 k3 CP
  go_wp2_with fail
  refine (CF.out _ HK2.out).mono ?_
  rintro e w4 ⟨rfl, ho, ha⟩
  go_wp2
  go_ret
  have h1 : At (some ⟨g, o, none⟩) w w3 := At.of_below _ HB.out
  have h2 : At (some ⟨g, o, none⟩) w (w3.setCell ⟨g, o + at_, none⟩ (.int .u8 x)) := only_setCell (p := ⟨g, o + at_, none⟩) h1 rfl _
  exact ⟨rfl, ho, h2.trans ha⟩

theorem frame_g (g o n c : Nat) (t : TypeId) (P T : List Value) (y fr : Int) (xs : List Int) (w : World) (ho : OwnG w g o t P T n c xs) (h0 : 0 ≤ fr) (h1 : fr ≤ 65535) :
    Calls Try.prog 51 #[.slice (some ⟨g, o, none⟩) n c, .int .i64 y, .int .u16 fr] w (WroteG w g o t P T n c (frameL xs y fr) (hasD xs && mayB y)) := by
  have CD := descriptor_any (some ⟨g, o, none⟩) n c w.heap.size xs w ho.le ho.2.2.1 ho.rd (Nat.le_refl _)
  by_cases h : hasD xs = true
  · by_cases hm : mayB y = true
    · obtain ⟨hm0, hm2⟩ := mayB_t hm
      obtain ⟨p1, p2⟩ := hasD_iff.1 h
      have e := frameL_written ho.2.1 h hm h0 h1
      have hln := (frame_up ho.2.1 h hm h0 h1).2.2.2.1
      have hby := (frame_up ho.2.1 h hm h0 h1).2.2.1
      have hl := (pE_ok p1).1
      have h12 := (pE_ok p1).2.1
      have hn := ho.1
      have hlen : at2 xs + 4 ≤ xs.length := by
        have h4 := gOk_len p2
        obtain ⟨-, k2, k3, k4⟩ := get_enc xs ho.2.1 p1
        have q1 := enc_length (pQ xs) k2
        have q2 := k2.pad0
        rw [k3, k4] at q1
        omega
      rw [dP, dA, Rtp.gP, h, if_pos rfl, if_pos p1] at CD
      rw [h, hm]
      obtain ⟨-, hb, hnc, hcm, hP, hk⟩ := ho
      · have hfb := firstV_bd hm0 (show y ≤ 3 by omega) (gK (pQ xs).pay) (gS (pQ xs).pay)
        refine frame_yesG g o n c (at2 xs) t P T y fr _ _ (firstV y (gK (pQ xs).pay) (gS (pQ xs).pay)) 90 (fr / 256) (fr % 256) _ _ xs _ w hP h0 h1 (by omega) (by omega) hn hk CD (fun W => hm ▸ may_any y _ _ fr W) (fun W => put_yes y _ _ fr W hm0 hm2 h0 h1) ?_
        intro W hW
        have hbs : Bytes (xs.set (at2 xs) (firstV y (gK (pQ xs).pay) (gS (pQ xs).pay))) := by
          intro z hz
          rcases List.mem_or_eq_of_mem_set hz with hz | rfl
          · exact hb z hz
          · exact hfb
        have := put_atG g o n c (at2 xs + 2) 2 t P T fr _ W ⟨by simpa using hn, hbs, hnc, hcm, hP, hW⟩ (by decide) (by decide) (by omega) h0 (by omega)
        rw [e] at this
        exact this
    · have hm' : mayB y = false := Bool.eq_false_iff.2 hm
      rw [h] at CD
      rw [frameL, hm', Bool.and_false, if_neg (by decide)]
      refine (frame_layer (some ⟨g, o, none⟩) n c y fr _ _ _ _ _ w CD (fun W => hm' ▸ may_any y _ _ fr W)).mono ?_
      rintro e w' ⟨rfl, hW⟩
      exact ⟨rfl, ho.below hW (Nat.le_refl _), At.of_below _ hW⟩
  · have h' : hasD xs = false := Bool.eq_false_iff.2 h
    rw [h'] at CD
    rw [frameL, h', Bool.false_and, if_neg (by decide)]
    refine (frame_none (some ⟨g, o, none⟩) n c y fr _ _ _ _ _ w CD).mono ?_
    rintro e w' ⟨rfl, hW⟩
    exact ⟨rfl, ho.below hW (Nat.le_refl _), At.of_below _ hW⟩
set_option maxHeartbeats 1000000 in
theorem apply_yesG (g o n c : Nat) (tt : TypeId) (P T : List Value) (q t s f : Int) (x0 x1 x2 x3 x4 : List Int) (w : World) (ho : Hid (OwnG w g o tt P T n c x0))
    (CF : Hid (∀ W, OwnG W g o tt P T n c x0 → Calls Try.prog 51 #[.slice (some ⟨g, o, none⟩) n c, .int .i64 0, .int .u16 f] W (WroteG W g o tt P T n c x1 true)))
    (CS : Hid (∀ W, OwnG W g o tt P T n c x1 → Calls Try.prog 52 #[.slice (some ⟨g, o, none⟩) n c, .int .u16 q] W (WroteG W g o tt P T n c x2 true)))
    (CT : Hid (∀ W, OwnG W g o tt P T n c x2 → Calls Try.prog 53 #[.slice (some ⟨g, o, none⟩) n c, .int .u32 t] W (WroteG W g o tt P T n c x3 true)))
    (CR : Hid (∀ W, OwnG W g o tt P T n c x3 → Calls Try.prog 54 #[.slice (some ⟨g, o, none⟩) n c, .int .u32 s] W (WroteG W g o tt P T n c x4 true))) :
    Calls Try.prog 37 #[.slice (some ⟨g, o, none⟩) n c, pch q t s f] w (WroteG w g o tt P T n c x4 true) := by
  have HN : Hid (∀ a, some (⟨g, o, none⟩ : Addr) = some a → a.block ≠ w.heap.size) := fun a h => by injection h with h; subst h; exact Nat.ne_of_lt ho.out.2.2.2.2.2.lt
  go_enter Try.func37, Try.ntmps37
  go_wp2_with fail
  have hb0 := (Below.refl w.heap.size w).alloc (Nat.le_refl _) (.cells #[.int .u16 q, .int .u32 t, .int .u32 s, .int .u16 f] 35)
  refine (CF.out _ (ho.out.below hb0 (Nat.le_refl _))).mono ?_
  rintro e w1 ⟨rfl, ho1, ha1⟩
  have D1 := (QBlk.new w q t s f).at ha1 HN.out
  have A1 : Hid (At (some ⟨g, o, none⟩) w w1) := (At.of_below _ hb0).trans ha1
  have HO1 := Lib.hid ho1
  have c0 := D1.c0
  clear ho1 ha1 hb0
  go_wp2_with fail
  refine (CS.out _ HO1.out).mono ?_
  rintro e w2 ⟨rfl, ho2, ha2⟩
  have D2 := D1.at ha2 HN.out
  have A2 : Hid (At (some ⟨g, o, none⟩) w w2) := A1.out.trans ha2
  have HO2 := Lib.hid ho2
  have c1 := D2.c1
  clear ho2 ha2 D1 c0
  go_wp2_with fail
  refine (CT.out _ HO2.out).mono ?_
  rintro e w3 ⟨rfl, ho3, ha3⟩
  have D3 := D2.at ha3 HN.out
  have A3 : Hid (At (some ⟨g, o, none⟩) w w3) := A2.out.trans ha3
  have HO3 := Lib.hid ho3
  have c2 := D3.c2
  clear ho3 ha3 D2 c1
  go_wp2_with fail
  refine (CR.out _ HO3.out).mono ?_
  rintro e w4 ⟨rfl, ho4, ha4⟩
  go_wp2
  go_ret
  exact ⟨rfl, ho4, A3.out.trans ha4⟩

theorem apply_g (g o n c : Nat) (tt : TypeId) (P T : List Value) (q t s f : Int) (xs : List Int) (w : World) (ho : OwnG w g o tt P T n c xs) (hp : PF q t s f) :
    Calls Try.prog 37 #[.slice (some ⟨g, o, none⟩) n c, pch q t s f] w (WroteG w g o tt P T n c (applyL xs q t s f) (hasD xs)) := by
  by_cases h : hasD xs = true
  · obtain ⟨a1, a2, a3, a4, -⟩ := frame_up ho.2.1 h (l := 0) rfl hp.f0 hp.f1
    obtain ⟨b1, b2, b3, b4, -⟩ := seq_up a3 a1 hp.q0 hp.q1
    obtain ⟨c1, c2, c3, c4, -⟩ := time_up b3 b1 hp.t0 hp.t1
    obtain ⟨e, -⟩ := apply_steps ho.2.1 h ⟨hp.q0, hp.q1⟩ ⟨hp.t0, hp.t1⟩ ⟨hp.s0, hp.s1⟩ ⟨hp.f0, hp.f1⟩
    rw [h, ← e]
    refine apply_yesG g o n c tt P T q t s f xs (frameL xs 0 f) (seqL (frameL xs 0 f) q) (timeL (seqL (frameL xs 0 f) q) t) (ssrcL (timeL (seqL (frameL xs 0 f) q) t) s) w ho (fun W hW => ?_) (fun W hW => ?_) (fun W hW => ?_) (fun W hW => ?_)
    · have := frame_g g o n c tt P T 0 f xs W hW hp.f0 hp.f1
      rw [h, show (true && mayB 0) = true from rfl] at this
      exact this
    · have := seq_g g o n c tt P T q _ W hW hp.q0 hp.q1
      rw [media, decide_eq_true a1] at this
      exact this
    · have := time_g g o n c tt P T t _ W hW hp.t0 hp.t1
      rw [media, decide_eq_true b1] at this
      exact this
    · have := ssrc_g g o n c tt P T s _ W hW hp.s0 hp.s1
      rw [media, decide_eq_true c1] at this
      exact this
  · have h' : hasD xs = false := Bool.eq_false_iff.2 h
    rw [applyL, h', if_neg (by decide)]
    refine (apply_none (some ⟨g, o, none⟩) n c q t s f w (fun W w' => OwnG w' g o tt P T n c xs ∧ At (some ⟨g, o, none⟩) W w') (fun W hW => ?_)).mono ?_
    · have := frame_g g o n c tt P T 0 f xs W (ho.below hW (Nat.le_refl _)) hp.f0 hp.f1
      rw [frameL, h', Bool.false_and, if_neg (by decide)] at this
      exact this
    · rintro e w' ⟨rfl, W, hW, h1, h2⟩
      exact ⟨rfl, h1, (At.of_below _ hW).trans h2⟩
end Go.Proofs.Ytdnnfoacpjgloaa.Pat
