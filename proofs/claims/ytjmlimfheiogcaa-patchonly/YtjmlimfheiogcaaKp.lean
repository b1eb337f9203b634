/- The contracts of rtp.putHead, putCsrc, putExt. -/
import Derived.Test.YtjmlimfheiogcaaKa
import Derived.Test.YtjmlimfheiogcaaXg
import Derived.Test.YtjmlimfheiogcaaXw
namespace Go.Proofs.Ytjmlimfheiogcaa.Rtp
open Go.RowKit
set_option linter.unusedVariables false

theorem byte_alln (p : Int → Bool) (n : Nat) (h : (List.range (n + 1)).all (fun n => p n) = true) (x : Int) (h0 : 0 ≤ x) (h1 : x ≤ n) : p x = true := by
  obtain ⟨m, rfl⟩ := Int.eq_ofNat_of_zero_le h0
  exact List.all_eq_true.1 h m (List.mem_range.2 (by omega))
theorem or_cc (x : Int) (h0 : 0 ≤ x) (h1 : x ≤ 15) : bits BinOp.or IntKind.u8 128 x = 128 + x :=
  of_decide_eq_true (byte_alln (fun x => decide (bits BinOp.or IntKind.u8 128 x = 128 + x)) 15 (by decide +kernel) x h0 (by omega))
theorem or_pad (x : Int) (h0 : 0 ≤ x) (h1 : x ≤ 15) : bits BinOp.or IntKind.u8 (128 + x) 32 = 160 + x :=
  of_decide_eq_true (byte_alln (fun x => decide (bits BinOp.or IntKind.u8 (128 + x) 32 = 160 + x)) 15 (by decide +kernel) x h0 (by omega))
theorem or_ext (x : Int) (h0 : 0 ≤ x) (h1 : x ≤ 15) : bits BinOp.or IntKind.u8 (128 + x) 16 = 144 + x :=
  of_decide_eq_true (byte_alln (fun x => decide (bits BinOp.or IntKind.u8 (128 + x) 16 = 144 + x)) 15 (by decide +kernel) x h0 (by omega))
theorem or_both (x : Int) (h0 : 0 ≤ x) (h1 : x ≤ 15) : bits BinOp.or IntKind.u8 (160 + x) 16 = 176 + x :=
  of_decide_eq_true (byte_alln (fun x => decide (bits BinOp.or IntKind.u8 (160 + x) 16 = 176 + x)) 15 (by decide +kernel) x h0 (by omega))
theorem or_mrk (x : Int) (h0 : 0 ≤ x) (h1 : x ≤ 127) : bits BinOp.or IntKind.u8 x 128 = x + 128 :=
  of_decide_eq_true (byte_alln (fun x => decide (bits BinOp.or IntKind.u8 x 128 = x + 128)) 127 (by decide +kernel) x h0 (by omega))
theorem wrap8 (n : Int) (h0 : 0 ≤ n) (h1 : n ≤ 255) : IntKind.u8.wrap n = n := by simp [IntKind.wrap, IntKind.bits, IntKind.signed]; omega

/-- x[lo:] of bytes, without a way for each capacity. -/
theorem cut_from (b off len cap lo : Nat) (l : Int) (hl : l = lo) (h1 : lo ≤ len) :
    ∃ X, (cap ≠ lo → X = some ⟨b, off + lo, none⟩) ∧ ∀ W, (Instr.slice 22 (.slice (some ⟨b, off, none⟩) len cap) (some (.int .i64 l)) none none).run Try.prog W = .ok (.slice X (len - lo) (cap - lo)) W := by
  subst hl
  refine ⟨if cap = lo then some ⟨b, off, none⟩ else some ⟨b, off + lo, none⟩, fun hne => if_neg hne, fun W => ?_⟩
  obtain ⟨i0, hi0, hz0, hz1, hz2⟩ := info_parts info5
  have e := run_slice_l (P := Try.prog) (w := W) (t := 22) (a := some ⟨b, off, none⟩) (len := len) (cap := cap) (ht := Try.underlying22) .i64 (lo : Int) (by omega) (by omega)
  rw [e, show Try.prog.elem 22 = 5 from rfl]
  by_cases hc : cap = lo
  · simp [sizeOf, typeInfo, hi0, sliced, hc]
  · simp [sizeOf, typeInfo, hi0, hz1, sliced, hc, plain_add]
/-- copy(b[lo:], xs) into a block that is known whole. -/
theorem copy_into {w : World} {B g len lo m cap : Nat} {X a : Option Addr} {xs L : List Int} (ty : TypeId) (hg : Blk w g L []) (hL : L.length = len) (hlo : lo ≤ len) (hX : len ≠ lo → X = some ⟨g, 0 + lo, none⟩) (hr : Rd w B a m xs) (hfit : lo + m ≤ len) :
    ∃ w', (Builtin.copy_ #[22, 22] ty #[.slice X (len - lo) (len - lo), .slice a m cap]).run Try.prog w = .ok (.int .i64 m) w' ∧ Blk w' g (splice L lo xs) [] ∧ w.grownBy w' (some g) := by
  by_cases h : len = lo
  · obtain rfl : m = 0 := by omega
    obtain rfl : xs = [] := List.eq_nil_of_length_eq_zero hr.1
    refine ⟨w, run_copy_none w 22 22 ty 5 _ _ (len - lo) (len - lo) 0 cap Try.underlying22 size5 (Nat.zero_min _), ?_, World.grownBy.refl w _⟩
    simpa [splice] using hg
  · obtain rfl := hX h
    rw [Nat.zero_add]
    exact copy_run (off := lo) (n := len - lo) (c := len - lo) ty hg hr (by omega) (by omega)

def RetN (w : World) (g : Nat) (L : List Int) (e : Ending) (w' : World) : Prop := e = .returned (.tuple #[]) ∧ Blk w' g L [] ∧ Below g w w'
def RetA (w : World) (g : Nat) (L : List Int) (n : Int) (e : Ending) (w' : World) : Prop := e = .returned (.int .i64 n) ∧ Blk w' g L [] ∧ Below g w w'

/-- field.Put into a block that is known whole and fits. -/
theorem fput (g len : Nat) (i s : Nat) (n : Int) (L : List Int) (w : World) (hl : len ≤ 512) (hL : L.length = len) (hn : 0 ≤ n) (h1 : 1 ≤ s) (h2 : s ≤ 8) (h3 : i + s ≤ len) (hf : n < 256 ^ s) (hg : Blk w g L []) :
    Calls Try.prog 27 #[.slice (some ⟨g, 0, none⟩) len len, .int .i64 i, .int .i64 s, .int .u64 n] w fun e w' => e = .returned (.bool true) ∧ Blk w' g (written L i s 0 n) [] ∧ w.grownBy w' (some g) := by
  have hp := pow_le8 s h2
  have := Fld.put_yes g 0 len len i s n L [] w (by unfold maxLen; omega) (Nat.le_refl _) hn (by omega) (by omega) hg h1 h2 h3 (by simp [fitsB]; exact hf)
  rw [Nat.zero_add] at this
  exact this
theorem grown_below {g : Nat} {w w' : World} (h : w.grownBy w' (some g)) (hg : g ≤ w.heap.size) : Below g w w' := (Below.refl _ _).grown h hg (by rintro k h; injection h with h; omega)

set_option maxHeartbeats 1000000 in
theorem putCsrc_any (g len cap n at_ : Nat) (a : Option Addr) (cs L : List Int) (w : World) (hl : len ≤ 512) (hL : L.length = len) (hg : Blk w g L []) (hr : Wd w g a n cs) (hfit : at_ + 4 * n ≤ len) :
    Calls Try.prog 53 #[.slice (some ⟨g, 0, none⟩) len len, .int .i64 at_, .slice a n cap] w (RetA w g (L.take at_ ++ bes cs ++ L.drop (at_ + 4 * n)) ((at_ + 4 * n : Nat) : Int)) := by
  have hgs : g ≤ w.heap.size := Nat.le_of_lt hg.lt
  obtain ⟨hcn, hcw, hcc⟩ := hr
  have CP : Hid (∀ (W : World) (i : Nat) (v : Int) (M : List Int), M.length = len → i + 4 ≤ len → 0 ≤ v → v ≤ 4294967295 → Blk W g M [] → Calls Try.prog 27 #[.slice (some ⟨g, 0, none⟩) len len, .int .i64 i, .int .i64 4, .int .u64 v] W fun e w' => e = .returned (.bool true) ∧ Blk w' g (written M i 4 0 v) [] ∧ W.grownBy w' (some g)) :=
    fun W i v M h1 h2 h3 h4 h5 => fput g len i 4 v M W hl h1 h3 (by omega) (by omega) h2 (by omega) h5
  have HC : Hid (∀ W k, Below g w W → k < n → ∃ b off v, a = some ⟨b, off, none⟩ ∧ cs.getD k 0 = v ∧ 0 ≤ v ∧ v ≤ 4294967295 ∧ W.cell? ⟨b, off + k, none⟩ = some (.int .u32 v)) := fun W k hW hk => by
    obtain ⟨b, off, e, hlt, hc⟩ := hcc (by omega)
    have := hcw.getD k
    exact ⟨b, off, _, e, rfl, this.1, this.2, (hW.cell (p := ⟨b, off + k, none⟩) hlt).trans (hc k hk)⟩
  have HM : Hid (∀ k, k < n → written (L.take at_ ++ bes (cs.take k) ++ L.drop (at_ + 4 * k)) (at_ + 4 * k) 4 0 (cs.getD k 0) = L.take at_ ++ bes (cs.take (k + 1)) ++ L.drop (at_ + 4 * (k + 1))) := fun k hk => by
    have hb : (bes (cs.take k)).length = 4 * k := by rw [bes_length, List.length_take]; omega
    have hs : bes (cs.take (k + 1)) = bes (cs.take k) ++ be 4 (cs.getD k 0) := by
      rw [take_snoc k (by omega)]
      generalize cs.take k = l
      induction l with
      | nil => simp [bes]
      | cons x l ih => simp only [List.cons_append, bes, ih, List.append_assoc]
    unfold written
    rw [hs, Nat.add_zero, Nat.sub_zero, List.take_append_of_le_length (by simp only [List.length_append, List.length_take, hb]; omega), List.take_of_length_le (by simp only [List.length_append, List.length_take, hb]; omega)]
    rw [List.drop_append, List.drop_of_length_le (by simp only [List.length_append, List.length_take, hb]; omega), List.nil_append, List.drop_drop]
    simp only [List.append_assoc, List.length_append, List.length_take, hb]
    congr 4
    omega
  have HLn : Hid (∀ k, k ≤ n → (L.take at_ ++ bes (cs.take k) ++ L.drop (at_ + 4 * k)).length = len) := fun k hk => by
    simp only [List.length_append, List.length_take, List.length_drop, bes_length]; omega
  have hcs : cs.take n = cs := List.take_of_length_le (by omega)
  have HF : bes cs = bes (cs.take n) := by rw [hcs]
  rw [HF]
  clear hcs hcc hcw HF
  go_enter Try.func53, Try.ntmps53
  go_wp2
  go_loopw [1, 11] (fun sa sk wx => ∃ k : Nat, k ≤ n ∧ sk = .int .i64 k ∧ sa = .int .i64 ((at_ + 4 * k : Nat) : Int) ∧ Blk wx g (L.take at_ ++ bes (cs.take k) ++ L.drop (at_ + 4 * k)) [] ∧ Below g w wx)
    (fun _ sk _ => n - (intOf sk).toNat)
  case atStart => exact ⟨0, by omega, rfl, rfl, by simpa [bes] using hg, Below.refl _ _⟩
  case round =>
    obtain ⟨k, hk, rfl, rfl, hb, hgr⟩ := hrel
    rename World => wx
    by_cases hlt : k < n
    · obtain ⟨b, off, v, rfl, hv, hv0, hv1, hc⟩ := HC.out wx k hgr hlt
      have hm := HM.out k hlt
      have hlen := HLn.out k (by omega)
      rw [hv] at hm
      generalize L.take at_ ++ bes (cs.take k) ++ L.drop (at_ + 4 * k) = M at hb hm hlen
      have C := CP.out wx (at_ + 4 * k) v M hlen (by omega) hv0 hv1 hb
      obtain ⟨j, hj⟩ : ∃ j, at_ + 4 * k = j := ⟨_, rfl⟩
      rw [hj] at C hm
      have HC1 := Lib.hid C
      have HM1 := Lib.hid hm
      have HB := Lib.hid hb
      have hj2 : j ≤ 512 := by omega
      clear C hm hb hlen hv
      simp only [hj]
      go_wp2_with fail
      refine HC1.out.mono ?_
      rintro e w2 ⟨rfl, hb2, hgr2⟩
      go_wp2
      go_roundw
      case rel =>
        refine ⟨k + 1, by omega, by go_num, ?_, ?_, hgr.trans (grown_below hgr2 (Nat.le_trans hgs hgr.size))⟩
        · rw [show at_ + 4 * (k + 1) = j + 4 from by omega]; go_num
        · rw [← HM1.out]; exact hb2
      case measure => simp [intOf]; omega
    · obtain rfl : k = n := by omega
      go_wp2
      go_ret
      exact ⟨rfl, hb, hgr⟩

/-- Put over a number that stands in a row: what comes behind stays. -/
theorem splice_at (L : List Int) (i : Nat) (xs : List Int) : splice L i xs = L.take i ++ xs ++ L.drop (i + xs.length) := by simp [splice]
set_option maxHeartbeats 1000000 in
theorem putExt_any (g len at_ : Nat) (v : PV) (es L : List Int) (w : World) (hl : len ≤ 512) (hL : L.length = len) (hg : Blk w g L []) (hr : Rd w g v.ea v.en es) (hfit : at_ + 4 + v.en ≤ len) (hp : 0 ≤ v.prof ∧ v.prof ≤ 65535) :
    Calls Try.prog 54 #[.slice (some ⟨g, 0, none⟩) len len, .int .i64 at_, pkt v] w
      (RetA w g (splice (written (written L at_ 2 0 v.prof) (at_ + 2) 2 0 ((v.en / 4 : Nat) : Int)) (at_ + 4) es) ((at_ + 4 + v.en : Nat) : Int)) := by
  have hgs : g < w.heap.size := hg.lt
  have CP : Hid (∀ (W : World) (i : Nat) (x : Int) (M : List Int), M.length = len → i + 2 ≤ len → 0 ≤ x → x ≤ 65535 → Blk W g M [] → Calls Try.prog 27 #[.slice (some ⟨g, 0, none⟩) len len, .int .i64 i, .int .i64 2, .int .u64 x] W fun e w' => e = .returned (.bool true) ∧ Blk w' g (written M i 2 0 x) [] ∧ W.grownBy w' (some g)) :=
    fun W i x M h1 h2 h3 h4 h5 => fput g len i 2 x M W hl h1 h3 (by omega) (by omega) h2 (by omega) h5
  have q1 : (v.en : Int).tdiv 4 = ((v.en / 4 : Nat) : Int) := by rw [Int.tdiv_eq_ediv_of_nonneg (by omega)]; omega
  have hl1 : (written L at_ 2 0 v.prof).length = len := by rw [written_length _ _ _ _ _ (by omega) (by omega)]; exact hL
  have hl2 : (written (written L at_ 2 0 v.prof) (at_ + 2) 2 0 ((v.en / 4 : Nat) : Int)).length = len := by rw [written_length _ _ _ _ _ (by omega) (by omega)]; exact hl1
  obtain ⟨L1, hL1⟩ : ∃ L1, written L at_ 2 0 v.prof = L1 := ⟨_, rfl⟩
  rw [hL1] at hl1 hl2 ⊢
  obtain ⟨m, hm⟩ : ∃ m, v.en / 4 = m := ⟨_, rfl⟩
  have hmb : m ≤ 65535 := by omega
  rw [hm] at hl2 q1 ⊢
  obtain ⟨L2, hL2⟩ : ∃ L2, written L1 (at_ + 2) 2 0 (m : Int) = L2 := ⟨_, rfl⟩
  rw [hL2] at hl2 ⊢
  have HL1 := Lib.hid hL1
  have HL2 := Lib.hid hL2
  have HR := Lib.hid hr
  clear hL1 hL2 hm hr
  go_enter Try.func54, Try.ntmps54
  go_wp2_with fail
  have hb0 := (Below.refl w.heap.size w).alloc (Nat.le_refl _) (pobj v)
  refine (CP.out _ at_ v.prof L hL (by omega) hp.1 hp.2 (hg.alloc _)).mono ?_
  rintro e w1 ⟨rfl, hk1, hg1⟩
  rw [HL1.out] at hk1
  have D1 : PBlk w1 w.heap.size v := (hg1.block w.heap.size (by simp) (by simp; omega)).trans (PBlk.new w v)
  have hb1 : Below g w w1 := (hb0.mono (Nat.le_of_lt hgs)).trans (grown_below hg1 (Nat.le_trans (Nat.le_of_lt hgs) (by simp)))
  clear hg1 hb0
  have c8 := D1.c8
  go_wp2_with fail
  have e2 := CP.out w1 (at_ + 2) (m : Int) L1 hl1 (by omega) (by omega) (by omega) hk1
  rw [show ((at_ + 2 : Nat) : Int) = (at_ : Int) + 2 from by omega] at e2
  refine e2.mono ?_
  rintro e w2 ⟨rfl, hk2, hg2⟩
  rw [HL2.out] at hk2
  have hne : (some w.heap.size : Option Nat) ≠ some g := by simp; omega
  have D2 : PBlk w2 w.heap.size v := (hg2.block w.heap.size D1.lt hne).trans D1
  have hb2 : Below g w w2 := hb1.trans (grown_below hg2 (Nat.le_trans (Nat.le_of_lt hgs) (by have := D1.lt; omega)))
  clear hg2 c8 e2 CP hb1 D1 hk1
  obtain ⟨X, HX, s1⟩ := cut_from g 0 len len (at_ + 4) ((at_ : Int) + 4) (by omega) (by omega)
  have hgs2 : g < w2.heap.size := hk2.lt
  obtain ⟨w3, hcp, hk3, hg3⟩ := copy_into (w := w2.drew) (B := g) (cap := v.ec) 3 hk2 hl2 (by omega) HX (HR.out.below (show Below g w w2.drew from hb2.drew)) hfit
  have HK3 := Lib.hid hk3
  have HG3 := Lib.hid (grown_below hg3 (show g ≤ w2.drew.heap.size from Nat.le_of_lt hgs2))
  clear hk3 HX
  go_wp2_with fail
  have hS : PBlk w2.drew w.heap.size v := D2
  have c8 : ∀ W, PBlk W w.heap.size v → W.cell? ⟨w.heap.size, 8, none⟩ = some (.slice v.ea v.en v.ec) := fun W h => h.c8
  refine region_seq (fun W => PBlk W w.heap.size v) [(0, false), (1, false), (2, false), (3, false), (4, false), (5, false), (6, true), (7, false), (8, false)] (by kernel_rfl) (by kernel_rfl) rfl (by kernel_rfl) ?_
  iterate 6 (refine seq_read (v := _) rfl (fun _ _ _ h => h) hS (Or.inl ⟨by rfl, fun W hW => by go_simp <;> with_reducible rfl⟩) ?_; simp only [Act.put, List.setIfInBounds_toArray, List.set_cons_zero, List.set_cons_succ])
  refine seq_do rfl (fun K hK => ?_)
  go_simp
  have hS : PBlk w3 w.heap.size v := (hg3.block w.heap.size D2.lt hne).trans hS
  refine hK.out _ _ (fun W => PBlk W w.heap.size v) (fun W h => h) hS ?_
  clear hK K c8 s1 hcp
  iterate 2 (refine seq_read (v := _) rfl (fun _ _ _ h => h) hS (Or.inl ⟨by rfl, fun W hW => by go_simp <;> with_reducible rfl⟩) ?_; simp only [Act.put, List.setIfInBounds_toArray, List.set_cons_zero, List.set_cons_succ])
  refine seq_end ?_
  go_wp2
  go_ret
  exact ⟨ret_int (by rw [IntWalk.i64_in _ (by omega)]; omega), HK3.out, hb2.drew.trans HG3.out⟩
end Go.Proofs.Ytjmlimfheiogcaa.Rtp
