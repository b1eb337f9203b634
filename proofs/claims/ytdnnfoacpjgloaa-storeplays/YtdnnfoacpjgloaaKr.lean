/- The contracts of rtp.putHead, putCsrc, putExt. · The contract of rtp.putHead. · The contract of rtp.Put. · The contracts of rtp.May, Size, Put, Get, whatever comes in. -/
import Derived.Test.YtdnnfoacpjgloaaKa
import Derived.Test.YtdnnfoacpjgloaaXg
import Derived.Test.YtdnnfoacpjgloaaXw
import Derived.Test.YtdnnfoacpjgloaaKg
import Derived.Test.YtdnnfoacpjgloaaPt
set_option maxRecDepth 100000
namespace Go.Proofs.Ytdnnfoacpjgloaa.Rtp
open Go.RowKit
set_option linter.unusedVariables false

theorem byte_alln (p : Int → Bool) (n : Nat) (h : (List.range (n + 1)).all (fun n => p n) = true) (x : Int) (h0 : 0 ≤ x) (h1 : x ≤ n) : p x = true := by
  obtain ⟨m, rfl⟩ := Int.eq_ofNat_of_zero_le h0
  exact List.all_eq_true.1 h m (List.mem_range.2 (by omega))
theorem or_cc (x : Int) (h0 : 0 ≤ x) (h1 : x ≤ 15) : bits BinOp.or IntKind.u8 128 x = 128 + x :=
  of_decide_eq_true (byte_alln (fun x => decide (bits BinOp.or IntKind.u8 128 x = 128 + x)) 15 (by decide +kernel) x h0 (by omega))
theorem or_pad (x : Int) (h0 : 0 ≤ x) (h1 : x ≤ 15) : bits BinOp.or IntKind.u8 (128 + x) 32 = 160 + x :=
  of_decide_eq_true (byte_alln (fun x => decide (bits BinOp.or IntKind.u8 (128 + x) 32 = 160 + x)) 15 (by decide +kernel) x h0 (by omega))
theorem or_ext (x : Int) (h0 : 0 ≤ x) (h1 : x ≤ 15) : bits BinOp.or IntKind.u8 (128 + x) 16 = 144 + x :=
  of_decide_eq_true (byte_alln (fun x => decide (bits BinOp.or IntKind.u8 (128 + x) 16 = 144 + x)) 15 (by decide +kernel) x h0 (by omega))
theorem or_both (x : Int) (h0 : 0 ≤ x) (h1 : x ≤ 15) : bits BinOp.or IntKind.u8 (160 + x) 16 = 176 + x :=
  of_decide_eq_true (byte_alln (fun x => decide (bits BinOp.or IntKind.u8 (160 + x) 16 = 176 + x)) 15 (by decide +kernel) x h0 (by omega))
theorem or_mrk (x : Int) (h0 : 0 ≤ x) (h1 : x ≤ 127) : bits BinOp.or IntKind.u8 x 128 = x + 128 :=
  of_decide_eq_true (byte_alln (fun x => decide (bits BinOp.or IntKind.u8 x 128 = x + 128)) 127 (by decide +kernel) x h0 (by omega))
theorem wrap8 (n : Int) (h0 : 0 ≤ n) (h1 : n ≤ 255) : IntKind.u8.wrap n = n := by simp [IntKind.wrap, IntKind.bits, IntKind.signed]; omega

/-- x[lo:] of bytes, without a way for each capacity. -/
theorem cut_from (b off len cap lo : Nat) (l : Int) (hl : l = lo) (h1 : lo ≤ len) :
    ∃ X, (cap ≠ lo → X = some ⟨b, off + lo, none⟩) ∧ ∀ W, (Instr.slice 36 (.slice (some ⟨b, off, none⟩) len cap) (some (.int .i64 l)) none none).run Try.prog W = .ok (.slice X (len - lo) (cap - lo)) W := by
  subst hl
  refine ⟨if cap = lo then some ⟨b, off, none⟩ else some ⟨b, off + lo, none⟩, fun hne => if_neg hne, fun W => ?_⟩
  obtain ⟨i0, hi0, hz0, hz1, hz2⟩ := info_parts info5
  have e := run_slice_l (P := Try.prog) (w := W) (t := 36) (a := some ⟨b, off, none⟩) (len := len) (cap := cap) (ht := Try.underlying36) .i64 (lo : Int) (by omega) (by omega)
  rw [e, show Try.prog.elem 36 = 5 from rfl]
  by_cases hc : cap = lo
  · simp [sizeOf, typeInfo, hi0, sliced, hc]
  · simp [sizeOf, typeInfo, hi0, hz1, sliced, hc, plain_add]
/-- copy(b[lo:], xs) into a block that is known whole. -/
theorem copy_into {w : World} {B g len lo m cap : Nat} {X a : Option Addr} {xs L : List Int} (ty : TypeId) (hg : Blk w g L []) (hL : L.length = len) (hlo : lo ≤ len) (hX : len ≠ lo → X = some ⟨g, 0 + lo, none⟩) (hr : Rd w B a m xs) (hfit : lo + m ≤ len) :
    ∃ w', (Builtin.copy_ #[36, 36] ty #[.slice X (len - lo) (len - lo), .slice a m cap]).run Try.prog w = .ok (.int .i64 m) w' ∧ Blk w' g (splice L lo xs) [] ∧ w.grownBy w' (some g) := by
  by_cases h : len = lo
  · obtain rfl : m = 0 := by omega
    obtain rfl : xs = [] := List.eq_nil_of_length_eq_zero hr.1
    refine ⟨w, run_copy_none w 36 36 ty 5 _ _ (len - lo) (len - lo) 0 cap Try.underlying36 size5 (Nat.zero_min _), ?_, World.grownBy.refl w _⟩
    simpa [splice] using hg
  · obtain rfl := hX h
    rw [Nat.zero_add]
    exact copy_run (off := lo) (n := len - lo) (c := len - lo) ty hg hr (by omega) (by omega)

def RetN (w : World) (g : Nat) (L : List Int) (e : Ending) (w' : World) : Prop := e = .returned (.tuple #[]) ∧ Blk w' g L [] ∧ Below g w w'
def RetA (w : World) (g : Nat) (L : List Int) (n : Int) (e : Ending) (w' : World) : Prop := e = .returned (.int .i64 n) ∧ Blk w' g L [] ∧ Below g w w'

/-- field.Put into a block that is known whole and fits. -/
theorem fput (g len : Nat) (i s : Nat) (n : Int) (L : List Int) (w : World) (hl : len ≤ 512) (hL : L.length = len) (hn : 0 ≤ n) (h1 : 1 ≤ s) (h2 : s ≤ 8) (h3 : i + s ≤ len) (hf : n < 256 ^ s) (hg : Blk w g L []) :
    Calls Try.prog 71 #[.slice (some ⟨g, 0, none⟩) len len, .int .i64 i, .int .i64 s, .int .u64 n] w fun e w' => e = .returned (.bool true) ∧ Blk w' g (written L i s 0 n) [] ∧ w.grownBy w' (some g) := by
  have hp := pow_le8 s h2
  have := Fld.put_yes g 0 len len i s n L [] w (by unfold maxLen; omega) (Nat.le_refl _) hn (by omega) (by omega) hg h1 h2 h3 (by simp [fitsB]; exact hf)
  rw [Nat.zero_add] at this
  exact this
theorem grown_below {g : Nat} {w w' : World} (h : w.grownBy w' (some g)) (hg : g ≤ w.heap.size) : Below g w w' := (Below.refl _ _).grown h hg (by rintro k h; injection h with h; omega)

set_option maxHeartbeats 1000000 in
theorem putCsrc_any (g len cap n at_ : Nat) (a : Option Addr) (cs L : List Int) (w : World) (hl : len ≤ 512) (hL : L.length = len) (hg : Blk w g L []) (hr : Wd w g a n cs) (hfit : at_ + 4 * n ≤ len) :
    Calls Try.prog 65 #[.slice (some ⟨g, 0, none⟩) len len, .int .i64 at_, .slice a n cap] w (RetA w g (L.take at_ ++ bes cs ++ L.drop (at_ + 4 * n)) ((at_ + 4 * n : Nat) : Int)) := by
  have hgs : g ≤ w.heap.size := Nat.le_of_lt hg.lt
  obtain ⟨hcn, hcw, hcc⟩ := hr
  have CP : Hid (∀ (W : World) (i : Nat) (v : Int) (M : List Int), M.length = len → i + 4 ≤ len → 0 ≤ v → v ≤ 4294967295 → Blk W g M [] → Calls Try.prog 71 #[.slice (some ⟨g, 0, none⟩) len len, .int .i64 i, .int .i64 4, .int .u64 v] W fun e w' => e = .returned (.bool true) ∧ Blk w' g (written M i 4 0 v) [] ∧ W.grownBy w' (some g)) :=
    fun W i v M h1 h2 h3 h4 h5 => fput g len i 4 v M W hl h1 h3 (by omega) (by omega) h2 (by omega) h5
  have HC : Hid (∀ W k, Below g w W → k < n → ∃ b off v, a = some ⟨b, off, none⟩ ∧ cs.getD k 0 = v ∧ 0 ≤ v ∧ v ≤ 4294967295 ∧ W.cell? ⟨b, off + k, none⟩ = some (.int .u32 v)) := fun W k hW hk => by
    obtain ⟨b, off, e, hlt, hc⟩ := hcc (by omega)
    have := hcw.getD k
    exact ⟨b, off, _, e, rfl, this.1, this.2, (hW.cell (p := ⟨b, off + k, none⟩) hlt).trans (hc k hk)⟩
  have HM : Hid (∀ k, k < n → written (L.take at_ ++ bes (cs.take k) ++ L.drop (at_ + 4 * k)) (at_ + 4 * k) 4 0 (cs.getD k 0) = L.take at_ ++ bes (cs.take (k + 1)) ++ L.drop (at_ + 4 * (k + 1))) := fun k hk => by
    have hb : (bes (cs.take k)).length = 4 * k := by rw [bes_length, List.length_take]; omega
    have hs : bes (cs.take (k + 1)) = bes (cs.take k) ++ be 4 (cs.getD k 0) := by
      rw [take_snoc k (by omega)]
      generalize cs.take k = l
      induction l with
      | nil => simp [bes]
      | cons x l ih => simp only [List.cons_append, bes, ih, List.append_assoc]
    unfold written
    rw [hs, Nat.add_zero, Nat.sub_zero, List.take_append_of_le_length (by simp only [List.length_append, List.length_take, hb]; omega), List.take_of_length_le (by simp only [List.length_append, List.length_take, hb]; omega)]
    rw [List.drop_append, List.drop_of_length_le (by simp only [List.length_append, List.length_take, hb]; omega), List.nil_append, List.drop_drop]
    simp only [List.append_assoc, List.length_append, List.length_take, hb]
    congr 4
    omega
  have HLn : Hid (∀ k, k ≤ n → (L.take at_ ++ bes (cs.take k) ++ L.drop (at_ + 4 * k)).length = len) := fun k hk => by
    simp only [List.length_append, List.length_take, List.length_drop, bes_length]; omega
  have hcs : cs.take n = cs := List.take_of_length_le (by omega)
  have HF : bes cs = bes (cs.take n) := by rw [hcs]
  rw [HF]
  clear hcs hcc hcw HF
  go_enter Try.func65, Try.ntmps65
  go_wp2
  go_loopw [1, 11] (fun sa sk wx => ∃ k : Nat, k ≤ n ∧ sk = .int .i64 k ∧ sa = .int .i64 ((at_ + 4 * k : Nat) : Int) ∧ Blk wx g (L.take at_ ++ bes (cs.take k) ++ L.drop (at_ + 4 * k)) [] ∧ Below g w wx)
    (fun _ sk _ => n - (intOf sk).toNat)
  case atStart => exact ⟨0, by omega, rfl, rfl, by simpa [bes] using hg, Below.refl _ _⟩
  case round =>
    obtain ⟨k, hk, rfl, rfl, hb, hgr⟩ := hrel
    rename World => wx
    by_cases hlt : k < n
    · obtain ⟨b, off, v, rfl, hv, hv0, hv1, hc⟩ := HC.out wx k hgr hlt
      have hm := HM.out k hlt
      have hlen := HLn.out k (by omega)
      rw [hv] at hm
      generalize L.take at_ ++ bes (cs.take k) ++ L.drop (at_ + 4 * k) = M at hb hm hlen
      have C := CP.out wx (at_ + 4 * k) v M hlen (by omega) hv0 hv1 hb
      obtain ⟨j, hj⟩ : ∃ j, at_ + 4 * k = j := ⟨_, rfl⟩
      rw [hj] at C hm
      have HC1 := Lib.hid C
      have HM1 := Lib.hid hm
      have HB := Lib.hid hb
      have hj2 : j ≤ 512 := by omega
      clear C hm hb hlen hv
      simp only [hj]
      go_wp2_with fail
      refine HC1.out.mono ?_
      rintro e w2 ⟨rfl, hb2, hgr2⟩
      go_wp2
      go_roundw
      case rel =>
        refine ⟨k + 1, by omega, by go_num, ?_, ?_, hgr.trans (grown_below hgr2 (Nat.le_trans hgs hgr.size))⟩
        · rw [show at_ + 4 * (k + 1) = j + 4 from by omega]; go_num
        · rw [← HM1.out]; exact hb2
      case measure => simp [intOf]; omega
    · obtain rfl : k = n := by omega
      go_wp2
      go_ret
      exact ⟨rfl, hb, hgr⟩

/-- Put over a number that stands in a row: what comes behind stays. -/
theorem splice_at (L : List Int) (i : Nat) (xs : List Int) : splice L i xs = L.take i ++ xs ++ L.drop (i + xs.length) := by simp [splice]
set_option maxHeartbeats 1000000 in
theorem putExt_any (g len at_ : Nat) (v : PV) (es L : List Int) (w : World) (hl : len ≤ 512) (hL : L.length = len) (hg : Blk w g L []) (hr : Rd w g v.ea v.en es) (hfit : at_ + 4 + v.en ≤ len) (hp : 0 ≤ v.prof ∧ v.prof ≤ 65535) :
    Calls Try.prog 66 #[.slice (some ⟨g, 0, none⟩) len len, .int .i64 at_, pkt v] w
      (RetA w g (splice (written (written L at_ 2 0 v.prof) (at_ + 2) 2 0 ((v.en / 4 : Nat) : Int)) (at_ + 4) es) ((at_ + 4 + v.en : Nat) : Int)) := by
  have hgs : g < w.heap.size := hg.lt
  have CP : Hid (∀ (W : World) (i : Nat) (x : Int) (M : List Int), M.length = len → i + 2 ≤ len → 0 ≤ x → x ≤ 65535 → Blk W g M [] → Calls Try.prog 71 #[.slice (some ⟨g, 0, none⟩) len len, .int .i64 i, .int .i64 2, .int .u64 x] W fun e w' => e = .returned (.bool true) ∧ Blk w' g (written M i 2 0 x) [] ∧ W.grownBy w' (some g)) :=
    fun W i x M h1 h2 h3 h4 h5 => fput g len i 2 x M W hl h1 h3 (by omega) (by omega) h2 (by omega) h5
  have q1 : (v.en : Int).tdiv 4 = ((v.en / 4 : Nat) : Int) := by rw [Int.tdiv_eq_ediv_of_nonneg (by omega)]; omega
  have hl1 : (written L at_ 2 0 v.prof).length = len := by rw [written_length _ _ _ _ _ (by omega) (by omega)]; exact hL
  have hl2 : (written (written L at_ 2 0 v.prof) (at_ + 2) 2 0 ((v.en / 4 : Nat) : Int)).length = len := by rw [written_length _ _ _ _ _ (by omega) (by omega)]; exact hl1
  obtain ⟨L1, hL1⟩ : ∃ L1, written L at_ 2 0 v.prof = L1 := ⟨_, rfl⟩
  rw [hL1] at hl1 hl2 ⊢
  obtain ⟨m, hm⟩ : ∃ m, v.en / 4 = m := ⟨_, rfl⟩
  have hmb : m ≤ 65535 := by omega
  rw [hm] at hl2 q1 ⊢
  obtain ⟨L2, hL2⟩ : ∃ L2, written L1 (at_ + 2) 2 0 (m : Int) = L2 := ⟨_, rfl⟩
  rw [hL2] at hl2 ⊢
  have HL1 := Lib.hid hL1
  have HL2 := Lib.hid hL2
  have HR := Lib.hid hr
  clear hL1 hL2 hm hr
  go_enter Try.func66, Try.ntmps66
  go_wp2_with fail
  have hb0 := (Below.refl w.heap.size w).alloc (Nat.le_refl _) (pobj v)
  refine (CP.out _ at_ v.prof L hL (by omega) hp.1 hp.2 (hg.alloc _)).mono ?_
  rintro e w1 ⟨rfl, hk1, hg1⟩
  rw [HL1.out] at hk1
  have D1 : PBlk w1 w.heap.size v := (hg1.block w.heap.size (by simp) (by simp; omega)).trans (PBlk.new w v)
  have hb1 : Below g w w1 := (hb0.mono (Nat.le_of_lt hgs)).trans (grown_below hg1 (Nat.le_trans (Nat.le_of_lt hgs) (by simp)))
  clear hg1 hb0
  have c8 := D1.c8
  go_wp2_with fail
  have e2 := CP.out w1 (at_ + 2) (m : Int) L1 hl1 (by omega) (by omega) (by omega) hk1
  rw [show ((at_ + 2 : Nat) : Int) = (at_ : Int) + 2 from by omega] at e2
  refine e2.mono ?_
  rintro e w2 ⟨rfl, hk2, hg2⟩
  rw [HL2.out] at hk2
  have hne : (some w.heap.size : Option Nat) ≠ some g := by simp; omega
  have D2 : PBlk w2 w.heap.size v := (hg2.block w.heap.size D1.lt hne).trans D1
  have hb2 : Below g w w2 := hb1.trans (grown_below hg2 (Nat.le_trans (Nat.le_of_lt hgs) (by have := D1.lt; omega)))
  clear hg2 c8 e2 CP hb1 D1 hk1
  obtain ⟨X, HX, s1⟩ := cut_from g 0 len len (at_ + 4) ((at_ : Int) + 4) (by omega) (by omega)
  have hgs2 : g < w2.heap.size := hk2.lt
  obtain ⟨w3, hcp, hk3, hg3⟩ := copy_into (w := w2.drew) (B := g) (cap := v.ec) 3 hk2 hl2 (by omega) HX (HR.out.below (show Below g w w2.drew from hb2.drew)) hfit
  have HK3 := Lib.hid hk3
  have HG3 := Lib.hid (grown_below hg3 (show g ≤ w2.drew.heap.size from Nat.le_of_lt hgs2))
  clear hk3 HX
  go_wp2_with fail
  have hS : PBlk w2.drew w.heap.size v := D2
  have c8 : ∀ W, PBlk W w.heap.size v → W.cell? ⟨w.heap.size, 8, none⟩ = some (.slice v.ea v.en v.ec) := fun W h => h.c8
  refine region_seq (fun W => PBlk W w.heap.size v) [(0, false), (1, false), (2, false), (3, false), (4, false), (5, false), (6, true), (7, false), (8, false)] (by kernel_rfl) (by kernel_rfl) rfl (by kernel_rfl) ?_
  iterate 6 (refine seq_read (v := _) rfl (fun _ _ _ h => h) hS (Or.inl ⟨by rfl, fun W hW => by go_simp <;> with_reducible rfl⟩) ?_; simp only [Act.put, List.setIfInBounds_toArray, List.set_cons_zero, List.set_cons_succ])
  refine seq_do rfl (fun K hK => ?_)
  go_simp
  have hS : PBlk w3 w.heap.size v := (hg3.block w.heap.size D2.lt hne).trans hS
  refine hK.out _ _ (fun W => PBlk W w.heap.size v) (fun W h => h) hS ?_
  clear hK K c8 s1 hcp
  iterate 2 (refine seq_read (v := _) rfl (fun _ _ _ h => h) hS (Or.inl ⟨by rfl, fun W hW => by go_simp <;> with_reducible rfl⟩) ?_; simp only [Act.put, List.setIfInBounds_toArray, List.set_cons_zero, List.set_cons_succ])
  refine seq_end ?_
  go_wp2
  go_ret
  exact ⟨ret_int (by rw [IntWalk.i64_in _ (by omega)]; omega), HK3.out, hb2.drew.trans HG3.out⟩
end Go.Proofs.Ytdnnfoacpjgloaa.Rtp

namespace Go.Proofs.Ytdnnfoacpjgloaa.Rtp
open Go.RowKit
set_option linter.unusedVariables false

/-- What the head's bytes are, over a row. -/
theorem head_list (L : List Int) (F S seq time ssrc : Int) (h : 12 ≤ L.length) :
    written (written (written ((L.set 0 F).set 1 S) 2 2 0 seq) 4 4 0 time) 8 4 0 ssrc = [F, S] ++ (be 2 seq ++ (be 4 time ++ (be 4 ssrc ++ L.drop 12))) := by
  match L, h with
  | a0 :: a1 :: a2 :: a3 :: a4 :: a5 :: a6 :: a7 :: a8 :: a9 :: a10 :: a11 :: r, _ => simp [written, be]

theorem putHead_end (g len : Nat) (v : PV) (L : List Int) (F S : Int) (w : World) (hl : len ≤ 512) (h12 : 12 ≤ len) (hL : L.length = len)
    (hs : 0 ≤ v.seq ∧ v.seq ≤ 65535) (ht : 0 ≤ v.time ∧ v.time ≤ 4294967295) (hz : 0 ≤ v.ssrc ∧ v.ssrc ≤ 4294967295) :
    ∃ C1 C2 C3 : List Int, (∀ W, Blk W g ((L.set 0 F).set 1 S) [] → Calls Try.prog 71 #[.slice (some ⟨g, 0, none⟩) len len, .int .i64 2, .int .i64 2, .int .u64 v.seq] W fun e w' => e = .returned (.bool true) ∧ Blk w' g C1 [] ∧ W.grownBy w' (some g)) ∧
      (∀ W, Blk W g C1 [] → Calls Try.prog 71 #[.slice (some ⟨g, 0, none⟩) len len, .int .i64 4, .int .i64 4, .int .u64 v.time] W fun e w' => e = .returned (.bool true) ∧ Blk w' g C2 [] ∧ W.grownBy w' (some g)) ∧
      (∀ W, Blk W g C2 [] → Calls Try.prog 71 #[.slice (some ⟨g, 0, none⟩) len len, .int .i64 8, .int .i64 4, .int .u64 v.ssrc] W fun e w' => e = .returned (.bool true) ∧ Blk w' g C3 [] ∧ W.grownBy w' (some g)) ∧
      C3 = [F, S] ++ (be 2 v.seq ++ (be 4 v.time ++ (be 4 v.ssrc ++ L.drop 12))) := by
  have l0 : ((L.set 0 F).set 1 S).length = len := by simp [hL]
  have l1 : (written ((L.set 0 F).set 1 S) 2 2 0 v.seq).length = len := by rw [written_length _ _ _ _ _ (by omega) (by omega)]; exact l0
  have l2 : (written (written ((L.set 0 F).set 1 S) 2 2 0 v.seq) 4 4 0 v.time).length = len := by rw [written_length _ _ _ _ _ (by omega) (by omega)]; exact l1
  exact ⟨_, _, _, fun W h => fput g len 2 2 v.seq _ W hl l0 hs.1 (by omega) (by omega) (by omega) (by omega) h, fun W h => fput g len 4 4 v.time _ W hl l1 ht.1 (by omega) (by omega) (by omega) (by omega) h,
    fun W h => fput g len 8 4 v.ssrc _ W hl l2 hz.1 (by omega) (by omega) (by omega) (by omega) h, head_list L F S v.seq v.time v.ssrc (by omega)⟩

def firstV (v : PV) : Int := 128 + (if 0 < v.pad then 32 else 0) + (if v.he then 16 else 0) + v.cn
def secondV (v : PV) : Int := (if v.mrk then 128 else 0) + v.ty
theorem _root_.Go.Proofs.Ytdnnfoacpjgloaa.Blk.cell_set {w : World} {g : Nat} {cs : List Int} {T : List Value} (h : Blk w g cs T) (i : Nat) (hi : i < cs.length) (x : Int) : (w.setCell ⟨g, i, none⟩ (.int .u8 x)).cell? ⟨g, i, none⟩ = some (.int .u8 x) := by
  have := (h.set_ i hi x).cell i (by rw [List.length_set]; exact hi)
  rw [this]; simp [List.getD_eq_getElem?_getD, hi]
theorem set_same (L : List Int) (i : Nat) (x y : Int) : (L.set i x).set i y = L.set i y := by simp

set_option maxHeartbeats 1000000 in
theorem putHead_000 (g len : Nat) (v : PV) (L : List Int) (w : World) (hl : len ≤ 512) (h12 : 12 ≤ len) (hL : L.length = len) (hg : Blk w g L []) (hcn : v.cn ≤ 15) (hty : 0 ≤ v.ty ∧ v.ty ≤ 127)
    (hs : 0 ≤ v.seq ∧ v.seq ≤ 65535) (ht : 0 ≤ v.time ∧ v.time ≤ 4294967295) (hz : 0 ≤ v.ssrc ∧ v.ssrc ≤ 4294967295) (hp : ¬ 0 < v.pad) (hh : v.he = false) (hm : v.mrk = false) :
    Calls Try.prog 64 #[.slice (some ⟨g, 0, none⟩) len len, pkt v] w (RetN w g ([firstV v, secondV v] ++ (be 2 v.seq ++ (be 4 v.time ++ (be 4 v.ssrc ++ L.drop 12))))) := by
  obtain ⟨F, hF⟩ : ∃ F : Int, F = 128 + v.cn := ⟨_, rfl⟩
  obtain ⟨S, hS⟩ : ∃ S : Int, S = v.ty := ⟨_, rfl⟩
  have hf : firstV v = F := by rw [firstV, hh, hF]; rw [if_neg hp]; simp
  have hsec : secondV v = S := by rw [secondV, hm, hS]; simp
  obtain ⟨C1, C2, C3, k1, k2, k3, hC⟩ := putHead_end g len v L F S w hl h12 hL hs ht hz
  rw [hf, hsec, ← hC]
  have K1 := Lib.hid k1
  have K2 := Lib.hid k2
  have K3 := Lib.hid k3
  have HH := Lib.hid hh
  have HM := Lib.hid hm
  have hgs : g < w.heap.size := hg.lt
  have hne : g ≠ w.heap.size := Nat.ne_of_lt hgs
  have hp0 : 0 < len := by omega
  have hp1 : 1 < len := by omega
  have hi1 : (1 : Int) < len := by omega
  have q0 : IntKind.u8.wrap (v.cn : Int) = v.cn := wrap8 _ (by omega) (by omega)
  have q1 : IntKind.u8.wrap v.ty = v.ty := wrap8 _ (by omega) (by omega)
  have p1 : IntKind.u64.wrap v.seq = v.seq := by simp [IntKind.wrap, IntKind.bits, IntKind.signed]; omega
  have p2 : IntKind.u64.wrap v.time = v.time := by simp [IntKind.wrap, IntKind.bits, IntKind.signed]; omega
  have p3 : IntKind.u64.wrap v.ssrc = v.ssrc := by simp [IntKind.wrap, IntKind.bits, IntKind.signed]; omega
  have hgs' := Lib.hid hgs
  have o0 := or_cc v.cn (by omega) (by omega)
  clear hf hsec hC k1 k2 k3 hh hm
  go_enter Try.func64, Try.ntmps64
  have B0 := hg.alloc (pobj v)
  have D0 := PBlk.new w v
  have G0 : Below g w (w.alloc (pobj v)) := ((Below.refl w.heap.size w).alloc (Nat.le_refl _) (pobj v)).mono (Nat.le_of_lt hgs)
  have B1 := B0.set_ 0 (by rw [hL]; omega) (128 + (v.cn : Int))
  have D1 := D0.off (p := ⟨g, 0, none⟩) hne (.int .u8 (128 + (v.cn : Int)))
  have G1 := G0.setCell (p := ⟨g, 0, none⟩) (Nat.le_refl _) (.int .u8 (128 + (v.cn : Int)))
  obtain ⟨n0, y0⟩ := (⟨_, B0.cell 0 (by rw [hL]; omega)⟩ : ∃ n, World.cell? _ ⟨g, 0, none⟩ = some (.int .u8 n))
  have z0 := B0.frozen 0
  have B2 := B1.set_ 1 (by simp only [List.length_set]; rw [hL]; omega) v.ty
  have D2 := D1.off (p := ⟨g, 1, none⟩) hne (.int .u8 v.ty)
  have G2 := G1.setCell (p := ⟨g, 1, none⟩) (Nat.le_refl _) (.int .u8 v.ty)
  obtain ⟨n1, y1⟩ := (⟨_, B1.cell 1 (by simp only [List.length_set]; rw [hL]; omega)⟩ : ∃ n, World.cell? _ ⟨g, 1, none⟩ = some (.int .u8 n))
  have z1 := B1.frozen 1
  have r0 := D0.c5
  have r1 := D1.c10
  have r2 := D1.c6
  rw [HH.out] at r2
  have r3 := D1.c1
  have r4 := D2.c0
  rw [HM.out] at r4
  have r5 := D2.c2
  clear HH HM
  have HBn := Lib.hid B2
  have HDn := Lib.hid D2
  have HGn := Lib.hid G2
  clear B0 D0 G0 B1 D1 G1 B2 D2 G2
  have HF := Lib.hid hF
  have HS := Lib.hid hS
  clear hF hS hg hgs hs ht hz
  go_wp2_with fail
  clear y0 z0
  clear y1 z1
  clear r0 r1 r2 r3 r4 r5 q0 q1 o0
  have BB : Blk _ g ((L.set 0 F).set 1 S) [] := (show ((L.set 0 (128 + (v.cn : Int))).set 1 v.ty) = (L.set 0 F).set 1 S from by rw [HF.out, HS.out]; try simp) ▸ HBn.out
  refine (K1.out _ BB).mono ?_
  rintro e w1 ⟨rfl, hk1, hg1⟩
  have E1 : PBlk w1 w.heap.size v := (hg1.block w.heap.size HDn.out.lt (by simp; omega)).trans HDn.out
  have H1 : Below g w w1 := HGn.out.trans (grown_below hg1 (Nat.le_of_lt BB.lt))
  clear hg1 BB HBn HDn HGn
  have r3 := E1.c3
  go_wp2_with fail
  clear r3
  refine (K2.out _ hk1).mono ?_
  rintro e w2 ⟨rfl, hk2, hg2⟩
  have E2 : PBlk w2 w.heap.size v := (hg2.block w.heap.size E1.lt (by simp; omega)).trans E1
  have H2 : Below g w w2 := H1.trans (grown_below hg2 (Nat.le_of_lt hk1.lt))
  clear hg2 hk1 E1 H1
  have r4 := E2.c4
  go_wp2_with fail
  clear r4
  refine (K3.out _ hk2).mono ?_
  rintro e w3 ⟨rfl, hk3, hg3⟩
  have H3 : Below g w w3 := H2.trans (grown_below hg3 (Nat.le_of_lt hk2.lt))
  go_wp2
  go_end0
  exact ⟨rfl, hk3, H3⟩

set_option maxHeartbeats 1000000 in
theorem putHead_001 (g len : Nat) (v : PV) (L : List Int) (w : World) (hl : len ≤ 512) (h12 : 12 ≤ len) (hL : L.length = len) (hg : Blk w g L []) (hcn : v.cn ≤ 15) (hty : 0 ≤ v.ty ∧ v.ty ≤ 127)
    (hs : 0 ≤ v.seq ∧ v.seq ≤ 65535) (ht : 0 ≤ v.time ∧ v.time ≤ 4294967295) (hz : 0 ≤ v.ssrc ∧ v.ssrc ≤ 4294967295) (hp : ¬ 0 < v.pad) (hh : v.he = false) (hm : v.mrk = true) :
    Calls Try.prog 64 #[.slice (some ⟨g, 0, none⟩) len len, pkt v] w (RetN w g ([firstV v, secondV v] ++ (be 2 v.seq ++ (be 4 v.time ++ (be 4 v.ssrc ++ L.drop 12))))) := by
  obtain ⟨F, hF⟩ : ∃ F : Int, F = 128 + v.cn := ⟨_, rfl⟩
  obtain ⟨S, hS⟩ : ∃ S : Int, S = v.ty + 128 := ⟨_, rfl⟩
  have hf : firstV v = F := by rw [firstV, hh, hF]; rw [if_neg hp]; simp
  have hsec : secondV v = S := by rw [secondV, hm, hS]; simp; omega
  obtain ⟨C1, C2, C3, k1, k2, k3, hC⟩ := putHead_end g len v L F S w hl h12 hL hs ht hz
  rw [hf, hsec, ← hC]
  have K1 := Lib.hid k1
  have K2 := Lib.hid k2
  have K3 := Lib.hid k3
  have HH := Lib.hid hh
  have HM := Lib.hid hm
  have hgs : g < w.heap.size := hg.lt
  have hne : g ≠ w.heap.size := Nat.ne_of_lt hgs
  have hp0 : 0 < len := by omega
  have hp1 : 1 < len := by omega
  have hi1 : (1 : Int) < len := by omega
  have q0 : IntKind.u8.wrap (v.cn : Int) = v.cn := wrap8 _ (by omega) (by omega)
  have q1 : IntKind.u8.wrap v.ty = v.ty := wrap8 _ (by omega) (by omega)
  have p1 : IntKind.u64.wrap v.seq = v.seq := by simp [IntKind.wrap, IntKind.bits, IntKind.signed]; omega
  have p2 : IntKind.u64.wrap v.time = v.time := by simp [IntKind.wrap, IntKind.bits, IntKind.signed]; omega
  have p3 : IntKind.u64.wrap v.ssrc = v.ssrc := by simp [IntKind.wrap, IntKind.bits, IntKind.signed]; omega
  have hgs' := Lib.hid hgs
  have o0 := or_cc v.cn (by omega) (by omega)
  have o3 := or_mrk v.ty hty.1 hty.2
  clear hf hsec hC k1 k2 k3 hh hm
  go_enter Try.func64, Try.ntmps64
  have B0 := hg.alloc (pobj v)
  have D0 := PBlk.new w v
  have G0 : Below g w (w.alloc (pobj v)) := ((Below.refl w.heap.size w).alloc (Nat.le_refl _) (pobj v)).mono (Nat.le_of_lt hgs)
  have B1 := B0.set_ 0 (by rw [hL]; omega) (128 + (v.cn : Int))
  have D1 := D0.off (p := ⟨g, 0, none⟩) hne (.int .u8 (128 + (v.cn : Int)))
  have G1 := G0.setCell (p := ⟨g, 0, none⟩) (Nat.le_refl _) (.int .u8 (128 + (v.cn : Int)))
  obtain ⟨n0, y0⟩ := (⟨_, B0.cell 0 (by rw [hL]; omega)⟩ : ∃ n, World.cell? _ ⟨g, 0, none⟩ = some (.int .u8 n))
  have z0 := B0.frozen 0
  have B2 := B1.set_ 1 (by simp only [List.length_set]; rw [hL]; omega) v.ty
  have D2 := D1.off (p := ⟨g, 1, none⟩) hne (.int .u8 v.ty)
  have G2 := G1.setCell (p := ⟨g, 1, none⟩) (Nat.le_refl _) (.int .u8 v.ty)
  obtain ⟨n1, y1⟩ := (⟨_, B1.cell 1 (by simp only [List.length_set]; rw [hL]; omega)⟩ : ∃ n, World.cell? _ ⟨g, 1, none⟩ = some (.int .u8 n))
  have z1 := B1.frozen 1
  have B3 := B2.set_ 1 (by simp only [List.length_set]; rw [hL]; omega) (v.ty + 128)
  have D3 := D2.off (p := ⟨g, 1, none⟩) hne (.int .u8 (v.ty + 128))
  have G3 := G2.setCell (p := ⟨g, 1, none⟩) (Nat.le_refl _) (.int .u8 (v.ty + 128))
  have y2 := B1.cell_set 1 (by simp only [List.length_set]; rw [hL]; omega) v.ty
  have z2 := B2.frozen 1
  have r0 := D0.c5
  have r1 := D1.c10
  have r2 := D1.c6
  rw [HH.out] at r2
  have r3 := D1.c1
  have r4 := D2.c0
  rw [HM.out] at r4
  have r5 := D3.c2
  clear HH HM
  have HBn := Lib.hid B3
  have HDn := Lib.hid D3
  have HGn := Lib.hid G3
  clear B0 D0 G0 B1 D1 G1 B2 D2 G2 B3 D3 G3
  have HF := Lib.hid hF
  have HS := Lib.hid hS
  clear hF hS hg hgs hs ht hz
  go_wp2_with fail
  clear y0 z0
  clear y1 z1
  clear y2 z2
  clear r0 r1 r2 r3 r4 r5 q0 q1 o0 o3
  have BB : Blk _ g ((L.set 0 F).set 1 S) [] := (show (((L.set 0 (128 + (v.cn : Int))).set 1 v.ty).set 1 (v.ty + 128)) = (L.set 0 F).set 1 S from by rw [HF.out, HS.out]; try simp) ▸ HBn.out
  refine (K1.out _ BB).mono ?_
  rintro e w1 ⟨rfl, hk1, hg1⟩
  have E1 : PBlk w1 w.heap.size v := (hg1.block w.heap.size HDn.out.lt (by simp; omega)).trans HDn.out
  have H1 : Below g w w1 := HGn.out.trans (grown_below hg1 (Nat.le_of_lt BB.lt))
  clear hg1 BB HBn HDn HGn
  have r3 := E1.c3
  go_wp2_with fail
  clear r3
  refine (K2.out _ hk1).mono ?_
  rintro e w2 ⟨rfl, hk2, hg2⟩
  have E2 : PBlk w2 w.heap.size v := (hg2.block w.heap.size E1.lt (by simp; omega)).trans E1
  have H2 : Below g w w2 := H1.trans (grown_below hg2 (Nat.le_of_lt hk1.lt))
  clear hg2 hk1 E1 H1
  have r4 := E2.c4
  go_wp2_with fail
  clear r4
  refine (K3.out _ hk2).mono ?_
  rintro e w3 ⟨rfl, hk3, hg3⟩
  have H3 : Below g w w3 := H2.trans (grown_below hg3 (Nat.le_of_lt hk2.lt))
  go_wp2
  go_end0
  exact ⟨rfl, hk3, H3⟩

set_option maxHeartbeats 1000000 in
theorem putHead_010 (g len : Nat) (v : PV) (L : List Int) (w : World) (hl : len ≤ 512) (h12 : 12 ≤ len) (hL : L.length = len) (hg : Blk w g L []) (hcn : v.cn ≤ 15) (hty : 0 ≤ v.ty ∧ v.ty ≤ 127)
    (hs : 0 ≤ v.seq ∧ v.seq ≤ 65535) (ht : 0 ≤ v.time ∧ v.time ≤ 4294967295) (hz : 0 ≤ v.ssrc ∧ v.ssrc ≤ 4294967295) (hp : ¬ 0 < v.pad) (hh : v.he = true) (hm : v.mrk = false) :
    Calls Try.prog 64 #[.slice (some ⟨g, 0, none⟩) len len, pkt v] w (RetN w g ([firstV v, secondV v] ++ (be 2 v.seq ++ (be 4 v.time ++ (be 4 v.ssrc ++ L.drop 12))))) := by
  obtain ⟨F, hF⟩ : ∃ F : Int, F = 144 + v.cn := ⟨_, rfl⟩
  obtain ⟨S, hS⟩ : ∃ S : Int, S = v.ty := ⟨_, rfl⟩
  have hf : firstV v = F := by rw [firstV, hh, hF]; rw [if_neg hp]; simp
  have hsec : secondV v = S := by rw [secondV, hm, hS]; simp
  obtain ⟨C1, C2, C3, k1, k2, k3, hC⟩ := putHead_end g len v L F S w hl h12 hL hs ht hz
  rw [hf, hsec, ← hC]
  have K1 := Lib.hid k1
  have K2 := Lib.hid k2
  have K3 := Lib.hid k3
  have HH := Lib.hid hh
  have HM := Lib.hid hm
  have hgs : g < w.heap.size := hg.lt
  have hne : g ≠ w.heap.size := Nat.ne_of_lt hgs
  have hp0 : 0 < len := by omega
  have hp1 : 1 < len := by omega
  have hi1 : (1 : Int) < len := by omega
  have q0 : IntKind.u8.wrap (v.cn : Int) = v.cn := wrap8 _ (by omega) (by omega)
  have q1 : IntKind.u8.wrap v.ty = v.ty := wrap8 _ (by omega) (by omega)
  have p1 : IntKind.u64.wrap v.seq = v.seq := by simp [IntKind.wrap, IntKind.bits, IntKind.signed]; omega
  have p2 : IntKind.u64.wrap v.time = v.time := by simp [IntKind.wrap, IntKind.bits, IntKind.signed]; omega
  have p3 : IntKind.u64.wrap v.ssrc = v.ssrc := by simp [IntKind.wrap, IntKind.bits, IntKind.signed]; omega
  have hgs' := Lib.hid hgs
  have o0 := or_cc v.cn (by omega) (by omega)
  have o2 := or_ext v.cn (by omega) (by omega)
  clear hf hsec hC k1 k2 k3 hh hm
  go_enter Try.func64, Try.ntmps64
  have B0 := hg.alloc (pobj v)
  have D0 := PBlk.new w v
  have G0 : Below g w (w.alloc (pobj v)) := ((Below.refl w.heap.size w).alloc (Nat.le_refl _) (pobj v)).mono (Nat.le_of_lt hgs)
  have B1 := B0.set_ 0 (by rw [hL]; omega) (128 + (v.cn : Int))
  have D1 := D0.off (p := ⟨g, 0, none⟩) hne (.int .u8 (128 + (v.cn : Int)))
  have G1 := G0.setCell (p := ⟨g, 0, none⟩) (Nat.le_refl _) (.int .u8 (128 + (v.cn : Int)))
  obtain ⟨n0, y0⟩ := (⟨_, B0.cell 0 (by rw [hL]; omega)⟩ : ∃ n, World.cell? _ ⟨g, 0, none⟩ = some (.int .u8 n))
  have z0 := B0.frozen 0
  have B2 := B1.set_ 0 (by simp only [List.length_set]; rw [hL]; omega) (144 + (v.cn : Int))
  have D2 := D1.off (p := ⟨g, 0, none⟩) hne (.int .u8 (144 + (v.cn : Int)))
  have G2 := G1.setCell (p := ⟨g, 0, none⟩) (Nat.le_refl _) (.int .u8 (144 + (v.cn : Int)))
  have y1 := B0.cell_set 0 (by rw [hL]; omega) (128 + (v.cn : Int))
  have z1 := B1.frozen 0
  have B3 := B2.set_ 1 (by simp only [List.length_set]; rw [hL]; omega) v.ty
  have D3 := D2.off (p := ⟨g, 1, none⟩) hne (.int .u8 v.ty)
  have G3 := G2.setCell (p := ⟨g, 1, none⟩) (Nat.le_refl _) (.int .u8 v.ty)
  obtain ⟨n2, y2⟩ := (⟨_, B2.cell 1 (by simp only [List.length_set]; rw [hL]; omega)⟩ : ∃ n, World.cell? _ ⟨g, 1, none⟩ = some (.int .u8 n))
  have z2 := B2.frozen 1
  have r0 := D0.c5
  have r1 := D1.c10
  have r2 := D1.c6
  rw [HH.out] at r2
  have r3 := D2.c1
  have r4 := D3.c0
  rw [HM.out] at r4
  have r5 := D3.c2
  clear HH HM
  have HBn := Lib.hid B3
  have HDn := Lib.hid D3
  have HGn := Lib.hid G3
  clear B0 D0 G0 B1 D1 G1 B2 D2 G2 B3 D3 G3
  have HF := Lib.hid hF
  have HS := Lib.hid hS
  clear hF hS hg hgs hs ht hz
  go_wp2_with fail
  clear y0 z0
  clear y1 z1
  clear y2 z2
  clear r0 r1 r2 r3 r4 r5 q0 q1 o0 o2
  have BB : Blk _ g ((L.set 0 F).set 1 S) [] := (show (((L.set 0 (128 + (v.cn : Int))).set 0 (144 + (v.cn : Int))).set 1 v.ty) = (L.set 0 F).set 1 S from by rw [HF.out, HS.out]; try simp) ▸ HBn.out
  refine (K1.out _ BB).mono ?_
  rintro e w1 ⟨rfl, hk1, hg1⟩
  have E1 : PBlk w1 w.heap.size v := (hg1.block w.heap.size HDn.out.lt (by simp; omega)).trans HDn.out
  have H1 : Below g w w1 := HGn.out.trans (grown_below hg1 (Nat.le_of_lt BB.lt))
  clear hg1 BB HBn HDn HGn
  have r3 := E1.c3
  go_wp2_with fail
  clear r3
  refine (K2.out _ hk1).mono ?_
  rintro e w2 ⟨rfl, hk2, hg2⟩
  have E2 : PBlk w2 w.heap.size v := (hg2.block w.heap.size E1.lt (by simp; omega)).trans E1
  have H2 : Below g w w2 := H1.trans (grown_below hg2 (Nat.le_of_lt hk1.lt))
  clear hg2 hk1 E1 H1
  have r4 := E2.c4
  go_wp2_with fail
  clear r4
  refine (K3.out _ hk2).mono ?_
  rintro e w3 ⟨rfl, hk3, hg3⟩
  have H3 : Below g w w3 := H2.trans (grown_below hg3 (Nat.le_of_lt hk2.lt))
  go_wp2
  go_end0
  exact ⟨rfl, hk3, H3⟩

set_option maxHeartbeats 1000000 in
theorem putHead_011 (g len : Nat) (v : PV) (L : List Int) (w : World) (hl : len ≤ 512) (h12 : 12 ≤ len) (hL : L.length = len) (hg : Blk w g L []) (hcn : v.cn ≤ 15) (hty : 0 ≤ v.ty ∧ v.ty ≤ 127)
    (hs : 0 ≤ v.seq ∧ v.seq ≤ 65535) (ht : 0 ≤ v.time ∧ v.time ≤ 4294967295) (hz : 0 ≤ v.ssrc ∧ v.ssrc ≤ 4294967295) (hp : ¬ 0 < v.pad) (hh : v.he = true) (hm : v.mrk = true) :
    Calls Try.prog 64 #[.slice (some ⟨g, 0, none⟩) len len, pkt v] w (RetN w g ([firstV v, secondV v] ++ (be 2 v.seq ++ (be 4 v.time ++ (be 4 v.ssrc ++ L.drop 12))))) := by
  obtain ⟨F, hF⟩ : ∃ F : Int, F = 144 + v.cn := ⟨_, rfl⟩
  obtain ⟨S, hS⟩ : ∃ S : Int, S = v.ty + 128 := ⟨_, rfl⟩
  have hf : firstV v = F := by rw [firstV, hh, hF]; rw [if_neg hp]; simp
  have hsec : secondV v = S := by rw [secondV, hm, hS]; simp; omega
  obtain ⟨C1, C2, C3, k1, k2, k3, hC⟩ := putHead_end g len v L F S w hl h12 hL hs ht hz
  rw [hf, hsec, ← hC]
  have K1 := Lib.hid k1
  have K2 := Lib.hid k2
  have K3 := Lib.hid k3
  have HH := Lib.hid hh
  have HM := Lib.hid hm
  have hgs : g < w.heap.size := hg.lt
  have hne : g ≠ w.heap.size := Nat.ne_of_lt hgs
  have hp0 : 0 < len := by omega
  have hp1 : 1 < len := by omega
  have hi1 : (1 : Int) < len := by omega
  have q0 : IntKind.u8.wrap (v.cn : Int) = v.cn := wrap8 _ (by omega) (by omega)
  have q1 : IntKind.u8.wrap v.ty = v.ty := wrap8 _ (by omega) (by omega)
  have p1 : IntKind.u64.wrap v.seq = v.seq := by simp [IntKind.wrap, IntKind.bits, IntKind.signed]; omega
  have p2 : IntKind.u64.wrap v.time = v.time := by simp [IntKind.wrap, IntKind.bits, IntKind.signed]; omega
  have p3 : IntKind.u64.wrap v.ssrc = v.ssrc := by simp [IntKind.wrap, IntKind.bits, IntKind.signed]; omega
  have hgs' := Lib.hid hgs
  have o0 := or_cc v.cn (by omega) (by omega)
  have o2 := or_ext v.cn (by omega) (by omega)
  have o3 := or_mrk v.ty hty.1 hty.2
  clear hf hsec hC k1 k2 k3 hh hm
  go_enter Try.func64, Try.ntmps64
  have B0 := hg.alloc (pobj v)
  have D0 := PBlk.new w v
  have G0 : Below g w (w.alloc (pobj v)) := ((Below.refl w.heap.size w).alloc (Nat.le_refl _) (pobj v)).mono (Nat.le_of_lt hgs)
  have B1 := B0.set_ 0 (by rw [hL]; omega) (128 + (v.cn : Int))
  have D1 := D0.off (p := ⟨g, 0, none⟩) hne (.int .u8 (128 + (v.cn : Int)))
  have G1 := G0.setCell (p := ⟨g, 0, none⟩) (Nat.le_refl _) (.int .u8 (128 + (v.cn : Int)))
  obtain ⟨n0, y0⟩ := (⟨_, B0.cell 0 (by rw [hL]; omega)⟩ : ∃ n, World.cell? _ ⟨g, 0, none⟩ = some (.int .u8 n))
  have z0 := B0.frozen 0
  have B2 := B1.set_ 0 (by simp only [List.length_set]; rw [hL]; omega) (144 + (v.cn : Int))
  have D2 := D1.off (p := ⟨g, 0, none⟩) hne (.int .u8 (144 + (v.cn : Int)))
  have G2 := G1.setCell (p := ⟨g, 0, none⟩) (Nat.le_refl _) (.int .u8 (144 + (v.cn : Int)))
  have y1 := B0.cell_set 0 (by rw [hL]; omega) (128 + (v.cn : Int))
  have z1 := B1.frozen 0
  have B3 := B2.set_ 1 (by simp only [List.length_set]; rw [hL]; omega) v.ty
  have D3 := D2.off (p := ⟨g, 1, none⟩) hne (.int .u8 v.ty)
  have G3 := G2.setCell (p := ⟨g, 1, none⟩) (Nat.le_refl _) (.int .u8 v.ty)
  obtain ⟨n2, y2⟩ := (⟨_, B2.cell 1 (by simp only [List.length_set]; rw [hL]; omega)⟩ : ∃ n, World.cell? _ ⟨g, 1, none⟩ = some (.int .u8 n))
  have z2 := B2.frozen 1
  have B4 := B3.set_ 1 (by simp only [List.length_set]; rw [hL]; omega) (v.ty + 128)
  have D4 := D3.off (p := ⟨g, 1, none⟩) hne (.int .u8 (v.ty + 128))
  have G4 := G3.setCell (p := ⟨g, 1, none⟩) (Nat.le_refl _) (.int .u8 (v.ty + 128))
  have y3 := B2.cell_set 1 (by simp only [List.length_set]; rw [hL]; omega) v.ty
  have z3 := B3.frozen 1
  have r0 := D0.c5
  have r1 := D1.c10
  have r2 := D1.c6
  rw [HH.out] at r2
  have r3 := D2.c1
  have r4 := D3.c0
  rw [HM.out] at r4
  have r5 := D4.c2
  clear HH HM
  have HBn := Lib.hid B4
  have HDn := Lib.hid D4
  have HGn := Lib.hid G4
  clear B0 D0 G0 B1 D1 G1 B2 D2 G2 B3 D3 G3 B4 D4 G4
  have HF := Lib.hid hF
  have HS := Lib.hid hS
  clear hF hS hg hgs hs ht hz
  go_wp2_with fail
  clear y0 z0
  clear y1 z1
  clear y2 z2
  clear y3 z3
  clear r0 r1 r2 r3 r4 r5 q0 q1 o0 o2 o3
  have BB : Blk _ g ((L.set 0 F).set 1 S) [] := (show ((((L.set 0 (128 + (v.cn : Int))).set 0 (144 + (v.cn : Int))).set 1 v.ty).set 1 (v.ty + 128)) = (L.set 0 F).set 1 S from by rw [HF.out, HS.out]; try simp) ▸ HBn.out
  refine (K1.out _ BB).mono ?_
  rintro e w1 ⟨rfl, hk1, hg1⟩
  have E1 : PBlk w1 w.heap.size v := (hg1.block w.heap.size HDn.out.lt (by simp; omega)).trans HDn.out
  have H1 : Below g w w1 := HGn.out.trans (grown_below hg1 (Nat.le_of_lt BB.lt))
  clear hg1 BB HBn HDn HGn
  have r3 := E1.c3
  go_wp2_with fail
  clear r3
  refine (K2.out _ hk1).mono ?_
  rintro e w2 ⟨rfl, hk2, hg2⟩
  have E2 : PBlk w2 w.heap.size v := (hg2.block w.heap.size E1.lt (by simp; omega)).trans E1
  have H2 : Below g w w2 := H1.trans (grown_below hg2 (Nat.le_of_lt hk1.lt))
  clear hg2 hk1 E1 H1
  have r4 := E2.c4
  go_wp2_with fail
  clear r4
  refine (K3.out _ hk2).mono ?_
  rintro e w3 ⟨rfl, hk3, hg3⟩
  have H3 : Below g w w3 := H2.trans (grown_below hg3 (Nat.le_of_lt hk2.lt))
  go_wp2
  go_end0
  exact ⟨rfl, hk3, H3⟩

set_option maxHeartbeats 1000000 in
theorem putHead_100 (g len : Nat) (v : PV) (L : List Int) (w : World) (hl : len ≤ 512) (h12 : 12 ≤ len) (hL : L.length = len) (hg : Blk w g L []) (hcn : v.cn ≤ 15) (hty : 0 ≤ v.ty ∧ v.ty ≤ 127)
    (hs : 0 ≤ v.seq ∧ v.seq ≤ 65535) (ht : 0 ≤ v.time ∧ v.time ≤ 4294967295) (hz : 0 ≤ v.ssrc ∧ v.ssrc ≤ 4294967295) (hp : 0 < v.pad) (hh : v.he = false) (hm : v.mrk = false) :
    Calls Try.prog 64 #[.slice (some ⟨g, 0, none⟩) len len, pkt v] w (RetN w g ([firstV v, secondV v] ++ (be 2 v.seq ++ (be 4 v.time ++ (be 4 v.ssrc ++ L.drop 12))))) := by
  obtain ⟨F, hF⟩ : ∃ F : Int, F = 160 + v.cn := ⟨_, rfl⟩
  obtain ⟨S, hS⟩ : ∃ S : Int, S = v.ty := ⟨_, rfl⟩
  have hf : firstV v = F := by rw [firstV, hh, hF]; rw [if_pos hp]; simp
  have hsec : secondV v = S := by rw [secondV, hm, hS]; simp
  obtain ⟨C1, C2, C3, k1, k2, k3, hC⟩ := putHead_end g len v L F S w hl h12 hL hs ht hz
  rw [hf, hsec, ← hC]
  have K1 := Lib.hid k1
  have K2 := Lib.hid k2
  have K3 := Lib.hid k3
  have HH := Lib.hid hh
  have HM := Lib.hid hm
  have hgs : g < w.heap.size := hg.lt
  have hne : g ≠ w.heap.size := Nat.ne_of_lt hgs
  have hp0 : 0 < len := by omega
  have hp1 : 1 < len := by omega
  have hi1 : (1 : Int) < len := by omega
  have q0 : IntKind.u8.wrap (v.cn : Int) = v.cn := wrap8 _ (by omega) (by omega)
  have q1 : IntKind.u8.wrap v.ty = v.ty := wrap8 _ (by omega) (by omega)
  have p1 : IntKind.u64.wrap v.seq = v.seq := by simp [IntKind.wrap, IntKind.bits, IntKind.signed]; omega
  have p2 : IntKind.u64.wrap v.time = v.time := by simp [IntKind.wrap, IntKind.bits, IntKind.signed]; omega
  have p3 : IntKind.u64.wrap v.ssrc = v.ssrc := by simp [IntKind.wrap, IntKind.bits, IntKind.signed]; omega
  have hgs' := Lib.hid hgs
  have o0 := or_cc v.cn (by omega) (by omega)
  have o1 := or_pad v.cn (by omega) (by omega)
  clear hf hsec hC k1 k2 k3 hh hm
  go_enter Try.func64, Try.ntmps64
  have B0 := hg.alloc (pobj v)
  have D0 := PBlk.new w v
  have G0 : Below g w (w.alloc (pobj v)) := ((Below.refl w.heap.size w).alloc (Nat.le_refl _) (pobj v)).mono (Nat.le_of_lt hgs)
  have B1 := B0.set_ 0 (by rw [hL]; omega) (128 + (v.cn : Int))
  have D1 := D0.off (p := ⟨g, 0, none⟩) hne (.int .u8 (128 + (v.cn : Int)))
  have G1 := G0.setCell (p := ⟨g, 0, none⟩) (Nat.le_refl _) (.int .u8 (128 + (v.cn : Int)))
  obtain ⟨n0, y0⟩ := (⟨_, B0.cell 0 (by rw [hL]; omega)⟩ : ∃ n, World.cell? _ ⟨g, 0, none⟩ = some (.int .u8 n))
  have z0 := B0.frozen 0
  have B2 := B1.set_ 0 (by simp only [List.length_set]; rw [hL]; omega) (160 + (v.cn : Int))
  have D2 := D1.off (p := ⟨g, 0, none⟩) hne (.int .u8 (160 + (v.cn : Int)))
  have G2 := G1.setCell (p := ⟨g, 0, none⟩) (Nat.le_refl _) (.int .u8 (160 + (v.cn : Int)))
  have y1 := B0.cell_set 0 (by rw [hL]; omega) (128 + (v.cn : Int))
  have z1 := B1.frozen 0
  have B3 := B2.set_ 1 (by simp only [List.length_set]; rw [hL]; omega) v.ty
  have D3 := D2.off (p := ⟨g, 1, none⟩) hne (.int .u8 v.ty)
  have G3 := G2.setCell (p := ⟨g, 1, none⟩) (Nat.le_refl _) (.int .u8 v.ty)
  obtain ⟨n2, y2⟩ := (⟨_, B2.cell 1 (by simp only [List.length_set]; rw [hL]; omega)⟩ : ∃ n, World.cell? _ ⟨g, 1, none⟩ = some (.int .u8 n))
  have z2 := B2.frozen 1
  have r0 := D0.c5
  have r1 := D1.c10
  have r2 := D2.c6
  rw [HH.out] at r2
  have r3 := D2.c1
  have r4 := D3.c0
  rw [HM.out] at r4
  have r5 := D3.c2
  clear HH HM
  have HBn := Lib.hid B3
  have HDn := Lib.hid D3
  have HGn := Lib.hid G3
  clear B0 D0 G0 B1 D1 G1 B2 D2 G2 B3 D3 G3
  have HF := Lib.hid hF
  have HS := Lib.hid hS
  clear hF hS hg hgs hs ht hz
  go_wp2_with fail
  clear y0 z0
  clear y1 z1
  clear y2 z2
  clear r0 r1 r2 r3 r4 r5 q0 q1 o0 o1
  have BB : Blk _ g ((L.set 0 F).set 1 S) [] := (show (((L.set 0 (128 + (v.cn : Int))).set 0 (160 + (v.cn : Int))).set 1 v.ty) = (L.set 0 F).set 1 S from by rw [HF.out, HS.out]; try simp) ▸ HBn.out
  refine (K1.out _ BB).mono ?_
  rintro e w1 ⟨rfl, hk1, hg1⟩
  have E1 : PBlk w1 w.heap.size v := (hg1.block w.heap.size HDn.out.lt (by simp; omega)).trans HDn.out
  have H1 : Below g w w1 := HGn.out.trans (grown_below hg1 (Nat.le_of_lt BB.lt))
  clear hg1 BB HBn HDn HGn
  have r3 := E1.c3
  go_wp2_with fail
  clear r3
  refine (K2.out _ hk1).mono ?_
  rintro e w2 ⟨rfl, hk2, hg2⟩
  have E2 : PBlk w2 w.heap.size v := (hg2.block w.heap.size E1.lt (by simp; omega)).trans E1
  have H2 : Below g w w2 := H1.trans (grown_below hg2 (Nat.le_of_lt hk1.lt))
  clear hg2 hk1 E1 H1
  have r4 := E2.c4
  go_wp2_with fail
  clear r4
  refine (K3.out _ hk2).mono ?_
  rintro e w3 ⟨rfl, hk3, hg3⟩
  have H3 : Below g w w3 := H2.trans (grown_below hg3 (Nat.le_of_lt hk2.lt))
  go_wp2
  go_end0
  exact ⟨rfl, hk3, H3⟩

set_option maxHeartbeats 1000000 in
theorem putHead_101 (g len : Nat) (v : PV) (L : List Int) (w : World) (hl : len ≤ 512) (h12 : 12 ≤ len) (hL : L.length = len) (hg : Blk w g L []) (hcn : v.cn ≤ 15) (hty : 0 ≤ v.ty ∧ v.ty ≤ 127)
    (hs : 0 ≤ v.seq ∧ v.seq ≤ 65535) (ht : 0 ≤ v.time ∧ v.time ≤ 4294967295) (hz : 0 ≤ v.ssrc ∧ v.ssrc ≤ 4294967295) (hp : 0 < v.pad) (hh : v.he = false) (hm : v.mrk = true) :
    Calls Try.prog 64 #[.slice (some ⟨g, 0, none⟩) len len, pkt v] w (RetN w g ([firstV v, secondV v] ++ (be 2 v.seq ++ (be 4 v.time ++ (be 4 v.ssrc ++ L.drop 12))))) := by
  obtain ⟨F, hF⟩ : ∃ F : Int, F = 160 + v.cn := ⟨_, rfl⟩
  obtain ⟨S, hS⟩ : ∃ S : Int, S = v.ty + 128 := ⟨_, rfl⟩
  have hf : firstV v = F := by rw [firstV, hh, hF]; rw [if_pos hp]; simp
  have hsec : secondV v = S := by rw [secondV, hm, hS]; simp; omega
  obtain ⟨C1, C2, C3, k1, k2, k3, hC⟩ := putHead_end g len v L F S w hl h12 hL hs ht hz
  rw [hf, hsec, ← hC]
  have K1 := Lib.hid k1
  have K2 := Lib.hid k2
  have K3 := Lib.hid k3
  have HH := Lib.hid hh
  have HM := Lib.hid hm
  have hgs : g < w.heap.size := hg.lt
  have hne : g ≠ w.heap.size := Nat.ne_of_lt hgs
  have hp0 : 0 < len := by omega
  have hp1 : 1 < len := by omega
  have hi1 : (1 : Int) < len := by omega
  have q0 : IntKind.u8.wrap (v.cn : Int) = v.cn := wrap8 _ (by omega) (by omega)
  have q1 : IntKind.u8.wrap v.ty = v.ty := wrap8 _ (by omega) (by omega)
  have p1 : IntKind.u64.wrap v.seq = v.seq := by simp [IntKind.wrap, IntKind.bits, IntKind.signed]; omega
  have p2 : IntKind.u64.wrap v.time = v.time := by simp [IntKind.wrap, IntKind.bits, IntKind.signed]; omega
  have p3 : IntKind.u64.wrap v.ssrc = v.ssrc := by simp [IntKind.wrap, IntKind.bits, IntKind.signed]; omega
  have hgs' := Lib.hid hgs
  have o0 := or_cc v.cn (by omega) (by omega)
  have o1 := or_pad v.cn (by omega) (by omega)
  have o3 := or_mrk v.ty hty.1 hty.2
  clear hf hsec hC k1 k2 k3 hh hm
  go_enter Try.func64, Try.ntmps64
  have B0 := hg.alloc (pobj v)
  have D0 := PBlk.new w v
  have G0 : Below g w (w.alloc (pobj v)) := ((Below.refl w.heap.size w).alloc (Nat.le_refl _) (pobj v)).mono (Nat.le_of_lt hgs)
  have B1 := B0.set_ 0 (by rw [hL]; omega) (128 + (v.cn : Int))
  have D1 := D0.off (p := ⟨g, 0, none⟩) hne (.int .u8 (128 + (v.cn : Int)))
  have G1 := G0.setCell (p := ⟨g, 0, none⟩) (Nat.le_refl _) (.int .u8 (128 + (v.cn : Int)))
  obtain ⟨n0, y0⟩ := (⟨_, B0.cell 0 (by rw [hL]; omega)⟩ : ∃ n, World.cell? _ ⟨g, 0, none⟩ = some (.int .u8 n))
  have z0 := B0.frozen 0
  have B2 := B1.set_ 0 (by simp only [List.length_set]; rw [hL]; omega) (160 + (v.cn : Int))
  have D2 := D1.off (p := ⟨g, 0, none⟩) hne (.int .u8 (160 + (v.cn : Int)))
  have G2 := G1.setCell (p := ⟨g, 0, none⟩) (Nat.le_refl _) (.int .u8 (160 + (v.cn : Int)))
  have y1 := B0.cell_set 0 (by rw [hL]; omega) (128 + (v.cn : Int))
  have z1 := B1.frozen 0
  have B3 := B2.set_ 1 (by simp only [List.length_set]; rw [hL]; omega) v.ty
  have D3 := D2.off (p := ⟨g, 1, none⟩) hne (.int .u8 v.ty)
  have G3 := G2.setCell (p := ⟨g, 1, none⟩) (Nat.le_refl _) (.int .u8 v.ty)
  obtain ⟨n2, y2⟩ := (⟨_, B2.cell 1 (by simp only [List.length_set]; rw [hL]; omega)⟩ : ∃ n, World.cell? _ ⟨g, 1, none⟩ = some (.int .u8 n))
  have z2 := B2.frozen 1
  have B4 := B3.set_ 1 (by simp only [List.length_set]; rw [hL]; omega) (v.ty + 128)
  have D4 := D3.off (p := ⟨g, 1, none⟩) hne (.int .u8 (v.ty + 128))
  have G4 := G3.setCell (p := ⟨g, 1, none⟩) (Nat.le_refl _) (.int .u8 (v.ty + 128))
  have y3 := B2.cell_set 1 (by simp only [List.length_set]; rw [hL]; omega) v.ty
  have z3 := B3.frozen 1
  have r0 := D0.c5
  have r1 := D1.c10
  have r2 := D2.c6
  rw [HH.out] at r2
  have r3 := D2.c1
  have r4 := D3.c0
  rw [HM.out] at r4
  have r5 := D4.c2
  clear HH HM
  have HBn := Lib.hid B4
  have HDn := Lib.hid D4
  have HGn := Lib.hid G4
  clear B0 D0 G0 B1 D1 G1 B2 D2 G2 B3 D3 G3 B4 D4 G4
  have HF := Lib.hid hF
  have HS := Lib.hid hS
  clear hF hS hg hgs hs ht hz
  go_wp2_with fail
  clear y0 z0
  clear y1 z1
  clear y2 z2
  clear y3 z3
  clear r0 r1 r2 r3 r4 r5 q0 q1 o0 o1 o3
  have BB : Blk _ g ((L.set 0 F).set 1 S) [] := (show ((((L.set 0 (128 + (v.cn : Int))).set 0 (160 + (v.cn : Int))).set 1 v.ty).set 1 (v.ty + 128)) = (L.set 0 F).set 1 S from by rw [HF.out, HS.out]; try simp) ▸ HBn.out
  refine (K1.out _ BB).mono ?_
  rintro e w1 ⟨rfl, hk1, hg1⟩
  have E1 : PBlk w1 w.heap.size v := (hg1.block w.heap.size HDn.out.lt (by simp; omega)).trans HDn.out
  have H1 : Below g w w1 := HGn.out.trans (grown_below hg1 (Nat.le_of_lt BB.lt))
  clear hg1 BB HBn HDn HGn
  have r3 := E1.c3
  go_wp2_with fail
  clear r3
  refine (K2.out _ hk1).mono ?_
  rintro e w2 ⟨rfl, hk2, hg2⟩
  have E2 : PBlk w2 w.heap.size v := (hg2.block w.heap.size E1.lt (by simp; omega)).trans E1
  have H2 : Below g w w2 := H1.trans (grown_below hg2 (Nat.le_of_lt hk1.lt))
  clear hg2 hk1 E1 H1
  have r4 := E2.c4
  go_wp2_with fail
  clear r4
  refine (K3.out _ hk2).mono ?_
  rintro e w3 ⟨rfl, hk3, hg3⟩
  have H3 : Below g w w3 := H2.trans (grown_below hg3 (Nat.le_of_lt hk2.lt))
  go_wp2
  go_end0
  exact ⟨rfl, hk3, H3⟩

set_option maxHeartbeats 1000000 in
theorem putHead_110 (g len : Nat) (v : PV) (L : List Int) (w : World) (hl : len ≤ 512) (h12 : 12 ≤ len) (hL : L.length = len) (hg : Blk w g L []) (hcn : v.cn ≤ 15) (hty : 0 ≤ v.ty ∧ v.ty ≤ 127)
    (hs : 0 ≤ v.seq ∧ v.seq ≤ 65535) (ht : 0 ≤ v.time ∧ v.time ≤ 4294967295) (hz : 0 ≤ v.ssrc ∧ v.ssrc ≤ 4294967295) (hp : 0 < v.pad) (hh : v.he = true) (hm : v.mrk = false) :
    Calls Try.prog 64 #[.slice (some ⟨g, 0, none⟩) len len, pkt v] w (RetN w g ([firstV v, secondV v] ++ (be 2 v.seq ++ (be 4 v.time ++ (be 4 v.ssrc ++ L.drop 12))))) := by
  obtain ⟨F, hF⟩ : ∃ F : Int, F = 176 + v.cn := ⟨_, rfl⟩
  obtain ⟨S, hS⟩ : ∃ S : Int, S = v.ty := ⟨_, rfl⟩
  have hf : firstV v = F := by rw [firstV, hh, hF]; rw [if_pos hp]; simp
  have hsec : secondV v = S := by rw [secondV, hm, hS]; simp
  obtain ⟨C1, C2, C3, k1, k2, k3, hC⟩ := putHead_end g len v L F S w hl h12 hL hs ht hz
  rw [hf, hsec, ← hC]
  have K1 := Lib.hid k1
  have K2 := Lib.hid k2
  have K3 := Lib.hid k3
  have HH := Lib.hid hh
  have HM := Lib.hid hm
  have hgs : g < w.heap.size := hg.lt
  have hne : g ≠ w.heap.size := Nat.ne_of_lt hgs
  have hp0 : 0 < len := by omega
  have hp1 : 1 < len := by omega
  have hi1 : (1 : Int) < len := by omega
  have q0 : IntKind.u8.wrap (v.cn : Int) = v.cn := wrap8 _ (by omega) (by omega)
  have q1 : IntKind.u8.wrap v.ty = v.ty := wrap8 _ (by omega) (by omega)
  have p1 : IntKind.u64.wrap v.seq = v.seq := by simp [IntKind.wrap, IntKind.bits, IntKind.signed]; omega
  have p2 : IntKind.u64.wrap v.time = v.time := by simp [IntKind.wrap, IntKind.bits, IntKind.signed]; omega
  have p3 : IntKind.u64.wrap v.ssrc = v.ssrc := by simp [IntKind.wrap, IntKind.bits, IntKind.signed]; omega
  have hgs' := Lib.hid hgs
  have o0 := or_cc v.cn (by omega) (by omega)
  have o1 := or_pad v.cn (by omega) (by omega)
  have o2 := or_both v.cn (by omega) (by omega)
  clear hf hsec hC k1 k2 k3 hh hm
  go_enter Try.func64, Try.ntmps64
  have B0 := hg.alloc (pobj v)
  have D0 := PBlk.new w v
  have G0 : Below g w (w.alloc (pobj v)) := ((Below.refl w.heap.size w).alloc (Nat.le_refl _) (pobj v)).mono (Nat.le_of_lt hgs)
  have B1 := B0.set_ 0 (by rw [hL]; omega) (128 + (v.cn : Int))
  have D1 := D0.off (p := ⟨g, 0, none⟩) hne (.int .u8 (128 + (v.cn : Int)))
  have G1 := G0.setCell (p := ⟨g, 0, none⟩) (Nat.le_refl _) (.int .u8 (128 + (v.cn : Int)))
  obtain ⟨n0, y0⟩ := (⟨_, B0.cell 0 (by rw [hL]; omega)⟩ : ∃ n, World.cell? _ ⟨g, 0, none⟩ = some (.int .u8 n))
  have z0 := B0.frozen 0
  have B2 := B1.set_ 0 (by simp only [List.length_set]; rw [hL]; omega) (160 + (v.cn : Int))
  have D2 := D1.off (p := ⟨g, 0, none⟩) hne (.int .u8 (160 + (v.cn : Int)))
  have G2 := G1.setCell (p := ⟨g, 0, none⟩) (Nat.le_refl _) (.int .u8 (160 + (v.cn : Int)))
  have y1 := B0.cell_set 0 (by rw [hL]; omega) (128 + (v.cn : Int))
  have z1 := B1.frozen 0
  have B3 := B2.set_ 0 (by simp only [List.length_set]; rw [hL]; omega) (176 + (v.cn : Int))
  have D3 := D2.off (p := ⟨g, 0, none⟩) hne (.int .u8 (176 + (v.cn : Int)))
  have G3 := G2.setCell (p := ⟨g, 0, none⟩) (Nat.le_refl _) (.int .u8 (176 + (v.cn : Int)))
  have y2 := B1.cell_set 0 (by simp only [List.length_set]; rw [hL]; omega) (160 + (v.cn : Int))
  have z2 := B2.frozen 0
  have B4 := B3.set_ 1 (by simp only [List.length_set]; rw [hL]; omega) v.ty
  have D4 := D3.off (p := ⟨g, 1, none⟩) hne (.int .u8 v.ty)
  have G4 := G3.setCell (p := ⟨g, 1, none⟩) (Nat.le_refl _) (.int .u8 v.ty)
  obtain ⟨n3, y3⟩ := (⟨_, B3.cell 1 (by simp only [List.length_set]; rw [hL]; omega)⟩ : ∃ n, World.cell? _ ⟨g, 1, none⟩ = some (.int .u8 n))
  have z3 := B3.frozen 1
  have r0 := D0.c5
  have r1 := D1.c10
  have r2 := D2.c6
  rw [HH.out] at r2
  have r3 := D3.c1
  have r4 := D4.c0
  rw [HM.out] at r4
  have r5 := D4.c2
  clear HH HM
  have HBn := Lib.hid B4
  have HDn := Lib.hid D4
  have HGn := Lib.hid G4
  clear B0 D0 G0 B1 D1 G1 B2 D2 G2 B3 D3 G3 B4 D4 G4
  have HF := Lib.hid hF
  have HS := Lib.hid hS
  clear hF hS hg hgs hs ht hz
  go_wp2_with fail
  clear y0 z0
  clear y1 z1
  clear y2 z2
  clear y3 z3
  clear r0 r1 r2 r3 r4 r5 q0 q1 o0 o1 o2
  have BB : Blk _ g ((L.set 0 F).set 1 S) [] := (show ((((L.set 0 (128 + (v.cn : Int))).set 0 (160 + (v.cn : Int))).set 0 (176 + (v.cn : Int))).set 1 v.ty) = (L.set 0 F).set 1 S from by rw [HF.out, HS.out]; try simp) ▸ HBn.out
  refine (K1.out _ BB).mono ?_
  rintro e w1 ⟨rfl, hk1, hg1⟩
  have E1 : PBlk w1 w.heap.size v := (hg1.block w.heap.size HDn.out.lt (by simp; omega)).trans HDn.out
  have H1 : Below g w w1 := HGn.out.trans (grown_below hg1 (Nat.le_of_lt BB.lt))
  clear hg1 BB HBn HDn HGn
  have r3 := E1.c3
  go_wp2_with fail
  clear r3
  refine (K2.out _ hk1).mono ?_
  rintro e w2 ⟨rfl, hk2, hg2⟩
  have E2 : PBlk w2 w.heap.size v := (hg2.block w.heap.size E1.lt (by simp; omega)).trans E1
  have H2 : Below g w w2 := H1.trans (grown_below hg2 (Nat.le_of_lt hk1.lt))
  clear hg2 hk1 E1 H1
  have r4 := E2.c4
  go_wp2_with fail
  clear r4
  refine (K3.out _ hk2).mono ?_
  rintro e w3 ⟨rfl, hk3, hg3⟩
  have H3 : Below g w w3 := H2.trans (grown_below hg3 (Nat.le_of_lt hk2.lt))
  go_wp2
  go_end0
  exact ⟨rfl, hk3, H3⟩

set_option maxHeartbeats 1000000 in
theorem putHead_111 (g len : Nat) (v : PV) (L : List Int) (w : World) (hl : len ≤ 512) (h12 : 12 ≤ len) (hL : L.length = len) (hg : Blk w g L []) (hcn : v.cn ≤ 15) (hty : 0 ≤ v.ty ∧ v.ty ≤ 127)
    (hs : 0 ≤ v.seq ∧ v.seq ≤ 65535) (ht : 0 ≤ v.time ∧ v.time ≤ 4294967295) (hz : 0 ≤ v.ssrc ∧ v.ssrc ≤ 4294967295) (hp : 0 < v.pad) (hh : v.he = true) (hm : v.mrk = true) :
    Calls Try.prog 64 #[.slice (some ⟨g, 0, none⟩) len len, pkt v] w (RetN w g ([firstV v, secondV v] ++ (be 2 v.seq ++ (be 4 v.time ++ (be 4 v.ssrc ++ L.drop 12))))) := by
  obtain ⟨F, hF⟩ : ∃ F : Int, F = 176 + v.cn := ⟨_, rfl⟩
  obtain ⟨S, hS⟩ : ∃ S : Int, S = v.ty + 128 := ⟨_, rfl⟩
  have hf : firstV v = F := by rw [firstV, hh, hF]; rw [if_pos hp]; simp
  have hsec : secondV v = S := by rw [secondV, hm, hS]; simp; omega
  obtain ⟨C1, C2, C3, k1, k2, k3, hC⟩ := putHead_end g len v L F S w hl h12 hL hs ht hz
  rw [hf, hsec, ← hC]
  have K1 := Lib.hid k1
  have K2 := Lib.hid k2
  have K3 := Lib.hid k3
  have HH := Lib.hid hh
  have HM := Lib.hid hm
  have hgs : g < w.heap.size := hg.lt
  have hne : g ≠ w.heap.size := Nat.ne_of_lt hgs
  have hp0 : 0 < len := by omega
  have hp1 : 1 < len := by omega
  have hi1 : (1 : Int) < len := by omega
  have q0 : IntKind.u8.wrap (v.cn : Int) = v.cn := wrap8 _ (by omega) (by omega)
  have q1 : IntKind.u8.wrap v.ty = v.ty := wrap8 _ (by omega) (by omega)
  have p1 : IntKind.u64.wrap v.seq = v.seq := by simp [IntKind.wrap, IntKind.bits, IntKind.signed]; omega
  have p2 : IntKind.u64.wrap v.time = v.time := by simp [IntKind.wrap, IntKind.bits, IntKind.signed]; omega
  have p3 : IntKind.u64.wrap v.ssrc = v.ssrc := by simp [IntKind.wrap, IntKind.bits, IntKind.signed]; omega
  have hgs' := Lib.hid hgs
  have o0 := or_cc v.cn (by omega) (by omega)
  have o1 := or_pad v.cn (by omega) (by omega)
  have o2 := or_both v.cn (by omega) (by omega)
  have o3 := or_mrk v.ty hty.1 hty.2
  clear hf hsec hC k1 k2 k3 hh hm
  go_enter Try.func64, Try.ntmps64
  have B0 := hg.alloc (pobj v)
  have D0 := PBlk.new w v
  have G0 : Below g w (w.alloc (pobj v)) := ((Below.refl w.heap.size w).alloc (Nat.le_refl _) (pobj v)).mono (Nat.le_of_lt hgs)
  have B1 := B0.set_ 0 (by rw [hL]; omega) (128 + (v.cn : Int))
  have D1 := D0.off (p := ⟨g, 0, none⟩) hne (.int .u8 (128 + (v.cn : Int)))
  have G1 := G0.setCell (p := ⟨g, 0, none⟩) (Nat.le_refl _) (.int .u8 (128 + (v.cn : Int)))
  obtain ⟨n0, y0⟩ := (⟨_, B0.cell 0 (by rw [hL]; omega)⟩ : ∃ n, World.cell? _ ⟨g, 0, none⟩ = some (.int .u8 n))
  have z0 := B0.frozen 0
  have B2 := B1.set_ 0 (by simp only [List.length_set]; rw [hL]; omega) (160 + (v.cn : Int))
  have D2 := D1.off (p := ⟨g, 0, none⟩) hne (.int .u8 (160 + (v.cn : Int)))
  have G2 := G1.setCell (p := ⟨g, 0, none⟩) (Nat.le_refl _) (.int .u8 (160 + (v.cn : Int)))
  have y1 := B0.cell_set 0 (by rw [hL]; omega) (128 + (v.cn : Int))
  have z1 := B1.frozen 0
  have B3 := B2.set_ 0 (by simp only [List.length_set]; rw [hL]; omega) (176 + (v.cn : Int))
  have D3 := D2.off (p := ⟨g, 0, none⟩) hne (.int .u8 (176 + (v.cn : Int)))
  have G3 := G2.setCell (p := ⟨g, 0, none⟩) (Nat.le_refl _) (.int .u8 (176 + (v.cn : Int)))
  have y2 := B1.cell_set 0 (by simp only [List.length_set]; rw [hL]; omega) (160 + (v.cn : Int))
  have z2 := B2.frozen 0
  have B4 := B3.set_ 1 (by simp only [List.length_set]; rw [hL]; omega) v.ty
  have D4 := D3.off (p := ⟨g, 1, none⟩) hne (.int .u8 v.ty)
  have G4 := G3.setCell (p := ⟨g, 1, none⟩) (Nat.le_refl _) (.int .u8 v.ty)
  obtain ⟨n3, y3⟩ := (⟨_, B3.cell 1 (by simp only [List.length_set]; rw [hL]; omega)⟩ : ∃ n, World.cell? _ ⟨g, 1, none⟩ = some (.int .u8 n))
  have z3 := B3.frozen 1
  have B5 := B4.set_ 1 (by simp only [List.length_set]; rw [hL]; omega) (v.ty + 128)
  have D5 := D4.off (p := ⟨g, 1, none⟩) hne (.int .u8 (v.ty + 128))
  have G5 := G4.setCell (p := ⟨g, 1, none⟩) (Nat.le_refl _) (.int .u8 (v.ty + 128))
  have y4 := B3.cell_set 1 (by simp only [List.length_set]; rw [hL]; omega) v.ty
  have z4 := B4.frozen 1
  have r0 := D0.c5
  have r1 := D1.c10
  have r2 := D2.c6
  rw [HH.out] at r2
  have r3 := D3.c1
  have r4 := D4.c0
  rw [HM.out] at r4
  have r5 := D5.c2
  clear HH HM
  have HBn := Lib.hid B5
  have HDn := Lib.hid D5
  have HGn := Lib.hid G5
  clear B0 D0 G0 B1 D1 G1 B2 D2 G2 B3 D3 G3 B4 D4 G4 B5 D5 G5
  have HF := Lib.hid hF
  have HS := Lib.hid hS
  clear hF hS hg hgs hs ht hz
  go_wp2_with fail
  clear y0 z0
  clear y1 z1
  clear y2 z2
  clear y3 z3
  clear y4 z4
  clear r0 r1 r2 r3 r4 r5 q0 q1 o0 o1 o2 o3
  have BB : Blk _ g ((L.set 0 F).set 1 S) [] := (show (((((L.set 0 (128 + (v.cn : Int))).set 0 (160 + (v.cn : Int))).set 0 (176 + (v.cn : Int))).set 1 v.ty).set 1 (v.ty + 128)) = (L.set 0 F).set 1 S from by rw [HF.out, HS.out]; try simp) ▸ HBn.out
  refine (K1.out _ BB).mono ?_
  rintro e w1 ⟨rfl, hk1, hg1⟩
  have E1 : PBlk w1 w.heap.size v := (hg1.block w.heap.size HDn.out.lt (by simp; omega)).trans HDn.out
  have H1 : Below g w w1 := HGn.out.trans (grown_below hg1 (Nat.le_of_lt BB.lt))
  clear hg1 BB HBn HDn HGn
  have r3 := E1.c3
  go_wp2_with fail
  clear r3
  refine (K2.out _ hk1).mono ?_
  rintro e w2 ⟨rfl, hk2, hg2⟩
  have E2 : PBlk w2 w.heap.size v := (hg2.block w.heap.size E1.lt (by simp; omega)).trans E1
  have H2 : Below g w w2 := H1.trans (grown_below hg2 (Nat.le_of_lt hk1.lt))
  clear hg2 hk1 E1 H1
  have r4 := E2.c4
  go_wp2_with fail
  clear r4
  refine (K3.out _ hk2).mono ?_
  rintro e w3 ⟨rfl, hk3, hg3⟩
  have H3 : Below g w w3 := H2.trans (grown_below hg3 (Nat.le_of_lt hk2.lt))
  go_wp2
  go_end0
  exact ⟨rfl, hk3, H3⟩

theorem putHead_any (g len : Nat) (v : PV) (L : List Int) (w : World) (hl : len ≤ 512) (h12 : 12 ≤ len) (hL : L.length = len) (hg : Blk w g L []) (hcn : v.cn ≤ 15) (hty : 0 ≤ v.ty ∧ v.ty ≤ 127)
    (hs : 0 ≤ v.seq ∧ v.seq ≤ 65535) (ht : 0 ≤ v.time ∧ v.time ≤ 4294967295) (hz : 0 ≤ v.ssrc ∧ v.ssrc ≤ 4294967295) :
    Calls Try.prog 64 #[.slice (some ⟨g, 0, none⟩) len len, pkt v] w (RetN w g ([firstV v, secondV v] ++ (be 2 v.seq ++ (be 4 v.time ++ (be 4 v.ssrc ++ L.drop 12))))) := by
  by_cases hp : 0 < v.pad <;> rcases hh : v.he with _ | _ <;> rcases hm : v.mrk with _ | _
  · exact putHead_100 g len v L w hl h12 hL hg hcn hty hs ht hz hp hh hm
  · exact putHead_101 g len v L w hl h12 hL hg hcn hty hs ht hz hp hh hm
  · exact putHead_110 g len v L w hl h12 hL hg hcn hty hs ht hz hp hh hm
  · exact putHead_111 g len v L w hl h12 hL hg hcn hty hs ht hz hp hh hm
  · exact putHead_000 g len v L w hl h12 hL hg hcn hty hs ht hz hp hh hm
  · exact putHead_001 g len v L w hl h12 hL hg hcn hty hs ht hz hp hh hm
  · exact putHead_010 g len v L w hl h12 hL hg hcn hty hs ht hz hp hh hm
  · exact putHead_011 g len v L w hl h12 hL hg hcn hty hs ht hz hp hh hm
end Go.Proofs.Ytdnnfoacpjgloaa.Rtp

namespace Go.Proofs.Ytdnnfoacpjgloaa.Rtp
open Go.RowKit
set_option linter.unusedVariables false

/-- Bytes and what was wrong. -/
def RetR (w : World) (ys : List Int) (n : Int) (e : Ending) (w' : World) : Prop :=
  ∃ A c, e = .returned (.tuple #[.slice A ys.length c, .int .i64 n]) ∧ Own w' w.heap.size A ys.length c ys ∧ Below w.heap.size w w'

set_option maxHeartbeats 1000000 in
theorem put_none (v : PV) (w : World) (CS : Hid (∀ W, Calls Try.prog 63 #[pkt v] W (RetI W 0))) : Calls Try.prog 45 #[pkt v] w (RetR w [] 1) := by
  have hb : Below w.heap.size w (w.alloc (pobj v)) := (Below.refl _ _).alloc (Nat.le_refl _) _
  go_enter Try.func45, Try.ntmps45
  go_wp2_with fail
  refine (CS.out _).mono ?_
  rintro e w1 ⟨rfl, hb1⟩
  go_wp2
  go_ret2
  exact ⟨none, 0, rfl, Own.nil _ _, hb.trans (hb1.mono hb.size)⟩
set_option maxHeartbeats 1000000 in
theorem put_more (v : PV) (n : Int) (w : World) (hn : 512 < n) (CS : Hid (∀ W, Calls Try.prog 63 #[pkt v] W (RetI W n))) : Calls Try.prog 45 #[pkt v] w (RetR w [] 5) := by
  have hb : Below w.heap.size w (w.alloc (pobj v)) := (Below.refl _ _).alloc (Nat.le_refl _) _
  have hz : (n == 0) = false := by simp; omega
  go_enter Try.func45, Try.ntmps45
  go_wp2_with fail
  refine (CS.out _).mono ?_
  rintro e w1 ⟨rfl, hb1⟩
  go_wp2
  go_ret2
  exact ⟨none, 0, rfl, Own.nil _ _, hb.trans (hb1.mono hb.size)⟩

set_option maxHeartbeats 4000000 in
theorem put_walk (v : PV) (N at1_ at2_ : Nat) (ps L1 L2 L3 L5 : List Int) (w : World) (h12 : 12 ≤ N) (h512 : N ≤ 512) (hl3 : L3.length = N) (ha2 : at2_ + v.pn ≤ N)
    (CS : Hid (∀ W, Calls Try.prog 63 #[pkt v] W (RetI W N)))
    (CH : Hid (∀ W g, Blk W g (List.replicate N 0) [] → Calls Try.prog 64 #[.slice (some ⟨g, 0, none⟩) N N, pkt v] W (RetN W g L1)))
    (CC : Hid (∀ W g, Below w.heap.size w W → w.heap.size ≤ g → Blk W g L1 [] → Calls Try.prog 65 #[.slice (some ⟨g, 0, none⟩) N N, .int .i64 12, .slice v.ca v.cn v.cc] W (RetA W g L2 at1_)))
    (CE : Hid (v.he = true → ∀ W g, Below w.heap.size w W → w.heap.size ≤ g → Blk W g L2 [] → Calls Try.prog 66 #[.slice (some ⟨g, 0, none⟩) N N, .int .i64 at1_, pkt v] W (RetA W g L3 at2_)))
    (he0 : v.he = false → at1_ = at2_ ∧ L2 = L3) (hrp : ps.length = v.pn ∧ True) (hps : Hid (∀ W, Below w.heap.size w W → Rd W w.heap.size v.pa v.pn ps))
    (hpad : 0 ≤ v.pad ∧ v.pad ≤ 255) (h5 : L5 = if 0 < v.pad then (splice L3 at2_ ps).set (N - 1) v.pad else splice L3 at2_ ps) (h5l : L5.length = N) (h5b : Bytes L5) :
    Calls Try.prog 45 #[pkt v] w (RetR w L5 0) := by
  obtain ⟨i0, hi0, hz0, hz1, hz2⟩ := info_parts info5
  have HF : Hid (∀ g W, Blk W g L5 [] → w.heap.size ≤ g → Below w.heap.size w W → RetR w L5 0 (.returned (.tuple #[.slice (some ⟨g, 0, none⟩) N N, .int .i64 0])) W) := fun g W hk hg hb => by
    subst h5l
    exact ⟨_, _, rfl, Own.of_blk hk hg h5b rfl (by unfold maxLen; omega), hb⟩
  have HP := Lib.hid h5
  have hz : ((N : Int) == 0) = false := by simp; omega
  have hn0 : ¬ N = 0 := by omega
  clear h5 h5l h5b
  go_enter Try.func45, Try.ntmps45
  go_wp2_with fail
  have hb0 : Below w.heap.size w (w.alloc (pobj v)) := (Below.refl _ _).alloc (Nat.le_refl _) _
  refine (CS.out _).mono ?_
  rintro e w1 ⟨rfl, hb1⟩
  have D1 : PBlk w1 w.heap.size v := (PBlk.new w v).below hb1 (by simp)
  have H1 := Lib.hid (hb0.trans (hb1.mono hb0.size))
  clear hb0 hb1 CS
  go_wp2_with (at_make; refine wpList_make_full _ rfl _ _ 36 rfl w1.heap.size 5 i0 _ 1 Try.underlying36 hi0 hz0 hz1 .i64 .i64 _ _ N rfl rfl ?c1 ?c2 ?c3 ?c4 ?c5 ?_
               case c1 => omega
               case c2 => omega
               case c3 => rw [hz2]; omega
               case c4 => unfold maxLen; omega
               case c5 => exact Nat.le_refl _
               intro w2 hown hg2
               rw [bcells_zeros] at hown
               have HO := Lib.hid (own_blk hown rfl)
               have hb2 : Below w1.heap.size w1 w2 := (Below.refl _ _).grown hg2 (Nat.le_refl _) (by simp)
               have D2 : PBlk w2 w.heap.size v := D1.below hb2 D1.lt
               have H2 := Lib.hid (H1.out.trans (hb2.mono H1.out.size))
               have HQ := Lib.hid (show w.heap.size < w1.heap.size from D1.lt)
               clear hown hg2 hb2 D1
               generalize w1.heap.size = g at *
               obtain ⟨d0, d1, d2, d3, d4, d5, d6, d7, d8, d9⟩ := D2.cells
               have d10 := D2.c10)
  clear d0 d1 d2 d3 d4 d5 d6 d7 d8 d9 d10
  refine (CH.out _ g HO.out).mono ?_
  rintro e w3 ⟨rfl, hk3, hb3⟩
  have D3 : PBlk w3 w.heap.size v := D2.below hb3 HQ.out
  have H3 := Lib.hid (H2.out.trans (hb3.mono (Nat.le_of_lt HQ.out)))
  clear hb3 HO D2 CH H2 w2
  have d5 := D3.c5
  go_wp2_with fail
  clear d5
  refine (CC.out _ g H3.out (Nat.le_of_lt HQ.out) hk3).mono ?_
  rintro e w4 ⟨rfl, hk4, hb4⟩
  have D4 : PBlk w4 w.heap.size v := D3.below hb4 HQ.out
  have H4 := Lib.hid (H3.out.trans (hb4.mono (Nat.le_of_lt HQ.out)))
  clear hb4 hk3 D3 CC H3 w3
  rcases hh : v.he with _ | _
  · obtain ⟨rfl, rfl⟩ := he0 hh
    have d6 := D4.c6
    rw [hh] at d6
    have HH := Lib.hid hh
    clear CE he0 hh
    have D5 := D4
    have H5 := H4
    have hk5 := hk4
    obtain ⟨w5, hw5⟩ : ∃ w5, w4 = w5 := ⟨_, rfl⟩
    subst hw5
    clear D4 H4 hk4
    obtain ⟨X, HX, s1⟩ := cut_from g 0 N N at1_ (at1_ : Int) rfl (by omega)
    obtain ⟨w6, hcp, hk6, hg6⟩ := copy_into (w := w4.drew) (B := w.heap.size) (cap := v.pc) 3 hk5 hl3 (by omega) HX (hps.out _ H5.out.drew) ha2
    have HK6 := Lib.hid hk6
    have HB6 := Lib.hid (grown_below hg6 (show g ≤ w4.drew.heap.size from Nat.le_of_lt hk5.lt))
    have HX' := Lib.hid HX
    clear hk6 hps HX hi0 hz0 hz1 hz2
    have hS : PBlk w4.drew w.heap.size v := D5
    go_wp2_with fail
    have c9 : ∀ W, PBlk W w.heap.size v → W.cell? ⟨w.heap.size, 9, none⟩ = some (.slice v.pa v.pn v.pc) := fun W h => h.c9
    refine region_seq (fun W => PBlk W w.heap.size v) [(0, false), (1, false), (2, false), (3, false), (4, false), (5, true)] (by kernel_rfl) (by kernel_rfl) rfl (by kernel_rfl) ?_
    iterate 5 (refine seq_read (v := _) rfl (fun _ _ _ h => h) hS (Or.inl ⟨by rfl, fun W hW => by go_simp <;> with_reducible rfl⟩) ?_; simp only [Act.put, List.setIfInBounds_toArray, List.set_cons_zero, List.set_cons_succ])
    refine seq_do rfl (fun K hK => ?_)
    go_simp
    have D6 : PBlk w6 w.heap.size v := (hg6.block w.heap.size D5.lt (by have := HQ.out; simp; omega)).trans hS
    refine hK.out _ _ (fun W => PBlk W w.heap.size v) (fun W h => h) D6 ?_
    clear hK K c9 s1 hcp hS
    refine seq_end ?_
    have H6 := Lib.hid (H5.out.drew.trans (HB6.out.mono (Nat.le_of_lt HQ.out)))
    clear hg6 HB6 H5 hk5 D5 d6 w4
    have c10 := D6.c10
    by_cases hp : 0 < v.pad
    · have HL : Hid (L5 = (splice L2 at1_ ps).set (N - 1) v.pad) := HP.out.trans (if_pos hp)
      have hlen : (splice L2 at1_ ps).length = N := by rw [length_splice _ _ _ (by rw [hl3]; have := hrp.1; omega)]; exact hl3
      have y0 := HK6.out.cell (N - 1) (by rw [hlen]; omega)
      have z0 := HK6.out.frozen (N - 1)
      have d2 : (N : Int) - 1 = ((N - 1 : Nat) : Int) := by omega
      have hi : N - 1 < N := by omega
      have q : IntKind.u8.wrap v.pad = v.pad := wrap8 _ hpad.1 hpad.2
      obtain ⟨n0, y0⟩ : ∃ n, w6.cell? ⟨g, N - 1, none⟩ = some (.int .u8 n) := ⟨_, y0⟩
      go_wp2
      go_ret2
      refine HF.out g _ ?_ (Nat.le_of_lt HQ.out) (H6.out.setCell (p := ⟨g, N - 1, none⟩) (Nat.le_of_lt HQ.out) _)
      rw [HL.out]
      exact HK6.out.set_ (N - 1) (by rw [hlen]; omega) v.pad
    · have HL : Hid (L5 = splice L2 at1_ ps) := HP.out.trans (if_neg hp)
      go_wp2
      go_ret2
      refine HF.out g _ ?_ (Nat.le_of_lt HQ.out) H6.out
      rw [HL.out]
      exact HK6.out
  · have d0 := D4.c0
    have d1 := D4.c1
    have d2 := D4.c2
    have d3 := D4.c3
    have d4 := D4.c4
    have d5 := D4.c5
    have d6 := D4.c6
    have d7 := D4.c7
    have d8 := D4.c8
    have d9 := D4.c9
    have d10 := D4.c10
    rw [hh] at d6
    have C := CE.out hh w4 g H4.out (Nat.le_of_lt HQ.out) hk4
    simp only [pkt, hh] at C
    have HC := Lib.hid C
    have HH := Lib.hid hh
    clear CE he0 C hh
    go_wp2_with fail
    clear d0 d1 d2 d3 d4 d5 d6 d7 d8 d9 d10
    refine HC.out.mono ?_
    rintro e w5 ⟨rfl, hk5, hb5⟩
    have D5 : PBlk w5 w.heap.size v := D4.below hb5 HQ.out
    have H5 := Lib.hid (H4.out.trans (hb5.mono (Nat.le_of_lt HQ.out)))
    clear hb5 HC D4 H4 hk4 w4
    obtain ⟨X, HX, s1⟩ := cut_from g 0 N N at2_ (at2_ : Int) rfl (by omega)
    obtain ⟨w6, hcp, hk6, hg6⟩ := copy_into (w := w5.drew) (B := w.heap.size) (cap := v.pc) 3 hk5 hl3 (by omega) HX (hps.out _ H5.out.drew) ha2
    have HK6 := Lib.hid hk6
    have HB6 := Lib.hid (grown_below hg6 (show g ≤ w5.drew.heap.size from Nat.le_of_lt hk5.lt))
    have HX' := Lib.hid HX
    clear hk6 hps HX hi0 hz0 hz1 hz2
    have hS : PBlk w5.drew w.heap.size v := D5
    go_wp2_with fail
    have c9 : ∀ W, PBlk W w.heap.size v → W.cell? ⟨w.heap.size, 9, none⟩ = some (.slice v.pa v.pn v.pc) := fun W h => h.c9
    refine region_seq (fun W => PBlk W w.heap.size v) [(0, false), (1, false), (2, false), (3, false), (4, false), (5, true)] (by kernel_rfl) (by kernel_rfl) rfl (by kernel_rfl) ?_
    iterate 5 (refine seq_read (v := _) rfl (fun _ _ _ h => h) hS (Or.inl ⟨by rfl, fun W hW => by go_simp <;> with_reducible rfl⟩) ?_; simp only [Act.put, List.setIfInBounds_toArray, List.set_cons_zero, List.set_cons_succ])
    refine seq_do rfl (fun K hK => ?_)
    go_simp
    have D6 : PBlk w6 w.heap.size v := (hg6.block w.heap.size D5.lt (by have := HQ.out; simp; omega)).trans hS
    refine hK.out _ _ (fun W => PBlk W w.heap.size v) (fun W h => h) D6 ?_
    clear hK K c9 s1 hcp hS
    refine seq_end ?_
    have H6 := Lib.hid (H5.out.drew.trans (HB6.out.mono (Nat.le_of_lt HQ.out)))
    clear hg6 HB6 H5 hk5 D5 w5
    have c10 := D6.c10
    by_cases hp : 0 < v.pad
    · have HL : Hid (L5 = (splice L3 at2_ ps).set (N - 1) v.pad) := HP.out.trans (if_pos hp)
      have hlen : (splice L3 at2_ ps).length = N := by rw [length_splice _ _ _ (by rw [hl3]; have := hrp.1; omega)]; exact hl3
      have y0 := HK6.out.cell (N - 1) (by rw [hlen]; omega)
      have z0 := HK6.out.frozen (N - 1)
      have d2 : (N : Int) - 1 = ((N - 1 : Nat) : Int) := by omega
      have hi : N - 1 < N := by omega
      have q : IntKind.u8.wrap v.pad = v.pad := wrap8 _ hpad.1 hpad.2
      obtain ⟨n0, y0⟩ : ∃ n, w6.cell? ⟨g, N - 1, none⟩ = some (.int .u8 n) := ⟨_, y0⟩
      go_wp2
      go_ret2
      refine HF.out g _ ?_ (Nat.le_of_lt HQ.out) (H6.out.setCell (p := ⟨g, N - 1, none⟩) (Nat.le_of_lt HQ.out) _)
      rw [HL.out]
      exact HK6.out.set_ (N - 1) (by rw [hlen]; omega) v.pad
    · have HL : Hid (L5 = splice L3 at2_ ps) := HP.out.trans (if_neg hp)
      go_wp2
      go_ret2
      refine HF.out g _ ?_ (Nat.le_of_lt HQ.out) H6.out
      rw [HL.out]
      exact HK6.out
end Go.Proofs.Ytdnnfoacpjgloaa.Rtp

namespace Go.Proofs.Ytdnnfoacpjgloaa.Rtp
open Go.RowKit
set_option linter.unusedVariables false

theorem mayV_of (p : Pkt) (l : Loc) : mayV (pvOf p l) = mayPB p := by
  unfold mayV mayPB tyB extV pvOf
  generalize p.ext.length = en
  generalize p.csrc.length = cn
  cases p.mrk <;> cases p.he <;> rw [Bool.eq_iff_iff] <;> simp <;> omega
theorem lenV_of (p : Pkt) (l : Loc) : lenV (pvOf p l) = lenP p := by
  unfold lenV lenP pvOf
  cases p.he <;> simp <;> omega
theorem sizeV_of (p : Pkt) (l : Loc) : sizeV (pvOf p l) = sizeP p := by rw [sizeV, sizeP, mayV_of, lenV_of]

section
variable {w : World} {B : Nat} {p : Pkt} {l : Loc}
theorem may_pkt (w : World) (p : Pkt) (l : Loc) (hr : p.ext.length ≤ 140737488351232) : Calls Try.prog 75 #[pkt (pvOf p l)] w (RetB w (mayPB p)) := mayV_of p l ▸ may_any (pvOf p l) w hr
theorem size_pkt (w : World) (p : Pkt) (l : Loc) (he : p.ext.length ≤ 140737488351232) (hp : p.pay.length ≤ 140737488351232) : Calls Try.prog 63 #[pkt (pvOf p l)] w (RetI w (sizeP p)) := sizeV_of p l ▸ size_any (pvOf p l) w he hp

theorem put_pkt (w : World) (p : Pkt) (l : Loc) (ho : p.Ok) (hr : PRd w B p l) (hB : B ≤ w.heap.size) : Calls Try.prog 45 #[pkt (pvOf p l)] w (RetR w (putB p) (putE p)) := by
  have hr := hr.more hB
  have CS := fun W => size_pkt W p l hr.en hr.pn
  unfold putB putE
  unfold sizeP at CS
  cases hm : mayPB p
  · rw [hm] at CS
    exact put_none (pvOf p l) w CS
  · rw [hm, if_pos rfl] at CS
    rw [if_pos rfl, if_pos rfl]
    have hmay := (mayPB_iff p).1 hm
    by_cases h512 : 512 < lenP p
    · rw [if_pos h512, if_pos h512]
      exact put_more (pvOf p l) (lenP p) w h512 CS
    · rw [if_neg h512, if_neg h512]
      have hle := lenP_eq p hmay
      obtain ⟨N, hN⟩ : ∃ N : Nat, (N : Int) = lenP p := ⟨(enc p).length, hle⟩
      rw [← hN] at CS
      obtain ⟨r1, r2, r3, r4, r5, r6⟩ := row_lens p N hmay hN
      have e5 := row5_eq p N hmay hN
      have hlen := enc_length p hmay
      have hl12 := headB_length p
      have hp0 := hmay.pad0
      have hfirst : firstV (pvOf p l) = first p := rfl
      have hsecond : secondV (pvOf p l) = second p := rfl
      rw [← e5]
      refine put_walk (pvOf p l) N (12 + 4 * p.csrc.length) (atP p) p.pay (row1 p N) (row2 p N) (row3 p N) (row5 p N) w (by omega) (by omega) r3 r4 CS ?_ ?_ ?_ ?_ ⟨rfl, trivial⟩ ?_ ⟨hmay.pad0, hmay.pad1⟩ rfl (by rw [e5]; omega) (by rw [e5]; exact enc_bytes p ho hmay)
      · intro W g hk
        have := putHead_any g N (pvOf p l) (List.replicate N 0) W (by omega) (by omega) (by simp) hk hmay.csrc ⟨hmay.ty0, hmay.ty1⟩ ⟨ho.seq0, ho.seq1⟩ ⟨ho.time0, ho.time1⟩ ⟨ho.ssrc0, ho.ssrc1⟩
        exact this
      · intro W g hW hg hk
        have := putCsrc_any g N l.cc p.csrc.length 12 l.ca p.csrc (row1 p N) W (by omega) r1 hk ((hr.csrc.below hW).more hg) r5
        exact this
      · intro he W g hW hg hk
        have := putExt_any g N (12 + 4 * p.csrc.length) (pvOf p l) p.ext (row2 p N) W (by omega) r2 hk ((hr.ext.below hW).more hg) (r6 he) ⟨ho.prof0, ho.prof1⟩
        have he' : p.he = true := he
        rw [row3, atP, he', if_pos rfl, if_pos rfl]
        exact this
      · intro he
        have he' : p.he = false := he
        rw [row3, atP, he']
        exact ⟨rfl, rfl⟩
      · intro W hW
        exact hr.pay.below hW
end

theorem nb_mid' (xs : List Int) (i m j k : Nat) (h : j + k ≤ m) : nb ((xs.drop i).take m) j k = nb xs (i + j) k := by
  unfold nb
  rw [List.drop_take, List.take_take, Nat.min_eq_left (by omega), List.drop_drop]
theorem wordsAt_mid' (xs : List Int) (i m : Nat) : ∀ (n j : Nat), j + 4 * n ≤ m → wordsAt ((xs.drop i).take m) j n = wordsAt xs (i + j) n
  | 0, _, _ => rfl
  | n + 1, j, h => by rw [wordsAt, wordsAt, nb_mid' _ _ _ _ _ (by omega), wordsAt_mid' xs i m n (j + 4) (by omega), Nat.add_assoc]

end Go.Proofs.Ytdnnfoacpjgloaa.Rtp
