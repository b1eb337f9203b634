/- The program's store and the reference's beside each other, with the row of handles that were told. -/
import Derived.Test.YtdnnfoacpjgloaaGl
import Derived.Test.YtdnnfoacpjgloaaGn
import Derived.Test.YtdnnfoacpjgloaaEs
import Derived.Deep.CutRange
import Derived.Deep.CutBlock
set_option maxRecDepth 100000
namespace Go.Proofs.Ytdnnfoacpjgloaa.Stv
open Go.RowKit
open Arn (Slt Ar St OkS Upd hnV hnO HBlk refsV callE keepL dropL freeN liveB newL slcL hndL)
open Pat (hasD applyL pch QBlk PF)
set_option linter.unusedVariables false

theorem sact_at {w : World} {B n k : Nat} {a : Option Addr} {xs : List Sact} (h : RowRd sactL w B a n xs) (hk : k < n) : ∃ b off x, a = some ⟨b, off, none⟩ ∧ b < B ∧ xs[k]? = some x ∧ ∀ j v, (sactC x)[j]? = some v → w.cell? ⟨b, off + k * 9 + j, none⟩ = some v := by
  obtain ⟨b, off, x, e, hlt, hx, hc⟩ := Arn.row_at h hk
  exact ⟨b, off, x, e, hlt, hx, hc⟩
/-- The law's store and the reference's, with the row of handles that were told. -/
structure Bst (w0 w : World) (b ba ga g p q z c cB m cA : Nat) (A : Option Addr) (L : List Slt) (D : List (List Int)) (L2 : List Slt) (D2 : List (List Int)) (T : List (Int × Int)) : Prop where
  st : Hold w0 w b ba ga g L D
  rf : ∃ E, RSt w w0.heap.size p q c z cB E L2 D2
  told : RowOwn hndL w w0.heap.size A m cA T
  bs : w0.heap.size ≤ p ∧ w0.heap.size ≤ q ∧ w0.heap.size ≤ z
  sep : ∃ N0, b < N0 ∧ ba < N0 ∧ ga < N0 ∧ g < N0 ∧ N0 ≤ p ∧ N0 ≤ q ∧ N0 ≤ z
  pos : 0 < L2.length
section
variable {w0 w w' : World} {b ba ga g p q z c cB m cA r n cap : Nat} {a A : Option Addr} {L L' L2 L2' : List Slt} {D D' D2 D2' : List (List Int)} {T : List (Int × Int)} {s gn M : Int} {xs : List Int}
theorem Bst.more (h : Bst w0 w b ba ga g p q z c cB m cA A L D L2 D2 T) (hb : Below w.heap.size w w') : Bst w0 w' b ba ga g p q z c cB m cA A L D L2 D2 T :=
  ⟨h.st.more hb, (by obtain ⟨E, hE⟩ := h.rf; exact ⟨E, hE.bel hb⟩), h.told.bel hb, h.bs, h.sep, h.pos⟩
theorem Bst.tyG (h : Bst w0 w b ba ga g p q z c cB m cA A L D L2 D2 T) : ∃ o1 o2, w.heap[ga]? = some (.cells o1 67 (0, 0)) ∧ w.heap[g]? = some (.cells o2 73 (0, 0)) := by
  obtain ⟨cs, hc, -⟩ := h.st.st.rm
  exact ⟨_, _, h.st.st.ar.row, hc⟩
theorem Bst.tyR (h : Bst w0 w b ba ga g p q z c cB m cA A L D L2 D2 T) : ∃ o0 o1 o2, w.heap[p]? = some (.cells o0 53 (0, 0)) ∧ w.heap[q]? = some (.cells o1 67 (0, 0)) ∧ w.heap[z]? = some (.cells o2 36 (0, 0)) := by
  obtain ⟨E, hE⟩ := h.rf
  obtain ⟨tz, hz, -⟩ := hE.blkP h.pos
  obtain ⟨tq, hq⟩ := hE.st.row
  exact ⟨_, _, _, hE.st.blk, hq, hz⟩
/-- Behind a call on the program's store. -/
theorem Bst.prog (h : Bst w0 w b ba ga g p q z c cB m cA A L D L2 D2 T) (hs : Hold w0 w' b ba ga g L' D') (hu : Upd (fun k => k = ga ∨ k = g) w w') : Bst w0 w' b ba ga g p q z c cB m cA A L' D' L2 D2 T := by
  obtain ⟨E, hE⟩ := h.rf
  obtain ⟨o1, o2, t1, t2⟩ := h.tyG
  obtain ⟨N0, n1, n2, n3, n4, n5, n6, n7⟩ := h.sep
  refine ⟨hs, ⟨E, hE.upd hu (by rintro (e | e) <;> omega) (by rintro (e | e) <;> omega) (by rintro (e | e) <;> omega) ?_⟩, h.told.upd hu ?_, h.bs, h.sep, h.pos⟩
  · rintro k cs fz (rfl | rfl) hk
    · have := t1.symm.trans hk; simp at this
    · have := t2.symm.trans hk; simp at this
  · rintro k hk (rfl | rfl)
    · exact h.told.not_at t1 (by decide) hk
    · exact h.told.not_at t2 (by decide) hk
/-- Behind a call on the reference's store. -/
theorem Bst.ref (h : Bst w0 w b ba ga g p q z c cB m cA A L D L2 D2 T) (hr : ∃ E, RSt w' w0.heap.size p q c z cB E L2' D2') (hu : Upd (fun k => k = q ∨ k = z) w w') (hl : L2'.length = L2.length) : Bst w0 w' b ba ga g p q z c cB m cA A L D L2' D2' T := by
  obtain ⟨o0, o1, o2, t0, t1, t2⟩ := h.tyR
  obtain ⟨N0, n1, n2, n3, n4, n5, n6, n7⟩ := h.sep
  have hbs := h.bs
  refine ⟨⟨h.st.st.upd hu (by rintro (e | e) <;> omega) (by rintro (e | e) <;> omega) (by rintro (e | e) <;> omega) (by rintro (e | e) <;> omega), h.st.bel.trans (hu.below h.st.bel.size (fun k hk => by omega)), h.st.bs⟩, hr, h.told.upd hu ?_, h.bs, h.sep, by rw [hl]; exact h.pos⟩
  rintro k hk (rfl | rfl)
  · exact h.told.not_at t1 (by decide) hk
  · exact h.told.not_at t2 (by decide) hk
theorem Bst.hk (h : Bst w0 w b ba ga g p q z c cB m cA A L D L2 D2 T) (hb : HBlk w r s gn) (hu : Upd (fun k => k = ga ∨ k = g) w w') : HBlk w' r s gn := h.st.hnd hb hu
theorem Bst.hkr (h : Bst w0 w b ba ga g p q z c cB m cA A L D L2 D2 T) (hb : HBlk w r s gn) (hu : Upd (fun k => k = q ∨ k = z) w w') : HBlk w' r s gn := hb.upd hu (by
  obtain ⟨o0, o1, o2, t0, t1, t2⟩ := h.tyR
  rintro (rfl | rfl)
  · have := t1.symm.trans hb; simp at this
  · have := t2.symm.trans hb; simp at this)
/-- A store into a handle's own cell. -/
theorem Bst.hset (h : Bst w0 w b ba ga g p q z c cB m cA A L D L2 D2 T) (hd : HBlk w r s gn) (hr : w0.heap.size ≤ r) (hA : A ≠ some ⟨r, 0, none⟩) (s' g' : Int) :
    Bst w0 ((w.setCell ⟨r, 0, none⟩ (.int .i64 s')).setCell ⟨r, 1, none⟩ (.int .u32 g')) b ba ga g p q z c cB m cA A L D L2 D2 T := by
  have hu : Upd (· = r) w ((w.setCell ⟨r, 0, none⟩ (.int .i64 s')).setCell ⟨r, 1, none⟩ (.int .u32 g')) := ((Upd.refl (· = r) w).setCell (b := r) (i := 0) (.inl rfl) _).setCell (b := r) (i := 1) (.inl rfl) _
  obtain ⟨E, hE⟩ := h.rf
  obtain ⟨o1, o2, t1, t2⟩ := h.tyG
  obtain ⟨q0, q1, q2, u0, u1, u2⟩ := h.tyR
  have e1 : b ≠ r := by rintro rfl; have := h.st.st.blk.symm.trans hd; simp at this
  have e2 : ba ≠ r := by rintro rfl; have := h.st.st.ar.blk.symm.trans hd; simp at this
  have e3 : ga ≠ r := by rintro rfl; have := t1.symm.trans hd; simp at this
  have e4 : g ≠ r := by rintro rfl; have := t2.symm.trans hd; simp at this
  have e5 : p ≠ r := by rintro rfl; have := u0.symm.trans hd; simp at this
  have e6 : q ≠ r := by rintro rfl; have := u1.symm.trans hd; simp at this
  have e7 : z ≠ r := by rintro rfl; have := u2.symm.trans hd; simp at this
  refine ⟨⟨h.st.st.upd hu e1 e2 e3 e4, h.st.bel.trans (hu.below h.st.bel.size (fun k hk => hk ▸ hr)), h.st.bs⟩, ⟨E, hE.upd hu e5 e6 e7 ?_⟩, h.told.upd hu (fun k hk e => hA (by rw [← e]; exact hk)), h.bs, h.sep, h.pos⟩
  rintro k cs fz rfl hk
  have := Eq.trans (Eq.symm hd) hk; simp at this
theorem hnd_set {r' : Nat} {s2 g2 : Int} (h : HBlk w r s gn) (hd : HBlk w r' s2 g2) (hne : r ≠ r') (s' g' : Int) : HBlk ((w.setCell ⟨r', 0, none⟩ (.int .i64 s')).setCell ⟨r', 1, none⟩ (.int .u32 g')) r s gn :=
  h.upd (S := (· = r')) (((Upd.refl (· = r') w).setCell (b := r') (i := 0) (.inl rfl) _).setCell (b := r') (i := 1) (.inl rfl) _) hne
/-- Behind an append to the row of handles. -/
theorem Bst.push (h : Bst w0 w b ba ga g p q z c cB m cA A L D L2 D2 T) {m' c' : Nat} {A' : Option Addr} {T' : List (Int × Int)} (ho : RowOwn hndL w' w0.heap.size A' m' c' T') (hu : Upd (fun k => A = some ⟨k, 0, none⟩) w w') : Bst w0 w' b ba ga g p q z c cB m' c' A' L D L2 D2 T' := by
  obtain ⟨E, hE⟩ := h.rf
  obtain ⟨o1, o2, t1, t2⟩ := h.tyG
  obtain ⟨q0, q1, q2, u0, u1, u2⟩ := h.tyR
  refine ⟨⟨h.st.st.upd hu (fun e => h.told.not_at h.st.st.blk (by decide) e) (fun e => h.told.not_at h.st.st.ar.blk (by decide) e) (fun e => h.told.not_at t1 (by decide) e) (fun e => h.told.not_at t2 (by decide) e), h.st.bel.trans (hu.below h.st.bel.size (fun k hk => (h.told.lt_at hk).1)), h.st.bs⟩,
    ⟨E, hE.upd hu (fun e => h.told.not_at u0 (by decide) e) (fun e => h.told.not_at u1 (by decide) e) (fun e => h.told.not_at u2 (by decide) e) ?_⟩, ho, h.bs, h.sep, h.pos⟩
  rintro k cs fz e hk
  exact h.told.not_at hk (by decide) e
/-- The calls, one by one. -/
theorem Bst.put (h : Bst w0 w b ba ga g p q z c cB m cA A L D L2 D2 T) (hL : L.length ≤ 1024) (hx : xs.length = n) (hr : Rd w0 w0.heap.size a n xs) :
    Calls Try.prog 11 #[.pointer (some ⟨b, 0, none⟩), .slice a n cap] w fun e w' => e = .returned (.tuple #[hnV (putH L n).1 (putH L n).2, .int .i64 (putE L n)]) ∧ Bst w0 w' b ba ga g p q z c cB m cA A (putL L n) (putD L D xs) L2 D2 T ∧ Upd (fun k => k = ga ∨ k = g) w w' := by
  refine (h.st.put hL hx (h.st.arg hr)).mono ?_
  rintro e w' ⟨rfl, hs, hu⟩
  exact ⟨rfl, h.prog hs hu, hu⟩
theorem Bst.rput (h : Bst w0 w b ba ga g p q z c cB m cA A L D L2 D2 T) (hL : L2.length ≤ 1024) (hx : xs.length = n) (hr : Rd w0 w0.heap.size a n xs) :
    Calls Try.prog 12 #[.pointer (some ⟨p, 0, none⟩), .slice a n cap] w fun e w' => e = .returned (.tuple #[hnV (putH L2 n).1 (putH L2 n).2, .int .i64 (putE L2 n)]) ∧ Bst w0 w' b ba ga g p q z c cB m cA A L D (putL L2 n) (putD L2 D2 xs) T ∧ Upd (fun k => k = q ∨ k = z) w w' := by
  obtain ⟨E, hE⟩ := h.rf
  refine (rput_st w w0.heap.size p q c z cB n cap w.heap.size E a L2 D2 xs hE h.pos hL h.st.bel.size hx (fun W hu => ((hr.below h.st.bel).below (hu.below h.st.bel.size (fun k hk => by have := h.bs; omega))).more (Nat.le_trans h.st.bel.size hu.size))).mono ?_
  rintro e w' ⟨rfl, hs, hu⟩
  exact ⟨rfl, h.ref hs hu (putL_len L2 n), hu⟩
theorem Bst.keep (h : Bst w0 w b ba ga g p q z c cB m cA A L D L2 D2 T) (hL : L.length ≤ 1024) (hO : OkS M L) (hM : M ≤ 4611686018427387904) :
    Calls Try.prog 13 #[.pointer (some ⟨b, 0, none⟩), hnV s gn] w fun e w' => e = .returned (.int .i64 (callE L s gn)) ∧ Bst w0 w' b ba ga g p q z c cB m cA A (keepL L s gn) D L2 D2 T ∧ Upd (fun k => k = ga ∨ k = g) w w' := by
  refine (h.st.keep hL hO hM).mono ?_
  rintro e w' ⟨rfl, hs, hu⟩
  exact ⟨rfl, h.prog hs hu, hu⟩
theorem Bst.rkeep (h : Bst w0 w b ba ga g p q z c cB m cA A L D L2 D2 T) (hL : L2.length ≤ 1024) (hO : OkS M L2) (hM : M ≤ 4611686018427387904) :
    Calls Try.prog 14 #[.pointer (some ⟨p, 0, none⟩), hnV s gn] w fun e w' => e = .returned (.int .i64 (callE L2 s gn)) ∧ Bst w0 w' b ba ga g p q z c cB m cA A L D (keepL L2 s gn) D2 T ∧ Upd (fun k => k = q ∨ k = z) w w' := by
  obtain ⟨E, hE⟩ := h.rf
  refine (rkeep_st w w0.heap.size p q c z cB E L2 D2 s gn M hE h.pos hL hO hM).mono ?_
  rintro e w' ⟨rfl, hs, hu⟩
  have hu' := hu.mono (T := fun k => k = q ∨ k = z) fun k hk => .inl hk
  exact ⟨rfl, h.ref ⟨E, hs⟩ hu' (Arn.keepL_len L2 s gn), hu'⟩
theorem Bst.drop (h : Bst w0 w b ba ga g p q z c cB m cA A L D L2 D2 T) (hL : L.length ≤ 1024) (hO : OkS M L) (hM : M ≤ 4611686018427387904) :
    Calls Try.prog 15 #[.pointer (some ⟨b, 0, none⟩), hnV s gn] w fun e w' => e = .returned (.int .i64 (callE L s gn)) ∧ Bst w0 w' b ba ga g p q z c cB m cA A (dropL L s gn) D L2 D2 T ∧ Upd (fun k => k = ga ∨ k = g) w w' := by
  refine (h.st.drop hL hO hM).mono ?_
  rintro e w' ⟨rfl, hs, hu⟩
  exact ⟨rfl, h.prog hs hu, hu⟩
theorem Bst.rdrop (h : Bst w0 w b ba ga g p q z c cB m cA A L D L2 D2 T) (hL : L2.length ≤ 1024) (hO : OkS M L2) (hM : M ≤ 4611686018427387904) :
    Calls Try.prog 16 #[.pointer (some ⟨p, 0, none⟩), hnV s gn] w fun e w' => e = .returned (.int .i64 (callE L2 s gn)) ∧ Bst w0 w' b ba ga g p q z c cB m cA A L D (dropL L2 s gn) D2 T ∧ Upd (fun k => k = q ∨ k = z) w w' := by
  obtain ⟨E, hE⟩ := h.rf
  refine (rdrop_st w w0.heap.size p q c z cB E L2 D2 s gn M hE h.pos hL hO hM).mono ?_
  rintro e w' ⟨rfl, hs, hu⟩
  have hu' := hu.mono (T := fun k => k = q ∨ k = z) fun k hk => .inl hk
  exact ⟨rfl, h.ref ⟨E, hs⟩ hu' (Arn.dropL_len L2 s gn), hu'⟩
theorem Bst.patch {u t v f : Int} (h : Bst w0 w b ba ga g p q z c cB m cA A L D L2 D2 T) (hL : L.length ≤ 1024) (hO : OkS M L) (hp : PF u t v f) :
    Calls Try.prog 17 #[.pointer (some ⟨b, 0, none⟩), hnV s gn, pch u t v f] w fun e w' => e = .returned (.int .i64 (patchE L D s gn)) ∧ Bst w0 w' b ba ga g p q z c cB m cA A L (patchD L D s gn u t v f) L2 D2 T ∧ Upd (fun k => k = ga ∨ k = g) w w' := by
  refine (h.st.patch hL hO hp).mono ?_
  rintro e w' ⟨rfl, hs, hu⟩
  exact ⟨rfl, h.prog hs hu, hu⟩
theorem Bst.rpatch {u t v f : Int} (h : Bst w0 w b ba ga g p q z c cB m cA A L D L2 D2 T) (hL : L2.length ≤ 1024) (hO : OkS M L2) (hp : PF u t v f) :
    Calls Try.prog 18 #[.pointer (some ⟨p, 0, none⟩), hnV s gn, pch u t v f] w fun e w' => e = .returned (.int .i64 (patchE L2 D2 s gn)) ∧ Bst w0 w' b ba ga g p q z c cB m cA A L D L2 (patchD L2 D2 s gn u t v f) T ∧ Upd (fun k => k = q ∨ k = z) w w' := by
  obtain ⟨E, hE⟩ := h.rf
  refine (rpatch_st w w0.heap.size p q c z cB E L2 D2 s gn M u t v f hE h.pos hL hO h.st.bel.size hp).mono ?_
  rintro e w' ⟨rfl, hs, hu⟩
  have hu' := hu.mono (T := fun k => k = q ∨ k = z) fun k hk => .inr hk
  exact ⟨rfl, h.ref hs hu' rfl, hu'⟩
theorem Bst.bytes (h : Bst w0 w b ba ga g p q z c cB m cA A L D L2 D2 T) (hL : L.length ≤ 1024) (hO : OkS M L) :
    Calls Try.prog 19 #[.pointer (some ⟨b, 0, none⟩), hnV s gn] w (Rtp.RetR w (bytesV L D s gn) (callE L s gn)) := bytes_st w b ba ga g L D s gn M h.st.st hL hO
theorem Bst.rbytes (h : Bst w0 w b ba ga g p q z c cB m cA A L D L2 D2 T) (hL : L2.length ≤ 1024) :
    Calls Try.prog 20 #[.pointer (some ⟨p, 0, none⟩), hnV s gn] w (Rtp.RetR w (bytesV L2 D2 s gn) (callE L2 s gn)) := by
  obtain ⟨E, hE⟩ := h.rf
  exact rbytes_st w w0.heap.size p q c z cB E L2 D2 s gn hE h.pos hL
theorem Bst.ref_st (h : Bst w0 w b ba ga g p q z c cB m cA A L D L2 D2 T) : St w p q c (.slice (some ⟨z, 0, none⟩) L2.length cB) L2 := by
  obtain ⟨E, hE⟩ := h.rf
  exact hE.st
end
end Go.Proofs.Ytdnnfoacpjgloaa.Stv
