/- HistoryGoes walked: the history with the row of what went. -/
import Derived.Test.YtjiofhlmfmhhmaaZg
import Derived.Test.YtjiofhlmfmhhmaaZo
import Derived.Deep.CutRange
import Derived.Deep.CutBlock
import Derived.Deep.Cut
set_option maxRecDepth 100000
namespace Go.Proofs.Ytjiofhlmfmhhmaa.Hst
open Go.RowKit
open Go.Proofs.Ytjiofhlmfmhhmaa.Arn
set_option linter.unusedVariables false

/-- What is kept of the first i of l, the last one first. -/
def kp (C : Nat) (l : List En) (i : Nat) : List En := (l.take i).reverse.take C
theorem kp_len {C i : Nat} {l : List En} (h : i ≤ l.length) : (kp C l i).length = min C i := by
  unfold kp
  rw [List.length_take, List.length_reverse, List.length_take, Nat.min_eq_left h]
theorem kp_push {C i : Nat} {l : List En} {x : En} (hx : l[i]? = some x) : (x :: kp C l i).take C = kp C l (i + 1) := by
  unfold kp
  rw [take_push, List.take_add_one, hx]
  simp
theorem kp_gone {C i : Nat} {l : List En} {x y : En} (h : C ≤ i) (hi : i < l.length) (hx : l[i]? = some x) (hy : l[i - C]? = some y) : goneV C (kp C l i) x = y := by
  cases C with
  | zero =>
    rw [Nat.sub_zero, hx] at hy
    cases hy
    rfl
  | succ c =>
    refine gone_some x y ?_
    unfold kp
    rw [List.getElem?_take, if_pos (Nat.lt_succ_self c), List.getElem?_reverse (by rw [List.length_take]; omega), List.length_take, Nat.min_eq_left (by omega), List.getElem?_take, if_pos (by omega), show i - 1 - c = i - (c + 1) from by omega]
    exact hy
theorem kp_all {C i : Nat} {l : List En} (hi : i ≤ l.length) : l.take (i - C) ++ (kp C l i).reverse = l.take i := by
  unfold kp
  rw [List.reverse_take, List.reverse_reverse, List.length_reverse, List.length_take, Nat.min_eq_left hi]
  have := List.take_append_drop (i - C) (l.take i)
  rw [List.take_take, Nat.min_eq_left (Nat.sub_le i C)] at this
  exact this

theorem rd_take {α : Type} {L : Lay α} {w : World} {B n k : Nat} {a : Option Addr} {xs : List α} (h : RowRd L w B a n xs) (hk : k ≤ n) : RowRd L w B a k (xs.take k) := by
  refine ⟨by rw [List.length_take, h.1]; omega, fun hp => ?_⟩
  obtain ⟨b, off, e, hlt, hc⟩ := h.2 (by omega)
  refine ⟨b, off, e, hlt, fun i x hi => hc i x ?_⟩
  rw [List.getElem?_take] at hi
  split at hi
  · exact hi
  · cases hi
/-- The history and the row of what went. -/
structure Gs (w0 w : World) (base b g C : Nat) (R : List En) (A : Option Addr) (k c : Nat) (G : List En) : Prop where
  hl : Hld w0 w b g C R
  ro : RowOwn enL w base A k c G
  lo : b < base ∧ g < base ∧ w0.heap.size ≤ base ∧ base ≤ w.heap.size
section
variable {w0 w w' : World} {base b g C k c k' c' : Nat} {R R' G G' : List En} {A A' : Option Addr}
theorem Gs.more (h : Gs w0 w base b g C R A k c G) (hb : Below w.heap.size w w') : Gs w0 w' base b g C R A k c G :=
  ⟨h.hl.more hb, h.ro.bel hb, ⟨h.lo.1, h.lo.2.1, h.lo.2.2.1, Nat.le_trans h.lo.2.2.2 hb.size⟩⟩
theorem Gs.alloc (h : Gs w0 w base b g C R A k c G) (o : Obj) : Gs w0 (w.alloc o) base b g C R A k c G := h.more ((Below.refl _ _).alloc (Nat.le_refl _) o)
theorem Gs.push (h : Gs w0 w base b g C R A k c G) (y : En) : Calls Try.prog 10 #[.pointer (some ⟨b, 0, none⟩), enV y] w fun e w' => e = .returned (.tuple #[enV (goneV C R y), .bool (decide (C ≤ R.length))]) ∧ Gs w0 w' base b g C ((y :: R).take C) A k c G := by
  refine (h.hl.push y).mono ?_
  rintro e w' ⟨rfl, hr, hu⟩
  have hlo := h.lo
  exact ⟨rfl, hr, h.ro.upd hu (fun k hk => by have := (h.ro.lt_at hk).1; omega), ⟨hlo.1, hlo.2.1, hlo.2.2.1, Nat.le_trans hlo.2.2.2 hu.size⟩⟩
theorem Gs.all (h : Gs w0 w base b g C R A k c G) : Calls Try.prog 15 #[.pointer (some ⟨b, 0, none⟩)] w fun e w' => ∃ A1 c1, e = .returned (.slice A1 R.length c1) ∧ RowRd enL w' w'.heap.size A1 R.length R.reverse ∧ Gs w0 w' base b g C R A k c G := by
  refine h.hl.all.mono ?_
  rintro e w' ⟨A1, c1, rfl, hr, -, hb⟩
  exact ⟨A1, c1, rfl, hr.rd, h.more hb⟩
theorem Gs.app (h : Gs w0 w base b g C R A k c G) (hr : RowOwn enL w' base A' k' c' G') (hu : Upd (fun q => A = some ⟨q, 0, none⟩) w w') : Gs w0 w' base b g C R A' k' c' G' := by
  have hlo := h.lo
  have hb : ∀ q, A = some ⟨q, 0, none⟩ → base ≤ q := fun q e => (h.ro.lt_at e).1
  exact ⟨⟨h.hl.hi.upd hu (fun e => by have := hb _ e; omega) (fun e => by have := hb _ e; omega), h.hl.bel.trans (hu.below h.hl.bel.size (fun q e => Nat.le_trans hlo.2.2.1 (hb q e))), h.hl.lo⟩, hr, ⟨hlo.1, hlo.2.1, hlo.2.2.1, Nat.le_trans hlo.2.2.2 hu.size⟩⟩
end

set_option maxHeartbeats 8000000 in
theorem goes_any (w : World) (n : Int) (a : Option Addr) (cap : Nat) (xs : List En) (hn1 : -9223372036854775808 ≤ n) (hn2 : n ≤ 9223372036854775807) (hr : RowRd enL w w.heap.size a xs.length xs) (hc : xs.length ≤ cap) (hb : xs.length * 40 ≤ 140737488351232) :
    Calls Try.prog 4 #[.int .i64 n, .slice a xs.length cap] w fun e w' => e = .returned (.bool true) ∧ Below w.heap.size w w' := by
  have CS := Lib.hid (shown_any w)
  have CN := Lib.hid (fun W => new_any W n hn1 hn2)
  obtain ⟨C, hC⟩ : ∃ C, capN n = C := ⟨_, rfl⟩
  have hC64 : C ≤ 64 := by rw [← hC]; exact capN_le n
  have HC := Lib.hid hC
  have HR := Lib.hid hr
  obtain ⟨m, hm⟩ : ∃ m, xs.length = m := ⟨_, rfl⟩
  rw [hm] at hc hb ⊢
  have HM := Lib.hid hm
  have HCap := Lib.hid hc
  have hm62 : m ≤ 4611686018427387904 := by omega
  obtain ⟨i0, hi0, hz0, hz1, hz2⟩ := info_parts info_en
  have HI := Lib.hid (And.intro hi0 (And.intro hz0 (And.intro hz1 hz2)))
  clear hC hr hm hn1 hn2 hc hb hi0 hz0 hz1 hz2
  go_enter Try.func4, Try.ntmps4
  go_wp2_with fail
  refine CS.out.mono ?_
  rintro e w1 ⟨rfl, hb1⟩
  have H1 := Lib.hid hb1
  clear hb1 CS
  go_wp2_with fail
  refine (CN.out _).mono ?_
  rintro e w2 ⟨b, g, rfl, hA, hbb, hg, hB⟩
  rw [HC.out] at hA
  have HF : Hid (Gs w w2 w2.heap.size b g C [] none 0 0 []) := Lib.hid ⟨⟨hA, H1.out.trans (hB.mono H1.out.size), Nat.le_trans H1.out.size hbb, Nat.le_trans H1.out.size hg⟩, RowOwn.nil _ _, ⟨hA.lt.1, hA.lt.2, (H1.out.trans (hB.mono H1.out.size)).size, Nat.le_refl _⟩⟩
  clear hA hbb hg hB H1 CN
  obtain ⟨base, hbase⟩ : ∃ base, w2.heap.size = base := ⟨_, rfl⟩
  rw [hbase] at HF
  clear hbase
  go_wp2
  go_loopw [6, 7] (fun s6 s7 wx => ∃ (i k : Nat) (A : Option Addr) (c : Nat), i ≤ m ∧ i ≤ 200 ∧ k = i - C ∧ s6 = .slice A k c ∧ s7 = .int .i64 i ∧ Hid (Gs w wx base b g C (kp C xs i) A k c (xs.take (i - C)))) (fun _ s7 _ => m - (intOf s7).toNat)
  case atStart => exact ⟨0, 0, none, 0, by omega, by omega, by omega, rfl, rfl, by rw [Nat.zero_sub, show kp C xs 0 = [] from by simp [kp], List.take_zero]; exact HF⟩
  case round =>
    obtain ⟨i, k, A, c, him, hi2, hk, rfl, rfl, hF⟩ := hrel
    rename World => wx
    clear HF
    have hk200 : k ≤ 200 := by omega
    have HK := Lib.hid hk
    clear hk
    by_cases h1 : i < m ∧ i < 200
    · have hd1 : decide (i < m) = true := by simp; exact h1.1
      have hd2 : decide ((i : Int) < 200) = true := by simp; omega
      have hil : i < xs.length := by rw [HM.out]; exact h1.1
      obtain ⟨tb, toff, x, rfl, htb, hx, t0, t1, t2, t3, t4, t5, t6⟩ := en_at HR.out hil
      have t0 : wx.cell? ⟨tb, toff + i * 7, none⟩ = some (.int .u16 x.sq) := (hF.out.hl.bel.cell (p := ⟨tb, toff + i * 7, none⟩) htb).trans t0; have t1 : wx.cell? ⟨tb, toff + i * 7 + 1, none⟩ = some (.int .i64 x.sl) := (hF.out.hl.bel.cell (p := ⟨tb, toff + i * 7 + 1, none⟩) htb).trans t1; have t2 : wx.cell? ⟨tb, toff + i * 7 + 2, none⟩ = some (.int .u32 x.gn) := (hF.out.hl.bel.cell (p := ⟨tb, toff + i * 7 + 2, none⟩) htb).trans t2; have t3 : wx.cell? ⟨tb, toff + i * 7 + 3, none⟩ = some (.int .u16 x.ps) := (hF.out.hl.bel.cell (p := ⟨tb, toff + i * 7 + 3, none⟩) htb).trans t3; have t4 : wx.cell? ⟨tb, toff + i * 7 + 4, none⟩ = some (.int .u32 x.pt) := (hF.out.hl.bel.cell (p := ⟨tb, toff + i * 7 + 4, none⟩) htb).trans t4; have t5 : wx.cell? ⟨tb, toff + i * 7 + 5, none⟩ = some (.int .u32 x.pc) := (hF.out.hl.bel.cell (p := ⟨tb, toff + i * 7 + 5, none⟩) htb).trans t5; have t6 : wx.cell? ⟨tb, toff + i * 7 + 6, none⟩ = some (.int .u16 x.pf) := (hF.out.hl.bel.cell (p := ⟨tb, toff + i * 7 + 6, none⟩) htb).trans t6
      have CP := Lib.hid (hF.out.push x)
      rw [kp_push hx, kp_len (Nat.le_of_lt hil)] at CP
      by_cases hCi : C ≤ i
      · obtain ⟨y, hy⟩ : ∃ y, xs[i - C]? = some y := ⟨_, List.getElem?_eq_getElem (by omega)⟩
        rw [kp_gone hCi hil hx hy, show decide (C ≤ min C i) = true from by simp; omega] at CP
        have HY : Hid (xs.take (i - C) ++ [y] = xs.take (i + 1 - C)) := by
          rw [show i + 1 - C = i - C + 1 from by omega, List.take_add_one, hy]
          rfl
        have HN : Hid (k + 1 = i + 1 - C) := by have := HK.out; show k + 1 = i + 1 - C; omega
        clear hx hy hil htb
        go_wp2_with fail
        refine CP.out.mono ?_
        rintro e w3 ⟨rfl, hF3⟩
        have hF3 := hF3.alloc (enO y)
        have E3 := EBlk.new w3 y
        have v0 := E3.c0; have v1 := E3.c1; have v2 := E3.c2; have v3 := E3.c3; have v4 := E3.c4; have v5 := E3.c5; have v6 := E3.c6
        clear hF CP E3 t0 t1 t2 t3 t4 t5 t6
        have HF4 := Lib.hid (hF3.alloc (enO y))
        have X4 : Hid (RowRd enL ((w3.alloc (enO y)).alloc (enO y)) (w3.heap.size + 1 + 1) (some ⟨w3.heap.size + 1, 0, none⟩) 1 [y]) := by
          have := one_rec enL (w3.alloc (enO y)) y
          rw [show (w3.alloc (enO y)).heap.size = w3.heap.size + 1 from by simp] at this
          exact this
        have HO := Lib.hid HF4.out.ro
        have HS := Lib.hid HF4.out.lo.2.2.2
        clear hF3
        go_wp2_with (at_builtin; refine wpList_append_upd (L := enL) (N := i + 1 - C) (by rfl) (.tmp 34) (.tmp 36) rfl Try.underlying26 HI.out.1 HI.out.2.1 HI.out.2.2.1 HI.out.2.2.2 rfl (xs.take (i + 1 - C)) HN.out HY.out rfl rfl HO.out X4.out HS.out (by unfold maxLen; omega) (by omega) ?_; intro A9 c9 w9 ho9 hu9 hk9)
        have HF9 := Lib.hid (HF4.out.app ho9 hu9)
        clear ho9 hu9 hk9 HF4 X4 HO HS v0 v1 v2 v3 v4 v5 v6
        go_roundw
        case rel => exact ⟨i + 1, i + 1 - C, A9, c9, by omega, by omega, rfl, rfl, by go_num, HF9⟩
        case measure => simp [intOf]; omega
      · rw [gone_none x (by rw [kp_len (Nat.le_of_lt hil)]; omega), show decide (C ≤ min C i) = false from by simp; omega] at CP
        clear hx hil htb
        go_wp2_with fail
        refine CP.out.mono ?_
        rintro e w3 ⟨rfl, hF3⟩
        have HF4 := Lib.hid (hF3.alloc (enO en0))
        clear hF3 hF CP t0 t1 t2 t3 t4 t5 t6
        go_wp2_with fail
        go_roundw
        case rel => exact ⟨i + 1, k, A, c, by omega, by omega, by have := HK.out; omega, rfl, by go_num, by rw [show i + 1 - C = i - C from by omega]; exact HF4⟩
        case measure => simp [intOf]; omega
    · have HIM : Hid (i = min m 200) := by show i = min m 200; omega
      have hmin : (if (200 : Int) < (m : Int) then (200 : Int) else (m : Int)) = (i : Int) := by split <;> omega
      obtain ⟨n1, hn1'⟩ : ∃ n1 : Int, (if n < 0 then 0 else n) = n1 := ⟨_, rfl⟩
      have hn2' : (if 0 < n then n else 0) = n1 := by rw [← hn1']; split <;> split <;> omega
      have hn3' : (if 64 < n1 then 64 else n1) = (C : Int) := by
        have := HC.out
        unfold capN at this
        subst hn1'
        split <;> split at * <;> omega
      have hn4' : (if C < i then (C : Int) else (i : Int)) = ((min C i : Nat) : Int) := by split <;> omega
      have hx : decide (i < m) = false ∨ (decide (i < m) = true ∧ decide ((i : Int) < 200) = false) := by
        by_cases h : i < m
        · exact .inr ⟨by simp; exact h, by simp; omega⟩
        · exact .inl (by simp; omega)
      have s1 : ∀ W, (Instr.slice 26 (.slice a m cap) none (some (.int .i64 i)) none).run Try.prog W = .ok (.slice a i cap) W := fun W => rec_to (P := Try.prog) (e := 34) Try.underlying26 (by kernel_rfl) HI.out.1 HI.out.2.2.1 a m cap i (i : Int) rfl (by have := HCap.out; omega) W
      have hcap : i ≤ cap := by have := HCap.out; omega
      have him2 : Hid (i ≤ xs.length) := by show i ≤ xs.length; rw [HM.out]; exact him
      have him3 : Hid (i ≤ m) := him
      have HKN : Hid (k + min C i = i) := by have := HK.out; show k + min C i = i; omega
      have HRx : Hid (RowRd enL w w.heap.size a m xs) := by have := HR.out; rw [HM.out] at this; exact this
      clear h1
      rcases hx with hd1 | ⟨hd1, hd2⟩
      · go_wp2_with fail
        obtain ⟨wd, hwd⟩ : ∃ wd, wx.drew = wd := ⟨_, rfl⟩
        have HD : Hid (Gs w wd base b g C (kp C xs i) A k c (xs.take (i - C))) := by rw [← hwd]; exact hF.out.more (Below.refl _ _).drew
        have hS : True := trivial
        refine region_seq (fun _ => True) [(0, false), (1, false), (4, false), (5, false), (6, false), (7, false), (8, false), (2, true), (3, true), (9, true), (10, false), (11, false), (14, false), (15, false), (16, false), (17, false), (18, false), (19, false), (12, true), (13, false), (20, false), (21, false), (22, false)] (by kernel_rfl) (by kernel_rfl) rfl (by kernel_rfl) ?_
        rw [hwd]
        clear hwd hF
        clear wx
        iterate 7 (refine seq_read (v := _) rfl (fun _ _ _ h => h) hS (Or.inl ⟨by rfl, fun W hW => by go_simp <;> with_reducible rfl⟩) ?_; simp only [Act.put, List.setIfInBounds_toArray, List.set_cons_zero, List.set_cons_succ])
        have CA := Lib.hid HD.out.all
        rw [kp_len him2.out] at CA
        refine seq_do rfl (fun K hK => ?_)
        go_simp
        refine CA.out.mono ?_
        rintro e w3 ⟨A1, c1, rfl, hr1, hF3⟩
        have HF3 := Lib.hid hF3
        have HR1 := Lib.hid hr1
        refine hK.out _ _ _ (fun W h => h) trivial ?_
        clear hK K hr1 hF3 CA HD
        refine seq_do rfl (fun K hK => ?_)
        rw [if_pos (by rfl)]
        refine oper_append_upd (L := enL) (N := i) (.tmp 38) (.tmp 40) rfl Try.underlying26 HI.out.1 HI.out.2.1 HI.out.2.2.1 HI.out.2.2.2 rfl (xs.take i) HKN.out (kp_all him2.out) rfl rfl HF3.out.ro HR1.out HF3.out.lo.2.2.2 (by unfold maxLen; omega) (by omega) ?_
        intro A9 c9 w9 ho9 hu9 hk9
        have HF9 := Lib.hid (HF3.out.app ho9 hu9)
        have CQ := Lib.hid (same_any w9 A9 a i c9 cap _ _ (xs.take i) ho9.rd ((rd_take HRx.out him3.out).below HF9.out.hl.bel) (by omega))
        refine hK.out _ _ _ (fun W h => h) trivial ?_
        clear hK K ho9 hu9 hk9 HF3 HR1
        refine seq_do rfl (fun K hK => ?_)
        go_simp
        refine CQ.out.mono ?_
        rintro e w10 ⟨rfl, hb10⟩
        have HF10 := Lib.hid (HF9.out.more hb10)
        refine hK.out _ _ _ (fun W h => h) trivial ?_
        clear hK K hb10 HF9 CQ
        iterate 8 (refine seq_read (v := _) rfl (fun _ _ _ h => h) hS (Or.inl ⟨by rfl, fun W hW => by go_simp <;> with_reducible rfl⟩) ?_; simp only [Act.put, List.setIfInBounds_toArray, List.set_cons_zero, List.set_cons_succ])
        have CA := Lib.hid HF10.out.all
        rw [kp_len him2.out] at CA
        refine seq_do rfl (fun K hK => ?_)
        rw [if_pos (by rfl)]
        go_simp
        refine CA.out.mono ?_
        rintro e w11 ⟨A2, c2, rfl, -, hF11⟩
        have H11 := Lib.hid hF11.hl.bel
        refine hK.out _ _ _ (fun W h => h) trivial ?_
        clear hK K hF11 CA HF10
        iterate 4 (refine seq_read (v := _) rfl (fun _ _ _ h => h) hS (Or.inl ⟨by rfl, fun W hW => by go_simp <;> with_reducible rfl⟩) ?_; simp only [Act.put, List.setIfInBounds_toArray, List.set_cons_zero, List.set_cons_succ])
        refine seq_end ?_
        go_wp2
        go_ret
        exact ⟨rfl, H11.out⟩
      · go_wp2_with fail
        obtain ⟨wd, hwd⟩ : ∃ wd, wx.drew = wd := ⟨_, rfl⟩
        have HD : Hid (Gs w wd base b g C (kp C xs i) A k c (xs.take (i - C))) := by rw [← hwd]; exact hF.out.more (Below.refl _ _).drew
        have hS : True := trivial
        refine region_seq (fun _ => True) [(0, false), (1, false), (4, false), (5, false), (6, false), (7, false), (8, false), (2, true), (3, true), (9, true), (10, false), (11, false), (14, false), (15, false), (16, false), (17, false), (18, false), (19, false), (12, true), (13, false), (20, false), (21, false), (22, false)] (by kernel_rfl) (by kernel_rfl) rfl (by kernel_rfl) ?_
        rw [hwd]
        clear hwd hF
        clear wx
        iterate 7 (refine seq_read (v := _) rfl (fun _ _ _ h => h) hS (Or.inl ⟨by rfl, fun W hW => by go_simp <;> with_reducible rfl⟩) ?_; simp only [Act.put, List.setIfInBounds_toArray, List.set_cons_zero, List.set_cons_succ])
        have CA := Lib.hid HD.out.all
        rw [kp_len him2.out] at CA
        refine seq_do rfl (fun K hK => ?_)
        go_simp
        refine CA.out.mono ?_
        rintro e w3 ⟨A1, c1, rfl, hr1, hF3⟩
        have HF3 := Lib.hid hF3
        have HR1 := Lib.hid hr1
        refine hK.out _ _ _ (fun W h => h) trivial ?_
        clear hK K hr1 hF3 CA HD
        refine seq_do rfl (fun K hK => ?_)
        rw [if_pos (by rfl)]
        refine oper_append_upd (L := enL) (N := i) (.tmp 38) (.tmp 40) rfl Try.underlying26 HI.out.1 HI.out.2.1 HI.out.2.2.1 HI.out.2.2.2 rfl (xs.take i) HKN.out (kp_all him2.out) rfl rfl HF3.out.ro HR1.out HF3.out.lo.2.2.2 (by unfold maxLen; omega) (by omega) ?_
        intro A9 c9 w9 ho9 hu9 hk9
        have HF9 := Lib.hid (HF3.out.app ho9 hu9)
        have CQ := Lib.hid (same_any w9 A9 a i c9 cap _ _ (xs.take i) ho9.rd ((rd_take HRx.out him3.out).below HF9.out.hl.bel) (by omega))
        refine hK.out _ _ _ (fun W h => h) trivial ?_
        clear hK K ho9 hu9 hk9 HF3 HR1
        refine seq_do rfl (fun K hK => ?_)
        go_simp
        refine CQ.out.mono ?_
        rintro e w10 ⟨rfl, hb10⟩
        have HF10 := Lib.hid (HF9.out.more hb10)
        refine hK.out _ _ _ (fun W h => h) trivial ?_
        clear hK K hb10 HF9 CQ
        iterate 8 (refine seq_read (v := _) rfl (fun _ _ _ h => h) hS (Or.inl ⟨by rfl, fun W hW => by go_simp <;> with_reducible rfl⟩) ?_; simp only [Act.put, List.setIfInBounds_toArray, List.set_cons_zero, List.set_cons_succ])
        have CA := Lib.hid HF10.out.all
        rw [kp_len him2.out] at CA
        refine seq_do rfl (fun K hK => ?_)
        rw [if_pos (by rfl)]
        go_simp
        refine CA.out.mono ?_
        rintro e w11 ⟨A2, c2, rfl, -, hF11⟩
        have H11 := Lib.hid hF11.hl.bel
        refine hK.out _ _ _ (fun W h => h) trivial ?_
        clear hK K hF11 CA HF10
        iterate 4 (refine seq_read (v := _) rfl (fun _ _ _ h => h) hS (Or.inl ⟨by rfl, fun W hW => by go_simp <;> with_reducible rfl⟩) ?_; simp only [Act.put, List.setIfInBounds_toArray, List.set_cons_zero, List.set_cons_succ])
        refine seq_end ?_
        go_wp2
        go_ret
        exact ⟨rfl, H11.out⟩
end Go.Proofs.Ytjiofhlmfmhhmaa.Hst
