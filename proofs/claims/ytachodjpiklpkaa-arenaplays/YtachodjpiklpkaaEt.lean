/- ArenaPlays, walked. -/
import Derived.Test.YtachodjpiklpkaaEn
import Derived.Test.YtachodjpiklpkaaEs
import Derived.Test.YtachodjpiklpkaaFk
import Derived.Deep.CutRange
import Derived.Deep.CutBlock
set_option maxRecDepth 100000
namespace Go.Proofs.Ytachodjpiklpkaa.Arn
open Go.RowKit
set_option linter.unusedVariables false

theorem act_at {w : World} {B n k : Nat} {a : Option Addr} {xs : List Actv} (h : RowRd actL w B a n xs) (hk : k < n) : ∃ b off x, a = some ⟨b, off, none⟩ ∧ b < B ∧ xs[k]? = some x ∧ w.cell? ⟨b, off + k * 4, none⟩ = some (.int .i64 x.1) ∧ w.cell? ⟨b, off + k * 4 + 1, none⟩ = some (.int .i64 x.2.1) ∧ w.cell? ⟨b, off + k * 4 + 2, none⟩ = some (.int .i64 x.2.2.1) ∧ w.cell? ⟨b, off + k * 4 + 3, none⟩ = some (.int .u32 x.2.2.2) := by
  obtain ⟨b, off, x, e, hlt, hx, hc⟩ := row_at h hk
  exact ⟨b, off, x, e, hlt, hx, hc 0 _ rfl, hc 1 _ rfl, hc 2 _ rfl, hc 3 _ rfl⟩
/-- The law's arena and the reference's store, with the row of handles that were told. -/
structure Both (w : World) (base b g p q c m cA : Nat) (y : Value) (A : Option Addr) (L : List Slt) (T : List (Int × Int)) : Prop where
  ar : Ar w b g L
  st : St w p q c y L
  told : RowOwn hndL w base A m cA T
  bse : base ≤ b ∧ base ≤ g ∧ base ≤ p ∧ base ≤ q
  bp : b < p
  gp : g < p
  pq : p < q
section
variable {w w' : World} {base b g p q c m cA : Nat} {y : Value} {A : Option Addr} {L : List Slt} {T : List (Int × Int)}
theorem Both.bel (h : Both w base b g p q c m cA y A L T) (hb : Below w.heap.size w w') : Both w' base b g p q c m cA y A L T := ⟨h.ar.bel hb, h.st.bel hb, h.told.bel hb, h.bse, h.bp, h.gp, h.pq⟩
theorem Both.not_g (h : Both w base b g p q c m cA y A L T) : A ≠ some ⟨g, 0, none⟩ := h.told.not_at h.ar.row (by decide)
theorem Both.not_q (h : Both w base b g p q c m cA y A L T) : A ≠ some ⟨q, 0, none⟩ := by obtain ⟨T', hT⟩ := h.st.row; exact h.told.not_at hT (by decide)
/-- Behind a call on the arena. -/
theorem Both.one (h : Both w base b g p q c m cA y A L T) {L' : List Slt} (ha : Ar w' b g L') (hu : Upd (· = g) w w') : St w' p q c y L ∧ RowOwn hndL w' base A m cA T ∧ Below base w w' :=
  ⟨h.st.upd hu (by show p ≠ g; have := h.gp; omega) (by show q ≠ g; have := h.gp; have := h.pq; omega), h.told.upd hu (fun k hk e => h.not_g (by rw [← e]; exact hk)), hu.below (by have := h.ar.lt; have := h.bse; omega) (fun k hk => hk ▸ h.bse.2.1)⟩
/-- Behind a call on both of them. -/
theorem Both.two (h : Both w base b g p q c m cA y A L T) {w2 : World} {L' : List Slt} (ha : Ar w' b g L') (hu : Upd (· = g) w w') (hs : St w2 p q c y L') (hu2 : Upd (· = q) w' w2) : Both w2 base b g p q c m cA y A L' T ∧ Below base w w2 := by
  obtain ⟨h1, h2, h3⟩ := h.one ha hu
  refine ⟨⟨ha.upd hu2 (by show b ≠ q; have := h.bp; have := h.pq; omega) (by show g ≠ q; have := h.gp; have := h.pq; omega), hs, h2.upd hu2 (fun k hk e => h.not_q (by rw [← e]; exact hk)), h.bse, h.bp, h.gp, h.pq⟩, h3.trans (hu2.below ?_ (fun k hk => hk ▸ h.bse.2.2.2))⟩
  have := h.ar.lt; have := h.bse; have := hu.size; omega
end
set_option maxHeartbeats 8000000 in
theorem plays_law (n : Int) (a : Option Addr) (cap : Nat) (xs : List Actv) (w : World) (hn : -9223372036854775808 ≤ n ∧ n ≤ 9223372036854775807) (hl : xs.length * 32 ≤ 140737488351232) (hok : ∀ x ∈ xs, ActOk x) (hz : RowRd actL w w.heap.size a xs.length xs) :
    Calls Try.prog 3 #[.int .i64 n, .slice a xs.length cap] w fun e w' => e = .returned (.bool true) ∧ Below w.heap.size w w' := by
  have CS : Hid (∀ W, Calls Try.prog 7 #[] W fun e w' => e = .returned (.bool true) ∧ Below W.heap.size W w') := fun W => shown_any W
  have CN : Hid (∀ W, Calls Try.prog 8 #[.int .i64 n] W (RetA W n)) := fun W => new_any W n hn.1 hn.2
  have CM : Hid (∀ W, Calls Try.prog 9 #[.int .i64 n] W (RetSt W n)) := fun W => rnew_any W n hn.1 hn.2
  obtain ⟨len, hlen⟩ : ∃ len, xs.length = len := ⟨_, rfl⟩
  rw [hlen] at hl hz ⊢
  have HZ := Lib.hid hz
  have HX := Lib.hid hok
  have HN : Hid ((newL n).length ≤ 1024 ∧ 1 ≤ (newL n).length) := by have := newL_len n; exact ⟨by omega, by omega⟩
  have HK : Hid (OkS 1 (newL n)) := fun x hx => by
    rw [newL, List.mem_replicate] at hx
    rw [hx.2]; exact ⟨⟨by decide, by decide⟩, by decide, by decide⟩
  have HNN : Hid (((newL n).length : Int) = min (max n 1) 1024) := newL_len n
  obtain ⟨L0, hL0⟩ : ∃ L0, newL n = L0 := ⟨_, rfl⟩
  obtain ⟨N, hN⟩ : ∃ N, L0.length = N := ⟨_, rfl⟩
  rw [hL0] at HN HK HNN
  rw [hN] at HN HNN
  have hN2 := HN.out
  have HL0 := Lib.hid hL0
  have HN0 := Lib.hid hN
  obtain ⟨i0, hi0, hz0, hz1, hz2⟩ := info_parts info_hnd
  have HI := Lib.hid (And.intro hi0 (And.intro hz0 (And.intro hz1 hz2)))
  clear hz hok hL0 hN HN hlen hi0 hz0 hz1 hz2
  go_enter Try.func3, Try.ntmps3
  go_wp2_with fail
  refine (CS.out _).mono ?_
  rintro e w0 ⟨rfl, hb0⟩
  have HB0 := Lib.hid hb0
  clear hb0 CS
  go_wp2_with fail
  refine (CN.out _).mono ?_
  rintro e w1 ⟨b, g, rfl, hA, hb, hg, hB⟩
  rw [HL0.out] at hA
  have HA1 := Lib.hid hA
  have HB1 := Lib.hid (HB0.out.trans (hB.mono HB0.out.size))
  have HG := Lib.hid (And.intro (Nat.le_trans HB0.out.size hb) (Nat.le_trans HB0.out.size hg))
  clear hA hB hb hg CN HB0
  go_wp2_with fail
  refine (CM.out _).mono ?_
  rintro e w2 ⟨p, q, c, BB, cB, rfl, hS, -, hp, hpq, hB⟩
  rw [HL0.out] at hS
  obtain ⟨y, hy⟩ : ∃ y, Value.slice BB L0.length cB = y := ⟨_, rfl⟩
  rw [hy] at hS
  have HB2 := Lib.hid (HB1.out.trans (hB.mono HB1.out.size))
  have HH : Hid (Both w2 w.heap.size b g p q c 0 0 y none L0 []) := ⟨HA1.out.bel hB, hS, RowOwn.nil _ _, ⟨HG.out.1, HG.out.2, Nat.le_trans HB1.out.size hp, by have := HB1.out.size; omega⟩, by have := HA1.out.lt; omega, by have := HA1.out.lt; omega, hpq⟩
  clear hS hB hp hpq CM HA1 HB1 HG hy HL0
  go_wp2
  go_loopw [7, 8] (fun sT si wx => ∃ (i m cA : Nat) (A : Option Addr) (L : List Slt) (T : List (Int × Int)), i ≤ len ∧ i ≤ 60 ∧ m ≤ i ∧ si = .int .i64 i ∧ sT = .slice A m cA ∧ Hid (Both wx w.heap.size b g p q c m cA y A L T) ∧ Hid (L.length = N) ∧ Hid (OkS (1 + i) L) ∧ Hid (Below w.heap.size w wx)) (fun _ si _ => len - (intOf si).toNat)
  case atStart => exact ⟨0, 0, 0, none, L0, [], by omega, by omega, by omega, rfl, rfl, HH, HN0, HK, HB2⟩
  case round =>
    obtain ⟨i, m, cA, A, L, T, hi, hi2, hmi, rfl, rfl, hH, hNL, hO, hB⟩ := hrel
    rename World => wx
    clear HH HB2 HK HN0
    by_cases hlt : i < len
    · by_cases hl6 : i < 60
      · have hd1 : decide (i < len) = true := by simp; exact hlt
        have hd2 : decide ((i : Int) < 60) = true := by simp; omega
        obtain ⟨db, dof, x, rfl, hdb, hx, hd⟩ := act_at HZ.out hlt
        have hxo := HX.out x (List.mem_of_getElem? hx)
        have HD : Hid (∀ W, Below w.heap.size w W → W.cell? ⟨db, dof + i * 4, none⟩ = some (.int .i64 x.1) ∧ W.cell? ⟨db, dof + i * 4 + 1, none⟩ = some (.int .i64 x.2.1) ∧ W.cell? ⟨db, dof + i * 4 + 2, none⟩ = some (.int .i64 x.2.2.1) ∧ W.cell? ⟨db, dof + i * 4 + 3, none⟩ = some (.int .u32 x.2.2.2)) := fun W hW =>
          ⟨(hW.cell (p := ⟨db, dof + i * 4, none⟩) hdb).trans hd.1, (hW.cell (p := ⟨db, dof + i * 4 + 1, none⟩) hdb).trans hd.2.1, (hW.cell (p := ⟨db, dof + i * 4 + 2, none⟩) hdb).trans hd.2.2.1, (hW.cell (p := ⟨db, dof + i * 4 + 3, none⟩) hdb).trans hd.2.2.2⟩
        obtain ⟨kd, xn, xs', xg⟩ := x
        simp only at HD hxo
        have e1 := (HD.out wx hB.out).2.1
        have CO : Hid (Calls Try.prog 10 #[.slice A m cA, .int .i64 xn] wx fun e w' => e = .returned (hnV (someH T xn).1 (someH T xn).2) ∧ Below wx.heap.size wx w') := some_any wx T A m cA wx.heap.size xn hH.out.told.rd (Nat.le_refl _) (by omega) hxo.2.1
        clear hd hx hdb
        go_wp2_with fail
        refine CO.out.mono ?_
        rintro e w3 ⟨rfl, hb3⟩
        obtain ⟨⟨s, gn⟩, hsg⟩ : ∃ h, someH T xn = h := ⟨_, rfl⟩
        rw [hsg]
        have hh3 := hH.out.bel hb3
        have HR : Hid (b < w3.heap.size ∧ g < w3.heap.size ∧ p < w3.heap.size ∧ q < w3.heap.size) := ⟨hh3.ar.lt.1, hh3.ar.lt.2, hh3.st.lt.1, hh3.st.lt.2⟩
        have HT4 : Hid (∀ {k : Nat}, A = some ⟨k, 0, none⟩ → k < w3.heap.size) := fun {k} e => (hh3.told.lt_at e).2
        have HH4 := Lib.hid (hh3.bel ((Below.refl _ _).alloc (Nat.le_refl _) (hnO s gn)))
        have HB4 := Lib.hid ((hB.out.trans (hb3.mono hB.out.size)).alloc (Nat.le_trans hB.out.size hb3.size) (hnO s gn))
        have HD4 := Lib.hid (HBlk.new w3 s gn)
        clear hb3 hH hB CO e1 hsg hh3
        obtain ⟨w4, hw4⟩ : ∃ w4, w3.alloc (hnO s gn) = w4 := ⟨_, rfl⟩
        obtain ⟨r, hr⟩ : ∃ r, w3.heap.size = r := ⟨_, rfl⟩
        rw [hw4] at HH4 HB4 HD4
        rw [hr] at HD4 HR HT4
        have e0 := (HD.out _ HB4.out).1
        go_upto_block 2 with fail
        clear hr hw4
        go_cut [7, 10, 11, 12, 13] from 20 to 128 (fun sT _ _ _ _ wc => ∃ (m' cA' : Nat) (A' : Option Addr) (L' : List Slt) (T' : List (Int × Int)) (s' g' : Int), sT = .slice A' m' cA' ∧ m' ≤ i + 1 ∧ Hid (Both wc w.heap.size b g p q c m' cA' y A' L' T') ∧ Hid (L'.length = N) ∧ Hid (OkS (1 + (i + 1 : Nat)) L') ∧ Hid (Below w.heap.size w wc) ∧ Hid (HBlk wc r s' g'))
        case first =>
          have f0 : ∀ W, HBlk W r s gn → W.cell? ⟨r, 0, none⟩ = some (.int .i64 s) := fun W h => h.c0
          have f1 : ∀ W, HBlk W r s gn → W.cell? ⟨r, 1, none⟩ = some (.int .u32 gn) := fun W h => h.c1
          by_cases h0 : kd = 0
          · have hk0 : (kd == 0) = true := by simp [h0]
            have CT := Lib.hid (take_any w4 b g L HH4.out.ar (by rw [hNL.out]; exact hN2.1))
            have HLL := Lib.hid (show L.length ≤ 1024 from by rw [hNL.out]; exact hN2.1)
            obtain ⟨⟨hs, hg⟩, hsg'⟩ : ∃ h, takeH L = h := ⟨_, rfl⟩
            obtain ⟨te, hte⟩ : ∃ e, takeE L = e := ⟨_, rfl⟩
            have HO' := Lib.hid (hO.out.take (by omega))
            have HN' := Lib.hid (show (takeL L).length = N from by rw [takeL_len]; exact hNL.out)
            have HRT := Lib.hid (fun W (h : St W p q c y L) => rtake_any W p q c y L h HLL.out)
            obtain ⟨M, hM⟩ : ∃ M, takeL L = M := ⟨_, rfl⟩
            rw [hsg', hte, hM] at CT HRT
            rw [hM] at HO' HN'
            have qn : ∀ W, (binOp .neq 31 (hnV hs hg) (hnV hs hg)).run Try.prog W = .ok (.bool false) W := fun W => by have := neq_hnd hs hg hs hg W; simpa using this
            clear hsg' hte hM
            go_wp2_with fail
            refine CT.out.mono ?_
            rintro e w5 ⟨rfl, hA5, hU5⟩
            have hA5' := hA5.bel ((Below.refl _ _).alloc (Nat.le_refl _) (hnO hs hg))
            have hU5' := hU5.alloc (hnO hs hg)
            have HS5 := Lib.hid (HH4.out.one hA5' hU5').1
            have HX5 := Lib.hid (HBlk.new w5 hs hg)
            have HA5 := Lib.hid hA5'
            have HU5 := Lib.hid hU5'
            have HR5 := Lib.hid (show r < w5.heap.size from Nat.lt_of_lt_of_le HD4.out.lt hU5.size)
            clear hA5 hU5 hA5' hU5' CT
            go_wp2_with fail
            refine (HRT.out _ HS5.out).mono ?_
            rintro e w6 ⟨rfl, hS6, hU6⟩
            obtain ⟨hH6, hB6⟩ := HH4.out.two HA5.out HU5.out hS6 hU6
            have hX6 := HX5.out.upd hU6 (by show w5.heap.size ≠ q; have := HR.out; have := HR5.out; omega)
            have hD6 := HD4.out.upd HU5.out (by show r ≠ g; have := HR.out; omega) |>.upd hU6 (by show r ≠ q; have := HR.out; omega)
            have hbo := (Below.refl w6.heap.size w6).alloc (Nat.le_refl _) (hnO hs hg)
            have HH7 := Lib.hid (hH6.bel hbo)
            have HB7 := Lib.hid ((HB4.out.trans hB6).trans (hbo.mono (HB4.out.trans hB6).size))
            have HX7 := Lib.hid (hX6.bel hbo hX6.lt)
            have HY7 := Lib.hid (HBlk.new w6 hs hg)
            have HD7 := Lib.hid (hD6.bel hbo hD6.lt)
            obtain ⟨x5, hx5⟩ : ∃ x5, w5.heap.size = x5 := ⟨_, rfl⟩
            obtain ⟨x6, hx6⟩ : ∃ x6, w6.heap.size = x6 := ⟨_, rfl⟩
            obtain ⟨w7, hw7⟩ : ∃ w7, w6.alloc (hnO hs hg) = w7 := ⟨_, rfl⟩
            rw [hw7] at HH7 HB7 HX7 HY7 HD7
            rw [hx6] at HY7
            rw [hx5] at HX7
            rw [hx5]
            clear hS6 hU6 hH6 hB6 hX6 hD6 hbo HA5 HU5 HS5 HX5 HR5
            have c0 := HX7.out.c0
            have c1 := HX7.out.c1
            have d0 := HY7.out.c0
            have d1 := HY7.out.c1
            have hbo := (Below.refl w7.heap.size w7).alloc (Nat.le_refl _) (hnO hs hg)
            have HH8 := Lib.hid (HH7.out.bel hbo)
            have HB8 := Lib.hid (HB7.out.alloc HB7.out.size (hnO hs hg))
            have HD8 := Lib.hid (HD7.out.bel hbo HD7.out.lt)
            have HRD := Lib.hid (one_rec hndL w7 (hs, hg))
            have HSZ := Lib.hid (show w.heap.size ≤ (w7.alloc (hnO hs hg)).heap.size from HB8.out.size)
            clear hbo
            go_wp2_with (at_builtin; refine wpList_append_upd (L := hndL) (N := m + 1) (by rfl) (.tmp 83) (.tmp 85) rfl Try.underlying28 HI.out.1 HI.out.2.1 HI.out.2.2.1 HI.out.2.2.2 rfl (T ++ [(hs, hg)]) rfl rfl rfl rfl HH8.out.told HRD.out HSZ.out (by unfold maxLen; omega) (by omega) ?_; intro A9 c9 w9 ho9 hu9)
            have HH9 : Hid (Both w9 w.heap.size b g p q c (m + 1) c9 y A9 M (T ++ [(hs, hg)])) :=
              ⟨HH8.out.ar.upd hu9 (fun e => HH8.out.told.not_at HH8.out.ar.blk (by decide) e) (fun e => HH8.out.not_g e),
               HH8.out.st.upd hu9 (fun e => HH8.out.told.not_at HH8.out.st.blk (by decide) e) (fun e => HH8.out.not_q e), ho9, HH8.out.bse, HH8.out.bp, HH8.out.gp, HH8.out.pq⟩
            have HD9 := Lib.hid (HD8.out.upd hu9 (fun e => by have := (HH4.out.told.lt_at e).2; have := HT4.out e; omega))
            have HB9 := Lib.hid (HB8.out.trans (hu9.below HB8.out.size (fun k hk => (HH8.out.told.lt_at hk).1)))
            clear ho9 hu9
            go_meet
            case rel => exact ⟨m + 1, c9, A9, M, T ++ [(hs, hg)], s, gn, rfl, by omega, HH9, HN', Lib.hid (HO'.out.mono (by omega)), HB9, HD9⟩
          · have hk0 : (kd == 0) = false := by simp [h0]
            by_cases h1 : kd = 1
            · have hk1 : (kd == 1) = true := by simp [h1]
              clear h0 h1
              go_wp2_with fail
              refine region_seq (fun W => HBlk W r s gn) [(0, false), (1, false), (3, false), (4, false), (2, true), (5, true), (6, false)] (by kernel_rfl) (by kernel_rfl) rfl (by kernel_rfl) ?_
              have hS : HBlk w4.drew r s gn := HD4.out
              have hH : Both w4.drew w.heap.size b g p q c m cA y A L T := HH4.out.bel (Below.refl _ _).drew
              have hB : Below w.heap.size w w4.drew := HB4.out.drew
              have HLL := Lib.hid (show L.length ≤ 1024 from by rw [hNL.out]; exact hN2.1)
              generalize w4.drew = wd at *
              iterate 4 (refine seq_read (v := _) rfl (fun _ _ _ h => h) hS (Or.inl ⟨by rfl, fun W hW => by go_simp <;> with_reducible rfl⟩) ?_; simp only [Act.put, List.setIfInBounds_toArray, List.set_cons_zero, List.set_cons_succ])
              refine seq_do rfl (fun K hK => ?_)
              go_simp
              refine (keep_any wd b g L s gn (1 + i) hH.ar HLL.out hO.out (by omega)).mono ?_
              rintro e w5 ⟨rfl, hA5, hU5⟩
              have hS : HBlk w5 r s gn := hS.upd hU5 (by show r ≠ g; have := HR.out; omega)
              refine hK.out _ _ _ (fun W h => h) hS ?_
              clear hK K
              refine seq_do rfl (fun K hK => ?_)
              go_simp
              refine (rkeep_any w5 p q c y L s gn (1 + i) (hH.one hA5 hU5).1 HLL.out hO.out (by omega)).mono ?_
              rintro e w6 ⟨rfl, hS6, hU6⟩
              have hS : HBlk w6 r s gn := hS.upd hU6 (by show r ≠ q; have := HR.out; omega)
              obtain ⟨hH6, hB6⟩ := hH.two hA5 hU5 hS6 hU6
              have HH6 := Lib.hid hH6
              have HB6 := Lib.hid (hB.trans hB6)
              have HS6 := Lib.hid hS
              refine hK.out _ _ _ (fun W h => h) hS ?_
              clear hK K hA5 hU5 hS6 hU6 hH6 hB6 hH hB
              iterate 1 (refine seq_read (v := _) rfl (fun _ _ _ h => h) hS (Or.inl ⟨by rfl, fun W hW => by go_simp <;> with_reducible rfl⟩) ?_; simp only [Act.put, List.setIfInBounds_toArray, List.set_cons_zero, List.set_cons_succ])
              refine seq_end ?_
              go_wp2_with fail
              go_meet
              case rel => exact ⟨m, cA, A, keepL L s gn, T, s, gn, rfl, by omega, HH6, Lib.hid (by rw [keepL_len]; exact hNL.out), Lib.hid ((hO.out.keep s gn).mono (by omega)), HB6, HS6⟩
            · have hk1 : (kd == 1) = false := by simp [h1]
              by_cases h2 : kd = 2
              · have hk2 : (kd == 2) = true := by simp [h2]
                clear h0 h1 h2
                go_wp2_with fail
                refine region_seq (fun W => HBlk W r s gn) [(0, false), (1, false), (3, false), (4, false), (2, true), (5, true), (6, false)] (by kernel_rfl) (by kernel_rfl) rfl (by kernel_rfl) ?_
                have hS : HBlk w4.drew r s gn := HD4.out
                have hH : Both w4.drew w.heap.size b g p q c m cA y A L T := HH4.out.bel (Below.refl _ _).drew
                have hB : Below w.heap.size w w4.drew := HB4.out.drew
                have HLL := Lib.hid (show L.length ≤ 1024 from by rw [hNL.out]; exact hN2.1)
                generalize w4.drew = wd at *
                iterate 4 (refine seq_read (v := _) rfl (fun _ _ _ h => h) hS (Or.inl ⟨by rfl, fun W hW => by go_simp <;> with_reducible rfl⟩) ?_; simp only [Act.put, List.setIfInBounds_toArray, List.set_cons_zero, List.set_cons_succ])
                refine seq_do rfl (fun K hK => ?_)
                go_simp
                refine (drop_any wd b g L s gn (1 + i) hH.ar HLL.out hO.out (by omega)).mono ?_
                rintro e w5 ⟨rfl, hA5, hU5⟩
                have hS : HBlk w5 r s gn := hS.upd hU5 (by show r ≠ g; have := HR.out; omega)
                refine hK.out _ _ _ (fun W h => h) hS ?_
                clear hK K
                refine seq_do rfl (fun K hK => ?_)
                go_simp
                refine (rdrop_any w5 p q c y L s gn (1 + i) (hH.one hA5 hU5).1 HLL.out hO.out (by omega)).mono ?_
                rintro e w6 ⟨rfl, hS6, hU6⟩
                have hS : HBlk w6 r s gn := hS.upd hU6 (by show r ≠ q; have := HR.out; omega)
                obtain ⟨hH6, hB6⟩ := hH.two hA5 hU5 hS6 hU6
                have HH6 := Lib.hid hH6
                have HB6 := Lib.hid (hB.trans hB6)
                have HS6 := Lib.hid hS
                refine hK.out _ _ _ (fun W h => h) hS ?_
                clear hK K hA5 hU5 hS6 hU6 hH6 hB6 hH hB
                iterate 1 (refine seq_read (v := _) rfl (fun _ _ _ h => h) hS (Or.inl ⟨by rfl, fun W hW => by go_simp <;> with_reducible rfl⟩) ?_; simp only [Act.put, List.setIfInBounds_toArray, List.set_cons_zero, List.set_cons_succ])
                refine seq_end ?_
                go_wp2_with fail
                go_meet
                case rel => exact ⟨m, cA, A, dropL L s gn, T, s, gn, rfl, by omega, HH6, Lib.hid (by rw [dropL_len]; exact hNL.out), Lib.hid ((hO.out.drop s gn).mono (by omega)), HB6, HS6⟩
              · have hk2 : (kd == 2) = false := by simp [h2]
                clear h0 h1 h2
                have e2 := (HD.out w4 HB4.out).2.2.1
                have e3 := (HD.out w4 HB4.out).2.2.2
                have g0 := HD4.out.frozen 0
                have g1 := HD4.out.frozen 1
                have d0 := HD4.out.c0
                have d1 := HD4.out.c1
                have hu5 : Upd (· = r) w4 ((w4.setCell ⟨r, 0, none⟩ (.int .i64 xs')).setCell ⟨r, 1, none⟩ (.int .u32 xg)) := ((Upd.refl (· = r) w4).setCell (b := r) (i := 0) (.inl rfl) (.int .i64 xs')).setCell (b := r) (i := 1) (.inl rfl) (.int .u32 xg)
                have HD5 := Lib.hid (HD4.out.store xs' xg)
                have HH5 : Hid (Both ((w4.setCell ⟨r, 0, none⟩ (.int .i64 xs')).setCell ⟨r, 1, none⟩ (.int .u32 xg)) w.heap.size b g p q c m cA y A L T) :=
                  ⟨HH4.out.ar.upd hu5 (by show b ≠ r; have := HR.out; omega) (by show g ≠ r; have := HR.out; omega), HH4.out.st.upd hu5 (by show p ≠ r; have := HR.out; omega) (by show q ≠ r; have := HR.out; omega), HH4.out.told.upd hu5 (fun k hk e => by have h1 := HT4.out hk; have h2 : k = r := e; omega), HH4.out.bse, HH4.out.bp, HH4.out.gp, HH4.out.pq⟩
                have HB5 := Lib.hid (HB4.out.trans (hu5.below HB4.out.size (fun k hk => by have := HH4.out.bse; have := HR.out; have h2 : k = r := hk; omega)))
                clear hu5
                go_wp2_with fail
                generalize (w4.setCell ⟨r, 0, none⟩ (.int .i64 xs')).setCell ⟨r, 1, none⟩ (.int .u32 xg) = w5 at *
                clear e2 e3 g0 g1 d0 d1 f0 f1
                refine region_seq (fun W => HBlk W r xs' xg) [(0, false), (1, false), (3, false), (4, false), (2, true), (5, true), (6, false), (7, false), (8, false), (9, false), (11, false), (12, false), (10, true), (13, true), (14, false), (15, false)] (by kernel_rfl) (by kernel_rfl) rfl (by kernel_rfl) ?_
                have hS : HBlk w5.drew r xs' xg := HD5.out
                have hH : Both w5.drew w.heap.size b g p q c m cA y A L T := HH5.out.bel (Below.refl _ _).drew
                have hB : Below w.heap.size w w5.drew := HB5.out.drew
                have HLL := Lib.hid (show L.length ≤ 1024 from by rw [hNL.out]; exact hN2.1)
                have HO6 := Lib.hid (hO.out.keep xs' xg)
                have HLM := Lib.hid (show (keepL L xs' xg).length ≤ 1024 from by rw [keepL_len]; exact HLL.out)
                have f0 : ∀ W, HBlk W r xs' xg → W.cell? ⟨r, 0, none⟩ = some (.int .i64 xs') := fun W h => h.c0
                have f1 : ∀ W, HBlk W r xs' xg → W.cell? ⟨r, 1, none⟩ = some (.int .u32 xg) := fun W h => h.c1
                generalize w5.drew = wd at *
                iterate 4 (refine seq_read (v := _) rfl (fun _ _ _ h => h) hS (Or.inl ⟨by rfl, fun W hW => by go_simp <;> with_reducible rfl⟩) ?_; simp only [Act.put, List.setIfInBounds_toArray, List.set_cons_zero, List.set_cons_succ])
                refine seq_do rfl (fun K hK => ?_)
                go_simp
                refine (keep_any wd b g L xs' xg (1 + i) hH.ar HLL.out hO.out (by omega)).mono ?_
                rintro e w6 ⟨rfl, hA6, hU6⟩
                have hS : HBlk w6 r xs' xg := hS.upd hU6 (by show r ≠ g; have := HR.out; omega)
                refine hK.out _ _ _ (fun W h => h) hS ?_
                clear hK K
                refine seq_do rfl (fun K hK => ?_)
                go_simp
                refine (rkeep_any w6 p q c y L xs' xg (1 + i) (hH.one hA6 hU6).1 HLL.out hO.out (by omega)).mono ?_
                rintro e w7 ⟨rfl, hS7, hU7⟩
                have hS : HBlk w7 r xs' xg := hS.upd hU7 (by show r ≠ q; have := HR.out; omega)
                obtain ⟨hH7, hB7⟩ := hH.two hA6 hU6 hS7 hU7
                have hB7 := hB.trans hB7
                refine hK.out _ _ _ (fun W h => h) hS ?_
                clear hK K hA6 hU6 hS7 hU7 hH hB
                iterate 6 (refine seq_read (v := _) rfl (fun _ _ _ h => h) hS (Or.inl ⟨by rfl, fun W hW => by go_simp <;> with_reducible rfl⟩) ?_; simp only [Act.put, List.setIfInBounds_toArray, List.set_cons_zero, List.set_cons_succ])
                refine seq_do rfl (fun K hK => ?_)
                go_simp
                refine (drop_any w7 b g (keepL L xs' xg) xs' xg (1 + i + 1) hH7.ar HLM.out HO6.out (by omega)).mono ?_
                rintro e w8 ⟨rfl, hA8, hU8⟩
                have hS : HBlk w8 r xs' xg := hS.upd hU8 (by show r ≠ g; have := HR.out; omega)
                refine hK.out _ _ _ (fun W h => h) hS ?_
                clear hK K
                refine seq_do rfl (fun K hK => ?_)
                go_simp
                refine (rdrop_any w8 p q c y (keepL L xs' xg) xs' xg (1 + i + 1) (hH7.one hA8 hU8).1 HLM.out HO6.out (by omega)).mono ?_
                rintro e w9 ⟨rfl, hS9, hU9⟩
                have hS : HBlk w9 r xs' xg := hS.upd hU9 (by show r ≠ q; have := HR.out; omega)
                obtain ⟨hH9, hB9⟩ := hH7.two hA8 hU8 hS9 hU9
                have HH9 := Lib.hid hH9
                have HB9 := Lib.hid (hB7.trans hB9)
                have HD9 := Lib.hid hS
                refine hK.out _ _ _ (fun W h => h) hS ?_
                clear hK K hA8 hU8 hS9 hU9 hH7 hB7 hH9 hB9
                iterate 2 (refine seq_read (v := _) rfl (fun _ _ _ h => h) hS (Or.inl ⟨by rfl, fun W hW => by go_simp <;> with_reducible rfl⟩) ?_; simp only [Act.put, List.setIfInBounds_toArray, List.set_cons_zero, List.set_cons_succ])
                refine seq_end ?_
                go_wp2_with fail
                go_meet
                case rel => exact ⟨m, cA, A, dropL (keepL L xs' xg) xs' xg, T, xs', xg, rfl, by omega, HH9, Lib.hid (by rw [dropL_len, keepL_len]; exact hNL.out), Lib.hid ((HO6.out.drop xs' xg).mono (by omega)), HB9, HD9⟩
        case rest =>
          clear HH4 HB4 HD4 HT4 e0 hO hNL hmi
          obtain ⟨m, cA, A, L, T, s, gn, rfl, hmi, hH, hNL, hO, hB, hD⟩ := hcut
          have HLL := Lib.hid (show L.length ≤ 1024 from by rw [hNL.out]; exact hN2.1)
          have f0 : ∀ W, Below wc.heap.size wc W → W.cell? ⟨r, 0, none⟩ = some (.int .i64 s) := fun W h => (hD.out.bel h hD.out.lt).c0
          have f1 : ∀ W, Below wc.heap.size wc W → W.cell? ⟨r, 1, none⟩ = some (.int .u32 gn) := fun W h => (hD.out.bel h hD.out.lt).c1
          have fp : ∀ W, Below wc.heap.size wc W → W.cell? ⟨p, 0, none⟩ = some (.slice (some ⟨q, 0, none⟩) N c) := fun W h => by have := (hH.out.st.bel h).blk.c0; rwa [hNL.out] at this
          have hS : Below wc.heap.size wc wc.drew := (Below.refl _ _).drew
          have CF1 := Lib.hid (fun W (h : Below wc.heap.size wc W) => refs_any W b g L s gn (1 + (i + 1 : Nat)) (hH.out.ar.bel h) HLL.out hO.out)
          have CF2 := Lib.hid (fun W (h : Below wc.heap.size wc W) => rrefs_any W p q c y L s gn (1 + (i + 1 : Nat)) (hH.out.st.bel h) HLL.out hO.out (by omega))
          have CF3 := Lib.hid (fun W (h : Below wc.heap.size wc W) => free_any W b g L (hH.out.ar.bel h) HLL.out)
          have CF4 := Lib.hid (fun W (h : Below wc.heap.size wc W) => rfree_any W p q c y L (hH.out.st.bel h) HLL.out)
          have CF5 := Lib.hid (fun W (h : Below wc.heap.size wc W) => slots_any W b g L (hH.out.ar.bel h) HLL.out)
          obtain ⟨rv, hrv⟩ : ∃ v, refsV L s gn = v := ⟨_, rfl⟩
          obtain ⟨fv, hfv⟩ : ∃ v, freeN L = v := ⟨_, rfl⟩
          rw [hrv] at CF1 CF2
          rw [hfv] at CF3 CF4
          clear hrv hfv
          go_wp2_with fail
          refine region_seq (Below wc.heap.size wc) [(0, false), (1, false), (3, false), (4, false), (2, true), (5, true), (6, false), (7, false), (8, false), (10, false), (9, true), (11, true), (12, false), (13, false), (14, false), (15, false), (17, false), (18, false), (19, false), (20, false), (16, true), (21, true), (22, false), (23, false)] (by kernel_rfl) (by kernel_rfl) rfl (by kernel_rfl) ?_
          generalize wc.drew = wd at *
          iterate 4 (refine seq_read (v := _) rfl (fun _ _ _ h => h) hS (Or.inl ⟨by rfl, fun W hW => by go_simp <;> with_reducible rfl⟩) ?_; simp only [Act.put, List.setIfInBounds_toArray, List.set_cons_zero, List.set_cons_succ])
          refine seq_do rfl (fun K hK => ?_)
          go_simp
          refine (CF1.out _ hS).mono ?_
          rintro e W' ⟨rfl, hb⟩
          have hS := hS.trans (hb.mono hS.size)
          refine hK.out _ _ _ (fun W h => h) hS ?_
          clear hK K
          refine seq_do rfl (fun K hK => ?_)
          go_simp
          refine (CF2.out _ hS).mono ?_
          rintro e W' ⟨rfl, hb⟩
          have hS := hS.trans (hb.mono hS.size)
          refine hK.out _ _ _ (fun W h => h) hS ?_
          clear hK K
          iterate 4 (refine seq_read (v := _) rfl (fun _ _ _ h => h) hS (Or.inl ⟨by rfl, fun W hW => by go_simp <;> with_reducible rfl⟩) ?_; simp only [Act.put, List.setIfInBounds_toArray, List.set_cons_zero, List.set_cons_succ])
          refine seq_do rfl (fun K hK => ?_)
          go_simp
          refine (CF3.out _ hS).mono ?_
          rintro e W' ⟨rfl, hb⟩
          have hS := hS.trans (hb.mono hS.size)
          refine hK.out _ _ _ (fun W h => h) hS ?_
          clear hK K
          refine seq_do rfl (fun K hK => ?_)
          go_simp
          refine (CF4.out _ hS).mono ?_
          rintro e W' ⟨rfl, hb⟩
          have hS := hS.trans (hb.mono hS.size)
          refine hK.out _ _ _ (fun W h => h) hS ?_
          clear hK K
          iterate 8 (refine seq_read (v := _) rfl (fun _ _ _ h => h) hS (Or.inl ⟨by rfl, fun W hW => by go_simp <;> with_reducible rfl⟩) ?_; simp only [Act.put, List.setIfInBounds_toArray, List.set_cons_zero, List.set_cons_succ])
          refine seq_do rfl (fun K hK => ?_)
          go_simp
          refine (CF5.out _ hS).mono ?_
          rintro e W' ⟨A2, c2, rfl, ho, hb⟩
          rw [hNL.out] at ho ⊢
          have hS := hS.trans (hb.mono hS.size)
          refine hK.out _ _ _ (fun W h => h) hS ?_
          clear hK K
          refine seq_do rfl (fun K hK => ?_)
          go_simp
          have hst := (hH.out.st.bel hS).row.rd
          rw [hNL.out] at hst
          refine (same_any W' A2 _ N c2 c _ _ L ho.rd hst hN2.1).mono ?_
          rintro e W2 ⟨rfl, hb⟩
          have hS := hS.trans (hb.mono hS.size)
          refine hK.out _ _ _ (fun W h => h) hS ?_
          clear hK K
          iterate 2 (refine seq_read (v := _) rfl (fun _ _ _ h => h) hS (Or.inl ⟨by rfl, fun W hW => by go_simp <;> with_reducible rfl⟩) ?_; simp only [Act.put, List.setIfInBounds_toArray, List.set_cons_zero, List.set_cons_succ])
          refine seq_end ?_
          have HH9 := Lib.hid (hH.out.bel hS)
          have HB9 := Lib.hid (hB.out.trans (hS.mono hB.out.size))
          clear hst ho hS f0 f1 fp
          go_wp2_with fail
          go_roundw
          case rel => exact ⟨i + 1, m, cA, A, L, T, by omega, by omega, hmi, by go_num, rfl, HH9, hNL, hO, HB9⟩
          case measure => simp [intOf]; omega
      · have hd1 : decide (i < len) = true := by simp; exact hlt
        have hd2 : decide ((i : Int) < 60) = false := by simp; omega
        have CSl := Lib.hid (slots_any wx b g L hH.out.ar (by rw [hNL.out]; exact hN2.1))
        obtain ⟨mm, hmm⟩ : ∃ mm, (if n < 1 then 1 else n) = mm := ⟨_, rfl⟩
        have hmN : (if 1024 < mm then 1024 else mm) = (N : Int) := by have := HNN.out; omega
        go_wp2_with fail
        refine CSl.out.mono ?_
        rintro e w3 ⟨A2, c2, rfl, -, hb⟩
        rw [hNL.out]
        have HB3 := Lib.hid (hB.out.trans (hb.mono hB.out.size))
        clear hb hB hH
        go_wp2_with fail
        go_ret
        exact ⟨by simp, HB3.out⟩
    · have hd1 : decide (i < len) = false := by simp; omega
      have CSl := Lib.hid (slots_any wx b g L hH.out.ar (by rw [hNL.out]; exact hN2.1))
      obtain ⟨mm, hmm⟩ : ∃ mm, (if n < 1 then 1 else n) = mm := ⟨_, rfl⟩
      have hmN : (if 1024 < mm then 1024 else mm) = (N : Int) := by have := HNN.out; omega
      go_wp2_with fail
      refine CSl.out.mono ?_
      rintro e w3 ⟨A2, c2, rfl, -, hb⟩
      rw [hNL.out]
      have HB3 := Lib.hid (hB.out.trans (hb.mono hB.out.size))
      clear hb hB hH
      go_wp2_with fail
      go_ret
      exact ⟨by simp, HB3.out⟩
end Go.Proofs.Ytachodjpiklpkaa.Arn
