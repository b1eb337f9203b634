/- ArenaOnce: what the law holds (the arena, the set of those that were told, the row of those that are held), walked. -/
import Derived.Test.YtachodjpiklpkaaEp
import Derived.Test.YtachodjpiklpkaaEs
import Derived.Test.YtachodjpiklpkaaEb
import Derived.Deep.CutRange
set_option maxRecDepth 100000
namespace Go.Proofs.Ytachodjpiklpkaa.Arn
open Go.RowKit
set_option linter.unusedVariables false

theorem chk_hnd (n : Nat) (em : Bool) (s g : Int) (W : World) : (Instr.checkKey em (n + 2) 31 (hnd s g)).run Try.prog W = .ok () W := by
  simp [Instr.checkKey, run_underlying Try.underlying31, run_underlying Try.underlying3, run_underlying Try.underlying29, go_sem]
theorem equal_hnd (s g s' g' : Int) (W : World) : (Op.equal 31 (hnd s g) (hnd s' g')).run Try.prog W = .ok (s == s' && g == g') W := by
  have h := eq_hnd s g s' g' W
  simp only [binOp, Sem.run_bind, Sem.run_pure] at h
  revert h
  cases (Op.equal 31 (hnd s g) (hnd s' g')).run Try.prog W <;> simp [Result.andThen]
theorem zero_bool (W : World) : (zeroValue 4).run Try.prog W = .ok (.bool false) W := by kernel_rfl
theorem keyF : KeyF Try.prog 49 31 4 :=
  ⟨Try.underlying49, by kernel_rfl, fun em s g W => chk_hnd 9998 em s g W, equal_hnd, zero_bool⟩
theorem make_map (W : World) : (Instr.makeMap 49 none).run Try.prog W = .ok (.map (some W.heap.size)) (W.alloc (.map #[] 0)) := by
  simp [Instr.makeMap]
def toI (h : Nat × Int) : Int × Int := ((h.1 : Int), h.2)
theorem toI_inj {h k : Nat × Int} (e : toI h = toI k) : h = k := by
  have h1 := congrArg Prod.fst e
  have h2 := congrArg Prod.snd e
  simp only [toI] at h1 h2
  exact Prod.ext (by omega) h2
theorem SeenM.upd {w w' : World} {b : Nat} {S : List (Int × Int)} {X : Nat → Prop} (h : SeenM w b S) (hu : Upd X w w') (hX : ¬ X b) : SeenM w' b S := by
  obtain ⟨es, clock, h1, h2⟩ := h
  exact ⟨es, clock, hu.keep h1 hX, h2⟩
/-- What ArenaOnce holds. -/
structure Once (w : World) (base b g mb m cA : Nat) (A : Option Addr) (L : List Slt) (live seen : List (Nat × Int)) (N : Int) : Prop where
  ar : Ar w b g L
  map : SeenM w mb (seen.map toI)
  told : RowOwn hndL w base A m cA (live.map toI)
  inv : Inv L seen live N
  bse : base ≤ b ∧ base ≤ g ∧ base ≤ mb
section
variable {w w' : World} {base b g mb m cA : Nat} {A : Option Addr} {L : List Slt} {live seen : List (Nat × Int)} {N : Int}
theorem Once.bel (h : Once w base b g mb m cA A L live seen N) (hb : Below w.heap.size w w') : Once w' base b g mb m cA A L live seen N := ⟨h.ar.bel hb, h.map.below hb h.map.lt, h.told.bel hb, h.inv, h.bse⟩
theorem Once.len (h : Once w base b g mb m cA A L live seen N) : live.length = m := by have := h.told.1; rwa [List.length_map] at this
theorem Once.not_g (h : Once w base b g mb m cA A L live seen N) : A ≠ some ⟨g, 0, none⟩ := h.told.not_at h.ar.row (by decide)
theorem Once.not_b (h : Once w base b g mb m cA A L live seen N) : A ≠ some ⟨b, 0, none⟩ := h.told.not_at h.ar.blk (by decide)
theorem Once.mb_ne (h : Once w base b g mb m cA A L live seen N) : mb ≠ b ∧ mb ≠ g := by
  obtain ⟨es, clock, h1, -⟩ := h.map
  have ha := h.ar.blk
  have hr : w.heap[g]? = _ := h.ar.row
  constructor
  · rintro rfl
    rw [h1] at ha
    cases ha
  · rintro rfl
    rw [h1] at hr
    cases hr
theorem Once.not_m (h : Once w base b g mb m cA A L live seen N) : A ≠ some ⟨mb, 0, none⟩ := by
  rintro rfl
  obtain ⟨es, clock, h1, -⟩ := h.map
  rcases h.told.2.2.2 with ⟨e, -⟩ | ⟨g', T, e, hbg, hk, hl⟩
  · cases e
  · obtain rfl : mb = g' := by simpa using e
    rw [h1] at hk
    cases hk
theorem Once.okS (h : Once w base b g mb m cA A L live seen N) (hN : N ≤ 1000) : OkS 1 L := fun x hx => by
  obtain ⟨k, hk⟩ := List.mem_iff_getElem?.1 hx
  have h1 := h.inv.gen k x hk
  rcases h.inv.ref k x hk with h2 | h2
  · rw [h2]; exact ⟨⟨by omega, by omega⟩, by decide, by decide⟩
  · rw [h2]; exact ⟨⟨by omega, by omega⟩, by decide, by decide⟩
/-- Behind a call on the arena. -/
theorem Once.call (h : Once w base b g mb m cA A L live seen N) {L' : List Slt} {N' : Int} {live' : List (Nat × Int)} (ha : Ar w' b g L') (hu : Upd (· = g) w w') :
    SeenM w' mb (seen.map toI) ∧ RowOwn hndL w' base A m cA (live.map toI) ∧ Below base w w' :=
  ⟨h.map.upd hu (by show mb ≠ g; exact h.mb_ne.2), h.told.upd hu (fun k hk e => h.not_g (by rw [← e]; exact hk)), hu.below (by have := h.ar.lt; have := h.bse; omega) (fun k hk => hk ▸ h.bse.2.1)⟩
end
theorem freeN_lt {L : List Slt} {k : Nat} {g : Int} (h : L[k]? = some (g, 0)) : 0 < freeN L := by
  have := freeN_set (L := L) (g, 1) h
  simp at this
  omega
theorem Inv.swap {L : List Slt} {seen live : List (Nat × Int)} {N : Int} {h : Nat × Int} (i : Inv L (h :: seen) live N) : Inv L (seen ++ [h]) live N :=
  ⟨i.gen, i.ref, fun x hx => i.told x (by simpa [or_comm] using hx), i.held, i.apart, i.cnt⟩
theorem Inv.more {L : List Slt} {seen live : List (Nat × Int)} {N M : Int} (i : Inv L seen live N) (h : N ≤ M) : Inv L seen live M :=
  ⟨fun k x hk => ⟨(i.gen k x hk).1, by have := (i.gen k x hk).2; omega⟩, i.ref, i.told, i.held, i.apart, i.cnt⟩
/-- One more call on the arena: all else stays. -/
theorem once_step {w w' : World} {base b g mb m cA r : Nat} {A : Option Addr} {L L' : List Slt} {S : List (Int × Int)} {T : List (Int × Int)} {s gn : Int} {w0 : World} (ha : Ar w b g L) (ha' : Ar w' b g L') (hu : Upd (· = g) w w') (hm : SeenM w mb S) (ht : RowOwn hndL w base A m cA T) (hd : HBlk w r s gn) (hB : Below base w0 w) (hbg : base ≤ g) (hR : b < r ∧ g < r ∧ mb < r) :
    Hid (Ar w' b g L') ∧ Hid (SeenM w' mb S) ∧ Hid (RowOwn hndL w' base A m cA T) ∧ Hid (HBlk w' r s gn) ∧ Hid (Below base w0 w') := by
  have hne : mb ≠ g := by
    rintro rfl
    obtain ⟨es, clock, h1, -⟩ := hm
    have hr : w.heap[mb]? = _ := ha.row
    rw [h1] at hr
    cases hr
  refine ⟨ha', hm.upd hu hne, ht.upd hu (fun k hk e => ?_), hd.upd hu (by show r ≠ g; omega), hB.trans (hu.below (by have := ha.lt; omega) (fun k hk => hk ▸ hbg))⟩
  have e' : k = g := e
  subst e'
  exact ht.not_at ha.row (by decide) hk
set_option maxHeartbeats 8000000 in
theorem once_law (n : Int) (a : Option Addr) (len cap : Nat) (z : List Int) (w : World) (hn : -9223372036854775808 ≤ n ∧ n ≤ 9223372036854775807) (hz : IsRow .i64 8 w a len cap z) :
    Calls Try.prog 4 #[.int .i64 n, .slice a len cap] w fun e w' => e = .returned (.bool true) ∧ Below w.heap.size w w' := by
  have CS : Hid (∀ W, Calls Try.prog 7 #[] W fun e w' => e = .returned (.bool true) ∧ Below W.heap.size W w') := fun W => shown_any W
  have CN : Hid (∀ W, Calls Try.prog 8 #[.int .i64 n] W (RetA W n)) := fun W => new_any W n hn.1 hn.2
  have HZ := Lib.hid hz
  have hlen : len ≤ 140737488351232 := by have := hz.cells.2.1; omega
  have HN : Hid ((newL n).length ≤ 1024 ∧ 1 ≤ (newL n).length) := by have := newL_len n; exact ⟨by omega, by omega⟩
  have HV := Lib.hid (Inv.start n)
  obtain ⟨L0, hL0⟩ : ∃ L0, newL n = L0 := ⟨_, rfl⟩
  obtain ⟨N, hN⟩ : ∃ N, L0.length = N := ⟨_, rfl⟩
  rw [hL0] at HN HV
  rw [hN] at HN
  have hN2 := HN.out
  have HL0 := Lib.hid hL0
  have HN0 := Lib.hid hN
  obtain ⟨i0, hi0, hz0, hz1, hz2⟩ := info_parts info_hnd
  have HI := Lib.hid (And.intro hi0 (And.intro hz0 (And.intro hz1 hz2)))
  clear hz hL0 hN HN hi0 hz0 hz1 hz2
  go_enter Try.func4, Try.ntmps4
  go_wp2_with fail
  refine (CS.out _).mono ?_
  rintro e w0 ⟨rfl, hb0⟩
  have HB0 := Lib.hid hb0
  clear hb0 CS
  go_wp2_with fail
  refine (CN.out _).mono ?_
  rintro e w1 ⟨b, g, rfl, hA, hb, hg, hB⟩
  rw [HL0.out] at hA
  have HB1 := Lib.hid (HB0.out.trans (hB.mono HB0.out.size))
  have hbo := (Below.refl w1.heap.size w1).alloc (Nat.le_refl _) (.map #[] 0)
  have HH : Hid (Once (w1.alloc (.map #[] 0)) w.heap.size b g w1.heap.size 0 0 none L0 [] [] 1) := ⟨hA.bel hbo, SeenM.made w1, RowOwn.nil _ _, HV.out, Nat.le_trans HB0.out.size hb, Nat.le_trans HB0.out.size hg, HB1.out.size⟩
  have HB2 := Lib.hid (HB1.out.alloc HB1.out.size (.map #[] 0))
  clear hA hB hb hg CN HB0 HB1 HL0 HV hbo
  have qmk := make_map w1
  go_wp2
  obtain ⟨mb, hmb⟩ : ∃ mb, w1.heap.size = mb := ⟨_, rfl⟩
  rw [hmb] at HH ⊢
  go_loopw [7, 8] (fun sT si wx => ∃ (i m cA : Nat) (A : Option Addr) (L : List Slt) (live seen : List (Nat × Int)), i ≤ len ∧ i ≤ 80 ∧ m ≤ i ∧ si = .int .i64 i ∧ sT = .slice A m cA ∧ Hid (Once wx w.heap.size b g mb m cA A L live seen (1 + i)) ∧ Hid (L.length = N) ∧ Hid (Below w.heap.size w wx)) (fun _ si _ => len - (intOf si).toNat)
  case atStart => exact ⟨0, 0, 0, none, L0, [], [], by omega, by omega, by omega, rfl, rfl, HH, HN0, HB2⟩
  case round =>
    obtain ⟨i, m, cA, A, L, live, seen, hi, hi2, hmi, rfl, rfl, hH, hNL, hB⟩ := hrel
    rename World => wx
    clear HH HB2 HN0 hmb
    by_cases hlt : i < len
    · by_cases hl8 : i < 80
      · have hd1 : decide (i < len) = true := by simp; exact hlt
        have hd2 : decide ((i : Int) < 80) = true := by simp; omega
        obtain ⟨db, dof, dx, rfl, hdb, hdc, hdx1, hdx2⟩ := row64_at HZ.out hlt
        have HD : Hid (∀ W, Below w.heap.size w W → W.cell? ⟨db, dof + i, none⟩ = some (.int .i64 dx)) := fun W hW => (hW.cell (p := ⟨db, dof + i, none⟩) hdb).trans hdc
        have HLL := Lib.hid (show L.length ≤ 1024 from by rw [hNL.out]; exact hN2.1)
        have CT := Lib.hid (take_any wx b g L hH.out.ar HLL.out)
        clear hdc
        go_wp2_with fail
        rcases take_cases L with ⟨en, e1, e2, e3, -⟩ | ⟨k, x, -, hk, e1, e2, e3, -⟩
        · rw [e1, e2, e3] at CT
          refine CT.out.mono ?_
          rintro e w2 ⟨rfl, hA2, hU2⟩
          obtain ⟨hm2, ht2, hb2⟩ := hH.out.call (N' := 0) (live' := []) hA2 hU2
          have hH2 : Once w2 w.heap.size b g mb m cA A L live seen (1 + i) := ⟨hA2, hm2, ht2, hH.out.inv, hH.out.bse⟩
          have hbo := (Below.refl w2.heap.size w2).alloc (Nat.le_refl _) (hnO 0 0)
          have HH3 := Lib.hid (hH2.bel hbo)
          have HB3 := Lib.hid ((hB.out.trans hb2).alloc (hB.out.trans hb2).size (hnO 0 0))
          have HD3 := Lib.hid (HBlk.new w2 0 0)
          have HR : Hid (b < w2.heap.size ∧ g < w2.heap.size ∧ mb < w2.heap.size) := ⟨hH2.ar.lt.1, hH2.ar.lt.2, hH2.map.lt⟩
          have HT : Hid (∀ {k : Nat}, A = some ⟨k, 0, none⟩ → k ≠ w2.heap.size) := fun {k} hk => by have := (hH2.told.lt_at hk).2; omega
          have HM : Hid (m = N) := by
            refine Lib.hid ?_
            have h1 := hH.out.inv.cnt
            have h2 := (leastF_none en).1
            have h3 := hH.out.len
            have h4 := hNL.out
            omega
          clear hA2 hU2 hm2 ht2 hb2 hH2 hbo CT hH hB e1 e2 e3 en
          go_upto_if 33 with fail
          obtain ⟨r, hr⟩ : ∃ r, w2.heap.size = r := ⟨_, rfl⟩
          obtain ⟨w3, hw3⟩ : ∃ w3, w2.alloc (hnO 0 0) = w3 := ⟨_, rfl⟩
          rw [hr] at HD3 HR HT ⊢
          rw [hw3] at HH3 HB3 HD3 ⊢
          have CSl := Lib.hid (slots_any w3 b g L HH3.out.ar HLL.out)
          clear hr hw3
          go_cut [7] from 17 to 113 (fun sT wc => ∃ (m' cA' : Nat) (A' : Option Addr) (L' : List Slt) (live' seen' : List (Nat × Int)) (s' g' : Int), sT = .slice A' m' cA' ∧ m' ≤ i + 1 ∧ Hid (Once wc w.heap.size b g mb m' cA' A' L' live' seen' (1 + i)) ∧ Hid (L'.length = N) ∧ Hid (Below w.heap.size w wc) ∧ Hid (HBlk wc r s' g') ∧ Hid (b < r ∧ g < r ∧ mb < r) ∧ Hid (∀ {k : Nat}, A' = some ⟨k, 0, none⟩ → k ≠ r))
          case first =>
            go_wp2_with fail
            refine CSl.out.mono ?_
            rintro e w4 ⟨A2, c2, rfl, -, hb4⟩
            rw [hNL.out]
            have HH4 := Lib.hid (HH3.out.bel hb4)
            have HB4 := Lib.hid (HB3.out.trans (hb4.mono HB3.out.size))
            have HD4 := Lib.hid (HD3.out.bel hb4 HD3.out.lt)
            have hmn : ((m : Int) != (N : Int)) = false := by rw [HM.out]; simp
            clear hb4 HH3 HB3 HD3 CSl
            go_wp2
            go_meet
            case rel => exact ⟨m, cA, A, L, live, seen, 0, 0, rfl, by omega, HH4, hNL, HB4, HD4, HR, HT⟩
          case rest =>
            clear HH3 HB3 HD3 HR HT CSl HM

            obtain ⟨m, cA, A, L, live, seen, s0, g0, rfl, hmi, hH, hNL, hB, hD, hR, hT⟩ := hcut
            have e0 := HD.out wc hB.out
            have HLL := Lib.hid (show L.length ≤ 1024 from by rw [hNL.out]; exact hN2.1)
            have hqm := i64_mask dx 1 (by decide)
            rw [show (2 : Int) ^ 1 - 1 = 1 from by decide, show (2 : Int) ^ 1 = 2 from by decide] at hqm
            have hMore : Hid (Once wc w.heap.size b g mb m cA A L live seen (1 + (i + 1 : Nat))) := ⟨hH.out.ar, hH.out.map, hH.out.told, hH.out.inv.more (by omega), hH.out.bse⟩
            by_cases hp : dx % 2 = 0
            · have q0 : (dx % 2 == 0) = true := by simp [hp]
              clear hp hH
              go_wp2
              go_roundw
              case rel => exact ⟨i + 1, m, cA, A, L, live, seen, by omega, by omega, hmi, by go_num, rfl, hMore, hNL, hB⟩
              case measure => simp [intOf]; omega
            · have q0 : (dx % 2 == 0) = false := by simp [hp]
              clear hp
              by_cases hm0 : m = 0
              · have q1 : ((m : Int) == 0) = true := by simp [hm0]
                clear hm0 hH
                go_wp2
                go_roundw
                case rel => exact ⟨i + 1, m, cA, A, L, live, seen, by omega, by omega, hmi, by go_num, rfl, hMore, hNL, hB⟩
                case measure => simp [intOf]; omega
              · have q1 : ((m : Int) == 0) = false := by simp [hm0]
                have q2 : ¬ (m : Int) = 0 := by omega
                have hq2 := i64_mask (dx / 2) 16 (by decide)
                rw [show (2 : Int) ^ 16 - 1 = 65535 from by decide, show (2 : Int) ^ 16 = 65536 from by decide] at hq2
                have hy : 0 ≤ dx / 2 % 65536 := by omega
                generalize dx / 2 % 65536 = y at *
                obtain ⟨yn, rfl⟩ := Int.eq_ofNat_of_zero_le hy
                have hqt : ((yn : Int).tmod m) = ((yn % m : Nat) : Int) := by rw [Int.ofNat_tmod]
                have hk : yn % m < m := Nat.mod_lt _ (by omega)
                generalize yn % m = k at *
                clear hMore
                obtain ⟨tb, toff, x, rfl, -, hx, c0, c1⟩ := hnd_at hH.out.told.rd hk
                obtain ⟨⟨kn, gn⟩, hlk, rfl⟩ : ∃ h, live[k]? = some h ∧ toI h = x := by
                  rw [List.getElem?_map] at hx
                  cases hl : live[k]? with
                  | none => rw [hl] at hx; cases hx
                  | some h => rw [hl] at hx; exact ⟨h, rfl, Option.some.inj hx⟩
                have hkk : decide (k < m) = true := by simp; exact hk
                have f0 := hD.out.frozen 0
                have f1 := hD.out.frozen 1
                have d0 := hD.out.c0
                have d1 := hD.out.c1
                simp only [toI] at c0 c1
                clear hx
                obtain ⟨w2, hw2⟩ : ∃ w2, (wc.setCell ⟨r, 0, none⟩ (.int .i64 (kn : Int))).setCell ⟨r, 1, none⟩ (.int .u32 gn) = w2 := ⟨_, rfl⟩
                have hu2 : Upd (· = r) wc w2 := hw2 ▸ ((Upd.refl (· = r) wc).setCell (b := r) (i := 0) (.inl rfl) (.int .i64 (kn : Int))).setCell (b := r) (i := 1) (.inl rfl) (.int .u32 gn)
                have hD2 : HBlk w2 r kn gn := hw2 ▸ hD.out.store (kn : Int) gn
                have hH2 : Once w2 w.heap.size b g mb m cA (some ⟨tb, toff, none⟩) L live seen (1 + i) := ⟨hH.out.ar.upd hu2 (by show b ≠ r; have := hR.out; omega) (by show g ≠ r; have := hR.out; omega), hH.out.map.upd hu2 (by show mb ≠ r; have := hR.out; omega), hH.out.told.upd hu2 (fun k' hk' e => hT.out hk' e), hH.out.inv, hH.out.bse⟩
                have hrw : w.heap.size ≤ r := by have := hR.out; have := hH.out.bse; omega
                have hB2 := hB.out.trans (hu2.below hB.out.size (fun k' hk' => by have h2 : k' = r := hk'; omega))
                have HH2 := Lib.hid hH2
                have HB2 := Lib.hid hB2
                have HD2 := Lib.hid hD2
                clear hu2 hD2 hH2 hB2 hH hB hD hrw hT
                go_upto_region 20 with (fail)
                clear hw2 c0 c1 d0 d1 f0 f1 e0 q0 hqm hq2 hqt
                obtain ⟨wd, hwd⟩ : ∃ wd, w2.drew = wd := ⟨_, rfl⟩
                have hH3 : Once wd w.heap.size b g mb m cA (some ⟨tb, toff, none⟩) L live seen (1 + i) := hwd ▸ HH2.out.bel (Below.refl _ _).drew
                have hB3 : Below w.heap.size w wd := hwd ▸ HB2.out.drew
                have hD3 : HBlk wd r kn gn := hwd ▸ HD2.out
                have hmc : m ≤ cA := hH3.told.2.1
                have ht := rec_to (P := Try.prog) (t := 28) (e := 31) Try.underlying28 (by kernel_rfl) HI.out.1 HI.out.2.2.1 (some ⟨tb, toff, none⟩) m cA k k rfl (by omega)
                obtain ⟨X, hX, hf⟩ := rec_from (P := Try.prog) (t := 28) (e := 31) Try.underlying28 (by kernel_rfl) HI.out.1 HI.out.2.2.1 (some ⟨tb, toff, none⟩) m cA (k + 1) ((k : Int) + 1) (by omega) (by omega)
                have qk : IntKind.i64.wrap ((k : Int) + 1) = (k : Int) + 1 := IntWalk.i64_in _ (by omega)
                have HRt := Lib.hid (row_take hH3.told.rd (show k ≤ m from by omega))
                have HRd := Lib.hid (fun W (h : Below wd.heap.size wd W) => (row_drop hH3.told.rd (show k + 1 ≤ m from by omega) hmc hX).below h)
                have HE := Lib.hid (show (live.map toI).take k ++ (live.map toI).drop (k + 1) = (live.eraseIdx k).map toI from by rw [List.eraseIdx_eq_take_drop_succ, List.map_append, List.map_take, List.map_drop])
                have HH3 := Lib.hid hH3
                have HB3 := Lib.hid hB3
                have HD3 := Lib.hid hD3
                clear hH3 hB3 hD3 HH2 HB2 HD2 hX
                have hS : True := trivial
                refine region_seq (fun _ => True) [(0, false), (1, false), (2, false), (4, false), (5, false), (6, false), (7, false), (3, true), (8, true), (9, false)] (by kernel_rfl) (by kernel_rfl) rfl (by kernel_rfl) ?_
                rw [hwd]
                clear hwd
                iterate 7 (refine seq_read (v := _) rfl (fun _ _ _ h => h) hS (Or.inl ⟨by rfl, fun W hW => by go_simp <;> with_reducible rfl⟩) ?_; simp only [Act.put, List.setIfInBounds_toArray, List.set_cons_zero, List.set_cons_succ])
                refine seq_do rfl (fun K hK => ?_)
                rw [if_pos (by rfl)]
                refine oper_append_upd (L := hndL) (N := k) (.const (.slice none 0 0)) (.tmp 85) rfl Try.underlying28 HI.out.1 HI.out.2.1 HI.out.2.2.1 HI.out.2.2.2 rfl ((live.map toI).take k) (Nat.zero_add k) rfl rfl rfl (RowOwn.nil wd w.heap.size) HRt.out HB3.out.size (by unfold maxLen; omega) (by omega) (fun A5 c5 w5 ho5 hu5 hat5 => hK.out _ _ _ (fun W h => h) hS ?_)
                clear hK K
                simp only [Act.put, List.setIfInBounds_toArray, List.set_cons_zero, List.set_cons_succ]
                have hb5 : Below wd.heap.size wd w5 := ⟨hu5.1.os, hu5.1.tape, hu5.1.output, hu5.1.size, fun i hi => hu5.2 i hi (fun e => by cases e)⟩
                have hat : ∀ k', A5 = some ⟨k', 0, none⟩ → k' = wd.heap.size := fun k' e => (hat5 k' e).resolve_left (fun e => by cases e)
                have hnn : (some ⟨tb, toff, none⟩ : Option Addr) ≠ none := by simp
                refine seq_do rfl (fun K hK => ?_)
                rw [if_pos (by rfl)]
                refine oper_append_upd (L := hndL) (N := m - 1) (.tmp 86) (.tmp 90) rfl Try.underlying28 HI.out.1 HI.out.2.1 HI.out.2.2.1 HI.out.2.2.2 rfl ((live.eraseIdx k).map toI) (by omega) HE.out rfl rfl ho5 (HRd.out w5 hb5) (Nat.le_trans HB3.out.size hb5.size) (by unfold maxLen; omega) (by omega) (fun A6 c6 w6 ho6 hu6 _ => hK.out _ _ _ (fun W h => h) hS ?_)
                clear hK K
                simp only [Act.put, List.setIfInBounds_toArray, List.set_cons_zero, List.set_cons_succ]
                have hA5 := HH3.out.ar.bel hb5
                have hM5 := HH3.out.map.below hb5 HH3.out.map.lt
                have hD5 := HD3.out.bel hb5 HD3.out.lt
                have hA6 := hA5.upd hu6 (fun e => by have := hat _ e; have := HH3.out.ar.lt.1; omega) (fun e => by have := hat _ e; have := HH3.out.ar.lt.2; omega)
                have hM6 := hM5.upd hu6 (fun e => by have := hat _ e; have := HH3.out.map.lt; omega)
                have hD6 := hD5.upd hu6 (fun e => by have := hat _ e; have := HD3.out.lt; omega)
                have hB5 := HB3.out.trans (hb5.mono HB3.out.size)
                have hB6 := hB5.trans (hu6.below hB5.size (fun k' e => by have := hat _ e; have := HB3.out.size; omega))
                have HA6 := Lib.hid hA6
                have HM6 := Lib.hid hM6
                have HD6 := Lib.hid hD6
                have HB6 := Lib.hid hB6
                have HT6 := Lib.hid ho6
                have HBs := Lib.hid HH3.out.bse
                have hL0 := HH3.out.inv.held _ (List.mem_of_getElem? hlk)
                simp only at hL0
                have HV := Lib.hid (HH3.out.inv.drop hlk)
                have hgn := HH3.out.inv.gen kn (gn, 1) hL0
                simp only at hgn
                have hO := HH3.out.okS (by omega)
                have hl : liveB L kn gn = true := by rw [liveB_at gn hL0]; simp
                have hdl : dropL L kn gn = L.set kn (gn + 1, 0) := by
                  rw [dropL_at hL0 hl]
                  unfold dropped
                  rw [if_pos rfl, Int.emod_eq_of_lt (by show 0 ≤ gn + 1; omega) (by show gn + 1 < 4294967296; omega)]
                have CD : Hid (∀ W, Ar W b g L → Calls Try.prog 15 #[.pointer (some ⟨b, 0, none⟩), hnV kn gn] W fun e w' => e = .returned (.int .i64 0) ∧ Ar w' b g (L.set kn (gn + 1, 0)) ∧ Upd (· = g) W w') := fun W h => by
                  have := drop_any W b g L kn gn 1 h HLL.out hO (by decide)
                  rw [callE_yes hl, hdl] at this
                  exact this
                obtain ⟨L', hL'⟩ : ∃ L', L.set kn (gn + 1, 0) = L' := ⟨_, rfl⟩
                have hl' : liveB L' kn gn = false := by rw [← hL', liveB_at gn (set_at hL0)]; simp
                have hO' : OkS 1 L' := by rw [← hL']; exact hO.set kn _ ⟨⟨by show 0 ≤ gn + 1; omega, by show gn + 1 < 4294967296; omega⟩, by show (0 : Int) ≤ 0; decide, by show (0 : Int) ≤ 1; decide⟩
                have hN' : L'.length = N := by rw [← hL', List.length_set]; exact hNL.out
                rw [hL'] at CD HV
                have CD2 : Hid (∀ W, Ar W b g L' → Calls Try.prog 15 #[.pointer (some ⟨b, 0, none⟩), hnV kn gn] W fun e w' => e = .returned (.int .i64 7) ∧ Ar w' b g L' ∧ Upd (· = g) W w') := fun W h => by
                  have := drop_any W b g L' kn gn 1 h (by rw [hN']; exact hN2.1) hO' (by decide)
                  rw [callE_no hl', dropL_no hl'] at this
                  exact this
                have CK : Hid (∀ W, Ar W b g L' → Calls Try.prog 13 #[.pointer (some ⟨b, 0, none⟩), hnV kn gn] W fun e w' => e = .returned (.int .i64 7) ∧ Ar w' b g L' ∧ Upd (· = g) W w') := fun W h => by
                  have := keep_any W b g L' kn gn 1 h (by rw [hN']; exact hN2.1) hO' (by decide)
                  rw [callE_no hl', keepL_no hl'] at this
                  exact this
                have CR : Hid (∀ W, Ar W b g L' → Calls Try.prog 17 #[.pointer (some ⟨b, 0, none⟩), hnV kn gn] W fun e w' => e = .returned (.int .i64 0) ∧ Below W.heap.size W w') := fun W h => by
                  have := refs_any W b g L' kn gn 1 h (by rw [hN']; exact hN2.1) hO'
                  rw [refsV_no hl'] at this
                  exact this
                have HNL := Lib.hid hN'
                clear ho5 hu5 hat5 hb5 hat ho6 hu6 hA5 hM5 hD5 hA6 hM6 hD6 hB5 hB6 hL0 hgn hO hl hdl hL' hl' hO' hN' HRt HRd HE HH3 HB3 HD3 hnn hlk
                iterate 1 (refine seq_read (v := _) rfl (fun _ _ _ h => h) hS (Or.inl ⟨by rfl, fun W hW => by go_simp <;> with_reducible rfl⟩) ?_; simp only [Act.put, List.setIfInBounds_toArray, List.set_cons_zero, List.set_cons_succ])
                refine seq_end ?_
                clear ht hf qk
                have d0 := HD6.out.c0
                have d1 := HD6.out.c1
                go_wp2_with fail
                refine (CD.out _ HA6.out).mono ?_
                rintro e w7 ⟨rfl, hA7, hU7⟩
                obtain ⟨HA7, HM7, HT7, HD7, HB7⟩ := once_step (base := w.heap.size) HA6.out hA7 hU7 HM6.out HT6.out HD6.out HB6.out HBs.out.2.1 hR.out
                clear hA7 hU7 HA6 HM6 HT6 HD6 HB6 d0 d1 CD
                have d0 := HD7.out.c0
                have d1 := HD7.out.c1
                go_wp2_with fail
                refine (CD2.out _ HA7.out).mono ?_
                rintro e w8 ⟨rfl, hA8, hU8⟩
                obtain ⟨HA8, HM8, HT8, HD8, HB8⟩ := once_step (base := w.heap.size) HA7.out hA8 hU8 HM7.out HT7.out HD7.out HB7.out HBs.out.2.1 hR.out
                clear hA8 hU8 HA7 HM7 HT7 HD7 HB7 d0 d1 CD2
                have d0 := HD8.out.c0
                have d1 := HD8.out.c1
                go_wp2_with fail
                refine (CK.out _ HA8.out).mono ?_
                rintro e w9 ⟨rfl, hA9, hU9⟩
                obtain ⟨HA9, HM9, HT9, HD9, HB9⟩ := once_step (base := w.heap.size) HA8.out hA9 hU9 HM8.out HT8.out HD8.out HB8.out HBs.out.2.1 hR.out
                clear hA9 hU9 HA8 HM8 HT8 HD8 HB8 d0 d1 CK
                have d0 := HD9.out.c0
                have d1 := HD9.out.c1
                go_wp2_with fail
                refine (CR.out _ HA9.out).mono ?_
                rintro e w10 ⟨rfl, hb10⟩
                have HH10 : Hid (Once w10 w.heap.size b g mb (m - 1) c6 A6 L' (live.eraseIdx k) seen (1 + (i + 1 : Nat))) := ⟨HA9.out.bel hb10, HM9.out.below hb10 HM9.out.lt, HT9.out.bel hb10, HV.out.more (by omega), HBs.out⟩
                have HB10 := Lib.hid (HB9.out.trans (hb10.mono HB9.out.size))
                clear hb10 d0 d1 HA9 HM9 HT9 HD9 HB9 CR
                go_wp2
                go_roundw
                case rel => exact ⟨i + 1, m - 1, c6, A6, L', live.eraseIdx k, seen, by omega, by omega, by omega, by go_num, rfl, HH10, HNL, HB10⟩
                case measure => simp [intOf]; omega
        · rw [e1, e2, e3] at CT
          refine CT.out.mono ?_
          rintro e w2 ⟨rfl, hA2, hU2⟩
          obtain ⟨hm2, ht2, hb2⟩ := hH.out.call (N' := 0) (live' := []) hA2 hU2
          obtain ⟨hnew, hinv⟩ := hH.out.inv.take hk
          have hbo := (Below.refl w2.heap.size w2).alloc (Nat.le_refl _) (hnO k x)
          have hA3 := hA2.bel hbo
          have hm3 := hm2.below hbo hm2.lt
          have ht3 := ht2.bel hbo
          have HA3 := Lib.hid hA3
          have HM3 := Lib.hid hm3
          have HT3 := Lib.hid ht3
          have HV := Lib.hid hinv.swap
          have HB3 := Lib.hid ((hB.out.trans hb2).alloc (hB.out.trans hb2).size (hnO k x))
          have HD3 := Lib.hid (HBlk.new w2 (k : Int) x)
          have HR : Hid (b < w2.heap.size ∧ g < w2.heap.size ∧ mb < w2.heap.size) := ⟨hA2.lt.1, hA2.lt.2, hm2.lt⟩
          have HT : Hid (∀ {k : Nat}, A = some ⟨k, 0, none⟩ → k < w2.heap.size) := fun {k} hk => (ht2.lt_at hk).2
          have HBs := Lib.hid hH.out.bse
          have HQ := Lib.hid (show ((k : Int), x) ∉ seen.map toI from fun h => by
            obtain ⟨h', h1, h2⟩ := List.mem_map.1 h
            exact hnew (toI_inj (k := (k, x)) h2 ▸ h1))
          have hxx := (hH.out.okS (by omega)).at_ hk
          have hO3 : OkS 1 (L.set k (x, 1)) := (hH.out.okS (by omega)).set k _ ⟨hxx.1, by show (0 : Int) ≤ 1; decide, by show (1 : Int) ≤ 1; decide⟩
          have hk3 : (L.set k (x, 1))[k]? = some (x, 1) := set_at hk
          have hl3 : liveB (L.set k (x, 1)) k x = true := by rw [liveB_at x hk3]; simp
          have CR : Hid (∀ W, Ar W b g (L.set k (x, 1)) → Calls Try.prog 17 #[.pointer (some ⟨b, 0, none⟩), hnV k x] W fun e w' => e = .returned (.int .i64 1) ∧ Below W.heap.size W w') := fun W h => by
            have := refs_any W b g (L.set k (x, 1)) k x 1 h (by rw [List.length_set]; exact HLL.out) hO3
            rw [refsV_at hk3 hl3] at this
            exact this
          clear hA2 hU2 hm2 ht2 hb2 hbo hA3 hm3 ht3 CT hH hB e1 e2 e3 hnew hinv hk hxx hO3 hk3 hl3
          obtain ⟨r, hr⟩ : ∃ r, w2.heap.size = r := ⟨_, rfl⟩
          obtain ⟨w3, hw3⟩ : ∃ w3, w2.alloc (hnO k x) = w3 := ⟨_, rfl⟩
          rw [hr] at HD3 HR HT
          rw [hw3] at HA3 HM3 HT3 HB3 HD3
          have ql := HM3.out.look keyF (k : Int) x
          rw [decide_eq_false HQ.out] at ql
          have d0 := HD3.out.c0
          have d1 := HD3.out.c1
          go_upto_if 33 with fail
          clear hr hw3
          go_cut [7] from 17 to 113 (fun sT wc => ∃ (m' cA' : Nat) (A' : Option Addr) (L' : List Slt) (live' seen' : List (Nat × Int)) (s' g' : Int), sT = .slice A' m' cA' ∧ m' ≤ i + 1 ∧ Hid (Once wc w.heap.size b g mb m' cA' A' L' live' seen' (1 + i)) ∧ Hid (L'.length = N) ∧ Hid (Below w.heap.size w wc) ∧ Hid (HBlk wc r s' g') ∧ Hid (b < r ∧ g < r ∧ mb < r) ∧ Hid (∀ {k : Nat}, A' = some ⟨k, 0, none⟩ → k ≠ r))
          case first =>
            go_wp2_with fail
            refine (CR.out _ HA3.out).mono ?_
            rintro e w4 ⟨rfl, hb4⟩
            have hM4 := HM3.out.below hb4 HM3.out.lt
            obtain ⟨w5, hmu, hM5, hoff, hbm⟩ := hM4.more keyF (k : Int) x HQ.out
            have hu5 : Upd (· = mb) w4 w5 := ⟨hbm.mono (Nat.zero_le _), fun i _ hi => hoff i hi⟩
            have hA4 := HA3.out.bel hb4
            have hT4 := HT3.out.bel hb4
            have hD4 := HD3.out.bel hb4 HD3.out.lt
            have hmne : mb ≠ b ∧ mb ≠ g ∧ mb ≠ r := by
              obtain ⟨es, clock, h1, -⟩ := hM4
              have h2 := hA4.blk
              have h3 : w4.heap[g]? = _ := hA4.row
              have h4 : w4.heap[r]? = _ := hD4
              refine ⟨?_, ?_, ?_⟩
              · rintro rfl; rw [h1] at h2; cases h2
              · rintro rfl; rw [h1] at h3; cases h3
              · rintro rfl; rw [h1] at h4; cases h4
            have hTm : A ≠ some ⟨mb, 0, none⟩ := by
              rintro rfl
              obtain ⟨es, clock, h1, -⟩ := hM4
              rcases hT4.2.2.2 with ⟨e, -⟩ | ⟨g', T, e, hbg, hk, hl⟩
              · cases e
              · obtain rfl : mb = g' := by simpa using e
                rw [h1] at hk
                cases hk
            have hA5 := hA4.upd hu5 (by show b ≠ mb; exact fun e => hmne.1 e.symm) (by show g ≠ mb; exact fun e => hmne.2.1 e.symm)
            have hT5 := hT4.upd hu5 (fun k hk e => hTm (by rw [← e]; exact hk))
            have hD5 := hD4.upd hu5 (by show r ≠ mb; exact fun e => hmne.2.2 e.symm)
            have hB5 := (HB3.out.trans (hb4.mono HB3.out.size)).trans (hu5.below (Nat.le_trans HB3.out.size hb4.size) (fun k hk => hk ▸ HBs.out.2.2))
            have c0 := hD4.c0
            have c1 := hD4.c1
            have e0 := hD5.c0
            have e1 := hD5.c1
            have hbo := (Below.refl w5.heap.size w5).alloc (Nat.le_refl _) (hnO k x)
            have HA6 := Lib.hid (hA5.bel hbo)
            have HM6 := Lib.hid (hM5.below hbo hM5.lt)
            have HT6 := Lib.hid (hT5.bel hbo)
            have HD6 := Lib.hid (hD5.bel hbo hD5.lt)
            have HB6 := Lib.hid (hB5.alloc hB5.size (hnO k x))
            have HRD := Lib.hid (one_rec hndL w5 ((k : Int), x))
            clear hM4 hoff hbm hu5 hA4 hT4 hD4 hmne hTm hA5 hT5 hD5 hB5 hbo hb4 hM5 d0 d1 ql HA3 HM3 HT3 HB3 HD3 CR
            go_wp2_with (at_builtin; refine wpList_append_upd (L := hndL) (N := m + 1) (by rfl) (.tmp 45) (.tmp 47) rfl Try.underlying28 HI.out.1 HI.out.2.1 HI.out.2.2.1 HI.out.2.2.2 rfl (live.map toI ++ [((k : Int), x)]) rfl rfl rfl rfl HT6.out HRD.out HB6.out.size (by unfold maxLen; omega) (by omega) ?_; intro A7 c7 w7 ho7 hu7 hat7)
            have HH7 : Hid (Once w7 w.heap.size b g mb (m + 1) c7 A7 (L.set k (x, 1)) (live ++ [(k, x)]) (seen ++ [(k, x)]) (1 + i)) :=
              ⟨HA6.out.upd hu7 (fun e => HT6.out.not_at HA6.out.blk (by decide) e) (fun e => HT6.out.not_at HA6.out.row (by decide) e),
               by
                obtain ⟨es, clock, h1, h2⟩ := HM6.out
                refine ⟨es, clock, hu7.keep h1 (fun e => ?_), ?_⟩
                · rcases HT6.out.2.2.2 with ⟨e', -⟩ | ⟨g', T, e', hbg, hk, hl⟩
                  · rw [e'] at e; cases e
                  · rw [e] at e'
                    obtain rfl : mb = g' := by simpa using e'
                    rw [h1] at hk
                    cases hk
                · rw [h2]; simp [toI],
               by rw [List.map_append]; exact ho7, HV.out, HBs.out⟩
            have HD7 := Lib.hid (HD6.out.upd hu7 (fun e => by have := HT.out e; omega))
            have HB7 := Lib.hid (HB6.out.trans (hu7.below HB6.out.size (fun k hk => (HT6.out.lt_at hk).1)))
            have HT7 : Hid (∀ {k : Nat}, A7 = some ⟨k, 0, none⟩ → k ≠ r) := fun {k'} e er => by
              rcases hat7 k' e with h | h
              · have := HT.out h; omega
              · exact Nat.ne_of_gt HD6.out.lt (h.symm.trans er)
            clear ho7 hu7 hat7
            go_meet
            case rel => exact ⟨m + 1, c7, A7, L.set k (x, 1), live ++ [(k, x)], seen ++ [(k, x)], k, x, rfl, by omega, HH7, Lib.hid (by rw [List.length_set]; exact hNL.out), HB7, HD7, HR, HT7⟩
          case rest =>
            clear HA3 HM3 HT3 HB3 HD3 HR HT CR HV HQ ql d0 d1

            obtain ⟨m, cA, A, L, live, seen, s0, g0, rfl, hmi, hH, hNL, hB, hD, hR, hT⟩ := hcut
            have e0 := HD.out wc hB.out
            have HLL := Lib.hid (show L.length ≤ 1024 from by rw [hNL.out]; exact hN2.1)
            have hqm := i64_mask dx 1 (by decide)
            rw [show (2 : Int) ^ 1 - 1 = 1 from by decide, show (2 : Int) ^ 1 = 2 from by decide] at hqm
            have hMore : Hid (Once wc w.heap.size b g mb m cA A L live seen (1 + (i + 1 : Nat))) := ⟨hH.out.ar, hH.out.map, hH.out.told, hH.out.inv.more (by omega), hH.out.bse⟩
            by_cases hp : dx % 2 = 0
            · have q0 : (dx % 2 == 0) = true := by simp [hp]
              clear hp hH
              go_wp2
              go_roundw
              case rel => exact ⟨i + 1, m, cA, A, L, live, seen, by omega, by omega, hmi, by go_num, rfl, hMore, hNL, hB⟩
              case measure => simp [intOf]; omega
            · have q0 : (dx % 2 == 0) = false := by simp [hp]
              clear hp
              by_cases hm0 : m = 0
              · have q1 : ((m : Int) == 0) = true := by simp [hm0]
                clear hm0 hH
                go_wp2
                go_roundw
                case rel => exact ⟨i + 1, m, cA, A, L, live, seen, by omega, by omega, hmi, by go_num, rfl, hMore, hNL, hB⟩
                case measure => simp [intOf]; omega
              · have q1 : ((m : Int) == 0) = false := by simp [hm0]
                have q2 : ¬ (m : Int) = 0 := by omega
                have hq2 := i64_mask (dx / 2) 16 (by decide)
                rw [show (2 : Int) ^ 16 - 1 = 65535 from by decide, show (2 : Int) ^ 16 = 65536 from by decide] at hq2
                have hy : 0 ≤ dx / 2 % 65536 := by omega
                generalize dx / 2 % 65536 = y at *
                obtain ⟨yn, rfl⟩ := Int.eq_ofNat_of_zero_le hy
                have hqt : ((yn : Int).tmod m) = ((yn % m : Nat) : Int) := by rw [Int.ofNat_tmod]
                have hk : yn % m < m := Nat.mod_lt _ (by omega)
                generalize yn % m = k at *
                clear hMore
                obtain ⟨tb, toff, x, rfl, -, hx, c0, c1⟩ := hnd_at hH.out.told.rd hk
                obtain ⟨⟨kn, gn⟩, hlk, rfl⟩ : ∃ h, live[k]? = some h ∧ toI h = x := by
                  rw [List.getElem?_map] at hx
                  cases hl : live[k]? with
                  | none => rw [hl] at hx; cases hx
                  | some h => rw [hl] at hx; exact ⟨h, rfl, Option.some.inj hx⟩
                have hkk : decide (k < m) = true := by simp; exact hk
                have f0 := hD.out.frozen 0
                have f1 := hD.out.frozen 1
                have d0 := hD.out.c0
                have d1 := hD.out.c1
                simp only [toI] at c0 c1
                clear hx
                obtain ⟨w2, hw2⟩ : ∃ w2, (wc.setCell ⟨r, 0, none⟩ (.int .i64 (kn : Int))).setCell ⟨r, 1, none⟩ (.int .u32 gn) = w2 := ⟨_, rfl⟩
                have hu2 : Upd (· = r) wc w2 := hw2 ▸ ((Upd.refl (· = r) wc).setCell (b := r) (i := 0) (.inl rfl) (.int .i64 (kn : Int))).setCell (b := r) (i := 1) (.inl rfl) (.int .u32 gn)
                have hD2 : HBlk w2 r kn gn := hw2 ▸ hD.out.store (kn : Int) gn
                have hH2 : Once w2 w.heap.size b g mb m cA (some ⟨tb, toff, none⟩) L live seen (1 + i) := ⟨hH.out.ar.upd hu2 (by show b ≠ r; have := hR.out; omega) (by show g ≠ r; have := hR.out; omega), hH.out.map.upd hu2 (by show mb ≠ r; have := hR.out; omega), hH.out.told.upd hu2 (fun k' hk' e => hT.out hk' e), hH.out.inv, hH.out.bse⟩
                have hrw : w.heap.size ≤ r := by have := hR.out; have := hH.out.bse; omega
                have hB2 := hB.out.trans (hu2.below hB.out.size (fun k' hk' => by have h2 : k' = r := hk'; omega))
                have HH2 := Lib.hid hH2
                have HB2 := Lib.hid hB2
                have HD2 := Lib.hid hD2
                clear hu2 hD2 hH2 hB2 hH hB hD hrw hT
                go_upto_region 20 with (fail)
                clear hw2 c0 c1 d0 d1 f0 f1 e0 q0 hqm hq2 hqt
                obtain ⟨wd, hwd⟩ : ∃ wd, w2.drew = wd := ⟨_, rfl⟩
                have hH3 : Once wd w.heap.size b g mb m cA (some ⟨tb, toff, none⟩) L live seen (1 + i) := hwd ▸ HH2.out.bel (Below.refl _ _).drew
                have hB3 : Below w.heap.size w wd := hwd ▸ HB2.out.drew
                have hD3 : HBlk wd r kn gn := hwd ▸ HD2.out
                have hmc : m ≤ cA := hH3.told.2.1
                have ht := rec_to (P := Try.prog) (t := 28) (e := 31) Try.underlying28 (by kernel_rfl) HI.out.1 HI.out.2.2.1 (some ⟨tb, toff, none⟩) m cA k k rfl (by omega)
                obtain ⟨X, hX, hf⟩ := rec_from (P := Try.prog) (t := 28) (e := 31) Try.underlying28 (by kernel_rfl) HI.out.1 HI.out.2.2.1 (some ⟨tb, toff, none⟩) m cA (k + 1) ((k : Int) + 1) (by omega) (by omega)
                have qk : IntKind.i64.wrap ((k : Int) + 1) = (k : Int) + 1 := IntWalk.i64_in _ (by omega)
                have HRt := Lib.hid (row_take hH3.told.rd (show k ≤ m from by omega))
                have HRd := Lib.hid (fun W (h : Below wd.heap.size wd W) => (row_drop hH3.told.rd (show k + 1 ≤ m from by omega) hmc hX).below h)
                have HE := Lib.hid (show (live.map toI).take k ++ (live.map toI).drop (k + 1) = (live.eraseIdx k).map toI from by rw [List.eraseIdx_eq_take_drop_succ, List.map_append, List.map_take, List.map_drop])
                have HH3 := Lib.hid hH3
                have HB3 := Lib.hid hB3
                have HD3 := Lib.hid hD3
                clear hH3 hB3 hD3 HH2 HB2 HD2 hX
                have hS : True := trivial
                refine region_seq (fun _ => True) [(0, false), (1, false), (2, false), (4, false), (5, false), (6, false), (7, false), (3, true), (8, true), (9, false)] (by kernel_rfl) (by kernel_rfl) rfl (by kernel_rfl) ?_
                rw [hwd]
                clear hwd
                iterate 7 (refine seq_read (v := _) rfl (fun _ _ _ h => h) hS (Or.inl ⟨by rfl, fun W hW => by go_simp <;> with_reducible rfl⟩) ?_; simp only [Act.put, List.setIfInBounds_toArray, List.set_cons_zero, List.set_cons_succ])
                refine seq_do rfl (fun K hK => ?_)
                rw [if_pos (by rfl)]
                refine oper_append_upd (L := hndL) (N := k) (.const (.slice none 0 0)) (.tmp 85) rfl Try.underlying28 HI.out.1 HI.out.2.1 HI.out.2.2.1 HI.out.2.2.2 rfl ((live.map toI).take k) (Nat.zero_add k) rfl rfl rfl (RowOwn.nil wd w.heap.size) HRt.out HB3.out.size (by unfold maxLen; omega) (by omega) (fun A5 c5 w5 ho5 hu5 hat5 => hK.out _ _ _ (fun W h => h) hS ?_)
                clear hK K
                simp only [Act.put, List.setIfInBounds_toArray, List.set_cons_zero, List.set_cons_succ]
                have hb5 : Below wd.heap.size wd w5 := ⟨hu5.1.os, hu5.1.tape, hu5.1.output, hu5.1.size, fun i hi => hu5.2 i hi (fun e => by cases e)⟩
                have hat : ∀ k', A5 = some ⟨k', 0, none⟩ → k' = wd.heap.size := fun k' e => (hat5 k' e).resolve_left (fun e => by cases e)
                have hnn : (some ⟨tb, toff, none⟩ : Option Addr) ≠ none := by simp
                refine seq_do rfl (fun K hK => ?_)
                rw [if_pos (by rfl)]
                refine oper_append_upd (L := hndL) (N := m - 1) (.tmp 86) (.tmp 90) rfl Try.underlying28 HI.out.1 HI.out.2.1 HI.out.2.2.1 HI.out.2.2.2 rfl ((live.eraseIdx k).map toI) (by omega) HE.out rfl rfl ho5 (HRd.out w5 hb5) (Nat.le_trans HB3.out.size hb5.size) (by unfold maxLen; omega) (by omega) (fun A6 c6 w6 ho6 hu6 _ => hK.out _ _ _ (fun W h => h) hS ?_)
                clear hK K
                simp only [Act.put, List.setIfInBounds_toArray, List.set_cons_zero, List.set_cons_succ]
                have hA5 := HH3.out.ar.bel hb5
                have hM5 := HH3.out.map.below hb5 HH3.out.map.lt
                have hD5 := HD3.out.bel hb5 HD3.out.lt
                have hA6 := hA5.upd hu6 (fun e => by have := hat _ e; have := HH3.out.ar.lt.1; omega) (fun e => by have := hat _ e; have := HH3.out.ar.lt.2; omega)
                have hM6 := hM5.upd hu6 (fun e => by have := hat _ e; have := HH3.out.map.lt; omega)
                have hD6 := hD5.upd hu6 (fun e => by have := hat _ e; have := HD3.out.lt; omega)
                have hB5 := HB3.out.trans (hb5.mono HB3.out.size)
                have hB6 := hB5.trans (hu6.below hB5.size (fun k' e => by have := hat _ e; have := HB3.out.size; omega))
                have HA6 := Lib.hid hA6
                have HM6 := Lib.hid hM6
                have HD6 := Lib.hid hD6
                have HB6 := Lib.hid hB6
                have HT6 := Lib.hid ho6
                have HBs := Lib.hid HH3.out.bse
                have hL0 := HH3.out.inv.held _ (List.mem_of_getElem? hlk)
                simp only at hL0
                have HV := Lib.hid (HH3.out.inv.drop hlk)
                have hgn := HH3.out.inv.gen kn (gn, 1) hL0
                simp only at hgn
                have hO := HH3.out.okS (by omega)
                have hl : liveB L kn gn = true := by rw [liveB_at gn hL0]; simp
                have hdl : dropL L kn gn = L.set kn (gn + 1, 0) := by
                  rw [dropL_at hL0 hl]
                  unfold dropped
                  rw [if_pos rfl, Int.emod_eq_of_lt (by show 0 ≤ gn + 1; omega) (by show gn + 1 < 4294967296; omega)]
                have CD : Hid (∀ W, Ar W b g L → Calls Try.prog 15 #[.pointer (some ⟨b, 0, none⟩), hnV kn gn] W fun e w' => e = .returned (.int .i64 0) ∧ Ar w' b g (L.set kn (gn + 1, 0)) ∧ Upd (· = g) W w') := fun W h => by
                  have := drop_any W b g L kn gn 1 h HLL.out hO (by decide)
                  rw [callE_yes hl, hdl] at this
                  exact this
                obtain ⟨L', hL'⟩ : ∃ L', L.set kn (gn + 1, 0) = L' := ⟨_, rfl⟩
                have hl' : liveB L' kn gn = false := by rw [← hL', liveB_at gn (set_at hL0)]; simp
                have hO' : OkS 1 L' := by rw [← hL']; exact hO.set kn _ ⟨⟨by show 0 ≤ gn + 1; omega, by show gn + 1 < 4294967296; omega⟩, by show (0 : Int) ≤ 0; decide, by show (0 : Int) ≤ 1; decide⟩
                have hN' : L'.length = N := by rw [← hL', List.length_set]; exact hNL.out
                rw [hL'] at CD HV
                have CD2 : Hid (∀ W, Ar W b g L' → Calls Try.prog 15 #[.pointer (some ⟨b, 0, none⟩), hnV kn gn] W fun e w' => e = .returned (.int .i64 7) ∧ Ar w' b g L' ∧ Upd (· = g) W w') := fun W h => by
                  have := drop_any W b g L' kn gn 1 h (by rw [hN']; exact hN2.1) hO' (by decide)
                  rw [callE_no hl', dropL_no hl'] at this
                  exact this
                have CK : Hid (∀ W, Ar W b g L' → Calls Try.prog 13 #[.pointer (some ⟨b, 0, none⟩), hnV kn gn] W fun e w' => e = .returned (.int .i64 7) ∧ Ar w' b g L' ∧ Upd (· = g) W w') := fun W h => by
                  have := keep_any W b g L' kn gn 1 h (by rw [hN']; exact hN2.1) hO' (by decide)
                  rw [callE_no hl', keepL_no hl'] at this
                  exact this
                have CR : Hid (∀ W, Ar W b g L' → Calls Try.prog 17 #[.pointer (some ⟨b, 0, none⟩), hnV kn gn] W fun e w' => e = .returned (.int .i64 0) ∧ Below W.heap.size W w') := fun W h => by
                  have := refs_any W b g L' kn gn 1 h (by rw [hN']; exact hN2.1) hO'
                  rw [refsV_no hl'] at this
                  exact this
                have HNL := Lib.hid hN'
                clear ho5 hu5 hat5 hb5 hat ho6 hu6 hA5 hM5 hD5 hA6 hM6 hD6 hB5 hB6 hL0 hgn hO hl hdl hL' hl' hO' hN' HRt HRd HE HH3 HB3 HD3 hnn hlk
                iterate 1 (refine seq_read (v := _) rfl (fun _ _ _ h => h) hS (Or.inl ⟨by rfl, fun W hW => by go_simp <;> with_reducible rfl⟩) ?_; simp only [Act.put, List.setIfInBounds_toArray, List.set_cons_zero, List.set_cons_succ])
                refine seq_end ?_
                clear ht hf qk
                have d0 := HD6.out.c0
                have d1 := HD6.out.c1
                go_wp2_with fail
                refine (CD.out _ HA6.out).mono ?_
                rintro e w7 ⟨rfl, hA7, hU7⟩
                obtain ⟨HA7, HM7, HT7, HD7, HB7⟩ := once_step (base := w.heap.size) HA6.out hA7 hU7 HM6.out HT6.out HD6.out HB6.out HBs.out.2.1 hR.out
                clear hA7 hU7 HA6 HM6 HT6 HD6 HB6 d0 d1 CD
                have d0 := HD7.out.c0
                have d1 := HD7.out.c1
                go_wp2_with fail
                refine (CD2.out _ HA7.out).mono ?_
                rintro e w8 ⟨rfl, hA8, hU8⟩
                obtain ⟨HA8, HM8, HT8, HD8, HB8⟩ := once_step (base := w.heap.size) HA7.out hA8 hU8 HM7.out HT7.out HD7.out HB7.out HBs.out.2.1 hR.out
                clear hA8 hU8 HA7 HM7 HT7 HD7 HB7 d0 d1 CD2
                have d0 := HD8.out.c0
                have d1 := HD8.out.c1
                go_wp2_with fail
                refine (CK.out _ HA8.out).mono ?_
                rintro e w9 ⟨rfl, hA9, hU9⟩
                obtain ⟨HA9, HM9, HT9, HD9, HB9⟩ := once_step (base := w.heap.size) HA8.out hA9 hU9 HM8.out HT8.out HD8.out HB8.out HBs.out.2.1 hR.out
                clear hA9 hU9 HA8 HM8 HT8 HD8 HB8 d0 d1 CK
                have d0 := HD9.out.c0
                have d1 := HD9.out.c1
                go_wp2_with fail
                refine (CR.out _ HA9.out).mono ?_
                rintro e w10 ⟨rfl, hb10⟩
                have HH10 : Hid (Once w10 w.heap.size b g mb (m - 1) c6 A6 L' (live.eraseIdx k) seen (1 + (i + 1 : Nat))) := ⟨HA9.out.bel hb10, HM9.out.below hb10 HM9.out.lt, HT9.out.bel hb10, HV.out.more (by omega), HBs.out⟩
                have HB10 := Lib.hid (HB9.out.trans (hb10.mono HB9.out.size))
                clear hb10 d0 d1 HA9 HM9 HT9 HD9 HB9 CR
                go_wp2
                go_roundw
                case rel => exact ⟨i + 1, m - 1, c6, A6, L', live.eraseIdx k, seen, by omega, by omega, by omega, by go_num, rfl, HH10, HNL, HB10⟩
                case measure => simp [intOf]; omega
      · have hd1 : decide (i < len) = true := by simp; exact hlt
        have hd2 : decide ((i : Int) < 80) = false := by simp; omega
        have CF := Lib.hid (free_any wx b g L hH.out.ar (by rw [hNL.out]; exact hN2.1))
        have HC := Lib.hid (show ((freeN L : Nat) : Int) = (N : Int) - (m : Int) from by
          have h1 := hH.out.inv.cnt
          have h2 := hH.out.len
          have h3 := hNL.out
          omega)
        have hmN : m ≤ N := by
          have h1 := hH.out.inv.cnt
          have h2 := hH.out.len
          have h3 := hNL.out
          omega
        have qs : IntKind.i64.wrap ((N : Int) - (m : Int)) = (N : Int) - (m : Int) := IntWalk.i64_in _ (by omega)
        rw [HC.out] at CF
        go_wp2_with fail
        refine CF.out.mono ?_
        rintro e w3 ⟨rfl, hb3⟩
        have CSl := Lib.hid (slots_any w3 b g L (hH.out.ar.bel hb3) (by rw [hNL.out]; exact hN2.1))
        have HB3 := Lib.hid (hB.out.trans (hb3.mono hB.out.size))
        clear hb3 hB hH CF HC
        go_wp2_with fail
        refine CSl.out.mono ?_
        rintro e w4 ⟨A2, c2, rfl, -, hb⟩
        rw [hNL.out]
        have HB4 := Lib.hid (HB3.out.trans (hb.mono HB3.out.size))
        clear hb HB3 CSl
        go_wp2_with fail
        go_ret
        exact ⟨by simp, HB4.out⟩
    · have hd1 : decide (i < len) = false := by simp; omega
      have CF := Lib.hid (free_any wx b g L hH.out.ar (by rw [hNL.out]; exact hN2.1))
      have HC := Lib.hid (show ((freeN L : Nat) : Int) = (N : Int) - (m : Int) from by
        have h1 := hH.out.inv.cnt
        have h2 := hH.out.len
        have h3 := hNL.out
        omega)
      have hmN : m ≤ N := by
        have h1 := hH.out.inv.cnt
        have h2 := hH.out.len
        have h3 := hNL.out
        omega
      have qs : IntKind.i64.wrap ((N : Int) - (m : Int)) = (N : Int) - (m : Int) := IntWalk.i64_in _ (by omega)
      rw [HC.out] at CF
      go_wp2_with fail
      refine CF.out.mono ?_
      rintro e w3 ⟨rfl, hb3⟩
      have CSl := Lib.hid (slots_any w3 b g L (hH.out.ar.bel hb3) (by rw [hNL.out]; exact hN2.1))
      have HB3 := Lib.hid (hB.out.trans (hb3.mono hB.out.size))
      clear hb3 hB hH CF HC
      go_wp2_with fail
      refine CSl.out.mono ?_
      rintro e w4 ⟨A2, c2, rfl, -, hb⟩
      rw [hNL.out]
      have HB4 := Lib.hid (HB3.out.trans (hb.mono HB3.out.size))
      clear hb HB3 CSl
      go_wp2_with fail
      go_ret
      exact ⟨by simp, HB4.out⟩
end Go.Proofs.Ytachodjpiklpkaa.Arn
