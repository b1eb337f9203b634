/- The contract of the reference's body: an item's bytes behind its head. · The contract of the reference's body, the other kinds. -/
import Derived.Test.YthmmafpmpnhleaaQc
import Derived.Test.YthmmafpmpnhleaaXh
set_option maxRecDepth 100000
namespace Go.Proofs.Ythmmafpmpnhleaa.Fbk
open Go.RowKit
set_option linter.unusedVariables false

theorem blosB_snoc' (l : List Blo) (x : Blo) : blosB (l ++ [x]) = blosB l ++ bloB x := by
  induction l with
  | nil => simp [blosB]
  | cons y r ih => simp [blosB, ih]
theorem bes_snoc (l : List Int) (x : Int) : bes (l ++ [x]) = bes l ++ be 4 x := by
  induction l with
  | nil => simp [bes]
  | cons y r ih => simp [bes, ih]
theorem pairsB_snoc (l : List (Int × Int)) (x : Int × Int) : pairsB (l ++ [x]) = pairsB l ++ (be 2 x.1 ++ be 2 x.2) := by
  induction l with
  | nil => simp [pairsB]
  | cons y r ih => simp [pairsB, ih]
/-- What stands while an item's bytes are gathered. -/
structure BS (w W : World) (v : IV) (A : Option Addr) (N c : Nat) (ds : List Int) : Prop where
  below : Below w.heap.size w W
  res : IBlk W w.heap.size v
  own : Own W w.heap.size A N c ds
section
variable {w W W' : World} {v : IV} {A : Option Addr} {N c : Nat} {ds : List Int}
theorem BS.bel (p : BS w W v A N c ds) (hb : Below W.heap.size W W') : BS w W' v A N c ds := ⟨p.below.trans (hb.mono p.below.size), p.res.bel hb, p.own.below hb (Nat.le_refl _)⟩
theorem own_lower {base base' : Nat} (h : Own W base A N c ds) (hb : base' ≤ base) : Own W base' A N c ds := by
  obtain ⟨h1, h2, h3, h4, h5⟩ := h
  refine ⟨h1, h2, h3, h4, ?_⟩
  rcases h5 with h5 | ⟨g, T, rfl, hg, hk, hl⟩
  · exact .inl h5
  · exact .inr ⟨g, T, rfl, by omega, hk, hl⟩
theorem BS.app (p : BS w W v A N c ds) (s : Nat) (n : Int) (h1 : 1 ≤ s) (h2 : s ≤ 8) (hN : ds.length ≤ 140737488351232) (hn : 0 ≤ n) (hn2 : n ≤ 18446744073709551615) (hf : n < 256 ^ s) :
    Calls Try.prog 35 #[.slice A N c, .int .i64 s, .int .u64 n] W fun e W' => ∃ A' N' c', e = .returned (.slice A' N' c') ∧ BS w W' v A' N' c' (ds ++ be s n) ∧ Below W.heap.size W W' := by
  have hl := p.own.len
  have e1 : numApp ds s n = ds ++ be s n := by
    rw [numApp, show sizeB s = true from by simp [sizeB]; omega, show fitsB s n = true from by simp [fitsB, hf]]; simp
  refine (R1.rappend_any A N c W.heap.size s n ds W (by omega) p.own.rd (Nat.le_refl _) hn hn2).mono ?_
  rw [e1]
  rintro e W' ⟨A', c', rfl, ho, hb⟩
  exact ⟨A', _, c', rfl, ⟨p.below.trans (hb.mono p.below.size), p.res.bel hb, own_lower ho p.below.size⟩, hb⟩
end

set_option maxRecDepth 100000 in
set_option maxHeartbeats 16000000 in
theorem body_200 (v : IV) (bn gn pn : Nat) (xs : List Blo) (gs : List Int) (ps : List (Int × Int)) (w : World) (hkind : v.kind = 200) (hbn : v.bn = bn) (hgn : v.gn = gn) (hpn : v.pn = pn) (hr : RowRd bloL w w.heap.size v.ba bn xs) (hg : Wd w w.heap.size v.ga gn gs) (hp : RowRd pairL w w.heap.size v.pa pn ps)
    (hxo : ∀ x ∈ xs, x.Ok) (hxt : ∀ x ∈ xs, x.total < 16777216) (hpo : ∀ x ∈ ps, U16 x.1 ∧ U16 x.2) (h1 : U32 v.ssrc) (h2 : 0 ≤ v.ntp ∧ v.ntp ≤ 18446744073709551615) (h3 : U32 v.time) (h4 : U32 v.pks) (h5 : U32 v.ocs) (h8 : U32 v.media)
    (hl1 : bn ≤ 1000) (hl2 : gn ≤ 1000) (hl3 : pn ≤ 1000) (ys : List Int) (hys : Hid (ys = ((((((([] ++ be 4 v.ssrc) ++ be 8 v.ntp) ++ be 4 v.time) ++ be 4 v.pks) ++ be 4 v.ocs) ++ blosB xs) ++ bes gs) ++ pairsB ps)) :
    Calls Try.prog 65 #[itm v] w (NewRow w ys) := by
  have HK := Lib.hid hkind
  have HBN := Lib.hid hbn
  have HGN := Lib.hid hgn
  have HPN := Lib.hid hpn
  have HR := Lib.hid hr
  have HG := Lib.hid hg
  have HP := Lib.hid hp
  have HXO := Lib.hid hxo
  have HXT := Lib.hid hxt
  have HPO := Lib.hid hpo
  have qssrc : IntKind.u64.wrap v.ssrc = v.ssrc := wrap_u64 _ ⟨h1.1, by have := h1.2; omega⟩
  have qtime : IntKind.u64.wrap v.time = v.time := wrap_u64 _ ⟨h3.1, by have := h3.2; omega⟩
  have qpks : IntKind.u64.wrap v.pks = v.pks := wrap_u64 _ ⟨h4.1, by have := h4.2; omega⟩
  have qocs : IntKind.u64.wrap v.ocs = v.ocs := wrap_u64 _ ⟨h5.1, by have := h5.2; omega⟩
  have qmedia : IntKind.u64.wrap v.media = v.media := wrap_u64 _ ⟨h8.1, by have := h8.2; omega⟩
  have H1 := Lib.hid h1
  have H2 := Lib.hid h2
  have H3 := Lib.hid h3
  have H4 := Lib.hid h4
  have H5 := Lib.hid h5
  have H8 := Lib.hid h8
  have P0 : BS w (w.alloc (iobj v)) v none 0 0 [] := ⟨(Below.refl _ _).alloc (Nat.le_refl _) _, IBlk.new w v, Own.nil _ _⟩
  have HP0 := Lib.hid P0
  have c0 := P0.res.c0
  rw [HK.out] at c0
  have c1 := P0.res.c1
  clear P0 hkind hbn hgn hpn hr hg hp hxo hxt hpo h1 h2 h3 h4 h5 h8
  go_enter Try.func65, Try.ntmps65
  go_wp2_with fail
  refine (HP0.out.app 4 v.ssrc (by omega) (by omega) (by simp) H1.out.1 (by have := H1.out.2; omega) (by have := H1.out.2; omega)).mono ?_
  rintro e w1 ⟨A1, N1, k1, rfl, P1, -⟩
  have HP1 := Lib.hid P1
  clear c0 c1 HP0
  have c0 := P1.res.c0
  rw [HK.out] at c0
  have c2 := P1.res.c2
  clear P1
  go_wp2_with fail
  refine (HP1.out.app 8 v.ntp (by omega) (by omega) (by simp only [List.length_append, be_length, List.length_nil]; omega) H2.out.1 (by have := H2.out.2; omega) (by have := H2.out.2; omega)).mono ?_
  rintro e w2 ⟨A2, N2, k2, rfl, P2, -⟩
  have HP2 := Lib.hid P2
  clear c0 c2 HP1
  have c0 := P2.res.c0
  rw [HK.out] at c0
  have c3 := P2.res.c3
  clear P2
  go_wp2_with fail
  refine (HP2.out.app 4 v.time (by omega) (by omega) (by simp only [List.length_append, be_length, List.length_nil]; omega) H3.out.1 (by have := H3.out.2; omega) (by have := H3.out.2; omega)).mono ?_
  rintro e w3 ⟨A3, N3, k3, rfl, P3, -⟩
  have HP3 := Lib.hid P3
  clear c0 c3 HP2
  have c0 := P3.res.c0
  rw [HK.out] at c0
  have c4 := P3.res.c4
  clear P3
  go_wp2_with fail
  refine (HP3.out.app 4 v.pks (by omega) (by omega) (by simp only [List.length_append, be_length, List.length_nil]; omega) H4.out.1 (by have := H4.out.2; omega) (by have := H4.out.2; omega)).mono ?_
  rintro e w4 ⟨A4, N4, k4, rfl, P4, -⟩
  have HP4 := Lib.hid P4
  clear c0 c4 HP3
  have c0 := P4.res.c0
  rw [HK.out] at c0
  have c5 := P4.res.c5
  clear P4
  go_wp2_with fail
  refine (HP4.out.app 4 v.ocs (by omega) (by omega) (by simp only [List.length_append, be_length, List.length_nil]; omega) H5.out.1 (by have := H5.out.2; omega) (by have := H5.out.2; omega)).mono ?_
  rintro e w5 ⟨A5, N5, k5, rfl, P5, -⟩
  have HP5 := Lib.hid P5
  clear c0 c5 HP4
  have c0 := P5.res.c0
  rw [HK.out] at c0
  have c6 := P5.res.c6
  rw [HBN.out] at c6
  clear P5
  obtain ⟨z, hz⟩ : ∃ z, z = ((((([] ++ be 4 v.ssrc) ++ be 8 v.ntp) ++ be 4 v.time) ++ be 4 v.pks) ++ be 4 v.ocs) := ⟨_, rfl⟩
  rw [← hz] at HP5
  have HZ := Lib.hid (show ys = ((z ++ blosB xs) ++ bes gs) ++ pairsB ps from by rw [hz, hys.out])
  have HZL := Lib.hid (show z.length = 24 from by rw [hz]; simp only [List.length_append, be_length, List.length_nil])
  clear hz hys qssrc qtime qpks qocs qmedia
  go_wp2
  clear c0 c6
  go_loopw [3, 56] (fun sb sk wx => ∃ (k : Nat) (A : Option Addr) (N c : Nat), k ≤ bn ∧ sk = .int .i64 k ∧ sb = .slice A N c ∧ Hid (BS w wx v A N c (z ++ blosB (xs.take k)))) (fun _ sk _ => bn - (intOf sk).toNat)
  case atStart => exact ⟨0, _, _, _, by omega, rfl, rfl, by rw [List.take_zero, blosB, List.append_nil]; exact HP5.out⟩
  case round =>
    obtain ⟨k, A, N, c, hk, rfl, rfl, hP⟩ := hrel
    rename World => wx
    clear HP5
    by_cases hlt : k < bn
    · obtain ⟨b, off, x, ea, hbB, hx, d0, d1, d2, d3, d4, d5, d6⟩ := blo_at (HR.out.below hP.out.below) hlt
      have HX := Lib.hid hx
      have hxo := HXO.out x (List.mem_of_getElem? hx)
      have hxt := HXT.out x (List.mem_of_getElem? hx)
      have HLN := Lib.hid (show (z ++ blosB (xs.take k)).length ≤ 100000 from by rw [List.length_append, HZL.out, blosB_length, List.length_take, HR.out.1]; omega)
      have hbA := (Below.refl wx.heap.size wx).alloc (Nat.le_refl _) (bloO x)
      have HQ0 := Lib.hid (hP.out.bel hbA)
      have HD0 := Lib.hid (KBlk.new wx x)
      have qssrc : IntKind.u64.wrap x.ssrc = x.ssrc := wrap_u64 _ ⟨hxo.ssrc.1, by have := hxo.ssrc.2; omega⟩
      have qlost : IntKind.u64.wrap x.lost = x.lost := wrap_u64 _ ⟨hxo.lost.1, by have := hxo.lost.2; omega⟩
      have qtotal : IntKind.u64.wrap x.total = x.total := wrap_u64 _ ⟨hxo.total.1, by have := hxo.total.2; omega⟩
      have qhigh : IntKind.u64.wrap x.high = x.high := wrap_u64 _ ⟨hxo.high.1, by have := hxo.high.2; omega⟩
      have qjit : IntKind.u64.wrap x.jit = x.jit := wrap_u64 _ ⟨hxo.jit.1, by have := hxo.jit.2; omega⟩
      have qlast : IntKind.u64.wrap x.last = x.last := wrap_u64 _ ⟨hxo.last.1, by have := hxo.last.2; omega⟩
      have qdelay : IntKind.u64.wrap x.delay = x.delay := wrap_u64 _ ⟨hxo.delay.1, by have := hxo.delay.2; omega⟩
      have HO := Lib.hid hxo
      have HT := Lib.hid hxt
      clear hx hbA hP hxo hxt
      rw [ea]
      go_wp2_with fail
      refine (HQ0.out.app 4 x.ssrc (by omega) (by omega) (by have := HLN.out; omega) HO.out.ssrc.1 (by have := HO.out.ssrc.2; omega) (by have := HO.out.ssrc.2; have := HT.out; omega)).mono ?_
      rintro e w20 ⟨B1, M1, l1, rfl, Q1, b1⟩
      have HQ1 := Lib.hid Q1
      have D1 := HD0.out.bel b1
      have HD1 := Lib.hid D1
      have c1 := D1.c1
      clear D1
      clear Q1 b1 HQ0 HD0 d0 d1 d2 d3 d4 d5 d6
      go_wp2_with fail
      refine (HQ1.out.app 1 x.lost (by omega) (by omega) (by have := HLN.out; simp only [List.length_append, be_length] at this ⊢; omega) HO.out.lost.1 (by have := HO.out.lost.2; omega) (by have := HO.out.lost.2; have := HT.out; omega)).mono ?_
      rintro e w21 ⟨B2, M2, l2, rfl, Q2, b2⟩
      have HQ2 := Lib.hid Q2
      have D2 := HD1.out.bel b2
      have HD2 := Lib.hid D2
      have c2 := D2.c2
      clear D2
      clear Q2 b2 HQ1 HD1 c1
      go_wp2_with fail
      refine (HQ2.out.app 3 x.total (by omega) (by omega) (by have := HLN.out; simp only [List.length_append, be_length] at this ⊢; omega) HO.out.total.1 (by have := HO.out.total.2; omega) (by have := HO.out.total.2; have := HT.out; omega)).mono ?_
      rintro e w22 ⟨B3, M3, l3, rfl, Q3, b3⟩
      have HQ3 := Lib.hid Q3
      have D3 := HD2.out.bel b3
      have HD3 := Lib.hid D3
      have c3 := D3.c3
      clear D3
      clear Q3 b3 HQ2 HD2 c2
      go_wp2_with fail
      refine (HQ3.out.app 4 x.high (by omega) (by omega) (by have := HLN.out; simp only [List.length_append, be_length] at this ⊢; omega) HO.out.high.1 (by have := HO.out.high.2; omega) (by have := HO.out.high.2; have := HT.out; omega)).mono ?_
      rintro e w23 ⟨B4, M4, l4, rfl, Q4, b4⟩
      have HQ4 := Lib.hid Q4
      have D4 := HD3.out.bel b4
      have HD4 := Lib.hid D4
      have c4 := D4.c4
      clear D4
      clear Q4 b4 HQ3 HD3 c3
      go_wp2_with fail
      refine (HQ4.out.app 4 x.jit (by omega) (by omega) (by have := HLN.out; simp only [List.length_append, be_length] at this ⊢; omega) HO.out.jit.1 (by have := HO.out.jit.2; omega) (by have := HO.out.jit.2; have := HT.out; omega)).mono ?_
      rintro e w24 ⟨B5, M5, l5, rfl, Q5, b5⟩
      have HQ5 := Lib.hid Q5
      have D5 := HD4.out.bel b5
      have HD5 := Lib.hid D5
      have c5 := D5.c5
      clear D5
      clear Q5 b5 HQ4 HD4 c4
      go_wp2_with fail
      refine (HQ5.out.app 4 x.last (by omega) (by omega) (by have := HLN.out; simp only [List.length_append, be_length] at this ⊢; omega) HO.out.last.1 (by have := HO.out.last.2; omega) (by have := HO.out.last.2; have := HT.out; omega)).mono ?_
      rintro e w25 ⟨B6, M6, l6, rfl, Q6, b6⟩
      have HQ6 := Lib.hid Q6
      have D6 := HD5.out.bel b6
      have HD6 := Lib.hid D6
      have c6 := D6.c6
      clear D6
      clear Q6 b6 HQ5 HD5 c5
      go_wp2_with fail
      refine (HQ6.out.app 4 x.delay (by omega) (by omega) (by have := HLN.out; simp only [List.length_append, be_length] at this ⊢; omega) HO.out.delay.1 (by have := HO.out.delay.2; omega) (by have := HO.out.delay.2; have := HT.out; omega)).mono ?_
      rintro e w26 ⟨B7, M7, l7, rfl, Q7, b7⟩
      have HQ7 := Lib.hid Q7
      clear Q7 b7 HQ6 HD6 c6
      go_wp2
      go_roundw
      case rel =>
        refine ⟨k + 1, _, _, _, by omega, by go_num, rfl, ?_⟩
        rw [List.take_add_one, HX.out]
        show BS w _ v _ _ _ (z ++ blosB (xs.take k ++ [x]))
        rw [blosB_snoc']
        have := HQ7.out
        simpa [bloB, List.append_assoc] using this
      case measure => simp [intOf]; omega
    · obtain rfl : k = bn := by omega
      rw [List.take_of_length_le (by rw [HR.out.1]; exact Nat.le_refl _)] at hP
      have HLN := Lib.hid (show (z ++ blosB xs).length ≤ 100000 from by rw [List.length_append, HZL.out, blosB_length, HR.out.1]; omega)
      obtain ⟨y, hy⟩ : ∃ y, y = z ++ blosB xs := ⟨_, rfl⟩
      rw [← hy] at hP HLN
      have HY := Lib.hid (show ys = (y ++ bes gs) ++ pairsB ps from by rw [hy, HZ.out])
      clear hy
      have c7 := hP.out.res.c7
      rw [HGN.out] at c7
      go_wp2
      clear c7
      go_loopw [3, 99] (fun sb sk wx => ∃ (k : Nat) (A : Option Addr) (N c : Nat), k ≤ gn ∧ sk = .int .i64 k ∧ sb = .slice A N c ∧ Hid (BS w wx v A N c (y ++ bes (gs.take k)))) (fun _ sk _ => gn - (intOf sk).toNat)
      case atStart => exact ⟨0, _, _, _, by omega, rfl, rfl, by rw [List.take_zero, bes, List.append_nil]; exact hP.out⟩
      case round =>
        clear hP
        obtain ⟨i, A', N', c', hk', rfl, rfl, hP⟩ := hrel
        rename World => wy
        by_cases hlt' : i < gn
        · obtain ⟨b, off, ea, hbB, hc⟩ := (HG.out.below hP.out.below).2.2 (by omega)
          have d0 := hc i hlt'
          have hw := HG.out.2.1.getD i
          have hx : gs[i]? = some (gs.getD i 0) := by
            have : i < gs.length := by rw [HG.out.1]; exact hlt'
            rw [List.getElem?_eq_getElem this, List.getD_eq_getElem?_getD, List.getElem?_eq_getElem this]; rfl
          have HX := Lib.hid hx
          generalize gs.getD i 0 = x at *
          have qx : IntKind.u64.wrap x = x := wrap_u64 _ ⟨hw.1, by have := hw.2; omega⟩
          have HW := Lib.hid hw
          have HLM := Lib.hid (show (y ++ bes (gs.take i)).length ≤ 200000 from by rw [List.length_append, bes_length, List.length_take, HG.out.1]; have := HLN.out; omega)
          clear hx hc hw
          rw [ea]
          go_wp2_with fail
          refine (hP.out.app 4 x (by omega) (by omega) (by have := HLM.out; omega) HW.out.1 (by have := HW.out.2; omega) (by have := HW.out.2; omega)).mono ?_
          rintro e w30 ⟨B1, M1, l1, rfl, Q1, -⟩
          have HQ1 := Lib.hid Q1
          clear Q1 d0
          go_wp2
          go_roundw
          case rel =>
            refine ⟨i + 1, _, _, _, by omega, by go_num, rfl, ?_⟩
            rw [List.take_add_one, HX.out]
            show Hid (BS w _ v _ _ _ (y ++ bes (gs.take i ++ [x])))
            rw [bes_snoc, ← List.append_assoc]
            exact HQ1.out
          case measure => simp [intOf]; omega
        · obtain rfl : i = gn := by omega
          rw [List.take_of_length_le (by rw [HG.out.1]; exact Nat.le_refl _)] at hP
          have HLM := Lib.hid (show (y ++ bes gs).length ≤ 200000 from by rw [List.length_append, bes_length, HG.out.1]; have := HLN.out; omega)
          obtain ⟨y2, hy2⟩ : ∃ y2, y2 = y ++ bes gs := ⟨_, rfl⟩
          rw [← hy2] at hP HLM
          have HY2 := Lib.hid (show ys = y2 ++ pairsB ps from by rw [hy2, HY.out])
          clear hy2
          have c9 := hP.out.res.c9
          rw [HPN.out] at c9
          go_wp2
          clear c9
          go_loopw [3, 111] (fun sb sk wx => ∃ (k : Nat) (A : Option Addr) (N c : Nat), k ≤ pn ∧ sk = .int .i64 k ∧ sb = .slice A N c ∧ Hid (BS w wx v A N c (y2 ++ pairsB (ps.take k)))) (fun _ sk _ => pn - (intOf sk).toNat)
          case atStart => exact ⟨0, _, _, _, by omega, rfl, rfl, by rw [List.take_zero, pairsB, List.append_nil]; exact hP.out⟩
          case round =>
            clear hP
            obtain ⟨j, A'', N'', c'', hk'', rfl, rfl, hP⟩ := hrel
            rename World => wz
            by_cases hlt'' : j < pn
            · obtain ⟨b, off, x, ea, hbB, hx, d0, d1⟩ := pair_at (HP.out.below hP.out.below) hlt''
              have HX := Lib.hid hx
              have ho := HPO.out x (List.mem_of_getElem? hx)
              have q0 : IntKind.u64.wrap x.1 = x.1 := wrap_u64 _ ⟨ho.1.1, by have := ho.1.2; omega⟩
              have q1 : IntKind.u64.wrap x.2 = x.2 := wrap_u64 _ ⟨ho.2.1, by have := ho.2.2; omega⟩
              have HO := Lib.hid ho
              have HLP := Lib.hid (show (y2 ++ pairsB (ps.take j)).length ≤ 300000 from by rw [List.length_append, pairsB_length, List.length_take, HP.out.1]; have := HLM.out; omega)
              have hbA := (Below.refl wz.heap.size wz).alloc (Nat.le_refl _) (pairO x)
              have HQ0 := Lib.hid (hP.out.bel hbA)
              have HD0 := Lib.hid (PrBlk.new wz x)
              clear hx hbA hP ho
              rw [ea]
              go_wp2_with fail
              refine (HQ0.out.app 2 x.1 (by omega) (by omega) (by have := HLP.out; omega) HO.out.1.1 (by have := HO.out.1.2; omega) (by have := HO.out.1.2; omega)).mono ?_
              rintro e w40 ⟨B1, M1, l1, rfl, Q1, b1⟩
              have HQ1 := Lib.hid Q1
              have D1 := HD0.out.bel b1
              have c1 := D1.c1
              clear D1 Q1 b1 HQ0 HD0 d0 d1
              go_wp2_with fail
              refine (HQ1.out.app 2 x.2 (by omega) (by omega) (by have := HLP.out; simp only [List.length_append, be_length] at this ⊢; omega) HO.out.2.1 (by have := HO.out.2.2; omega) (by have := HO.out.2.2; omega)).mono ?_
              rintro e w41 ⟨B2, M2, l2, rfl, Q2, -⟩
              have HQ2 := Lib.hid Q2
              clear Q2 HQ1 c1
              go_wp2
              go_roundw
              case rel =>
                refine ⟨j + 1, _, _, _, by omega, by go_num, rfl, ?_⟩
                rw [List.take_add_one, HX.out]
                show Hid (BS w _ v _ _ _ (y2 ++ pairsB (ps.take j ++ [x])))
                rw [pairsB_snoc, ← List.append_assoc, ← List.append_assoc]
                exact HQ2.out
              case measure => simp [intOf]; omega
            · obtain rfl : j = pn := by omega
              rw [List.take_of_length_le (by rw [HP.out.1]; exact Nat.le_refl _), ← HY2.out] at hP
              have HF := Lib.hid hP.out
              clear hP
              go_wp2
              go_ret
              have hF := HF.out
              have hl := hF.own.len
              subst hl
              exact ⟨_, _, rfl, hF.own, hF.below⟩

set_option maxRecDepth 100000 in
set_option maxHeartbeats 16000000 in
theorem body_201 (v : IV) (bn gn pn : Nat) (xs : List Blo) (gs : List Int) (ps : List (Int × Int)) (w : World) (hkind : v.kind = 201) (hbn : v.bn = bn) (hgn : v.gn = gn) (hpn : v.pn = pn) (hr : RowRd bloL w w.heap.size v.ba bn xs) (hg : Wd w w.heap.size v.ga gn gs) (hp : RowRd pairL w w.heap.size v.pa pn ps)
    (hxo : ∀ x ∈ xs, x.Ok) (hxt : ∀ x ∈ xs, x.total < 16777216) (hpo : ∀ x ∈ ps, U16 x.1 ∧ U16 x.2) (h1 : U32 v.ssrc) (h2 : 0 ≤ v.ntp ∧ v.ntp ≤ 18446744073709551615) (h3 : U32 v.time) (h4 : U32 v.pks) (h5 : U32 v.ocs) (h8 : U32 v.media)
    (hl1 : bn ≤ 1000) (hl2 : gn ≤ 1000) (hl3 : pn ≤ 1000) (ys : List Int) (hys : Hid (ys = ((([] ++ be 4 v.ssrc) ++ blosB xs) ++ bes gs) ++ pairsB ps)) :
    Calls Try.prog 65 #[itm v] w (NewRow w ys) := by
  have HK := Lib.hid hkind
  have HBN := Lib.hid hbn
  have HGN := Lib.hid hgn
  have HPN := Lib.hid hpn
  have HR := Lib.hid hr
  have HG := Lib.hid hg
  have HP := Lib.hid hp
  have HXO := Lib.hid hxo
  have HXT := Lib.hid hxt
  have HPO := Lib.hid hpo
  have qssrc : IntKind.u64.wrap v.ssrc = v.ssrc := wrap_u64 _ ⟨h1.1, by have := h1.2; omega⟩
  have qtime : IntKind.u64.wrap v.time = v.time := wrap_u64 _ ⟨h3.1, by have := h3.2; omega⟩
  have qpks : IntKind.u64.wrap v.pks = v.pks := wrap_u64 _ ⟨h4.1, by have := h4.2; omega⟩
  have qocs : IntKind.u64.wrap v.ocs = v.ocs := wrap_u64 _ ⟨h5.1, by have := h5.2; omega⟩
  have qmedia : IntKind.u64.wrap v.media = v.media := wrap_u64 _ ⟨h8.1, by have := h8.2; omega⟩
  have H1 := Lib.hid h1
  have H2 := Lib.hid h2
  have H3 := Lib.hid h3
  have H4 := Lib.hid h4
  have H5 := Lib.hid h5
  have H8 := Lib.hid h8
  have P0 : BS w (w.alloc (iobj v)) v none 0 0 [] := ⟨(Below.refl _ _).alloc (Nat.le_refl _) _, IBlk.new w v, Own.nil _ _⟩
  have HP0 := Lib.hid P0
  have c0 := P0.res.c0
  rw [HK.out] at c0
  have c1 := P0.res.c1
  clear P0 hkind hbn hgn hpn hr hg hp hxo hxt hpo h1 h2 h3 h4 h5 h8
  go_enter Try.func65, Try.ntmps65
  go_wp2_with fail
  refine (HP0.out.app 4 v.ssrc (by omega) (by omega) (by simp) H1.out.1 (by have := H1.out.2; omega) (by have := H1.out.2; omega)).mono ?_
  rintro e w1 ⟨A1, N1, k1, rfl, P1, -⟩
  have HP1 := Lib.hid P1
  clear c0 c1 HP0
  have c0 := P1.res.c0
  rw [HK.out] at c0
  have c6 := P1.res.c6
  rw [HBN.out] at c6
  clear P1
  obtain ⟨z, hz⟩ : ∃ z, z = ([] ++ be 4 v.ssrc) := ⟨_, rfl⟩
  rw [← hz] at HP1
  have HZ := Lib.hid (show ys = ((z ++ blosB xs) ++ bes gs) ++ pairsB ps from by rw [hz, hys.out])
  have HZL := Lib.hid (show z.length = 4 from by rw [hz]; simp only [List.length_append, be_length, List.length_nil])
  clear hz hys qssrc qtime qpks qocs qmedia
  go_wp2
  clear c0 c6
  go_loopw [3, 56] (fun sb sk wx => ∃ (k : Nat) (A : Option Addr) (N c : Nat), k ≤ bn ∧ sk = .int .i64 k ∧ sb = .slice A N c ∧ Hid (BS w wx v A N c (z ++ blosB (xs.take k)))) (fun _ sk _ => bn - (intOf sk).toNat)
  case atStart => exact ⟨0, _, _, _, by omega, rfl, rfl, by rw [List.take_zero, blosB, List.append_nil]; exact HP1.out⟩
  case round =>
    obtain ⟨k, A, N, c, hk, rfl, rfl, hP⟩ := hrel
    rename World => wx
    clear HP1
    by_cases hlt : k < bn
    · obtain ⟨b, off, x, ea, hbB, hx, d0, d1, d2, d3, d4, d5, d6⟩ := blo_at (HR.out.below hP.out.below) hlt
      have HX := Lib.hid hx
      have hxo := HXO.out x (List.mem_of_getElem? hx)
      have hxt := HXT.out x (List.mem_of_getElem? hx)
      have HLN := Lib.hid (show (z ++ blosB (xs.take k)).length ≤ 100000 from by rw [List.length_append, HZL.out, blosB_length, List.length_take, HR.out.1]; omega)
      have hbA := (Below.refl wx.heap.size wx).alloc (Nat.le_refl _) (bloO x)
      have HQ0 := Lib.hid (hP.out.bel hbA)
      have HD0 := Lib.hid (KBlk.new wx x)
      have qssrc : IntKind.u64.wrap x.ssrc = x.ssrc := wrap_u64 _ ⟨hxo.ssrc.1, by have := hxo.ssrc.2; omega⟩
      have qlost : IntKind.u64.wrap x.lost = x.lost := wrap_u64 _ ⟨hxo.lost.1, by have := hxo.lost.2; omega⟩
      have qtotal : IntKind.u64.wrap x.total = x.total := wrap_u64 _ ⟨hxo.total.1, by have := hxo.total.2; omega⟩
      have qhigh : IntKind.u64.wrap x.high = x.high := wrap_u64 _ ⟨hxo.high.1, by have := hxo.high.2; omega⟩
      have qjit : IntKind.u64.wrap x.jit = x.jit := wrap_u64 _ ⟨hxo.jit.1, by have := hxo.jit.2; omega⟩
      have qlast : IntKind.u64.wrap x.last = x.last := wrap_u64 _ ⟨hxo.last.1, by have := hxo.last.2; omega⟩
      have qdelay : IntKind.u64.wrap x.delay = x.delay := wrap_u64 _ ⟨hxo.delay.1, by have := hxo.delay.2; omega⟩
      have HO := Lib.hid hxo
      have HT := Lib.hid hxt
      clear hx hbA hP hxo hxt
      rw [ea]
      go_wp2_with fail
      refine (HQ0.out.app 4 x.ssrc (by omega) (by omega) (by have := HLN.out; omega) HO.out.ssrc.1 (by have := HO.out.ssrc.2; omega) (by have := HO.out.ssrc.2; have := HT.out; omega)).mono ?_
      rintro e w20 ⟨B1, M1, l1, rfl, Q1, b1⟩
      have HQ1 := Lib.hid Q1
      have D1 := HD0.out.bel b1
      have HD1 := Lib.hid D1
      have c1 := D1.c1
      clear D1
      clear Q1 b1 HQ0 HD0 d0 d1 d2 d3 d4 d5 d6
      go_wp2_with fail
      refine (HQ1.out.app 1 x.lost (by omega) (by omega) (by have := HLN.out; simp only [List.length_append, be_length] at this ⊢; omega) HO.out.lost.1 (by have := HO.out.lost.2; omega) (by have := HO.out.lost.2; have := HT.out; omega)).mono ?_
      rintro e w21 ⟨B2, M2, l2, rfl, Q2, b2⟩
      have HQ2 := Lib.hid Q2
      have D2 := HD1.out.bel b2
      have HD2 := Lib.hid D2
      have c2 := D2.c2
      clear D2
      clear Q2 b2 HQ1 HD1 c1
      go_wp2_with fail
      refine (HQ2.out.app 3 x.total (by omega) (by omega) (by have := HLN.out; simp only [List.length_append, be_length] at this ⊢; omega) HO.out.total.1 (by have := HO.out.total.2; omega) (by have := HO.out.total.2; have := HT.out; omega)).mono ?_
      rintro e w22 ⟨B3, M3, l3, rfl, Q3, b3⟩
      have HQ3 := Lib.hid Q3
      have D3 := HD2.out.bel b3
      have HD3 := Lib.hid D3
      have c3 := D3.c3
      clear D3
      clear Q3 b3 HQ2 HD2 c2
      go_wp2_with fail
      refine (HQ3.out.app 4 x.high (by omega) (by omega) (by have := HLN.out; simp only [List.length_append, be_length] at this ⊢; omega) HO.out.high.1 (by have := HO.out.high.2; omega) (by have := HO.out.high.2; have := HT.out; omega)).mono ?_
      rintro e w23 ⟨B4, M4, l4, rfl, Q4, b4⟩
      have HQ4 := Lib.hid Q4
      have D4 := HD3.out.bel b4
      have HD4 := Lib.hid D4
      have c4 := D4.c4
      clear D4
      clear Q4 b4 HQ3 HD3 c3
      go_wp2_with fail
      refine (HQ4.out.app 4 x.jit (by omega) (by omega) (by have := HLN.out; simp only [List.length_append, be_length] at this ⊢; omega) HO.out.jit.1 (by have := HO.out.jit.2; omega) (by have := HO.out.jit.2; have := HT.out; omega)).mono ?_
      rintro e w24 ⟨B5, M5, l5, rfl, Q5, b5⟩
      have HQ5 := Lib.hid Q5
      have D5 := HD4.out.bel b5
      have HD5 := Lib.hid D5
      have c5 := D5.c5
      clear D5
      clear Q5 b5 HQ4 HD4 c4
      go_wp2_with fail
      refine (HQ5.out.app 4 x.last (by omega) (by omega) (by have := HLN.out; simp only [List.length_append, be_length] at this ⊢; omega) HO.out.last.1 (by have := HO.out.last.2; omega) (by have := HO.out.last.2; have := HT.out; omega)).mono ?_
      rintro e w25 ⟨B6, M6, l6, rfl, Q6, b6⟩
      have HQ6 := Lib.hid Q6
      have D6 := HD5.out.bel b6
      have HD6 := Lib.hid D6
      have c6 := D6.c6
      clear D6
      clear Q6 b6 HQ5 HD5 c5
      go_wp2_with fail
      refine (HQ6.out.app 4 x.delay (by omega) (by omega) (by have := HLN.out; simp only [List.length_append, be_length] at this ⊢; omega) HO.out.delay.1 (by have := HO.out.delay.2; omega) (by have := HO.out.delay.2; have := HT.out; omega)).mono ?_
      rintro e w26 ⟨B7, M7, l7, rfl, Q7, b7⟩
      have HQ7 := Lib.hid Q7
      clear Q7 b7 HQ6 HD6 c6
      go_wp2
      go_roundw
      case rel =>
        refine ⟨k + 1, _, _, _, by omega, by go_num, rfl, ?_⟩
        rw [List.take_add_one, HX.out]
        show BS w _ v _ _ _ (z ++ blosB (xs.take k ++ [x]))
        rw [blosB_snoc']
        have := HQ7.out
        simpa [bloB, List.append_assoc] using this
      case measure => simp [intOf]; omega
    · obtain rfl : k = bn := by omega
      rw [List.take_of_length_le (by rw [HR.out.1]; exact Nat.le_refl _)] at hP
      have HLN := Lib.hid (show (z ++ blosB xs).length ≤ 100000 from by rw [List.length_append, HZL.out, blosB_length, HR.out.1]; omega)
      obtain ⟨y, hy⟩ : ∃ y, y = z ++ blosB xs := ⟨_, rfl⟩
      rw [← hy] at hP HLN
      have HY := Lib.hid (show ys = (y ++ bes gs) ++ pairsB ps from by rw [hy, HZ.out])
      clear hy
      have c7 := hP.out.res.c7
      rw [HGN.out] at c7
      go_wp2
      clear c7
      go_loopw [3, 99] (fun sb sk wx => ∃ (k : Nat) (A : Option Addr) (N c : Nat), k ≤ gn ∧ sk = .int .i64 k ∧ sb = .slice A N c ∧ Hid (BS w wx v A N c (y ++ bes (gs.take k)))) (fun _ sk _ => gn - (intOf sk).toNat)
      case atStart => exact ⟨0, _, _, _, by omega, rfl, rfl, by rw [List.take_zero, bes, List.append_nil]; exact hP.out⟩
      case round =>
        clear hP
        obtain ⟨i, A', N', c', hk', rfl, rfl, hP⟩ := hrel
        rename World => wy
        by_cases hlt' : i < gn
        · obtain ⟨b, off, ea, hbB, hc⟩ := (HG.out.below hP.out.below).2.2 (by omega)
          have d0 := hc i hlt'
          have hw := HG.out.2.1.getD i
          have hx : gs[i]? = some (gs.getD i 0) := by
            have : i < gs.length := by rw [HG.out.1]; exact hlt'
            rw [List.getElem?_eq_getElem this, List.getD_eq_getElem?_getD, List.getElem?_eq_getElem this]; rfl
          have HX := Lib.hid hx
          generalize gs.getD i 0 = x at *
          have qx : IntKind.u64.wrap x = x := wrap_u64 _ ⟨hw.1, by have := hw.2; omega⟩
          have HW := Lib.hid hw
          have HLM := Lib.hid (show (y ++ bes (gs.take i)).length ≤ 200000 from by rw [List.length_append, bes_length, List.length_take, HG.out.1]; have := HLN.out; omega)
          clear hx hc hw
          rw [ea]
          go_wp2_with fail
          refine (hP.out.app 4 x (by omega) (by omega) (by have := HLM.out; omega) HW.out.1 (by have := HW.out.2; omega) (by have := HW.out.2; omega)).mono ?_
          rintro e w30 ⟨B1, M1, l1, rfl, Q1, -⟩
          have HQ1 := Lib.hid Q1
          clear Q1 d0
          go_wp2
          go_roundw
          case rel =>
            refine ⟨i + 1, _, _, _, by omega, by go_num, rfl, ?_⟩
            rw [List.take_add_one, HX.out]
            show Hid (BS w _ v _ _ _ (y ++ bes (gs.take i ++ [x])))
            rw [bes_snoc, ← List.append_assoc]
            exact HQ1.out
          case measure => simp [intOf]; omega
        · obtain rfl : i = gn := by omega
          rw [List.take_of_length_le (by rw [HG.out.1]; exact Nat.le_refl _)] at hP
          have HLM := Lib.hid (show (y ++ bes gs).length ≤ 200000 from by rw [List.length_append, bes_length, HG.out.1]; have := HLN.out; omega)
          obtain ⟨y2, hy2⟩ : ∃ y2, y2 = y ++ bes gs := ⟨_, rfl⟩
          rw [← hy2] at hP HLM
          have HY2 := Lib.hid (show ys = y2 ++ pairsB ps from by rw [hy2, HY.out])
          clear hy2
          have c9 := hP.out.res.c9
          rw [HPN.out] at c9
          go_wp2
          clear c9
          go_loopw [3, 111] (fun sb sk wx => ∃ (k : Nat) (A : Option Addr) (N c : Nat), k ≤ pn ∧ sk = .int .i64 k ∧ sb = .slice A N c ∧ Hid (BS w wx v A N c (y2 ++ pairsB (ps.take k)))) (fun _ sk _ => pn - (intOf sk).toNat)
          case atStart => exact ⟨0, _, _, _, by omega, rfl, rfl, by rw [List.take_zero, pairsB, List.append_nil]; exact hP.out⟩
          case round =>
            clear hP
            obtain ⟨j, A'', N'', c'', hk'', rfl, rfl, hP⟩ := hrel
            rename World => wz
            by_cases hlt'' : j < pn
            · obtain ⟨b, off, x, ea, hbB, hx, d0, d1⟩ := pair_at (HP.out.below hP.out.below) hlt''
              have HX := Lib.hid hx
              have ho := HPO.out x (List.mem_of_getElem? hx)
              have q0 : IntKind.u64.wrap x.1 = x.1 := wrap_u64 _ ⟨ho.1.1, by have := ho.1.2; omega⟩
              have q1 : IntKind.u64.wrap x.2 = x.2 := wrap_u64 _ ⟨ho.2.1, by have := ho.2.2; omega⟩
              have HO := Lib.hid ho
              have HLP := Lib.hid (show (y2 ++ pairsB (ps.take j)).length ≤ 300000 from by rw [List.length_append, pairsB_length, List.length_take, HP.out.1]; have := HLM.out; omega)
              have hbA := (Below.refl wz.heap.size wz).alloc (Nat.le_refl _) (pairO x)
              have HQ0 := Lib.hid (hP.out.bel hbA)
              have HD0 := Lib.hid (PrBlk.new wz x)
              clear hx hbA hP ho
              rw [ea]
              go_wp2_with fail
              refine (HQ0.out.app 2 x.1 (by omega) (by omega) (by have := HLP.out; omega) HO.out.1.1 (by have := HO.out.1.2; omega) (by have := HO.out.1.2; omega)).mono ?_
              rintro e w40 ⟨B1, M1, l1, rfl, Q1, b1⟩
              have HQ1 := Lib.hid Q1
              have D1 := HD0.out.bel b1
              have c1 := D1.c1
              clear D1 Q1 b1 HQ0 HD0 d0 d1
              go_wp2_with fail
              refine (HQ1.out.app 2 x.2 (by omega) (by omega) (by have := HLP.out; simp only [List.length_append, be_length] at this ⊢; omega) HO.out.2.1 (by have := HO.out.2.2; omega) (by have := HO.out.2.2; omega)).mono ?_
              rintro e w41 ⟨B2, M2, l2, rfl, Q2, -⟩
              have HQ2 := Lib.hid Q2
              clear Q2 HQ1 c1
              go_wp2
              go_roundw
              case rel =>
                refine ⟨j + 1, _, _, _, by omega, by go_num, rfl, ?_⟩
                rw [List.take_add_one, HX.out]
                show Hid (BS w _ v _ _ _ (y2 ++ pairsB (ps.take j ++ [x])))
                rw [pairsB_snoc, ← List.append_assoc, ← List.append_assoc]
                exact HQ2.out
              case measure => simp [intOf]; omega
            · obtain rfl : j = pn := by omega
              rw [List.take_of_length_le (by rw [HP.out.1]; exact Nat.le_refl _), ← HY2.out] at hP
              have HF := Lib.hid hP.out
              clear hP
              go_wp2
              go_ret
              have hF := HF.out
              have hl := hF.own.len
              subst hl
              exact ⟨_, _, rfl, hF.own, hF.below⟩

end Go.Proofs.Ythmmafpmpnhleaa.Fbk

namespace Go.Proofs.Ythmmafpmpnhleaa.Fbk
open Go.RowKit
set_option linter.unusedVariables false

set_option maxRecDepth 100000 in
set_option maxHeartbeats 16000000 in
theorem body_203 (v : IV) (bn gn pn : Nat) (xs : List Blo) (gs : List Int) (ps : List (Int × Int)) (w : World) (hkind : v.kind = 203) (hbn : v.bn = bn) (hgn : v.gn = gn) (hpn : v.pn = pn) (hr : RowRd bloL w w.heap.size v.ba bn xs) (hg : Wd w w.heap.size v.ga gn gs) (hp : RowRd pairL w w.heap.size v.pa pn ps)
    (hxo : ∀ x ∈ xs, x.Ok) (hxt : ∀ x ∈ xs, x.total < 16777216) (hpo : ∀ x ∈ ps, U16 x.1 ∧ U16 x.2) (h1 : U32 v.ssrc) (h2 : 0 ≤ v.ntp ∧ v.ntp ≤ 18446744073709551615) (h3 : U32 v.time) (h4 : U32 v.pks) (h5 : U32 v.ocs) (h8 : U32 v.media)
    (hl1 : bn ≤ 1000) (hl2 : gn ≤ 1000) (hl3 : pn ≤ 1000) (ys : List Int) (hys : Hid (ys = (([] ++ blosB xs) ++ bes gs) ++ pairsB ps)) :
    Calls Try.prog 65 #[itm v] w (NewRow w ys) := by
  have HK := Lib.hid hkind
  have HBN := Lib.hid hbn
  have HGN := Lib.hid hgn
  have HPN := Lib.hid hpn
  have HR := Lib.hid hr
  have HG := Lib.hid hg
  have HP := Lib.hid hp
  have HXO := Lib.hid hxo
  have HXT := Lib.hid hxt
  have HPO := Lib.hid hpo
  have qssrc : IntKind.u64.wrap v.ssrc = v.ssrc := wrap_u64 _ ⟨h1.1, by have := h1.2; omega⟩
  have qtime : IntKind.u64.wrap v.time = v.time := wrap_u64 _ ⟨h3.1, by have := h3.2; omega⟩
  have qpks : IntKind.u64.wrap v.pks = v.pks := wrap_u64 _ ⟨h4.1, by have := h4.2; omega⟩
  have qocs : IntKind.u64.wrap v.ocs = v.ocs := wrap_u64 _ ⟨h5.1, by have := h5.2; omega⟩
  have qmedia : IntKind.u64.wrap v.media = v.media := wrap_u64 _ ⟨h8.1, by have := h8.2; omega⟩
  have H1 := Lib.hid h1
  have H2 := Lib.hid h2
  have H3 := Lib.hid h3
  have H4 := Lib.hid h4
  have H5 := Lib.hid h5
  have H8 := Lib.hid h8
  have P0 : BS w (w.alloc (iobj v)) v none 0 0 [] := ⟨(Below.refl _ _).alloc (Nat.le_refl _) _, IBlk.new w v, Own.nil _ _⟩
  have HP0 := Lib.hid P0
  have c0 := P0.res.c0
  rw [HK.out] at c0
  clear P0 hkind hbn hgn hpn hr hg hp hxo hxt hpo h1 h2 h3 h4 h5 h8
  go_enter Try.func65, Try.ntmps65
  have c6 := HP0.out.res.c6
  rw [HBN.out] at c6
  obtain ⟨z, hz⟩ : ∃ z, z = [] := ⟨_, rfl⟩
  rw [← hz] at HP0
  have HZ := Lib.hid (show ys = ((z ++ blosB xs) ++ bes gs) ++ pairsB ps from by rw [hz, hys.out])
  have HZL := Lib.hid (show z.length = 0 from by rw [hz]; rfl)
  clear hz hys qssrc qtime qpks qocs qmedia
  go_wp2
  clear c0 c6
  go_loopw [3, 56] (fun sb sk wx => ∃ (k : Nat) (A : Option Addr) (N c : Nat), k ≤ bn ∧ sk = .int .i64 k ∧ sb = .slice A N c ∧ Hid (BS w wx v A N c (z ++ blosB (xs.take k)))) (fun _ sk _ => bn - (intOf sk).toNat)
  case atStart => exact ⟨0, _, _, _, by omega, rfl, rfl, by rw [List.take_zero, blosB, List.append_nil]; exact HP0.out⟩
  case round =>
    obtain ⟨k, A, N, c, hk, rfl, rfl, hP⟩ := hrel
    rename World => wx
    clear HP0
    by_cases hlt : k < bn
    · obtain ⟨b, off, x, ea, hbB, hx, d0, d1, d2, d3, d4, d5, d6⟩ := blo_at (HR.out.below hP.out.below) hlt
      have HX := Lib.hid hx
      have hxo := HXO.out x (List.mem_of_getElem? hx)
      have hxt := HXT.out x (List.mem_of_getElem? hx)
      have HLN := Lib.hid (show (z ++ blosB (xs.take k)).length ≤ 100000 from by rw [List.length_append, HZL.out, blosB_length, List.length_take, HR.out.1]; omega)
      have hbA := (Below.refl wx.heap.size wx).alloc (Nat.le_refl _) (bloO x)
      have HQ0 := Lib.hid (hP.out.bel hbA)
      have HD0 := Lib.hid (KBlk.new wx x)
      have qssrc : IntKind.u64.wrap x.ssrc = x.ssrc := wrap_u64 _ ⟨hxo.ssrc.1, by have := hxo.ssrc.2; omega⟩
      have qlost : IntKind.u64.wrap x.lost = x.lost := wrap_u64 _ ⟨hxo.lost.1, by have := hxo.lost.2; omega⟩
      have qtotal : IntKind.u64.wrap x.total = x.total := wrap_u64 _ ⟨hxo.total.1, by have := hxo.total.2; omega⟩
      have qhigh : IntKind.u64.wrap x.high = x.high := wrap_u64 _ ⟨hxo.high.1, by have := hxo.high.2; omega⟩
      have qjit : IntKind.u64.wrap x.jit = x.jit := wrap_u64 _ ⟨hxo.jit.1, by have := hxo.jit.2; omega⟩
      have qlast : IntKind.u64.wrap x.last = x.last := wrap_u64 _ ⟨hxo.last.1, by have := hxo.last.2; omega⟩
      have qdelay : IntKind.u64.wrap x.delay = x.delay := wrap_u64 _ ⟨hxo.delay.1, by have := hxo.delay.2; omega⟩
      have HO := Lib.hid hxo
      have HT := Lib.hid hxt
      clear hx hbA hP hxo hxt
      rw [ea]
      go_wp2_with fail
      refine (HQ0.out.app 4 x.ssrc (by omega) (by omega) (by have := HLN.out; omega) HO.out.ssrc.1 (by have := HO.out.ssrc.2; omega) (by have := HO.out.ssrc.2; have := HT.out; omega)).mono ?_
      rintro e w20 ⟨B1, M1, l1, rfl, Q1, b1⟩
      have HQ1 := Lib.hid Q1
      have D1 := HD0.out.bel b1
      have HD1 := Lib.hid D1
      have c1 := D1.c1
      clear D1
      clear Q1 b1 HQ0 HD0 d0 d1 d2 d3 d4 d5 d6
      go_wp2_with fail
      refine (HQ1.out.app 1 x.lost (by omega) (by omega) (by have := HLN.out; simp only [List.length_append, be_length] at this ⊢; omega) HO.out.lost.1 (by have := HO.out.lost.2; omega) (by have := HO.out.lost.2; have := HT.out; omega)).mono ?_
      rintro e w21 ⟨B2, M2, l2, rfl, Q2, b2⟩
      have HQ2 := Lib.hid Q2
      have D2 := HD1.out.bel b2
      have HD2 := Lib.hid D2
      have c2 := D2.c2
      clear D2
      clear Q2 b2 HQ1 HD1 c1
      go_wp2_with fail
      refine (HQ2.out.app 3 x.total (by omega) (by omega) (by have := HLN.out; simp only [List.length_append, be_length] at this ⊢; omega) HO.out.total.1 (by have := HO.out.total.2; omega) (by have := HO.out.total.2; have := HT.out; omega)).mono ?_
      rintro e w22 ⟨B3, M3, l3, rfl, Q3, b3⟩
      have HQ3 := Lib.hid Q3
      have D3 := HD2.out.bel b3
      have HD3 := Lib.hid D3
      have c3 := D3.c3
      clear D3
      clear Q3 b3 HQ2 HD2 c2
      go_wp2_with fail
      refine (HQ3.out.app 4 x.high (by omega) (by omega) (by have := HLN.out; simp only [List.length_append, be_length] at this ⊢; omega) HO.out.high.1 (by have := HO.out.high.2; omega) (by have := HO.out.high.2; have := HT.out; omega)).mono ?_
      rintro e w23 ⟨B4, M4, l4, rfl, Q4, b4⟩
      have HQ4 := Lib.hid Q4
      have D4 := HD3.out.bel b4
      have HD4 := Lib.hid D4
      have c4 := D4.c4
      clear D4
      clear Q4 b4 HQ3 HD3 c3
      go_wp2_with fail
      refine (HQ4.out.app 4 x.jit (by omega) (by omega) (by have := HLN.out; simp only [List.length_append, be_length] at this ⊢; omega) HO.out.jit.1 (by have := HO.out.jit.2; omega) (by have := HO.out.jit.2; have := HT.out; omega)).mono ?_
      rintro e w24 ⟨B5, M5, l5, rfl, Q5, b5⟩
      have HQ5 := Lib.hid Q5
      have D5 := HD4.out.bel b5
      have HD5 := Lib.hid D5
      have c5 := D5.c5
      clear D5
      clear Q5 b5 HQ4 HD4 c4
      go_wp2_with fail
      refine (HQ5.out.app 4 x.last (by omega) (by omega) (by have := HLN.out; simp only [List.length_append, be_length] at this ⊢; omega) HO.out.last.1 (by have := HO.out.last.2; omega) (by have := HO.out.last.2; have := HT.out; omega)).mono ?_
      rintro e w25 ⟨B6, M6, l6, rfl, Q6, b6⟩
      have HQ6 := Lib.hid Q6
      have D6 := HD5.out.bel b6
      have HD6 := Lib.hid D6
      have c6 := D6.c6
      clear D6
      clear Q6 b6 HQ5 HD5 c5
      go_wp2_with fail
      refine (HQ6.out.app 4 x.delay (by omega) (by omega) (by have := HLN.out; simp only [List.length_append, be_length] at this ⊢; omega) HO.out.delay.1 (by have := HO.out.delay.2; omega) (by have := HO.out.delay.2; have := HT.out; omega)).mono ?_
      rintro e w26 ⟨B7, M7, l7, rfl, Q7, b7⟩
      have HQ7 := Lib.hid Q7
      clear Q7 b7 HQ6 HD6 c6
      go_wp2
      go_roundw
      case rel =>
        refine ⟨k + 1, _, _, _, by omega, by go_num, rfl, ?_⟩
        rw [List.take_add_one, HX.out]
        show BS w _ v _ _ _ (z ++ blosB (xs.take k ++ [x]))
        rw [blosB_snoc']
        have := HQ7.out
        simpa [bloB, List.append_assoc] using this
      case measure => simp [intOf]; omega
    · obtain rfl : k = bn := by omega
      rw [List.take_of_length_le (by rw [HR.out.1]; exact Nat.le_refl _)] at hP
      have HLN := Lib.hid (show (z ++ blosB xs).length ≤ 100000 from by rw [List.length_append, HZL.out, blosB_length, HR.out.1]; omega)
      obtain ⟨y, hy⟩ : ∃ y, y = z ++ blosB xs := ⟨_, rfl⟩
      rw [← hy] at hP HLN
      have HY := Lib.hid (show ys = (y ++ bes gs) ++ pairsB ps from by rw [hy, HZ.out])
      clear hy
      have c7 := hP.out.res.c7
      rw [HGN.out] at c7
      go_wp2
      clear c7
      go_loopw [3, 99] (fun sb sk wx => ∃ (k : Nat) (A : Option Addr) (N c : Nat), k ≤ gn ∧ sk = .int .i64 k ∧ sb = .slice A N c ∧ Hid (BS w wx v A N c (y ++ bes (gs.take k)))) (fun _ sk _ => gn - (intOf sk).toNat)
      case atStart => exact ⟨0, _, _, _, by omega, rfl, rfl, by rw [List.take_zero, bes, List.append_nil]; exact hP.out⟩
      case round =>
        clear hP
        obtain ⟨i, A', N', c', hk', rfl, rfl, hP⟩ := hrel
        rename World => wy
        by_cases hlt' : i < gn
        · obtain ⟨b, off, ea, hbB, hc⟩ := (HG.out.below hP.out.below).2.2 (by omega)
          have d0 := hc i hlt'
          have hw := HG.out.2.1.getD i
          have hx : gs[i]? = some (gs.getD i 0) := by
            have : i < gs.length := by rw [HG.out.1]; exact hlt'
            rw [List.getElem?_eq_getElem this, List.getD_eq_getElem?_getD, List.getElem?_eq_getElem this]; rfl
          have HX := Lib.hid hx
          generalize gs.getD i 0 = x at *
          have qx : IntKind.u64.wrap x = x := wrap_u64 _ ⟨hw.1, by have := hw.2; omega⟩
          have HW := Lib.hid hw
          have HLM := Lib.hid (show (y ++ bes (gs.take i)).length ≤ 200000 from by rw [List.length_append, bes_length, List.length_take, HG.out.1]; have := HLN.out; omega)
          clear hx hc hw
          rw [ea]
          go_wp2_with fail
          refine (hP.out.app 4 x (by omega) (by omega) (by have := HLM.out; omega) HW.out.1 (by have := HW.out.2; omega) (by have := HW.out.2; omega)).mono ?_
          rintro e w30 ⟨B1, M1, l1, rfl, Q1, -⟩
          have HQ1 := Lib.hid Q1
          clear Q1 d0
          go_wp2
          go_roundw
          case rel =>
            refine ⟨i + 1, _, _, _, by omega, by go_num, rfl, ?_⟩
            rw [List.take_add_one, HX.out]
            show Hid (BS w _ v _ _ _ (y ++ bes (gs.take i ++ [x])))
            rw [bes_snoc, ← List.append_assoc]
            exact HQ1.out
          case measure => simp [intOf]; omega
        · obtain rfl : i = gn := by omega
          rw [List.take_of_length_le (by rw [HG.out.1]; exact Nat.le_refl _)] at hP
          have HLM := Lib.hid (show (y ++ bes gs).length ≤ 200000 from by rw [List.length_append, bes_length, HG.out.1]; have := HLN.out; omega)
          obtain ⟨y2, hy2⟩ : ∃ y2, y2 = y ++ bes gs := ⟨_, rfl⟩
          rw [← hy2] at hP HLM
          have HY2 := Lib.hid (show ys = y2 ++ pairsB ps from by rw [hy2, HY.out])
          clear hy2
          have c9 := hP.out.res.c9
          rw [HPN.out] at c9
          go_wp2
          clear c9
          go_loopw [3, 111] (fun sb sk wx => ∃ (k : Nat) (A : Option Addr) (N c : Nat), k ≤ pn ∧ sk = .int .i64 k ∧ sb = .slice A N c ∧ Hid (BS w wx v A N c (y2 ++ pairsB (ps.take k)))) (fun _ sk _ => pn - (intOf sk).toNat)
          case atStart => exact ⟨0, _, _, _, by omega, rfl, rfl, by rw [List.take_zero, pairsB, List.append_nil]; exact hP.out⟩
          case round =>
            clear hP
            obtain ⟨j, A'', N'', c'', hk'', rfl, rfl, hP⟩ := hrel
            rename World => wz
            by_cases hlt'' : j < pn
            · obtain ⟨b, off, x, ea, hbB, hx, d0, d1⟩ := pair_at (HP.out.below hP.out.below) hlt''
              have HX := Lib.hid hx
              have ho := HPO.out x (List.mem_of_getElem? hx)
              have q0 : IntKind.u64.wrap x.1 = x.1 := wrap_u64 _ ⟨ho.1.1, by have := ho.1.2; omega⟩
              have q1 : IntKind.u64.wrap x.2 = x.2 := wrap_u64 _ ⟨ho.2.1, by have := ho.2.2; omega⟩
              have HO := Lib.hid ho
              have HLP := Lib.hid (show (y2 ++ pairsB (ps.take j)).length ≤ 300000 from by rw [List.length_append, pairsB_length, List.length_take, HP.out.1]; have := HLM.out; omega)
              have hbA := (Below.refl wz.heap.size wz).alloc (Nat.le_refl _) (pairO x)
              have HQ0 := Lib.hid (hP.out.bel hbA)
              have HD0 := Lib.hid (PrBlk.new wz x)
              clear hx hbA hP ho
              rw [ea]
              go_wp2_with fail
              refine (HQ0.out.app 2 x.1 (by omega) (by omega) (by have := HLP.out; omega) HO.out.1.1 (by have := HO.out.1.2; omega) (by have := HO.out.1.2; omega)).mono ?_
              rintro e w40 ⟨B1, M1, l1, rfl, Q1, b1⟩
              have HQ1 := Lib.hid Q1
              have D1 := HD0.out.bel b1
              have c1 := D1.c1
              clear D1 Q1 b1 HQ0 HD0 d0 d1
              go_wp2_with fail
              refine (HQ1.out.app 2 x.2 (by omega) (by omega) (by have := HLP.out; simp only [List.length_append, be_length] at this ⊢; omega) HO.out.2.1 (by have := HO.out.2.2; omega) (by have := HO.out.2.2; omega)).mono ?_
              rintro e w41 ⟨B2, M2, l2, rfl, Q2, -⟩
              have HQ2 := Lib.hid Q2
              clear Q2 HQ1 c1
              go_wp2
              go_roundw
              case rel =>
                refine ⟨j + 1, _, _, _, by omega, by go_num, rfl, ?_⟩
                rw [List.take_add_one, HX.out]
                show Hid (BS w _ v _ _ _ (y2 ++ pairsB (ps.take j ++ [x])))
                rw [pairsB_snoc, ← List.append_assoc, ← List.append_assoc]
                exact HQ2.out
              case measure => simp [intOf]; omega
            · obtain rfl : j = pn := by omega
              rw [List.take_of_length_le (by rw [HP.out.1]; exact Nat.le_refl _), ← HY2.out] at hP
              have HF := Lib.hid hP.out
              clear hP
              go_wp2
              go_ret
              have hF := HF.out
              have hl := hF.own.len
              subst hl
              exact ⟨_, _, rfl, hF.own, hF.below⟩

set_option maxRecDepth 100000 in
set_option maxHeartbeats 16000000 in
theorem body_205 (v : IV) (bn gn pn : Nat) (xs : List Blo) (gs : List Int) (ps : List (Int × Int)) (w : World) (hkind : v.kind = 205) (hbn : v.bn = bn) (hgn : v.gn = gn) (hpn : v.pn = pn) (hr : RowRd bloL w w.heap.size v.ba bn xs) (hg : Wd w w.heap.size v.ga gn gs) (hp : RowRd pairL w w.heap.size v.pa pn ps)
    (hxo : ∀ x ∈ xs, x.Ok) (hxt : ∀ x ∈ xs, x.total < 16777216) (hpo : ∀ x ∈ ps, U16 x.1 ∧ U16 x.2) (h1 : U32 v.ssrc) (h2 : 0 ≤ v.ntp ∧ v.ntp ≤ 18446744073709551615) (h3 : U32 v.time) (h4 : U32 v.pks) (h5 : U32 v.ocs) (h8 : U32 v.media)
    (hl1 : bn ≤ 1000) (hl2 : gn ≤ 1000) (hl3 : pn ≤ 1000) (ys : List Int) (hys : Hid (ys = (((([] ++ be 4 v.ssrc) ++ be 4 v.media) ++ blosB xs) ++ bes gs) ++ pairsB ps)) :
    Calls Try.prog 65 #[itm v] w (NewRow w ys) := by
  have HK := Lib.hid hkind
  have HBN := Lib.hid hbn
  have HGN := Lib.hid hgn
  have HPN := Lib.hid hpn
  have HR := Lib.hid hr
  have HG := Lib.hid hg
  have HP := Lib.hid hp
  have HXO := Lib.hid hxo
  have HXT := Lib.hid hxt
  have HPO := Lib.hid hpo
  have qssrc : IntKind.u64.wrap v.ssrc = v.ssrc := wrap_u64 _ ⟨h1.1, by have := h1.2; omega⟩
  have qtime : IntKind.u64.wrap v.time = v.time := wrap_u64 _ ⟨h3.1, by have := h3.2; omega⟩
  have qpks : IntKind.u64.wrap v.pks = v.pks := wrap_u64 _ ⟨h4.1, by have := h4.2; omega⟩
  have qocs : IntKind.u64.wrap v.ocs = v.ocs := wrap_u64 _ ⟨h5.1, by have := h5.2; omega⟩
  have qmedia : IntKind.u64.wrap v.media = v.media := wrap_u64 _ ⟨h8.1, by have := h8.2; omega⟩
  have H1 := Lib.hid h1
  have H2 := Lib.hid h2
  have H3 := Lib.hid h3
  have H4 := Lib.hid h4
  have H5 := Lib.hid h5
  have H8 := Lib.hid h8
  have P0 : BS w (w.alloc (iobj v)) v none 0 0 [] := ⟨(Below.refl _ _).alloc (Nat.le_refl _) _, IBlk.new w v, Own.nil _ _⟩
  have HP0 := Lib.hid P0
  have c0 := P0.res.c0
  rw [HK.out] at c0
  have c1 := P0.res.c1
  clear P0 hkind hbn hgn hpn hr hg hp hxo hxt hpo h1 h2 h3 h4 h5 h8
  go_enter Try.func65, Try.ntmps65
  go_wp2_with fail
  refine (HP0.out.app 4 v.ssrc (by omega) (by omega) (by simp) H1.out.1 (by have := H1.out.2; omega) (by have := H1.out.2; omega)).mono ?_
  rintro e w1 ⟨A1, N1, k1, rfl, P1, -⟩
  have HP1 := Lib.hid P1
  clear c0 c1 HP0
  have c0 := P1.res.c0
  rw [HK.out] at c0
  have c8 := P1.res.c8
  clear P1
  go_wp2_with fail
  refine (HP1.out.app 4 v.media (by omega) (by omega) (by simp only [List.length_append, be_length, List.length_nil]; omega) H8.out.1 (by have := H8.out.2; omega) (by have := H8.out.2; omega)).mono ?_
  rintro e w2 ⟨A2, N2, k2, rfl, P2, -⟩
  have HP2 := Lib.hid P2
  clear c0 c8 HP1
  have c0 := P2.res.c0
  rw [HK.out] at c0
  have c6 := P2.res.c6
  rw [HBN.out] at c6
  clear P2
  obtain ⟨z, hz⟩ : ∃ z, z = (([] ++ be 4 v.ssrc) ++ be 4 v.media) := ⟨_, rfl⟩
  rw [← hz] at HP2
  have HZ := Lib.hid (show ys = ((z ++ blosB xs) ++ bes gs) ++ pairsB ps from by rw [hz, hys.out])
  have HZL := Lib.hid (show z.length = 8 from by rw [hz]; simp only [List.length_append, be_length, List.length_nil])
  clear hz hys qssrc qtime qpks qocs qmedia
  go_wp2
  clear c0 c6
  go_loopw [3, 56] (fun sb sk wx => ∃ (k : Nat) (A : Option Addr) (N c : Nat), k ≤ bn ∧ sk = .int .i64 k ∧ sb = .slice A N c ∧ Hid (BS w wx v A N c (z ++ blosB (xs.take k)))) (fun _ sk _ => bn - (intOf sk).toNat)
  case atStart => exact ⟨0, _, _, _, by omega, rfl, rfl, by rw [List.take_zero, blosB, List.append_nil]; exact HP2.out⟩
  case round =>
    obtain ⟨k, A, N, c, hk, rfl, rfl, hP⟩ := hrel
    rename World => wx
    clear HP2
    by_cases hlt : k < bn
    · obtain ⟨b, off, x, ea, hbB, hx, d0, d1, d2, d3, d4, d5, d6⟩ := blo_at (HR.out.below hP.out.below) hlt
      have HX := Lib.hid hx
      have hxo := HXO.out x (List.mem_of_getElem? hx)
      have hxt := HXT.out x (List.mem_of_getElem? hx)
      have HLN := Lib.hid (show (z ++ blosB (xs.take k)).length ≤ 100000 from by rw [List.length_append, HZL.out, blosB_length, List.length_take, HR.out.1]; omega)
      have hbA := (Below.refl wx.heap.size wx).alloc (Nat.le_refl _) (bloO x)
      have HQ0 := Lib.hid (hP.out.bel hbA)
      have HD0 := Lib.hid (KBlk.new wx x)
      have qssrc : IntKind.u64.wrap x.ssrc = x.ssrc := wrap_u64 _ ⟨hxo.ssrc.1, by have := hxo.ssrc.2; omega⟩
      have qlost : IntKind.u64.wrap x.lost = x.lost := wrap_u64 _ ⟨hxo.lost.1, by have := hxo.lost.2; omega⟩
      have qtotal : IntKind.u64.wrap x.total = x.total := wrap_u64 _ ⟨hxo.total.1, by have := hxo.total.2; omega⟩
      have qhigh : IntKind.u64.wrap x.high = x.high := wrap_u64 _ ⟨hxo.high.1, by have := hxo.high.2; omega⟩
      have qjit : IntKind.u64.wrap x.jit = x.jit := wrap_u64 _ ⟨hxo.jit.1, by have := hxo.jit.2; omega⟩
      have qlast : IntKind.u64.wrap x.last = x.last := wrap_u64 _ ⟨hxo.last.1, by have := hxo.last.2; omega⟩
      have qdelay : IntKind.u64.wrap x.delay = x.delay := wrap_u64 _ ⟨hxo.delay.1, by have := hxo.delay.2; omega⟩
      have HO := Lib.hid hxo
      have HT := Lib.hid hxt
      clear hx hbA hP hxo hxt
      rw [ea]
      go_wp2_with fail
      refine (HQ0.out.app 4 x.ssrc (by omega) (by omega) (by have := HLN.out; omega) HO.out.ssrc.1 (by have := HO.out.ssrc.2; omega) (by have := HO.out.ssrc.2; have := HT.out; omega)).mono ?_
      rintro e w20 ⟨B1, M1, l1, rfl, Q1, b1⟩
      have HQ1 := Lib.hid Q1
      have D1 := HD0.out.bel b1
      have HD1 := Lib.hid D1
      have c1 := D1.c1
      clear D1
      clear Q1 b1 HQ0 HD0 d0 d1 d2 d3 d4 d5 d6
      go_wp2_with fail
      refine (HQ1.out.app 1 x.lost (by omega) (by omega) (by have := HLN.out; simp only [List.length_append, be_length] at this ⊢; omega) HO.out.lost.1 (by have := HO.out.lost.2; omega) (by have := HO.out.lost.2; have := HT.out; omega)).mono ?_
      rintro e w21 ⟨B2, M2, l2, rfl, Q2, b2⟩
      have HQ2 := Lib.hid Q2
      have D2 := HD1.out.bel b2
      have HD2 := Lib.hid D2
      have c2 := D2.c2
      clear D2
      clear Q2 b2 HQ1 HD1 c1
      go_wp2_with fail
      refine (HQ2.out.app 3 x.total (by omega) (by omega) (by have := HLN.out; simp only [List.length_append, be_length] at this ⊢; omega) HO.out.total.1 (by have := HO.out.total.2; omega) (by have := HO.out.total.2; have := HT.out; omega)).mono ?_
      rintro e w22 ⟨B3, M3, l3, rfl, Q3, b3⟩
      have HQ3 := Lib.hid Q3
      have D3 := HD2.out.bel b3
      have HD3 := Lib.hid D3
      have c3 := D3.c3
      clear D3
      clear Q3 b3 HQ2 HD2 c2
      go_wp2_with fail
      refine (HQ3.out.app 4 x.high (by omega) (by omega) (by have := HLN.out; simp only [List.length_append, be_length] at this ⊢; omega) HO.out.high.1 (by have := HO.out.high.2; omega) (by have := HO.out.high.2; have := HT.out; omega)).mono ?_
      rintro e w23 ⟨B4, M4, l4, rfl, Q4, b4⟩
      have HQ4 := Lib.hid Q4
      have D4 := HD3.out.bel b4
      have HD4 := Lib.hid D4
      have c4 := D4.c4
      clear D4
      clear Q4 b4 HQ3 HD3 c3
      go_wp2_with fail
      refine (HQ4.out.app 4 x.jit (by omega) (by omega) (by have := HLN.out; simp only [List.length_append, be_length] at this ⊢; omega) HO.out.jit.1 (by have := HO.out.jit.2; omega) (by have := HO.out.jit.2; have := HT.out; omega)).mono ?_
      rintro e w24 ⟨B5, M5, l5, rfl, Q5, b5⟩
      have HQ5 := Lib.hid Q5
      have D5 := HD4.out.bel b5
      have HD5 := Lib.hid D5
      have c5 := D5.c5
      clear D5
      clear Q5 b5 HQ4 HD4 c4
      go_wp2_with fail
      refine (HQ5.out.app 4 x.last (by omega) (by omega) (by have := HLN.out; simp only [List.length_append, be_length] at this ⊢; omega) HO.out.last.1 (by have := HO.out.last.2; omega) (by have := HO.out.last.2; have := HT.out; omega)).mono ?_
      rintro e w25 ⟨B6, M6, l6, rfl, Q6, b6⟩
      have HQ6 := Lib.hid Q6
      have D6 := HD5.out.bel b6
      have HD6 := Lib.hid D6
      have c6 := D6.c6
      clear D6
      clear Q6 b6 HQ5 HD5 c5
      go_wp2_with fail
      refine (HQ6.out.app 4 x.delay (by omega) (by omega) (by have := HLN.out; simp only [List.length_append, be_length] at this ⊢; omega) HO.out.delay.1 (by have := HO.out.delay.2; omega) (by have := HO.out.delay.2; have := HT.out; omega)).mono ?_
      rintro e w26 ⟨B7, M7, l7, rfl, Q7, b7⟩
      have HQ7 := Lib.hid Q7
      clear Q7 b7 HQ6 HD6 c6
      go_wp2
      go_roundw
      case rel =>
        refine ⟨k + 1, _, _, _, by omega, by go_num, rfl, ?_⟩
        rw [List.take_add_one, HX.out]
        show BS w _ v _ _ _ (z ++ blosB (xs.take k ++ [x]))
        rw [blosB_snoc']
        have := HQ7.out
        simpa [bloB, List.append_assoc] using this
      case measure => simp [intOf]; omega
    · obtain rfl : k = bn := by omega
      rw [List.take_of_length_le (by rw [HR.out.1]; exact Nat.le_refl _)] at hP
      have HLN := Lib.hid (show (z ++ blosB xs).length ≤ 100000 from by rw [List.length_append, HZL.out, blosB_length, HR.out.1]; omega)
      obtain ⟨y, hy⟩ : ∃ y, y = z ++ blosB xs := ⟨_, rfl⟩
      rw [← hy] at hP HLN
      have HY := Lib.hid (show ys = (y ++ bes gs) ++ pairsB ps from by rw [hy, HZ.out])
      clear hy
      have c7 := hP.out.res.c7
      rw [HGN.out] at c7
      go_wp2
      clear c7
      go_loopw [3, 99] (fun sb sk wx => ∃ (k : Nat) (A : Option Addr) (N c : Nat), k ≤ gn ∧ sk = .int .i64 k ∧ sb = .slice A N c ∧ Hid (BS w wx v A N c (y ++ bes (gs.take k)))) (fun _ sk _ => gn - (intOf sk).toNat)
      case atStart => exact ⟨0, _, _, _, by omega, rfl, rfl, by rw [List.take_zero, bes, List.append_nil]; exact hP.out⟩
      case round =>
        clear hP
        obtain ⟨i, A', N', c', hk', rfl, rfl, hP⟩ := hrel
        rename World => wy
        by_cases hlt' : i < gn
        · obtain ⟨b, off, ea, hbB, hc⟩ := (HG.out.below hP.out.below).2.2 (by omega)
          have d0 := hc i hlt'
          have hw := HG.out.2.1.getD i
          have hx : gs[i]? = some (gs.getD i 0) := by
            have : i < gs.length := by rw [HG.out.1]; exact hlt'
            rw [List.getElem?_eq_getElem this, List.getD_eq_getElem?_getD, List.getElem?_eq_getElem this]; rfl
          have HX := Lib.hid hx
          generalize gs.getD i 0 = x at *
          have qx : IntKind.u64.wrap x = x := wrap_u64 _ ⟨hw.1, by have := hw.2; omega⟩
          have HW := Lib.hid hw
          have HLM := Lib.hid (show (y ++ bes (gs.take i)).length ≤ 200000 from by rw [List.length_append, bes_length, List.length_take, HG.out.1]; have := HLN.out; omega)
          clear hx hc hw
          rw [ea]
          go_wp2_with fail
          refine (hP.out.app 4 x (by omega) (by omega) (by have := HLM.out; omega) HW.out.1 (by have := HW.out.2; omega) (by have := HW.out.2; omega)).mono ?_
          rintro e w30 ⟨B1, M1, l1, rfl, Q1, -⟩
          have HQ1 := Lib.hid Q1
          clear Q1 d0
          go_wp2
          go_roundw
          case rel =>
            refine ⟨i + 1, _, _, _, by omega, by go_num, rfl, ?_⟩
            rw [List.take_add_one, HX.out]
            show Hid (BS w _ v _ _ _ (y ++ bes (gs.take i ++ [x])))
            rw [bes_snoc, ← List.append_assoc]
            exact HQ1.out
          case measure => simp [intOf]; omega
        · obtain rfl : i = gn := by omega
          rw [List.take_of_length_le (by rw [HG.out.1]; exact Nat.le_refl _)] at hP
          have HLM := Lib.hid (show (y ++ bes gs).length ≤ 200000 from by rw [List.length_append, bes_length, HG.out.1]; have := HLN.out; omega)
          obtain ⟨y2, hy2⟩ : ∃ y2, y2 = y ++ bes gs := ⟨_, rfl⟩
          rw [← hy2] at hP HLM
          have HY2 := Lib.hid (show ys = y2 ++ pairsB ps from by rw [hy2, HY.out])
          clear hy2
          have c9 := hP.out.res.c9
          rw [HPN.out] at c9
          go_wp2
          clear c9
          go_loopw [3, 111] (fun sb sk wx => ∃ (k : Nat) (A : Option Addr) (N c : Nat), k ≤ pn ∧ sk = .int .i64 k ∧ sb = .slice A N c ∧ Hid (BS w wx v A N c (y2 ++ pairsB (ps.take k)))) (fun _ sk _ => pn - (intOf sk).toNat)
          case atStart => exact ⟨0, _, _, _, by omega, rfl, rfl, by rw [List.take_zero, pairsB, List.append_nil]; exact hP.out⟩
          case round =>
            clear hP
            obtain ⟨j, A'', N'', c'', hk'', rfl, rfl, hP⟩ := hrel
            rename World => wz
            by_cases hlt'' : j < pn
            · obtain ⟨b, off, x, ea, hbB, hx, d0, d1⟩ := pair_at (HP.out.below hP.out.below) hlt''
              have HX := Lib.hid hx
              have ho := HPO.out x (List.mem_of_getElem? hx)
              have q0 : IntKind.u64.wrap x.1 = x.1 := wrap_u64 _ ⟨ho.1.1, by have := ho.1.2; omega⟩
              have q1 : IntKind.u64.wrap x.2 = x.2 := wrap_u64 _ ⟨ho.2.1, by have := ho.2.2; omega⟩
              have HO := Lib.hid ho
              have HLP := Lib.hid (show (y2 ++ pairsB (ps.take j)).length ≤ 300000 from by rw [List.length_append, pairsB_length, List.length_take, HP.out.1]; have := HLM.out; omega)
              have hbA := (Below.refl wz.heap.size wz).alloc (Nat.le_refl _) (pairO x)
              have HQ0 := Lib.hid (hP.out.bel hbA)
              have HD0 := Lib.hid (PrBlk.new wz x)
              clear hx hbA hP ho
              rw [ea]
              go_wp2_with fail
              refine (HQ0.out.app 2 x.1 (by omega) (by omega) (by have := HLP.out; omega) HO.out.1.1 (by have := HO.out.1.2; omega) (by have := HO.out.1.2; omega)).mono ?_
              rintro e w40 ⟨B1, M1, l1, rfl, Q1, b1⟩
              have HQ1 := Lib.hid Q1
              have D1 := HD0.out.bel b1
              have c1 := D1.c1
              clear D1 Q1 b1 HQ0 HD0 d0 d1
              go_wp2_with fail
              refine (HQ1.out.app 2 x.2 (by omega) (by omega) (by have := HLP.out; simp only [List.length_append, be_length] at this ⊢; omega) HO.out.2.1 (by have := HO.out.2.2; omega) (by have := HO.out.2.2; omega)).mono ?_
              rintro e w41 ⟨B2, M2, l2, rfl, Q2, -⟩
              have HQ2 := Lib.hid Q2
              clear Q2 HQ1 c1
              go_wp2
              go_roundw
              case rel =>
                refine ⟨j + 1, _, _, _, by omega, by go_num, rfl, ?_⟩
                rw [List.take_add_one, HX.out]
                show Hid (BS w _ v _ _ _ (y2 ++ pairsB (ps.take j ++ [x])))
                rw [pairsB_snoc, ← List.append_assoc, ← List.append_assoc]
                exact HQ2.out
              case measure => simp [intOf]; omega
            · obtain rfl : j = pn := by omega
              rw [List.take_of_length_le (by rw [HP.out.1]; exact Nat.le_refl _), ← HY2.out] at hP
              have HF := Lib.hid hP.out
              clear hP
              go_wp2
              go_ret
              have hF := HF.out
              have hl := hF.own.len
              subst hl
              exact ⟨_, _, rfl, hF.own, hF.below⟩

set_option maxRecDepth 100000 in
set_option maxHeartbeats 16000000 in
theorem body_206 (v : IV) (bn gn pn : Nat) (xs : List Blo) (gs : List Int) (ps : List (Int × Int)) (w : World) (hkind : v.kind = 206) (hbn : v.bn = bn) (hgn : v.gn = gn) (hpn : v.pn = pn) (hr : RowRd bloL w w.heap.size v.ba bn xs) (hg : Wd w w.heap.size v.ga gn gs) (hp : RowRd pairL w w.heap.size v.pa pn ps)
    (hxo : ∀ x ∈ xs, x.Ok) (hxt : ∀ x ∈ xs, x.total < 16777216) (hpo : ∀ x ∈ ps, U16 x.1 ∧ U16 x.2) (h1 : U32 v.ssrc) (h2 : 0 ≤ v.ntp ∧ v.ntp ≤ 18446744073709551615) (h3 : U32 v.time) (h4 : U32 v.pks) (h5 : U32 v.ocs) (h8 : U32 v.media)
    (hl1 : bn ≤ 1000) (hl2 : gn ≤ 1000) (hl3 : pn ≤ 1000) (ys : List Int) (hys : Hid (ys = (((([] ++ be 4 v.ssrc) ++ be 4 v.media) ++ blosB xs) ++ bes gs) ++ pairsB ps)) :
    Calls Try.prog 65 #[itm v] w (NewRow w ys) := by
  have HK := Lib.hid hkind
  have HBN := Lib.hid hbn
  have HGN := Lib.hid hgn
  have HPN := Lib.hid hpn
  have HR := Lib.hid hr
  have HG := Lib.hid hg
  have HP := Lib.hid hp
  have HXO := Lib.hid hxo
  have HXT := Lib.hid hxt
  have HPO := Lib.hid hpo
  have qssrc : IntKind.u64.wrap v.ssrc = v.ssrc := wrap_u64 _ ⟨h1.1, by have := h1.2; omega⟩
  have qtime : IntKind.u64.wrap v.time = v.time := wrap_u64 _ ⟨h3.1, by have := h3.2; omega⟩
  have qpks : IntKind.u64.wrap v.pks = v.pks := wrap_u64 _ ⟨h4.1, by have := h4.2; omega⟩
  have qocs : IntKind.u64.wrap v.ocs = v.ocs := wrap_u64 _ ⟨h5.1, by have := h5.2; omega⟩
  have qmedia : IntKind.u64.wrap v.media = v.media := wrap_u64 _ ⟨h8.1, by have := h8.2; omega⟩
  have H1 := Lib.hid h1
  have H2 := Lib.hid h2
  have H3 := Lib.hid h3
  have H4 := Lib.hid h4
  have H5 := Lib.hid h5
  have H8 := Lib.hid h8
  have P0 : BS w (w.alloc (iobj v)) v none 0 0 [] := ⟨(Below.refl _ _).alloc (Nat.le_refl _) _, IBlk.new w v, Own.nil _ _⟩
  have HP0 := Lib.hid P0
  have c0 := P0.res.c0
  rw [HK.out] at c0
  have c1 := P0.res.c1
  clear P0 hkind hbn hgn hpn hr hg hp hxo hxt hpo h1 h2 h3 h4 h5 h8
  go_enter Try.func65, Try.ntmps65
  go_wp2_with fail
  refine (HP0.out.app 4 v.ssrc (by omega) (by omega) (by simp) H1.out.1 (by have := H1.out.2; omega) (by have := H1.out.2; omega)).mono ?_
  rintro e w1 ⟨A1, N1, k1, rfl, P1, -⟩
  have HP1 := Lib.hid P1
  clear c0 c1 HP0
  have c0 := P1.res.c0
  rw [HK.out] at c0
  have c8 := P1.res.c8
  clear P1
  go_wp2_with fail
  refine (HP1.out.app 4 v.media (by omega) (by omega) (by simp only [List.length_append, be_length, List.length_nil]; omega) H8.out.1 (by have := H8.out.2; omega) (by have := H8.out.2; omega)).mono ?_
  rintro e w2 ⟨A2, N2, k2, rfl, P2, -⟩
  have HP2 := Lib.hid P2
  clear c0 c8 HP1
  have c0 := P2.res.c0
  rw [HK.out] at c0
  have c6 := P2.res.c6
  rw [HBN.out] at c6
  clear P2
  obtain ⟨z, hz⟩ : ∃ z, z = (([] ++ be 4 v.ssrc) ++ be 4 v.media) := ⟨_, rfl⟩
  rw [← hz] at HP2
  have HZ := Lib.hid (show ys = ((z ++ blosB xs) ++ bes gs) ++ pairsB ps from by rw [hz, hys.out])
  have HZL := Lib.hid (show z.length = 8 from by rw [hz]; simp only [List.length_append, be_length, List.length_nil])
  clear hz hys qssrc qtime qpks qocs qmedia
  go_wp2
  clear c0 c6
  go_loopw [3, 56] (fun sb sk wx => ∃ (k : Nat) (A : Option Addr) (N c : Nat), k ≤ bn ∧ sk = .int .i64 k ∧ sb = .slice A N c ∧ Hid (BS w wx v A N c (z ++ blosB (xs.take k)))) (fun _ sk _ => bn - (intOf sk).toNat)
  case atStart => exact ⟨0, _, _, _, by omega, rfl, rfl, by rw [List.take_zero, blosB, List.append_nil]; exact HP2.out⟩
  case round =>
    obtain ⟨k, A, N, c, hk, rfl, rfl, hP⟩ := hrel
    rename World => wx
    clear HP2
    by_cases hlt : k < bn
    · obtain ⟨b, off, x, ea, hbB, hx, d0, d1, d2, d3, d4, d5, d6⟩ := blo_at (HR.out.below hP.out.below) hlt
      have HX := Lib.hid hx
      have hxo := HXO.out x (List.mem_of_getElem? hx)
      have hxt := HXT.out x (List.mem_of_getElem? hx)
      have HLN := Lib.hid (show (z ++ blosB (xs.take k)).length ≤ 100000 from by rw [List.length_append, HZL.out, blosB_length, List.length_take, HR.out.1]; omega)
      have hbA := (Below.refl wx.heap.size wx).alloc (Nat.le_refl _) (bloO x)
      have HQ0 := Lib.hid (hP.out.bel hbA)
      have HD0 := Lib.hid (KBlk.new wx x)
      have qssrc : IntKind.u64.wrap x.ssrc = x.ssrc := wrap_u64 _ ⟨hxo.ssrc.1, by have := hxo.ssrc.2; omega⟩
      have qlost : IntKind.u64.wrap x.lost = x.lost := wrap_u64 _ ⟨hxo.lost.1, by have := hxo.lost.2; omega⟩
      have qtotal : IntKind.u64.wrap x.total = x.total := wrap_u64 _ ⟨hxo.total.1, by have := hxo.total.2; omega⟩
      have qhigh : IntKind.u64.wrap x.high = x.high := wrap_u64 _ ⟨hxo.high.1, by have := hxo.high.2; omega⟩
      have qjit : IntKind.u64.wrap x.jit = x.jit := wrap_u64 _ ⟨hxo.jit.1, by have := hxo.jit.2; omega⟩
      have qlast : IntKind.u64.wrap x.last = x.last := wrap_u64 _ ⟨hxo.last.1, by have := hxo.last.2; omega⟩
      have qdelay : IntKind.u64.wrap x.delay = x.delay := wrap_u64 _ ⟨hxo.delay.1, by have := hxo.delay.2; omega⟩
      have HO := Lib.hid hxo
      have HT := Lib.hid hxt
      clear hx hbA hP hxo hxt
      rw [ea]
      go_wp2_with fail
      refine (HQ0.out.app 4 x.ssrc (by omega) (by omega) (by have := HLN.out; omega) HO.out.ssrc.1 (by have := HO.out.ssrc.2; omega) (by have := HO.out.ssrc.2; have := HT.out; omega)).mono ?_
      rintro e w20 ⟨B1, M1, l1, rfl, Q1, b1⟩
      have HQ1 := Lib.hid Q1
      have D1 := HD0.out.bel b1
      have HD1 := Lib.hid D1
      have c1 := D1.c1
      clear D1
      clear Q1 b1 HQ0 HD0 d0 d1 d2 d3 d4 d5 d6
      go_wp2_with fail
      refine (HQ1.out.app 1 x.lost (by omega) (by omega) (by have := HLN.out; simp only [List.length_append, be_length] at this ⊢; omega) HO.out.lost.1 (by have := HO.out.lost.2; omega) (by have := HO.out.lost.2; have := HT.out; omega)).mono ?_
      rintro e w21 ⟨B2, M2, l2, rfl, Q2, b2⟩
      have HQ2 := Lib.hid Q2
      have D2 := HD1.out.bel b2
      have HD2 := Lib.hid D2
      have c2 := D2.c2
      clear D2
      clear Q2 b2 HQ1 HD1 c1
      go_wp2_with fail
      refine (HQ2.out.app 3 x.total (by omega) (by omega) (by have := HLN.out; simp only [List.length_append, be_length] at this ⊢; omega) HO.out.total.1 (by have := HO.out.total.2; omega) (by have := HO.out.total.2; have := HT.out; omega)).mono ?_
      rintro e w22 ⟨B3, M3, l3, rfl, Q3, b3⟩
      have HQ3 := Lib.hid Q3
      have D3 := HD2.out.bel b3
      have HD3 := Lib.hid D3
      have c3 := D3.c3
      clear D3
      clear Q3 b3 HQ2 HD2 c2
      go_wp2_with fail
      refine (HQ3.out.app 4 x.high (by omega) (by omega) (by have := HLN.out; simp only [List.length_append, be_length] at this ⊢; omega) HO.out.high.1 (by have := HO.out.high.2; omega) (by have := HO.out.high.2; have := HT.out; omega)).mono ?_
      rintro e w23 ⟨B4, M4, l4, rfl, Q4, b4⟩
      have HQ4 := Lib.hid Q4
      have D4 := HD3.out.bel b4
      have HD4 := Lib.hid D4
      have c4 := D4.c4
      clear D4
      clear Q4 b4 HQ3 HD3 c3
      go_wp2_with fail
      refine (HQ4.out.app 4 x.jit (by omega) (by omega) (by have := HLN.out; simp only [List.length_append, be_length] at this ⊢; omega) HO.out.jit.1 (by have := HO.out.jit.2; omega) (by have := HO.out.jit.2; have := HT.out; omega)).mono ?_
      rintro e w24 ⟨B5, M5, l5, rfl, Q5, b5⟩
      have HQ5 := Lib.hid Q5
      have D5 := HD4.out.bel b5
      have HD5 := Lib.hid D5
      have c5 := D5.c5
      clear D5
      clear Q5 b5 HQ4 HD4 c4
      go_wp2_with fail
      refine (HQ5.out.app 4 x.last (by omega) (by omega) (by have := HLN.out; simp only [List.length_append, be_length] at this ⊢; omega) HO.out.last.1 (by have := HO.out.last.2; omega) (by have := HO.out.last.2; have := HT.out; omega)).mono ?_
      rintro e w25 ⟨B6, M6, l6, rfl, Q6, b6⟩
      have HQ6 := Lib.hid Q6
      have D6 := HD5.out.bel b6
      have HD6 := Lib.hid D6
      have c6 := D6.c6
      clear D6
      clear Q6 b6 HQ5 HD5 c5
      go_wp2_with fail
      refine (HQ6.out.app 4 x.delay (by omega) (by omega) (by have := HLN.out; simp only [List.length_append, be_length] at this ⊢; omega) HO.out.delay.1 (by have := HO.out.delay.2; omega) (by have := HO.out.delay.2; have := HT.out; omega)).mono ?_
      rintro e w26 ⟨B7, M7, l7, rfl, Q7, b7⟩
      have HQ7 := Lib.hid Q7
      clear Q7 b7 HQ6 HD6 c6
      go_wp2
      go_roundw
      case rel =>
        refine ⟨k + 1, _, _, _, by omega, by go_num, rfl, ?_⟩
        rw [List.take_add_one, HX.out]
        show BS w _ v _ _ _ (z ++ blosB (xs.take k ++ [x]))
        rw [blosB_snoc']
        have := HQ7.out
        simpa [bloB, List.append_assoc] using this
      case measure => simp [intOf]; omega
    · obtain rfl : k = bn := by omega
      rw [List.take_of_length_le (by rw [HR.out.1]; exact Nat.le_refl _)] at hP
      have HLN := Lib.hid (show (z ++ blosB xs).length ≤ 100000 from by rw [List.length_append, HZL.out, blosB_length, HR.out.1]; omega)
      obtain ⟨y, hy⟩ : ∃ y, y = z ++ blosB xs := ⟨_, rfl⟩
      rw [← hy] at hP HLN
      have HY := Lib.hid (show ys = (y ++ bes gs) ++ pairsB ps from by rw [hy, HZ.out])
      clear hy
      have c7 := hP.out.res.c7
      rw [HGN.out] at c7
      go_wp2
      clear c7
      go_loopw [3, 99] (fun sb sk wx => ∃ (k : Nat) (A : Option Addr) (N c : Nat), k ≤ gn ∧ sk = .int .i64 k ∧ sb = .slice A N c ∧ Hid (BS w wx v A N c (y ++ bes (gs.take k)))) (fun _ sk _ => gn - (intOf sk).toNat)
      case atStart => exact ⟨0, _, _, _, by omega, rfl, rfl, by rw [List.take_zero, bes, List.append_nil]; exact hP.out⟩
      case round =>
        clear hP
        obtain ⟨i, A', N', c', hk', rfl, rfl, hP⟩ := hrel
        rename World => wy
        by_cases hlt' : i < gn
        · obtain ⟨b, off, ea, hbB, hc⟩ := (HG.out.below hP.out.below).2.2 (by omega)
          have d0 := hc i hlt'
          have hw := HG.out.2.1.getD i
          have hx : gs[i]? = some (gs.getD i 0) := by
            have : i < gs.length := by rw [HG.out.1]; exact hlt'
            rw [List.getElem?_eq_getElem this, List.getD_eq_getElem?_getD, List.getElem?_eq_getElem this]; rfl
          have HX := Lib.hid hx
          generalize gs.getD i 0 = x at *
          have qx : IntKind.u64.wrap x = x := wrap_u64 _ ⟨hw.1, by have := hw.2; omega⟩
          have HW := Lib.hid hw
          have HLM := Lib.hid (show (y ++ bes (gs.take i)).length ≤ 200000 from by rw [List.length_append, bes_length, List.length_take, HG.out.1]; have := HLN.out; omega)
          clear hx hc hw
          rw [ea]
          go_wp2_with fail
          refine (hP.out.app 4 x (by omega) (by omega) (by have := HLM.out; omega) HW.out.1 (by have := HW.out.2; omega) (by have := HW.out.2; omega)).mono ?_
          rintro e w30 ⟨B1, M1, l1, rfl, Q1, -⟩
          have HQ1 := Lib.hid Q1
          clear Q1 d0
          go_wp2
          go_roundw
          case rel =>
            refine ⟨i + 1, _, _, _, by omega, by go_num, rfl, ?_⟩
            rw [List.take_add_one, HX.out]
            show Hid (BS w _ v _ _ _ (y ++ bes (gs.take i ++ [x])))
            rw [bes_snoc, ← List.append_assoc]
            exact HQ1.out
          case measure => simp [intOf]; omega
        · obtain rfl : i = gn := by omega
          rw [List.take_of_length_le (by rw [HG.out.1]; exact Nat.le_refl _)] at hP
          have HLM := Lib.hid (show (y ++ bes gs).length ≤ 200000 from by rw [List.length_append, bes_length, HG.out.1]; have := HLN.out; omega)
          obtain ⟨y2, hy2⟩ : ∃ y2, y2 = y ++ bes gs := ⟨_, rfl⟩
          rw [← hy2] at hP HLM
          have HY2 := Lib.hid (show ys = y2 ++ pairsB ps from by rw [hy2, HY.out])
          clear hy2
          have c9 := hP.out.res.c9
          rw [HPN.out] at c9
          go_wp2
          clear c9
          go_loopw [3, 111] (fun sb sk wx => ∃ (k : Nat) (A : Option Addr) (N c : Nat), k ≤ pn ∧ sk = .int .i64 k ∧ sb = .slice A N c ∧ Hid (BS w wx v A N c (y2 ++ pairsB (ps.take k)))) (fun _ sk _ => pn - (intOf sk).toNat)
          case atStart => exact ⟨0, _, _, _, by omega, rfl, rfl, by rw [List.take_zero, pairsB, List.append_nil]; exact hP.out⟩
          case round =>
            clear hP
            obtain ⟨j, A'', N'', c'', hk'', rfl, rfl, hP⟩ := hrel
            rename World => wz
            by_cases hlt'' : j < pn
            · obtain ⟨b, off, x, ea, hbB, hx, d0, d1⟩ := pair_at (HP.out.below hP.out.below) hlt''
              have HX := Lib.hid hx
              have ho := HPO.out x (List.mem_of_getElem? hx)
              have q0 : IntKind.u64.wrap x.1 = x.1 := wrap_u64 _ ⟨ho.1.1, by have := ho.1.2; omega⟩
              have q1 : IntKind.u64.wrap x.2 = x.2 := wrap_u64 _ ⟨ho.2.1, by have := ho.2.2; omega⟩
              have HO := Lib.hid ho
              have HLP := Lib.hid (show (y2 ++ pairsB (ps.take j)).length ≤ 300000 from by rw [List.length_append, pairsB_length, List.length_take, HP.out.1]; have := HLM.out; omega)
              have hbA := (Below.refl wz.heap.size wz).alloc (Nat.le_refl _) (pairO x)
              have HQ0 := Lib.hid (hP.out.bel hbA)
              have HD0 := Lib.hid (PrBlk.new wz x)
              clear hx hbA hP ho
              rw [ea]
              go_wp2_with fail
              refine (HQ0.out.app 2 x.1 (by omega) (by omega) (by have := HLP.out; omega) HO.out.1.1 (by have := HO.out.1.2; omega) (by have := HO.out.1.2; omega)).mono ?_
              rintro e w40 ⟨B1, M1, l1, rfl, Q1, b1⟩
              have HQ1 := Lib.hid Q1
              have D1 := HD0.out.bel b1
              have c1 := D1.c1
              clear D1 Q1 b1 HQ0 HD0 d0 d1
              go_wp2_with fail
              refine (HQ1.out.app 2 x.2 (by omega) (by omega) (by have := HLP.out; simp only [List.length_append, be_length] at this ⊢; omega) HO.out.2.1 (by have := HO.out.2.2; omega) (by have := HO.out.2.2; omega)).mono ?_
              rintro e w41 ⟨B2, M2, l2, rfl, Q2, -⟩
              have HQ2 := Lib.hid Q2
              clear Q2 HQ1 c1
              go_wp2
              go_roundw
              case rel =>
                refine ⟨j + 1, _, _, _, by omega, by go_num, rfl, ?_⟩
                rw [List.take_add_one, HX.out]
                show Hid (BS w _ v _ _ _ (y2 ++ pairsB (ps.take j ++ [x])))
                rw [pairsB_snoc, ← List.append_assoc, ← List.append_assoc]
                exact HQ2.out
              case measure => simp [intOf]; omega
            · obtain rfl : j = pn := by omega
              rw [List.take_of_length_le (by rw [HP.out.1]; exact Nat.le_refl _), ← HY2.out] at hP
              have HF := Lib.hid hP.out
              clear hP
              go_wp2
              go_ret
              have hF := HF.out
              have hl := hF.own.len
              subst hl
              exact ⟨_, _, rfl, hF.own, hF.below⟩

end Go.Proofs.Ythmmafpmpnhleaa.Fbk
