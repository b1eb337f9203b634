/- The contracts of the reference's Apply, FrameOf: written by wip/gen/ni.py. -/
import Derived.Test.YtdnnfoacpjgloaaNh
set_option maxRecDepth 100000
namespace Go.Proofs.Ytdnnfoacpjgloaa.Pat
open Go.RowKit
open Rtp (PV pkt pobj PBlk pvOf PRd zpv Off)
set_option linter.unusedVariables false

/-- The run of an append of bytes, as an operation that comes up. -/
theorem oper_append_bytes {w : World} {o : Oper} {act : Act} {K : Act → World → Prop} {Q : Exit → Act → World → Prop} (s x : Operand)
    (hop : o.op = .call { callee := .builtin .append, args := #[s, x], argTypes := #[36, 36] }) (base B n c m k N : Nat) (A a : Option Addr) (xs ys zs : List Int) (hN : n + m = N) (hz : xs ++ ys = zs)
    (hs : act.eval s = .slice A n c) (hx : act.eval x = .slice a m k) (ho : Own w base A n c xs) (hr : Rd w B a m ys) (hb : base ≤ w.heap.size) (hsz : n + m ≤ 140737488355328)
    (h : ∀ A' c' w', Own w' base A' N c' zs → Below base w w' → K (act.put o.dst (.slice A' N c')) w') : Oper.wp Try.prog o act w K Q := by
  subst hN
  subst hz
  obtain ⟨A', c', w', hrun, ho', hb'⟩ := append_run (k := k) o.type ho hr hb hsz
  unfold Oper.wp execOp
  simp only [hop, resolve, invoke, builtin, Sem.run_bind, Sem.run_pure, Result.andThen_ok, List.map_toArray, List.map_cons, List.map_nil, hs, hx, hrun]
  exact h A' c' w' ho' hb'
theorem Rd.from {w : World} {B b off n cap lo : Nat} {X : Option Addr} {xs : List Int} (h : Rd w B (some ⟨b, off, none⟩) n xs) (h1 : lo ≤ n) (h3 : n ≤ cap) (hX : cap ≠ lo → X = some ⟨b, off + lo, none⟩) : Rd w B X (n - lo) (xs.drop lo) := by
  by_cases hc : cap = lo
  · obtain h0 : n - lo = 0 := by omega
    rw [h0]
    exact Rd.none_ X (List.drop_of_length_le (by rw [h.1]; omega))
  · rw [hX hc]
    exact h.drop (k := lo) h1
theorem pair_of {w w' : World} {base n c : Nat} {A : Option Addr} {zs : List Int} {b : Bool} (hn : zs.length = n) (hb : w.heap.size ≤ base) (ho : Own w' base A n c zs) (h : Below w.heap.size w w') : PairRow w zs b (.returned (.tuple #[.slice A n c, .bool b])) w' := by
  subst hn
  exact ⟨A, c, rfl, ho.lower hb, h⟩
/-- The packet with other numbers and another payload. -/
def np (p : Pkt) (q t r : Int) (ys : List Int) : Pkt := { p with seq := q, time := t, ssrc := r, pay := ys }

set_option maxHeartbeats 2000000 in
theorem rapply_no (a : Option Addr) (len cap B : Nat) (xs : List Int) (p : Pkt) (l f0 q t r f : Int) (n : Int) (k s : Bool) (w : World) (hn : (n != 0) = true) (hl : len ≤ 140737488351232) (hr : Rd w B a len xs) (hB : B ≤ w.heap.size)
    (CM : Hid (∀ W, Below w.heap.size w W → Calls Try.prog 42 #[.slice a len cap] W (RetM W p l k s f0 n))) :
    Calls Try.prog 27 #[.slice a len cap, pch q t r f] w (PairRow w xs false) := by
  have HX := Lib.hid hr.1
  have HR := Lib.hid hr
  clear hr
  go_enter Try.func27, Try.ntmps27
  go_wp2_with fail
  have hb0 := (Below.refl w.heap.size w).alloc (Nat.le_refl _) (.cells #[.int .u16 q, .int .u32 t, .int .u32 r, .int .u16 f] 35)
  refine (CM.out _ hb0).mono ?_
  rintro e w1 ⟨lc, rfl, -, hb1⟩
  obtain ⟨v, hv⟩ : ∃ v, pvOf p lc = v := ⟨_, rfl⟩
  rw [hv]
  have hb : Below w.heap.size w w1 := hb0.trans (hb1.mono (by simp))
  have hb2 := (hb.alloc hb.size (pobj v)).alloc (Nat.le_trans hb.size (by simp)) (.cells #[.int .i64 l, .bool k, .bool s, .int .u16 f0] 82)
  have HB := Lib.hid hb2
  have HR2 := Lib.hid (HR.out.below (hb2.mono hB))
  clear hb hb0 hb1 hb2 CM hv
  go_wp2_with (at_builtin; refine wpList_append_bytes rfl (.const (.slice none 0 0)) (.tmp 19) rfl _ B 0 0 len cap len none a [] xs xs (Nat.zero_add _) rfl rfl rfl (Own.nil _ _) HR2.out (Nat.le_refl _) (by omega) ?_; intro A c w2 ho hb2)
  exact bodyPost_ret (v := .tuple #[.slice A len c, .bool false]) (by simp [results, Try.results27, go_sem]) rfl (pair_of HX.out HB.out.size ho (HB.out.trans (hb2.mono HB.out.size)))

set_option maxHeartbeats 4000000 in
theorem rapply_yes (a : Option Addr) (len cap : Nat) (p : Pkt) (l f0 q t r f : Int) (k s : Bool) (zs ys os : List Int) (w : World) (h4 : 4 ≤ p.pay.length) (hzl : zs.length ≤ 4) (hys : zs ++ p.pay.drop 4 = ys)
    (CM : Hid (∀ W, Below w.heap.size w W → Calls Try.prog 42 #[.slice a len cap] W (RetM W p l k s f0 0)))
    (CD : Hid (∀ W, Calls Try.prog 43 #[dsc 0 k s f] W (NewRow W zs)))
    (CP : Hid (∀ W lc, PRd W W.heap.size (np p q t r ys) lc → Calls Try.prog 44 #[pkt (pvOf (np p q t r ys) lc)] W (Rtp.RetR W os 0))) :
    Calls Try.prog 27 #[.slice a len cap, pch q t r f] w (PairRow w os true) := by
  go_enter Try.func27, Try.ntmps27
  go_wp2_with fail
  have hb0 := (Below.refl w.heap.size w).alloc (Nat.le_refl _) (.cells #[.int .u16 q, .int .u32 t, .int .u32 r, .int .u16 f] 35)
  refine (CM.out _ hb0).mono ?_
  rintro e w1 ⟨lc, rfl, hq, hb1⟩
  obtain ⟨v, hv⟩ : ∃ v, pvOf p lc = v := ⟨_, rfl⟩
  rw [hv]
  have D1 : QBlk w1 w.heap.size q t r f := (QBlk.new w q t r f).below hb1 (by simp)
  have hlt := D1.lt
  have hne : w1.heap.size ≠ w.heap.size := Nat.ne_of_gt D1.lt
  have hne1 : w1.heap.size + 1 ≠ w.heap.size := by have := D1.lt; omega
  have c0 := D1.c0
  have c1 := D1.c1
  have c2 := D1.c2
  have c3 := D1.c3
  have HBW : Hid (Below w.heap.size w w1) := hb0.trans (hb1.mono (by simp))
  clear hb0 hb1 CM D1
  obtain ⟨g, o, hpa, hgl, -⟩ := hq.pay.2.2 (by omega)
  have E1 : v.pa = some ⟨g, o, none⟩ ∧ v.pn = p.pay.length ∧ v.pc = lc.pc := by subst hv; exact ⟨hpa, rfl, rfl⟩
  have hpc := hq.pc
  have hpn := hq.pn
  have HP : Hid (Rd w1 w1.heap.size (some ⟨g, o, none⟩) p.pay.length p.pay) := hpa ▸ hq.pay
  have HQ := Lib.hid hq
  obtain ⟨v2, hv2⟩ : ∃ v2 : PV, v2 = ⟨v.mrk, v.ty, q, t, r, v.ca, v.cn, v.cc, v.he, v.prof, v.ea, v.en, v.ec, v.pa, v.pn, v.pc, v.pad⟩ := ⟨_, rfl⟩
  have HV : Hid (∀ (A : Option Addr) (N c : Nat), N = ys.length → ({ v2 with pa := A, pn := N, pc := c } : PV) = pvOf (np p q t r ys) ⟨lc.ca, lc.cc, lc.ea, lc.ec, A, c⟩) := by
    intro A N c hN
    subst hv2; subst hv; subst hN; rfl
  have D2 : PBlk ((w1.alloc (.cells #[.bool v.mrk, .int .i64 v.ty, .int .u16 q, .int .u32 t, .int .u32 r, .slice v.ca v.cn v.cc, .bool v.he, .int .u16 v.prof, .slice v.ea v.en v.ec, .slice v.pa v.pn v.pc, .int .i64 v.pad] 80)).alloc (.cells #[.int .i64 0, .bool k, .bool s, .int .u16 f] 82)) w1.heap.size v2 := by
    subst hv2
    exact (PBlk.new w1 ⟨v.mrk, v.ty, q, t, r, v.ca, v.cn, v.cc, v.he, v.prof, v.ea, v.en, v.ec, v.pa, v.pn, v.pc, v.pad⟩).below ((Below.refl (w1.alloc (pobj ⟨v.mrk, v.ty, q, t, r, v.ca, v.cn, v.cc, v.he, v.prof, v.ea, v.en, v.ec, v.pa, v.pn, v.pc, v.pad⟩)).heap.size _).alloc (Nat.le_refl _) _) (by simp)
  have E2 : DBlk ((w1.alloc (.cells #[.bool v.mrk, .int .i64 v.ty, .int .u16 q, .int .u32 t, .int .u32 r, .slice v.ca v.cn v.cc, .bool v.he, .int .u16 v.prof, .slice v.ea v.en v.ec, .slice v.pa v.pn v.pc, .int .i64 v.pad] 80)).alloc (.cells #[.int .i64 0, .bool k, .bool s, .int .u16 f] 82)) (w1.heap.size + 1) 0 k s f := by
    have := DBlk.new (w1.alloc (.cells #[.bool v.mrk, .int .i64 v.ty, .int .u16 q, .int .u32 t, .int .u32 r, .slice v.ca v.cn v.cc, .bool v.he, .int .u16 v.prof, .slice v.ea v.en v.ec, .slice v.pa v.pn v.pc, .int .i64 v.pad] 80)) 0 k s f
    rw [show (w1.alloc (.cells #[.bool v.mrk, .int .i64 v.ty, .int .u16 q, .int .u32 t, .int .u32 r, .slice v.ca v.cn v.cc, .bool v.he, .int .u16 v.prof, .slice v.ea v.en v.ec, .slice v.pa v.pn v.pc, .int .i64 v.pad] 80)).heap.size = w1.heap.size + 1 from by simp] at this
    exact this
  have hb2 : Below w1.heap.size w1 ((w1.alloc (.cells #[.bool v.mrk, .int .i64 v.ty, .int .u16 q, .int .u32 t, .int .u32 r, .slice v.ca v.cn v.cc, .bool v.he, .int .u16 v.prof, .slice v.ea v.en v.ec, .slice v.pa v.pn v.pc, .int .i64 v.pad] 80)).alloc (.cells #[.int .i64 0, .bool k, .bool s, .int .u16 f] 82)) := ((Below.refl w1.heap.size w1).alloc (Nat.le_refl _) _).alloc (by simp) _
  have hz2 : ((w1.alloc (.cells #[.bool v.mrk, .int .i64 v.ty, .int .u16 q, .int .u32 t, .int .u32 r, .slice v.ca v.cn v.cc, .bool v.he, .int .u16 v.prof, .slice v.ea v.en v.ec, .slice v.pa v.pn v.pc, .int .i64 v.pad] 80)).alloc (.cells #[.int .i64 0, .bool k, .bool s, .int .u16 f] 82)).heap.size = w1.heap.size + 2 := by simp
  have X9 : v2.pa = some ⟨g, o, none⟩ ∧ v2.pn = p.pay.length ∧ v2.pc = lc.pc := by subst hv2; exact E1
  clear hq hpa E1 hv
  go_wp2_with fail
  clear c0 c1 c2 c3 hne hne1
  generalize (w1.alloc (.cells #[.bool v.mrk, .int .i64 v.ty, .int .u16 q, .int .u32 t, .int .u32 r, .slice v.ca v.cn v.cc, .bool v.he, .int .u16 v.prof, .slice v.ea v.en v.ec, .slice v.pa v.pn v.pc, .int .i64 v.pad] 80)).alloc (.cells #[.int .i64 0, .bool k, .bool s, .int .u16 f] 82) = w2 at *
  clear hv2
  have hbd : w1.heap.size ≠ w1.heap.size + 1 := by omega
  obtain ⟨d, hd⟩ : ∃ d, w1.heap.size + 1 = d := ⟨_, rfl⟩
  rw [hd] at E2 hbd ⊢
  obtain ⟨X, hX, s1⟩ := Rtp.cut_from g o p.pay.length lc.pc 4 4 rfl h4
  have HPX : Hid (∀ W, Below w1.heap.size w1 W → Rd W w1.heap.size X (p.pay.length - 4) (p.pay.drop 4)) := fun W hW => Rd.from (HP.out.below hW) h4 hpc hX
  have HXX := Lib.hid hX
  clear hX HP
  have hbs : w1.heap.size < w2.heap.size := by omega
  have hds : d < w2.heap.size := by omega
  have HZ2 := Lib.hid hz2
  have HD := Lib.hid hd
  clear hz2 hd
  have HW0 : Hid (w.heap.size ≤ w1.heap.size) := HBW.out.size
  have HD2 := Lib.hid D2
  have HB2 := Lib.hid hb2
  clear D2 hb2
  have hS : DBlk w2.drew d 0 k s f := ddrew E2
  have dc0 : ∀ W, DBlk W d 0 k s f → W.cell? ⟨d, 0, none⟩ = some (.int .i64 0) := fun W h => h.c0
  have dc1 : ∀ W, DBlk W d 0 k s f → W.cell? ⟨d, 1, none⟩ = some (.bool k) := fun W h => h.c1
  have dc2 : ∀ W, DBlk W d 0 k s f → W.cell? ⟨d, 2, none⟩ = some (.bool s) := fun W h => h.c2
  have dc3 : ∀ W, DBlk W d 0 k s f → W.cell? ⟨d, 3, none⟩ = some (.int .u16 f) := fun W h => h.c3
  refine region_tree (fun W => DBlk W d 0 k s f) (.rd 0 (.rd 2 (.fk 1 3 (.dn 3 (.rd 4 (.dn 5 (.rd 6 (.dn 7 .nil))))) (.rd 4 (.dn 1 (.dn 5 (.rd 6 (.dn 7 .nil)))))))) (by kernel_rfl) (by kernel_rfl) rfl (by kernel_rfl) ?_
  iterate 2 (refine seqT_read (v := _) rfl (fun _ _ _ h => h) hS (Or.inl ⟨by rfl, fun W hW => by go_simp <;> with_reducible rfl⟩) ?_; simp only [Act.put, List.setIfInBounds_toArray, List.set_cons_zero, List.set_cons_succ])
  clear dc0 dc1 dc2 dc3
  refine seqT_fork rfl rfl (fun K hK => ?_) (fun K hK => ?_)
  · skip
    go_simp
    refine (CD.out _).mono ?_
    rintro e w3 ⟨A3, c3, rfl, ho3, hb3⟩
    have hb3' : Below w2.heap.size w2 w3 := ((Below.refl w2.heap.size w2).drew).trans hb3
    have ho3' : Own w3 w2.heap.size A3 zs.length c3 zs := ho3
    have D3 := HD2.out.below hb3' hbs
    have hS : DBlk w3 d 0 k s f := E2.below hb3' hds
    have hb13 := HB2.out.trans (hb3'.mono HB2.out.size)
    have HO3 := Lib.hid ho3'
    have HZ3 : Hid (w2.heap.size ≤ w3.heap.size) := hb3'.size
    clear hb3 ho3 hb3' ho3'
    refine hK.out _ _ (fun W => DBlk W d 0 k s f) (fun W h => h) hS ?_
    clear hK K
    have x9 := D3.c9
    rw [X9.1, X9.2.1, X9.2.2] at x9
    refine seqT_do rfl (fun K hK => ?_)
    go_simp
    refine hK.out _ _ (fun W => DBlk W d 0 k s f) (fun W h => h) hS ?_
    clear hK K x9
    iterate 1 (refine seqT_read (v := _) rfl (fun _ _ _ h => h) hS (Or.inl ⟨by rfl, fun W hW => by go_simp <;> with_reducible rfl⟩) ?_; simp only [Act.put, List.setIfInBounds_toArray, List.set_cons_zero, List.set_cons_succ])
    refine seqT_do rfl (fun K hK => ?_)
    rw [if_pos (by rfl)]
    refine oper_append_bytes (.tmp 35) (.tmp 38) rfl w2.heap.size w1.heap.size zs.length c3 (p.pay.length - 4) (lc.pc - 4) ys.length A3 X zs (p.pay.drop 4) ys (by rw [← hys, List.length_append, List.length_drop]) hys rfl rfl HO3.out (HPX.out _ hb13) HZ3.out (by omega) (fun A4 c4 w4 ho4 hb4 => hK.out _ _ (fun W => DBlk W d 0 k s f) (fun W h => h) (hS.below hb4 hds) ?_)
    clear hK K
    simp only [Act.put, List.setIfInBounds_toArray, List.set_cons_zero, List.set_cons_succ]
    have hS := hS.below hb4 hds
    iterate 1 (refine seqT_read (v := _) rfl (fun _ _ _ h => h) hS (Or.inl ⟨by rfl, fun W hW => by go_simp <;> with_reducible rfl⟩) ?_; simp only [Act.put, List.setIfInBounds_toArray, List.set_cons_zero, List.set_cons_succ])
    have D4 := D3.below hb4 hbs
    have hb14 := hb13.trans (hb4.mono (Nat.le_of_lt hbs))
    have x9 := D4.c9
    have y9 := D4.frozen 9
    have D5 := Rtp.PBlk.set9' D4 A4 ys.length c4
    rw [HV.out A4 ys.length c4 rfl] at D5
    have HO := (Off.refl w1.heap.size w4).set (k := 9) (.slice A4 ys.length c4)
    have ho5 := ho4.off D4 HO
    have hS5 := DBlk.offb hS (Ne.symm hbd) HO
    have hb5 := hb14.setCell (p := ⟨w1.heap.size, 9, none⟩) (Nat.le_refl _) (.slice A4 ys.length c4)
    have HB5 := Lib.hid hb5
    have HO5 := Lib.hid ho5
    have HD5 := Lib.hid D5
    clear D5 hb5 ho5 HO ho4 hb4 hb13 hb14 D3 D4
    refine seqT_do rfl (fun K hK => ?_)
    go_simp
    refine hK.out _ _ (fun W => DBlk W d 0 k s f) (fun W h => h) hS5 ?_
    clear hK K x9 y9
    refine seqT_end ?_
    clear s1 hS hS5 E2
    generalize w4.setCell ⟨w1.heap.size, 9, none⟩ (.slice A4 ys.length c4) = w5 at *
    have hq5 : PRd w5 w5.heap.size (np p q t r ys) ⟨lc.ca, lc.cc, lc.ea, lc.ec, A4, c4⟩ := ⟨(HQ.out.csrc.below HB5.out).more HB5.out.size, (HQ.out.ext.below HB5.out).more HB5.out.size, HO5.out.rd, HQ.out.cn, HQ.out.en, by have : ys.length = zs.length + (p.pay.length - 4) := by { rw [← hys, List.length_append, List.length_drop] }; show ys.length ≤ _; omega, HQ.out.cc, HQ.out.ec, HO5.out.2.2.1⟩
    have HC := Lib.hid (CP.out w5 _ hq5)
    have D5 := HD5.out
    clear hq5 HD5 HO5 CP HV
    obtain ⟨v5, hv5⟩ : ∃ v5, pvOf (np p q t r ys) ⟨lc.ca, lc.cc, lc.ea, lc.ec, A4, c4⟩ = v5 := ⟨_, rfl⟩
    rw [hv5] at HC D5
    obtain ⟨d0, d1, d2, d3, d4, d5, d6, d7, d8, d9, d10⟩ := D5.cells
    clear D5 hv5
    go_wp2_with fail
    refine HC.out.mono ?_
    rintro e w6 ⟨A6, c6, rfl, ho6, hb6⟩
    clear d0 d1 d2 d3 d4 d5 d6 d7 d8 d9 d10
    have H6 : Below w.heap.size w w6 := HBW.out.trans ((HB5.out.trans (hb6.mono HB5.out.size)).mono HW0.out)
    go_wp2
    exact bodyPost_ret (v := .tuple #[.slice A6 os.length c6, .bool true]) (by simp [results, Try.results27, go_sem]) rfl (pair_of rfl (Nat.le_trans HW0.out HB5.out.size) ho6 H6)
  · skip
    have x9 := HD2.out.c9
    rw [X9.1, X9.2.1, X9.2.2] at x9
    go_simp
    refine hK.out _ _ (fun W => DBlk W d 0 k s f) (fun W h => h) hS ?_
    clear hK K x9
    iterate 1 (refine seqT_read (v := _) rfl (fun _ _ _ h => h) hS (Or.inl ⟨by rfl, fun W hW => by go_simp <;> with_reducible rfl⟩) ?_; simp only [Act.put, List.setIfInBounds_toArray, List.set_cons_zero, List.set_cons_succ])
    refine seqT_do rfl (fun K hK => ?_)
    go_simp
    refine (CD.out _).mono ?_
    rintro e w3 ⟨A3, c3, rfl, ho3, hb3⟩
    have hb3' : Below w2.heap.size w2 w3 := ((Below.refl w2.heap.size w2).drew).trans hb3
    have ho3' : Own w3 w2.heap.size A3 zs.length c3 zs := ho3
    have D3 := HD2.out.below hb3' hbs
    have hS : DBlk w3 d 0 k s f := E2.below hb3' hds
    have hb13 := HB2.out.trans (hb3'.mono HB2.out.size)
    have HO3 := Lib.hid ho3'
    have HZ3 : Hid (w2.heap.size ≤ w3.heap.size) := hb3'.size
    clear hb3 ho3 hb3' ho3'
    refine hK.out _ _ (fun W => DBlk W d 0 k s f) (fun W h => h) hS ?_
    clear hK K
    refine seqT_do rfl (fun K hK => ?_)
    rw [if_pos (by rfl)]
    refine oper_append_bytes (.tmp 35) (.tmp 38) rfl w2.heap.size w1.heap.size zs.length c3 (p.pay.length - 4) (lc.pc - 4) ys.length A3 X zs (p.pay.drop 4) ys (by rw [← hys, List.length_append, List.length_drop]) hys rfl rfl HO3.out (HPX.out _ hb13) HZ3.out (by omega) (fun A4 c4 w4 ho4 hb4 => hK.out _ _ (fun W => DBlk W d 0 k s f) (fun W h => h) (hS.below hb4 hds) ?_)
    clear hK K
    simp only [Act.put, List.setIfInBounds_toArray, List.set_cons_zero, List.set_cons_succ]
    have hS := hS.below hb4 hds
    iterate 1 (refine seqT_read (v := _) rfl (fun _ _ _ h => h) hS (Or.inl ⟨by rfl, fun W hW => by go_simp <;> with_reducible rfl⟩) ?_; simp only [Act.put, List.setIfInBounds_toArray, List.set_cons_zero, List.set_cons_succ])
    have D4 := D3.below hb4 hbs
    have hb14 := hb13.trans (hb4.mono (Nat.le_of_lt hbs))
    have x9 := D4.c9
    have y9 := D4.frozen 9
    have D5 := Rtp.PBlk.set9' D4 A4 ys.length c4
    rw [HV.out A4 ys.length c4 rfl] at D5
    have HO := (Off.refl w1.heap.size w4).set (k := 9) (.slice A4 ys.length c4)
    have ho5 := ho4.off D4 HO
    have hS5 := DBlk.offb hS (Ne.symm hbd) HO
    have hb5 := hb14.setCell (p := ⟨w1.heap.size, 9, none⟩) (Nat.le_refl _) (.slice A4 ys.length c4)
    have HB5 := Lib.hid hb5
    have HO5 := Lib.hid ho5
    have HD5 := Lib.hid D5
    clear D5 hb5 ho5 HO ho4 hb4 hb13 hb14 D3 D4
    refine seqT_do rfl (fun K hK => ?_)
    go_simp
    refine hK.out _ _ (fun W => DBlk W d 0 k s f) (fun W h => h) hS5 ?_
    clear hK K x9 y9
    refine seqT_end ?_
    clear s1 hS hS5 E2
    generalize w4.setCell ⟨w1.heap.size, 9, none⟩ (.slice A4 ys.length c4) = w5 at *
    have hq5 : PRd w5 w5.heap.size (np p q t r ys) ⟨lc.ca, lc.cc, lc.ea, lc.ec, A4, c4⟩ := ⟨(HQ.out.csrc.below HB5.out).more HB5.out.size, (HQ.out.ext.below HB5.out).more HB5.out.size, HO5.out.rd, HQ.out.cn, HQ.out.en, by have : ys.length = zs.length + (p.pay.length - 4) := by { rw [← hys, List.length_append, List.length_drop] }; show ys.length ≤ _; omega, HQ.out.cc, HQ.out.ec, HO5.out.2.2.1⟩
    have HC := Lib.hid (CP.out w5 _ hq5)
    have D5 := HD5.out
    clear hq5 HD5 HO5 CP HV
    obtain ⟨v5, hv5⟩ : ∃ v5, pvOf (np p q t r ys) ⟨lc.ca, lc.cc, lc.ea, lc.ec, A4, c4⟩ = v5 := ⟨_, rfl⟩
    rw [hv5] at HC D5
    obtain ⟨d0, d1, d2, d3, d4, d5, d6, d7, d8, d9, d10⟩ := D5.cells
    clear D5 hv5
    go_wp2_with fail
    refine HC.out.mono ?_
    rintro e w6 ⟨A6, c6, rfl, ho6, hb6⟩
    clear d0 d1 d2 d3 d4 d5 d6 d7 d8 d9 d10
    have H6 : Below w.heap.size w w6 := HBW.out.trans ((HB5.out.trans (hb6.mono HB5.out.size)).mono HW0.out)
    go_wp2
    exact bodyPost_ret (v := .tuple #[.slice A6 os.length c6, .bool true]) (by simp [results, Try.results27, go_sem]) rfl (pair_of rfl (Nat.le_trans HW0.out HB5.out.size) ho6 H6)




theorem rapply_any (a : Option Addr) (len cap B : Nat) (xs : List Int) (q t r f : Int) (w : World) (hl : len ≤ 140737488351232) (hlc : len ≤ cap) (hr : Rd w B a len xs) (hB : B ≤ w.heap.size) (hp : PF q t r f) :
    Calls Try.prog 27 #[.slice a len cap, pch q t r f] w (PairRow w (applyL xs q t r f) (hasD xs)) := by
  have hl' : len ≤ maxLen := by unfold maxLen; omega
  have CM := fun W (hW : Below w.heap.size w W) => media_any a len cap B xs W hl' hlc (hr.below (hW.mono hB)) (Nat.le_trans hB hW.size)
  by_cases h : hasD xs = true
  · obtain ⟨p1, p2⟩ := hasD_iff.1 h
    obtain ⟨-, e1, e2, e3, -, -⟩ := apply_steps hr.2.1 h ⟨hp.q0, hp.q1⟩ ⟨hp.t0, hp.t1⟩ ⟨hp.s0, hp.s1⟩ ⟨hp.f0, hp.f1⟩
    obtain ⟨g1, g2, g3⟩ := Rtp.get_put e3 e1
    rw [e2] at g1 g2 g3
    rw [mP, (mE_iff xs).2 h, h, if_pos rfl] at CM
    rw [h]
    refine rapply_yes a len cap (pQ xs) _ _ q t r f _ _ (putV 0 (gK (pQ xs).pay) (gS (pQ xs).pay) f) _ _ w (gOk_len p2) (by simp [putV]) rfl CM (fun W => ?_) (fun W lc hq => ?_)
    · exact rput_any 0 _ _ f W hp.f0 hp.f1
    · have := Rtp.rput_pkt W W.heap.size (allP (pQ xs) q t r f) lc g1 hq (Nat.le_refl _)
      rw [g2, g3] at this
      exact this
  · have h' : hasD xs = false := Bool.eq_false_iff.2 h
    rw [applyL, h', if_neg (by decide)]
    exact rapply_no a len cap B xs _ _ _ q t r f _ _ _ w (by simpa using fun q => h ((mE_iff xs).1 q)) hl hr hB CM
end Go.Proofs.Ytdnnfoacpjgloaa.Pat
