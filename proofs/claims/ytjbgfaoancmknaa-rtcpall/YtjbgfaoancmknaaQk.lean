/- The contracts of the reference's Item, PutReport. -/
import Derived.Test.YtjbgfaoancmknaaQi
import Derived.Test.YtjbgfaoancmknaaQj
import Derived.Test.YtjbgfaoancmknaaQe
namespace Go.Proofs.Ytjbgfaoancmknaa.Fbk
open Go.RowKit
set_option linter.unusedVariables false

set_option maxHeartbeats 4000000 in
theorem item_200 (v : IV) (bn gn : Nat) (bs : List Int) (w : World) (hkind : v.kind = 200) (hbn : v.bn = bn) (hgn : v.gn = gn) (h15 : bn + gn ≤ 100) (hbs : bs.length ≤ 1000) (CB : Hid (∀ W, Below w.heap.size w W → Calls Try.prog 32 #[itm v] W (NewRow W bs))) :
    Calls Try.prog 21 #[itm v] w (NewRow w ([128 + ((bn : Int) + gn), 200, 0, ((bs.length / 4 : Nat) : Int)] ++ bs)) := by
  have HK := Lib.hid hkind
  have HBN := Lib.hid hbn
  have HGN := Lib.hid hgn
  have HD := Lib.hid (IBlk.new w v)
  have HB := Lib.hid ((Below.refl w.heap.size w).alloc (Nat.le_refl _) (iobj v))
  obtain ⟨n, hn⟩ : ∃ n, bs.length = n := ⟨_, rfl⟩
  have HN := Lib.hid hn
  obtain ⟨m, hm⟩ : ∃ m : Int, ((bs.length / 4 : Nat) : Int) = m := ⟨_, rfl⟩
  have q1 : (n : Int).tdiv 4 = m := by rw [Int.tdiv_eq_ediv_of_nonneg (by omega)]; omega
  have q2 : wrap64 m = m := by unfold wrap64; omega
  have q6 : m % 256 = m := by omega
  have q3 : IntKind.u8.wrap (128 + ((bn : Int) + gn)) = 128 + (bn + gn) := wrap_u8 _ ⟨by omega, by omega⟩
  have q4 : IntKind.i64.wrap ((bn : Int) + gn) = bn + gn := IntWalk.i64_in _ (by omega)
  have q5 : IntKind.i64.wrap (128 + ((bn : Int) + gn)) = 128 + (bn + gn) := IntWalk.i64_in _ (by omega)
  have HM := Lib.hid (show 0 ≤ m ∧ m ≤ 255 ∧ (bn : Int) + gn ≤ 100 from ⟨by omega, by omega, by omega⟩)
  have hn' : n ≤ 1000 := by omega
  rw [hm]
  obtain ⟨L, hL⟩ : ∃ L : List Int, L = [128 + ((bn : Int) + gn), 200, 0, m] := ⟨_, rfl⟩
  rw [← hL]
  obtain ⟨ys, hy⟩ : ∃ ys, ys = L ++ bs := ⟨_, rfl⟩
  rw [← hy]
  have HL := Lib.hid hL
  have HY := Lib.hid hy
  clear hL hy
  have c0 := HD.out.c0
  have c6 := HD.out.c6
  have c7 := HD.out.c7
  have c1 := HD.out.c1
  have c2 := HD.out.c2
  have c3 := HD.out.c3
  have c4 := HD.out.c4
  have c5 := HD.out.c5
  have c8 := HD.out.c8
  have c9 := HD.out.c9
  rw [HK.out] at c0
  rw [HBN.out] at c6
  rw [HGN.out] at c7
  have CB' : Hid (∀ W, Below w.heap.size w W → Calls Try.prog 32 #[.agg #[.int .i64 200, .int .u32 v.ssrc, .int .u64 v.ntp, .int .u32 v.time, .int .u32 v.pks, .int .u32 v.ocs, .slice v.ba bn v.bc, .slice v.ga gn v.gc, .int .u32 v.media, .slice v.pa v.pn v.pc]] W (NewRow W bs)) := fun W hW => by
    have := CB.out W hW
    rwa [show itm v = .agg #[.int .i64 200, .int .u32 v.ssrc, .int .u64 v.ntp, .int .u32 v.time, .int .u32 v.pks, .int .u32 v.ocs, .slice v.ba bn v.bc, .slice v.ga gn v.gc, .int .u32 v.media, .slice v.pa v.pn v.pc] from by rw [itm, hkind, hbn, hgn]] at this
  clear hkind hbn hgn hn hm hbs
  go_enter Try.func21, Try.ntmps21
  go_wp2_with fail
  refine (CB'.out _ HB.out).mono ?_
  rintro e w1 ⟨A, c, rfl, ho, hb1⟩
  rw [HN.out] at ho
  rw [HN.out]
  have D1 := HD.out.bel hb1
  have HB1 := Lib.hid (HB.out.trans (hb1.mono HB.out.size))
  have d0 := D1.c0
  rw [HK.out] at d0
  have HO := Lib.hid ho
  clear c0 c1 c2 c3 c4 c5 c6 c7 c8 c9 ho hb1 D1 HD HB CB CB'
  have hkk : Blk (w1.alloc (.cells #[.int .u8 (128 + ((bn : Int) + gn)), .int .u8 200, .int .u8 0, .int .u8 m] 5)) w1.heap.size L [] := by rw [HL.out]; exact alloc_blk w1 [128 + ((bn : Int) + gn), 200, 0, m]
  have hLb : Bytes L := by
    have := HM.out
    rw [HL.out]
    intro x hx
    simp only [List.mem_cons, List.not_mem_nil, or_false] at hx
    rcases hx with rfl | rfl | rfl | rfl <;> omega
  have HOL := Lib.hid (Own.of_blk hkk (Nat.le_refl _) hLb (show L.length = 4 from by rw [HL.out]; rfl) (by unfold maxLen; omega))
  have hbA := (Below.refl w1.heap.size w1).alloc (Nat.le_refl _) (.cells #[.int .u8 (128 + ((bn : Int) + gn)), .int .u8 200, .int .u8 0, .int .u8 m] 5)
  have HOA := Lib.hid (HO.out.below hbA (Nat.le_refl _)).rd
  have HBA := Lib.hid hbA
  clear hkk hLb hbA HO
  go_wp2_with (at_builtin; refine wpList_append_bytes rfl _ _ rfl w1.heap.size _ 4 4 n c (4 + n) _ A L bs (L ++ bs) rfl rfl rfl rfl HOL.out HOA.out ?c1 ?c2 ?_
               case c1 => simp
               case c2 => omega
               intro A2 c2 w2 ho2 hb2
               have HO2 := Lib.hid ho2
               have HB2 := Lib.hid hb2
               clear ho2 hb2)
  go_ret
  have hl : ys.length = 4 + n := by rw [HY.out, List.length_append, HN.out, HL.out]; rfl
  have ho := HO2.out
  rw [← HY.out] at ho
  refine ⟨A2, c2, by rw [hl]; rfl, ?_, ?_⟩
  · rw [hl]; exact own_lower ho HB1.out.size
  · exact HB1.out.trans ((HBA.out.trans HB2.out).mono HB1.out.size)

set_option maxHeartbeats 4000000 in
theorem item_201 (v : IV) (bn gn : Nat) (bs : List Int) (w : World) (hkind : v.kind = 201) (hbn : v.bn = bn) (hgn : v.gn = gn) (h15 : bn + gn ≤ 100) (hbs : bs.length ≤ 1000) (CB : Hid (∀ W, Below w.heap.size w W → Calls Try.prog 32 #[itm v] W (NewRow W bs))) :
    Calls Try.prog 21 #[itm v] w (NewRow w ([128 + ((bn : Int) + gn), 201, 0, ((bs.length / 4 : Nat) : Int)] ++ bs)) := by
  have HK := Lib.hid hkind
  have HBN := Lib.hid hbn
  have HGN := Lib.hid hgn
  have HD := Lib.hid (IBlk.new w v)
  have HB := Lib.hid ((Below.refl w.heap.size w).alloc (Nat.le_refl _) (iobj v))
  obtain ⟨n, hn⟩ : ∃ n, bs.length = n := ⟨_, rfl⟩
  have HN := Lib.hid hn
  obtain ⟨m, hm⟩ : ∃ m : Int, ((bs.length / 4 : Nat) : Int) = m := ⟨_, rfl⟩
  have q1 : (n : Int).tdiv 4 = m := by rw [Int.tdiv_eq_ediv_of_nonneg (by omega)]; omega
  have q2 : wrap64 m = m := by unfold wrap64; omega
  have q6 : m % 256 = m := by omega
  have q3 : IntKind.u8.wrap (128 + ((bn : Int) + gn)) = 128 + (bn + gn) := wrap_u8 _ ⟨by omega, by omega⟩
  have q4 : IntKind.i64.wrap ((bn : Int) + gn) = bn + gn := IntWalk.i64_in _ (by omega)
  have q5 : IntKind.i64.wrap (128 + ((bn : Int) + gn)) = 128 + (bn + gn) := IntWalk.i64_in _ (by omega)
  have HM := Lib.hid (show 0 ≤ m ∧ m ≤ 255 ∧ (bn : Int) + gn ≤ 100 from ⟨by omega, by omega, by omega⟩)
  have hn' : n ≤ 1000 := by omega
  rw [hm]
  obtain ⟨L, hL⟩ : ∃ L : List Int, L = [128 + ((bn : Int) + gn), 201, 0, m] := ⟨_, rfl⟩
  rw [← hL]
  obtain ⟨ys, hy⟩ : ∃ ys, ys = L ++ bs := ⟨_, rfl⟩
  rw [← hy]
  have HL := Lib.hid hL
  have HY := Lib.hid hy
  clear hL hy
  have c0 := HD.out.c0
  have c6 := HD.out.c6
  have c7 := HD.out.c7
  have c1 := HD.out.c1
  have c2 := HD.out.c2
  have c3 := HD.out.c3
  have c4 := HD.out.c4
  have c5 := HD.out.c5
  have c8 := HD.out.c8
  have c9 := HD.out.c9
  rw [HK.out] at c0
  rw [HBN.out] at c6
  rw [HGN.out] at c7
  have CB' : Hid (∀ W, Below w.heap.size w W → Calls Try.prog 32 #[.agg #[.int .i64 201, .int .u32 v.ssrc, .int .u64 v.ntp, .int .u32 v.time, .int .u32 v.pks, .int .u32 v.ocs, .slice v.ba bn v.bc, .slice v.ga gn v.gc, .int .u32 v.media, .slice v.pa v.pn v.pc]] W (NewRow W bs)) := fun W hW => by
    have := CB.out W hW
    rwa [show itm v = .agg #[.int .i64 201, .int .u32 v.ssrc, .int .u64 v.ntp, .int .u32 v.time, .int .u32 v.pks, .int .u32 v.ocs, .slice v.ba bn v.bc, .slice v.ga gn v.gc, .int .u32 v.media, .slice v.pa v.pn v.pc] from by rw [itm, hkind, hbn, hgn]] at this
  clear hkind hbn hgn hn hm hbs
  go_enter Try.func21, Try.ntmps21
  go_wp2_with fail
  refine (CB'.out _ HB.out).mono ?_
  rintro e w1 ⟨A, c, rfl, ho, hb1⟩
  rw [HN.out] at ho
  rw [HN.out]
  have D1 := HD.out.bel hb1
  have HB1 := Lib.hid (HB.out.trans (hb1.mono HB.out.size))
  have d0 := D1.c0
  rw [HK.out] at d0
  have HO := Lib.hid ho
  clear c0 c1 c2 c3 c4 c5 c6 c7 c8 c9 ho hb1 D1 HD HB CB CB'
  have hkk : Blk (w1.alloc (.cells #[.int .u8 (128 + ((bn : Int) + gn)), .int .u8 201, .int .u8 0, .int .u8 m] 5)) w1.heap.size L [] := by rw [HL.out]; exact alloc_blk w1 [128 + ((bn : Int) + gn), 201, 0, m]
  have hLb : Bytes L := by
    have := HM.out
    rw [HL.out]
    intro x hx
    simp only [List.mem_cons, List.not_mem_nil, or_false] at hx
    rcases hx with rfl | rfl | rfl | rfl <;> omega
  have HOL := Lib.hid (Own.of_blk hkk (Nat.le_refl _) hLb (show L.length = 4 from by rw [HL.out]; rfl) (by unfold maxLen; omega))
  have hbA := (Below.refl w1.heap.size w1).alloc (Nat.le_refl _) (.cells #[.int .u8 (128 + ((bn : Int) + gn)), .int .u8 201, .int .u8 0, .int .u8 m] 5)
  have HOA := Lib.hid (HO.out.below hbA (Nat.le_refl _)).rd
  have HBA := Lib.hid hbA
  clear hkk hLb hbA HO
  go_wp2_with (at_builtin; refine wpList_append_bytes rfl _ _ rfl w1.heap.size _ 4 4 n c (4 + n) _ A L bs (L ++ bs) rfl rfl rfl rfl HOL.out HOA.out ?c1 ?c2 ?_
               case c1 => simp
               case c2 => omega
               intro A2 c2 w2 ho2 hb2
               have HO2 := Lib.hid ho2
               have HB2 := Lib.hid hb2
               clear ho2 hb2)
  go_ret
  have hl : ys.length = 4 + n := by rw [HY.out, List.length_append, HN.out, HL.out]; rfl
  have ho := HO2.out
  rw [← HY.out] at ho
  refine ⟨A2, c2, by rw [hl]; rfl, ?_, ?_⟩
  · rw [hl]; exact own_lower ho HB1.out.size
  · exact HB1.out.trans ((HBA.out.trans HB2.out).mono HB1.out.size)


theorem bodyI_rep (i : Itm) (hk : isRep i.kind = true) (hM : MayI i) : i.gone = [] ∧ i.pairs = [] ∧ i.blocks.length ≤ 15 ∧ (∀ x ∈ i.blocks, x.total < 16777216) ∧ (bodyI i).length ≤ 1000 := by
  have hw := body_words i hM
  have h9 : (bodyI i).length ≤ 1000 := by omega
  simp only [isRep, Bool.or_eq_true, decide_eq_true_eq] at hk
  rcases hM with ⟨k, g, p, m, r⟩ | ⟨k, s, g, p, m, r⟩ | ⟨k, _⟩ | ⟨k, _⟩ | ⟨k, _⟩
  · exact ⟨g, p, r.1, r.2, h9⟩
  · exact ⟨g, p, r.1, r.2, h9⟩
  · omega
  · omega
  · omega
/-- Item of a report that may be. -/
theorem item_itm (w : World) (i : Itm) (l : ILoc) (B : Nat) (ho : i.Ok) (h : IRd w B i l) (hB : B ≤ w.heap.size) (hk : isRep i.kind = true) (hM : MayI i) : Calls Try.prog 21 #[itm (ivOf i l)] w (NewRow w (encI i)) := by
  obtain ⟨hg, hp, h15, ht, hlen⟩ := bodyI_rep i hk hM
  have hgl : i.gone.length = 0 := by rw [hg]; rfl
  have hpl : i.pairs.length = 0 := by rw [hp]; rfl
  simp only [isRep, Bool.or_eq_true, decide_eq_true_eq] at hk
  have h' := h.more hB
  rcases hk with hk | hk
  · have CB : Hid (∀ W, Below w.heap.size w W → Calls Try.prog 32 #[itm (ivOf i l)] W (NewRow W (bodyI i))) := fun W hW => by
      have hr := (h'.below hW).more hW.size
      exact body_200 (ivOf i l) i.blocks.length i.gone.length i.pairs.length i.blocks i.gone i.pairs W hk rfl rfl rfl hr.blocks hr.gone hr.pairs ho.blocks ht ho.pairs ho.ssrc ho.ntp ho.time ho.pks ho.ocs ho.media (by omega) (by omega) (by omega) _ (by simp [bodyI, hk]; exact rfl)
    have := item_200 (ivOf i l) i.blocks.length i.gone.length (bodyI i) w hk rfl rfl (by omega) hlen CB
    rwa [show [128 + ((i.blocks.length : Int) + i.gone.length), 200, 0, (((bodyI i).length / 4 : Nat) : Int)] ++ bodyI i = encI i from by simp [encI, cntI, hk]] at this
  · have CB : Hid (∀ W, Below w.heap.size w W → Calls Try.prog 32 #[itm (ivOf i l)] W (NewRow W (bodyI i))) := fun W hW => by
      have hr := (h'.below hW).more hW.size
      exact body_201 (ivOf i l) i.blocks.length i.gone.length i.pairs.length i.blocks i.gone i.pairs W hk rfl rfl rfl hr.blocks hr.gone hr.pairs ho.blocks ht ho.pairs ho.ssrc ho.ntp ho.time ho.pks ho.ocs ho.media (by omega) (by omega) (by omega) _ (by simp [bodyI, hk]; exact rfl)
    have := item_201 (ivOf i l) i.blocks.length i.gone.length (bodyI i) w hk rfl rfl (by omega) hlen CB
    rwa [show [128 + ((i.blocks.length : Int) + i.gone.length), 201, 0, (((bodyI i).length / 4 : Nat) : Int)] ++ bodyI i = encI i from by simp [encI, cntI, hk]] at this
end Go.Proofs.Ytjbgfaoancmknaa.Fbk
