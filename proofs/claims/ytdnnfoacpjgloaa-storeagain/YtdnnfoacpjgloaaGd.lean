/- The contracts of the store's New, Bytes, Patch; bytes.Clone. -/
import Derived.Test.YtdnnfoacpjgloaaGc
import Derived.Test.YtdnnfoacpjgloaaKr
set_option maxRecDepth 100000
namespace Go.Proofs.Ytdnnfoacpjgloaa.Stv
open Go.RowKit
open Arn (Slt Ar OkS Upd hnV hnO HBlk refsV callE keepL dropL freeN RetS liveB live_cases refsV_at refsV_no newL RetA)
open Pat (OwnG BlkG hasD applyL pch QBlk PF WroteG At)
set_option linter.unusedVariables false

theorem info_room : (Try.prog.info? 73).map (fun i => (i.zero, i.size, i.bytes)) = some (some (.agg ((List.replicate 512 (Value.int .u8 0)) ++ [Value.int .i64 0]).toArray), 513, 520) := by kernel_rfl
theorem made_rooms (n k : Nat) (h : k < n) : (madeCells ((List.replicate 512 (Value.int .u8 0)) ++ [Value.int .i64 0]).toArray (n * 513)).toList[k * 513 + 512]? = some (.int .i64 0) := by
  have hs : (((List.replicate 512 (Value.int .u8 0)) ++ [Value.int .i64 0]).toArray).size = 513 := by simp
  have hj : k * 513 + 512 < n * 513 := by omega
  rw [Array.getElem?_toList, Array.getElem?_eq_getElem (by rw [size_madeCells]; exact hj)]
  simp only [madeCells, Array.getElem_map, Array.getElem_range, hs]
  rw [show (k * 513 + 512) % 513 = 512 from by omega]
  rw [getElem!_pos _ 512 (by rw [hs]; decide)]
  simp
/-- make of a row of rooms: each has no bytes. -/
theorem make_rooms (n : Nat) (hn : n ≤ 1024) (W : World) :
    ∃ W', (Instr.makeSlice 63 (.int .i64 n) (.int .i64 n)).run Try.prog W = .ok (.slice (some ⟨W.heap.size, 0, none⟩) n n) W' ∧ Rooms W' W.heap.size (List.replicate n []) ∧ Below W.heap.size W W' := by
  obtain ⟨i0, hi0, hz0, hz1, hz2⟩ := info_parts info_room
  have := run_make (P := Try.prog) W 63 73 i0 _ Try.underlying63 hi0 hz0 .i64 .i64 n n (by omega) (Int.le_refl _) (by rw [hz2]; omega) (by omega)
  rw [hz1, show (Value.agg ((List.replicate 512 (Value.int .u8 0)) ++ [Value.int .i64 0]).toArray).cells = ((List.replicate 512 (Value.int .u8 0)) ++ [Value.int .i64 0]).toArray from rfl, Int.toNat_natCast] at this
  refine ⟨_, this, ⟨(madeCells ((List.replicate 512 (Value.int .u8 0)) ++ [Value.int .i64 0]).toArray (n * 513)).toList, ?_, ?_, fun k d hd => ?_⟩, (Below.refl _ _).alloc (Nat.le_refl _) _⟩
  · rw [Array.toArray_toList]; exact heap_alloc_new W _
  · rw [Array.length_toList, size_madeCells, List.length_replicate]
  · rw [List.getElem?_replicate] at hd
    split at hd
    · rename_i hk
      obtain rfl := Option.some.inj hd
      exact ⟨Bytes.nil, by simp, fun i hi => absurd hi (Nat.not_lt_zero i), made_rooms n k hk⟩
    · cases hd

/-- A new store. -/
def RetSto (w : World) (n : Int) (e : Ending) (w' : World) : Prop := ∃ b ba ga g, e = .returned (.pointer (some ⟨b, 0, none⟩)) ∧ Sto w' b ba ga g (newL n) (List.replicate (newL n).length []) ∧ w.heap.size ≤ b ∧ w.heap.size ≤ ba ∧ w.heap.size ≤ ga ∧ w.heap.size ≤ g ∧ Below w.heap.size w w'
set_option maxHeartbeats 4000000 in
theorem new_st (w : World) (n : Int) (hw1 : -9223372036854775808 ≤ n) (hw2 : n ≤ 9223372036854775807) : Calls Try.prog 8 #[.int .i64 n] w (RetSto w n) := by
  have CN : Hid (Calls Try.prog 29 #[.int .i64 n] w (RetA w n)) := Arn.new_any w n hw1 hw2
  have hl : (newL n).length ≤ 1024 := by have := Arn.newL_len n; omega
  have CF : Hid (∀ W ba ga, Ar W ba ga (newL n) → Calls Try.prog 30 #[.pointer (some ⟨ba, 0, none⟩)] W fun e w' => e = .returned (.int .i64 (newL n).length) ∧ Below W.heap.size W w') := fun W ba ga h => by
    have := Arn.free_any W ba ga (newL n) h hl
    rw [Arn.newL_free] at this
    exact this
  have HM : Hid (∀ W, ∃ W', (Instr.makeSlice 63 (.int .i64 (newL n).length) (.int .i64 (newL n).length)).run Try.prog W = .ok (.slice (some ⟨W.heap.size, 0, none⟩) (newL n).length (newL n).length) W' ∧ Rooms W' W.heap.size (List.replicate (newL n).length []) ∧ Below W.heap.size W W') := fun W => make_rooms (newL n).length hl W
  obtain ⟨N, hN⟩ : ∃ N, (newL n).length = N := ⟨_, rfl⟩
  rw [hN] at CF HM
  have HN := Lib.hid hN
  clear hl hN
  go_enter Try.func8, Try.ntmps8
  go_wp2_with fail
  refine CN.out.mono ?_
  rintro e w1 ⟨ba, ga, rfl, hA, hb, hg, hB⟩
  have HA := Lib.hid hA
  have HB := Lib.hid hB
  have HG := Lib.hid (And.intro hb hg)
  clear hA hB hb hg CN
  go_wp2_with fail
  refine (CF.out w1 ba ga HA.out).mono ?_
  rintro e w2 ⟨rfl, hb2⟩
  obtain ⟨w3, hmk, hr, hb3⟩ := HM.out w2
  have HA3 := Lib.hid ((HA.out.bel hb2).bel hb3)
  have HR3 := Lib.hid hr
  have HB2 := Lib.hid (HB.out.trans (hb2.mono HB.out.size))
  have HB3 := Lib.hid (HB2.out.trans (hb3.mono HB2.out.size))
  clear hb2 hb3 hr HM CF
  go_wp2_with fail
  go_ret
  refine ⟨_, ba, ga, _, rfl, ⟨?_, HA3.out.bel ((Below.refl _ _).alloc (Nat.le_refl _) _), ?_, by rw [List.length_replicate]⟩, HB3.out.size, HG.out.1, HG.out.2, HB2.out.size, HB3.out.alloc HB3.out.size _⟩
  · rw [HN.out]; exact heap_alloc_new w3 _
  · rw [HN.out]; exact HR3.out.bel ((Below.refl _ _).alloc (Nat.le_refl _) _) HR3.out.lt

theorem bytes_nil_eq (a : Addr) (n c : Nat) (W : World) : (binOp .eql 36 (.slice (some a) n c) (.slice none 0 0)).run Try.prog W = .ok (.bool false) W := Lib.run_eql_slice_nil W _ _ _ _ _ _ _ Try.underlying36
set_option maxHeartbeats 4000000 in
theorem bclone_any (w : World) (ad : Addr) (n c B : Nat) (xs : List Int) (hr : Rd w B (some ad) n xs) (hB : B ≤ w.heap.size) (hn : n ≤ 512) :
    Calls Try.prog 39 #[.slice (some ad) n c] w (NewRow w xs) := by
  have fin0 : Hid (∀ A c w1, Own w1 w.heap.size A n c xs → Below w.heap.size w w1 → NewRow w xs (.returned (.slice A n c)) w1) := by
    intro A c w1 ho hb
    obtain rfl := hr.1
    exact ⟨A, c, rfl, ho, hb⟩
  have qe := bytes_nil_eq ad n c
  have HE := Lib.hid ((Below.refl w.heap.size w).alloc (Nat.le_refl _) (.cells #[] 5 (0, 0)))
  have R2 := Lib.hid ((hr.more hB).below HE.out)
  have O2 : Hid (Own (w.alloc (.cells #[] 5 (0, 0))) w.heap.size (some ⟨w.heap.size, 0, none⟩) 0 0 []) := Own.of_blk (alloc_blk w []) (Nat.le_refl _) Bytes.nil rfl (by decide)
  clear hr
  go_enter Try.func39, Try.ntmps39
  go_wp2_with (at_builtin; refine wpList_append_bytes rfl (.tmp 5) (.tmp 6) rfl w.heap.size _ 0 0 n c n _ _ [] xs xs (Nat.zero_add _) rfl rfl rfl O2.out R2.out (by simp) (by omega) ?_
               intro A c w1 ho hb)
  go_ret
  exact fin0.out A c w1 ho (HE.out.trans hb)

def bytesV (L : List Slt) (D : List (List Int)) (s g : Int) : List Int := if liveB L s g then D.getD s.toNat [] else []
theorem getD_of' {D : List (List Int)} {k : Nat} {d : List Int} (h : D[k]? = some d) : D.getD k [] = d := by rw [List.getD_eq_getElem?_getD, h]; rfl
theorem room_of {D : List (List Int)} {L : List Slt} {k : Nat} {x : Slt} (hl : D.length = L.length) (h : L[k]? = some x) : ∃ d, D[k]? = some d :=
  ⟨_, List.getElem?_eq_getElem (by rw [hl]; exact (List.getElem?_eq_some_iff.1 h).1)⟩
set_option maxHeartbeats 4000000 in
theorem bytes_st (w : World) (b ba ga g : Nat) (L : List Slt) (D : List (List Int)) (s gn M : Int) (h : Sto w b ba ga g L D) (hL : L.length ≤ 1024) (hO : OkS M L) :
    Calls Try.prog 19 #[.pointer (some ⟨b, 0, none⟩), hnV s gn] w (Rtp.RetR w (bytesV L D s gn) (callE L s gn)) := by
  have CR : Hid (∀ W, Below w.heap.size w W → Calls Try.prog 21 #[.pointer (some ⟨b, 0, none⟩), hnV s gn] W fun e w' => e = .returned (.int .i64 (refsV L s gn)) ∧ Below W.heap.size W w') := fun W hW => refs_st W b ba ga g L D s gn M (h.bel hW) hL hO
  have hB := (Below.refl w.heap.size w).alloc (Nat.le_refl _) (hnO s gn)
  have hD := HBlk.new w s gn
  have hne : w.heap.size ≠ b := by have := h.lt; omega
  generalize hw1 : w.alloc (hnO s gn) = w1 at hB hD
  have c0 := hD.c0
  have c1 := hD.c1
  have HB := Lib.hid hB
  have HD := Lib.hid hD
  have H := Lib.hid h
  clear hB hD h
  rcases live_cases L s gn with hl | ⟨k, x, rfl, hx, hp, rfl, hl⟩
  · rw [refsV_no hl] at CR
    rw [bytesV, hl, if_neg (by decide), Arn.callE_no hl]
    clear hl
    go_enter Try.func19, Try.ntmps19
    go_wp2_with fail
    refine (CR.out _ HB.out).mono ?_
    rintro e w2 ⟨rfl, hb2⟩
    have H2 := Lib.hid (HB.out.trans (hb2.mono HB.out.size))
    clear hb2 CR
    go_wp2_with fail
    go_ret2
    exact ⟨none, 0, rfl, Own.nil _ _, H2.out⟩
  · obtain ⟨d, hd⟩ := room_of H.out.len hx
    have CI : Hid (∀ W, Below w.heap.size w W → Calls Try.prog 38 #[.pointer (some ⟨b, 0, none⟩), hnV k x.1] W fun e w' => e = .returned (.slice (some ⟨g, k * 513, none⟩) d.length d.length) ∧ Below W.heap.size W w') := fun W hW => inPlace_st W b ba ga g k L D d x.1 (H.out.bel hW) hd hL
    have CC : Hid (∀ W, Below w.heap.size w W → Calls Try.prog 39 #[.slice (some ⟨g, k * 513, none⟩) d.length d.length] W (NewRow W d)) := fun W hW => bclone_any W _ d.length d.length W.heap.size d ((H.out.bel hW).rm.rd hd) (Nat.le_refl _) (H.out.rm.ok hd).2
    rw [refsV_at hx hl] at CR
    rw [bytesV, hl, if_pos rfl, Int.toNat_natCast, getD_of' hd, Arn.callE_yes hl]
    have q : (x.2 == 0) = false := by simp; omega
    clear hl hp
    go_enter Try.func19, Try.ntmps19
    go_wp2_with fail
    refine (CR.out _ HB.out).mono ?_
    rintro e w2 ⟨rfl, hb2⟩
    have H2 := Lib.hid (HB.out.trans (hb2.mono HB.out.size))
    have HD2 := Lib.hid (HD.out.bel hb2 HD.out.lt)
    clear hb2 CR c0 c1
    have c0 := HD2.out.c0
    have c1 := HD2.out.c1
    go_wp2_with fail
    refine (CI.out _ H2.out).mono ?_
    rintro e w3 ⟨rfl, hb3⟩
    have H3 := Lib.hid (H2.out.trans (hb3.mono H2.out.size))
    clear hb3 CI c0 c1
    go_wp2_with fail
    refine (CC.out _ H3.out).mono ?_
    rintro e w4 ⟨A, c, rfl, ho, hb4⟩
    have H4 := Lib.hid (And.intro (show Own w4 w.heap.size A d.length c d from ho.lower H3.out.size) (H3.out.trans (hb4.mono H3.out.size)))
    clear ho hb4 CC
    go_wp2_with fail
    go_ret2
    exact ⟨A, c, rfl, H4.out.1, H4.out.2⟩

def patchE (L : List Slt) (D : List (List Int)) (s g : Int) : Int := if liveB L s g then (if refsV L s g = 1 then (if hasD (D.getD s.toNat []) then 0 else 1) else 11) else 7
def patchD (L : List Slt) (D : List (List Int)) (s g q t r f : Int) : List (List Int) := if liveB L s g ∧ refsV L s g = 1 then D.set s.toNat (applyL (D.getD s.toNat []) q t r f) else D
theorem patchD_len (L : List Slt) (D : List (List Int)) (s g q t r f : Int) : (patchD L D s g q t r f).length = D.length := by unfold patchD; split <;> simp
set_option maxHeartbeats 4000000 in
theorem patch_st (w : World) (b ba ga g : Nat) (L : List Slt) (D : List (List Int)) (s gn M q t r f : Int) (h : Sto w b ba ga g L D) (hL : L.length ≤ 1024) (hO : OkS M L) (hp : PF q t r f) :
    Calls Try.prog 17 #[.pointer (some ⟨b, 0, none⟩), hnV s gn, pch q t r f] w fun e w' => e = .returned (.int .i64 (patchE L D s gn)) ∧ Sto w' b ba ga g L (patchD L D s gn q t r f) ∧ Upd (· = g) w w' := by
  have CR : Hid (∀ W, Below w.heap.size w W → Calls Try.prog 21 #[.pointer (some ⟨b, 0, none⟩), hnV s gn] W fun e w' => e = .returned (.int .i64 (refsV L s gn)) ∧ Below W.heap.size W w') := fun W hW => refs_st W b ba ga g L D s gn M (h.bel hW) hL hO
  have hB1 := (Below.refl w.heap.size w).alloc (Nat.le_refl _) (hnO s gn)
  have hB := hB1.alloc hB1.size (.cells #[.int .u16 q, .int .u32 t, .int .u32 r, .int .u16 f] 35)
  have hD := (HBlk.new w s gn).bel ((Below.refl (w.alloc (hnO s gn)).heap.size _).alloc (Nat.le_refl _) (.cells #[.int .u16 q, .int .u32 t, .int .u32 r, .int .u16 f] 35)) (by simp)
  have hQ := QBlk.new (w.alloc (hnO s gn)) q t r f
  rw [show (w.alloc (hnO s gn)).heap.size = w.heap.size + 1 from by simp] at hQ
  have hg := h.lt
  generalize hw1 : (w.alloc (hnO s gn)).alloc (.cells #[.int .u16 q, .int .u32 t, .int .u32 r, .int .u16 f] 35) = w1 at hB hD hQ
  have c0 := hD.c0
  have c1 := hD.c1
  have HB := Lib.hid hB
  have HD := Lib.hid hD
  have HQ := Lib.hid hQ
  have H := Lib.hid h
  have HG := Lib.hid hg
  clear hB hD h hB1 hQ hg
  rcases live_cases L s gn with hl | ⟨k, x, rfl, hx, hp0, rfl, hl⟩
  · rw [refsV_no hl] at CR
    rw [patchE, patchD, hl, if_neg (by decide), if_neg (by simp)]
    clear hl
    go_enter Try.func17, Try.ntmps17
    go_wp2_with fail
    refine (CR.out _ HB.out).mono ?_
    rintro e w2 ⟨rfl, hb2⟩
    have H2 := Lib.hid (HB.out.trans (hb2.mono HB.out.size))
    clear hb2 CR
    go_wp2_with fail
    go_ret
    exact ⟨rfl, H.out.bel H2.out, .of H2.out⟩
  · obtain ⟨d, hd⟩ := room_of H.out.len hx
    rw [refsV_at hx hl] at CR
    rw [patchE, patchD, hl, if_pos rfl, Int.toNat_natCast, getD_of' hd, refsV_at hx hl]
    have q0 : (x.2 == 0) = false := by simp; omega
    by_cases h1 : x.2 = 1
    · have CI : Hid (∀ W, Below w.heap.size w W → Calls Try.prog 38 #[.pointer (some ⟨b, 0, none⟩), hnV k x.1] W fun e w' => e = .returned (.slice (some ⟨g, k * 513, none⟩) d.length d.length) ∧ Below W.heap.size W w') := fun W hW => inPlace_st W b ba ga g k L D d x.1 (H.out.bel hW) hd hL
      have CA : Hid (∀ W, Below w.heap.size w W → Calls Try.prog 37 #[.slice (some ⟨g, k * 513, none⟩) d.length d.length, pch q t r f] W fun e w' => e = .returned (.bool (hasD d)) ∧ Rooms w' g (D.set k (applyL d q t r f)) ∧ Upd (· = g) W w') := fun W hW => by
        obtain ⟨P, T, ho, hs⟩ := (H.out.bel hW).rm.win hd
        refine (Pat.apply_g g (k * 513) d.length d.length _ P T q t r f d W ho hp).mono ?_
        rintro e w' ⟨rfl, ho', ha⟩
        exact ⟨rfl, hs w' _ ho', ⟨⟨ha.os, ha.tape, ha.output, ha.size, fun i hi => absurd hi (Nat.not_lt_zero i)⟩, fun i hi hne => World.grownBy.block ha i hi (by simpa using hne)⟩⟩
      rw [if_pos h1, if_pos (show true = true ∧ x.2 = 1 from ⟨rfl, h1⟩)]
      have q1 : (x.2 == 1) = true := by simp [h1]
      have HLN := Lib.hid (show (D.set k (applyL d q t r f)).length = D.length from by simp)
      generalize D.set k (applyL d q t r f) = D' at CA HLN ⊢
      generalize hasD d = ok at CA ⊢
      clear hl hp0 h1 hd hx
      go_enter Try.func17, Try.ntmps17
      go_wp2_with fail
      refine (CR.out _ HB.out).mono ?_
      rintro e w2 ⟨rfl, hb2⟩
      have H2 := Lib.hid (HB.out.trans (hb2.mono HB.out.size))
      have HD2 := Lib.hid (HD.out.bel hb2 HD.out.lt)
      have HQ2 := Lib.hid (HQ.out.below hb2 HQ.out.lt)
      clear hb2 CR c0 c1
      have f0 : ∀ W, (HBlk W w.heap.size k x.1 ∧ QBlk W (w.heap.size + 1) q t r f) → W.cell? ⟨w.heap.size, 0, none⟩ = some (.int .i64 (k : Int)) := fun W h => h.1.c0
      have f1 : ∀ W, (HBlk W w.heap.size k x.1 ∧ QBlk W (w.heap.size + 1) q t r f) → W.cell? ⟨w.heap.size, 1, none⟩ = some (.int .u32 x.1) := fun W h => h.1.c1
      have f2 : ∀ W, (HBlk W w.heap.size k x.1 ∧ QBlk W (w.heap.size + 1) q t r f) → W.cell? ⟨w.heap.size + 1, 0, none⟩ = some (.int .u16 q) := fun W h => h.2.c0
      have f3 : ∀ W, (HBlk W w.heap.size k x.1 ∧ QBlk W (w.heap.size + 1) q t r f) → W.cell? ⟨w.heap.size + 1, 1, none⟩ = some (.int .u32 t) := fun W h => h.2.c1
      have f4 : ∀ W, (HBlk W w.heap.size k x.1 ∧ QBlk W (w.heap.size + 1) q t r f) → W.cell? ⟨w.heap.size + 1, 2, none⟩ = some (.int .u32 r) := fun W h => h.2.c2
      have f5 : ∀ W, (HBlk W w.heap.size k x.1 ∧ QBlk W (w.heap.size + 1) q t r f) → W.cell? ⟨w.heap.size + 1, 3, none⟩ = some (.int .u16 f) := fun W h => h.2.c3
      go_wp2_with fail
      have hS : HBlk w2.drew w.heap.size k x.1 ∧ QBlk w2.drew (w.heap.size + 1) q t r f := ⟨HD2.out, HQ2.out⟩
      have HR := Lib.hid H2.out.drew
      refine region_seq (fun W => HBlk W w.heap.size k x.1 ∧ QBlk W (w.heap.size + 1) q t r f) [(0, false), (1, false), (3, false), (2, true), (4, true), (5, false)] (by kernel_rfl) (by kernel_rfl) rfl (by kernel_rfl) ?_
      iterate 3 (refine seq_read (v := _) rfl (fun _ _ _ h => h) hS (Or.inl ⟨by rfl, fun W hW => by go_simp <;> with_reducible rfl⟩) ?_; simp only [Act.put, List.setIfInBounds_toArray, List.set_cons_zero, List.set_cons_succ])
      refine seq_do rfl (fun K hK => ?_)
      go_simp
      refine (CI.out _ HR.out).mono ?_
      rintro e w3 ⟨rfl, hb3⟩
      have H3 := Lib.hid (HR.out.trans (hb3.mono HR.out.size))
      have hS3 : HBlk w3 w.heap.size k x.1 ∧ QBlk w3 (w.heap.size + 1) q t r f := ⟨hS.1.bel hb3 hS.1.lt, hS.2.below hb3 hS.2.lt⟩
      clear hS
      have hS := hS3
      refine hK.out _ _ _ (fun W h => h) hS ?_
      clear hK K CI hb3 hS3
      refine seq_do rfl (fun K hK => ?_)
      go_simp
      refine (CA.out _ H3.out).mono ?_
      rintro e w4 ⟨rfl, hr4, hu4⟩
      have H4 : Hid (Sto w4 b ba ga g L D' ∧ Upd (· = g) w w4) := ⟨(H.out.bel H3.out).rooms hr4 hu4 HLN.out, (Upd.of H3.out).trans hu4⟩
      have hS4 : HBlk w4 w.heap.size k x.1 ∧ QBlk w4 (w.heap.size + 1) q t r f := ⟨hS.1.upd hu4 (by show _ ≠ _; have := HG.out; omega), hu4.keep hS.2 (by show _ ≠ _; have := HG.out; omega)⟩
      clear hS
      have hS := hS4
      refine hK.out _ _ _ (fun W h => h) hS ?_
      clear hK K CA hr4 hu4 hS4
      iterate 1 (refine seq_read (v := _) rfl (fun _ _ _ h => h) hS (Or.inl ⟨by rfl, fun W hW => by go_simp <;> with_reducible rfl⟩) ?_; simp only [Act.put, List.setIfInBounds_toArray, List.set_cons_zero, List.set_cons_succ])
      refine seq_end ?_
      rcases ok with _ | _
      · go_wp2_with fail
        go_ret
        exact ⟨rfl, H4.out⟩
      · go_wp2_with fail
        go_ret
        exact ⟨rfl, H4.out⟩
    · rw [if_neg h1, if_neg (fun e => h1 e.2)]
      have q1 : (x.2 == 1) = false := by simp [h1]
      clear hl hp0 h1
      go_enter Try.func17, Try.ntmps17
      go_wp2_with fail
      refine (CR.out _ HB.out).mono ?_
      rintro e w2 ⟨rfl, hb2⟩
      have H2 := Lib.hid (HB.out.trans (hb2.mono HB.out.size))
      clear hb2 CR
      go_wp2_with fail
      go_ret
      exact ⟨rfl, H.out.bel H2.out, .of H2.out⟩
end Go.Proofs.Ytdnnfoacpjgloaa.Stv
