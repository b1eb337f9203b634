/- What StampRow's loop calls: a packet taken, in whatever order; the loop's own records. -/
import Derived.Test.YtolobojidnomfaaYp
import Derived.Test.YtolobojidnomfaaYo
import Derived.Laws.MakeOwn
import Derived.Deep.CutBlock
import Derived.Deep.Cut
import Derived.Deep.DeepCutAuto
import Derived.Deep.CutRange
set_option maxRecDepth 100000
namespace Go.Proofs.Ytolobojidnomfaa.Stp
open Go.RowKit Go.Proofs.Ytolobojidnomfaa.Gat Go.Proofs.Ytolobojidnomfaa.Crs Go.Proofs.Ytolobojidnomfaa.Clk Go.Proofs.Ytolobojidnomfaa.Rtp
set_option linter.unusedVariables false

abbrev actO (x : Stact) : Obj := .cells #[.int .i64 x.kind, .int .i64 x.layer, .bool x.on, .int .u16 x.seq, .int .u32 x.time, .bool x.start, .int .i64 x.bytes] 59 (0, 0)
def ABlk (w : World) (b : Nat) (x : Stact) : Prop := w.heap[b]? = some (actO x)
section
variable {w w' : World} {b : Nat} {x : Stact}
theorem ABlk.c0 (h : ABlk w b x) : w.cell? ⟨b, 0, none⟩ = some (.int .i64 x.kind) := by rw [cell_of_row w b 0 _ _ _ h]; rfl
theorem ABlk.c1 (h : ABlk w b x) : w.cell? ⟨b, 1, none⟩ = some (.int .i64 x.layer) := by rw [cell_of_row w b 1 _ _ _ h]; rfl
theorem ABlk.c2 (h : ABlk w b x) : w.cell? ⟨b, 2, none⟩ = some (.bool x.on) := by rw [cell_of_row w b 2 _ _ _ h]; rfl
theorem ABlk.c3 (h : ABlk w b x) : w.cell? ⟨b, 3, none⟩ = some (.int .u16 x.seq) := by rw [cell_of_row w b 3 _ _ _ h]; rfl
theorem ABlk.c4 (h : ABlk w b x) : w.cell? ⟨b, 4, none⟩ = some (.int .u32 x.time) := by rw [cell_of_row w b 4 _ _ _ h]; rfl
theorem ABlk.c5 (h : ABlk w b x) : w.cell? ⟨b, 5, none⟩ = some (.bool x.start) := by rw [cell_of_row w b 5 _ _ _ h]; rfl
theorem ABlk.c6 (h : ABlk w b x) : w.cell? ⟨b, 6, none⟩ = some (.int .i64 x.bytes) := by rw [cell_of_row w b 6 _ _ _ h]; rfl
theorem ABlk.lt (h : ABlk w b x) : b < w.heap.size := lt_of_some h
theorem ABlk.new (w : World) (x : Stact) : ABlk (w.alloc (actO x)) w.heap.size x := heap_alloc_new w _
theorem ABlk.bel {B : Nat} (h : ABlk w b x) (hb : Below B w w') (hB : b < B) : ABlk w' b x := (hb.block b hB).trans h
theorem ABlk.beside {c : Nat} (h : ABlk w b x) (hb : b ≠ c) (hw : Beside c w w') : ABlk w' b x := (hw.1 b hb).trans h
end
/-- The cells of a row's k-th act. -/
theorem stact_at {w : World} {B n k : Nat} {a : Option Addr} {xs : List Stact} (h : RowRd stactL w B a n xs) (hk : k < n) : ∃ b off x, a = some ⟨b, off, none⟩ ∧ b < B ∧ xs[k]? = some x ∧
    w.cell? ⟨b, off + k * 7, none⟩ = some (.int .i64 x.kind) ∧ w.cell? ⟨b, off + k * 7 + 1, none⟩ = some (.int .i64 x.layer) ∧ w.cell? ⟨b, off + k * 7 + 2, none⟩ = some (.bool x.on) ∧ w.cell? ⟨b, off + k * 7 + 3, none⟩ = some (.int .u16 x.seq) ∧ w.cell? ⟨b, off + k * 7 + 4, none⟩ = some (.int .u32 x.time) ∧ w.cell? ⟨b, off + k * 7 + 5, none⟩ = some (.bool x.start) ∧ w.cell? ⟨b, off + k * 7 + 6, none⟩ = some (.int .i64 x.bytes) := by
  obtain ⟨b, off, x, e, hlt, hx, hc⟩ := Opn.row_cells h hk
  exact ⟨b, off, x, e, hlt, hx, hc 0 _ rfl, hc 1 _ rfl, hc 2 _ rfl, hc 3 _ rfl, hc 4 _ rfl, hc 5 _ rfl, hc 6 _ rfl⟩
/-- The track at its block, carried through a walk that began at w0. -/
structure Crr (w0 w : World) (b : Nat) (x : TV) : Prop where
  t : TBlk w b x
  bel : Below w0.heap.size w0 w
  lo : w0.heap.size ≤ b
/-- A round: the act at its own block beside it. -/
structure Rnd (w0 w : World) (b : Nat) (x : TV) (c : Nat) (a : Stact) : Prop where
  t : TBlk w b x
  bel : Below w0.heap.size w0 w
  lo : w0.heap.size ≤ b
  a : ABlk w c a
  ne : b < c
section
variable {w0 w w' : World} {b c : Nat} {x : TV} {a : Stact}
theorem Crr.more (h : Crr w0 w b x) (hb : Below w.heap.size w w') : Crr w0 w' b x := ⟨h.t.bel hb h.t.lt, h.bel.trans (hb.mono h.bel.size), h.lo⟩
theorem Crr.round (h : Crr w0 w b x) (a : Stact) : Rnd w0 (w.alloc (actO a)) b x w.heap.size a :=
  ⟨(h.more ((Below.refl _ _).alloc (Nat.le_refl _) _)).t, (h.more ((Below.refl _ _).alloc (Nat.le_refl _) _)).bel, h.lo, ABlk.new w a, h.t.lt⟩
theorem Rnd.more (h : Rnd w0 w b x c a) (hb : Below w.heap.size w w') : Rnd w0 w' b x c a := ⟨h.t.bel hb h.t.lt, h.bel.trans (hb.mono h.bel.size), h.lo, h.a.bel hb h.a.lt, h.ne⟩
theorem Rnd.crr (h : Rnd w0 w b x c a) : Crr w0 w b x := ⟨h.t, h.bel, h.lo⟩
theorem Rnd.setG (h : Rnd w0 w b x c a) (g : Gt) : Rnd w0 (putG w b g) b ⟨g, x.c, x.k, x.out, x.fr, x.sn, x.oc⟩ c a :=
  ⟨h.t.setG g, bel_putG h.bel h.lo g, h.lo, h.a.beside (by have := h.ne; omega) (beside_putG w b g), h.ne⟩
theorem Rnd.put (h : Rnd w0 w b x c a) (y : TV) : Rnd w0 (putT w b y) b y c a :=
  ⟨h.t.store y, bel_putT h.bel h.lo y, h.lo, h.a.beside (by have := h.ne; omega) (beside_putT w b y), h.ne⟩
end
theorem make_u8 (n : Nat) (hn : n ≤ 300) : ∃ O, ∀ W : World, (Instr.makeSlice 33 (.int .i64 n) (.int .i64 n)).run Try.prog W = .ok (.slice (some ⟨W.heap.size, 0, none⟩) n n) (W.alloc O) := by
  have hi : (Try.prog.info? 5).map (fun i => (i.zero, i.size, i.bytes)) = some (some (.int .u8 0), 1, 1) := by kernel_rfl
  obtain ⟨i, hi0, hz⟩ := Option.map_eq_some_iff.1 hi
  simp only [Prod.mk.injEq] at hz
  refine ⟨.cells (madeCells (Value.int .u8 0).cells (n * i.size)) 5, fun W => ?_⟩
  have := run_make (P := Try.prog) W 33 5 i _ Try.underlying33 hi0 hz.1 .i64 .i64 n n (by omega) (Int.le_refl _) (by rw [hz.2.2]; omega) (by omega)
  rw [this]
  simp only [Int.toNat_natCast]
theorem share {P : Program} {os : List Oper} {Q : Exit → Act → World → Prop} {S : World → Prop} {t rest : Tr} {a0 : Act} {w0 : World} {F : Nat → Nat → Nat → World → Prop} (a : Nat → Nat → Nat → Act)
    (main : (∀ bm bT bQ V, F bm bT bQ V → SeqT P os Q S rest (a bm bT bQ) V) → SeqT P os Q S t a0 w0) (fin : ∀ bm bT bQ V, F bm bT bQ V → SeqT P os Q S rest (a bm bT bQ) V) : SeqT P os Q S t a0 w0 := main fin
/-- The region of a given number. -/
def regC (n : Nat) : Code → Option Code
  | .region id ops b => if id = n then some (.region id ops b) else none
  | .seq a b => match regC n a with
    | some c => some c
    | none => regC n b
  | .cond _ a b => match regC n a with
    | some c => some c
    | none => regC n b
  | .block _ a => regC n a
  | .loop a => regC n a
  | .scope a => regC n a
  | _ => none
set_option maxHeartbeats 16000000 in
theorem taken_any {z0 z1 z2 z3 z4 z5 z6 z7 z8 z10 z11 z12 z13 z14 z15 z18 z19 z20 z21 z22 z23 z24 z25 z26 z27 z28 z29 z30 z31 z32 z33 z34 z35 z36 z37 z38 z39 z40 z41 z42 z43 z44 z45 z46 z47 z48 z49 z50 z51 z52 z53 z54 z55 z56 z57 z58 z59 z60 z61 z62 z63 z64 z65 z66 z67 z68 z69 z70 z71 z72 z73 z74 z75 z76 z77 z78 z79 z80 z81 z82 z83 z84 z85 z86 z87 z88 z89 z90 z91 z92 z93 z94 z95 z96 z97 z98 z99 z100 z101 z102 z103 z104 z105 z106 z107 z108 z109 z110 z111 z112 z113 z114 z115 z116 z117 z118 z119 z120 z121 z122 z123 z124 z125 z126 z127 z128 z129 z130 z131 z132 z133 z134 z135 z136 z137 z138 z139 z140 z141 z142 z143 z144 z145 z146 z147 z148 z149 z150 z151 z152 z153 z154 z155 z156 z157 z158 z159 z160 z161 z162 z163 z164 z165 z166 z167 z168 z169 z170 z171 z172 z173 z174 z175 z176 z177 z178 z179 z180 z181 z182 z183 z184 z185 z186 z187 z188 z189 z190 z191 z192 z193 z194 : Value} {Q : Exit → Act → World → Prop} {w wa : World} {bt ba N : Nat} {x y : TV} {r : Pc} {kd l q tm by_ v : Int} {on st : Bool} (c : Code) (hc : (Try.f6.body).bind (regC 20) = some c)
    (hp : ∀ k (a : Act) d u W, Q (.panic k) (a.put (some d) u) W → Q (.panic k) a W) (hR : Rnd w wa bt x ba ⟨kd, l, on, q, tm, st, by_⟩) (hN : N ≤ 300) (hy : mda x q tm N (l, on, st, 0) = (y, r, v))
    (he : ∀ (y80 y81 y82 y83 y84 y85 y86 y87 y88 y89 y90 y91 y92 y93 y94 y95 y96 y97 y98 y99 : Value) (b1 b2 : Nat) (wc : World), (TBlk wc b1 y ∧ QBlk wc b2 r ∧ Below wa.heap.size wa wc) → Q .normal ⟨#[z0, z1, z2, z3, z4, z5, z6, z7, z8, .pointer (some ⟨bt, 0, none⟩), z10, z11, z12, z13, z14, z15, .pointer (some ⟨ba, 0, none⟩), .int .i64 N, .pointer (some ⟨b1, 0, none⟩), .pointer (some ⟨b2, 0, none⟩), .int .i64 v, z21, z22, z23, z24, z25, z26, z27, z28, z29, z30, z31, z32, z33, z34, z35, z36, z37, z38, z39, z40, z41, z42, z43, z44, z45, z46, z47, z48, z49, z50, z51, z52, z53, z54, z55, z56, z57, z58, z59, z60, z61, z62, z63, z64, z65, z66, z67, z68, z69, z70, z71, z72, z73, z74, z75, z76, z77, z78, z79, y80, y81, y82, y83, y84, y85, y86, y87, y88, y89, y90, y91, y92, y93, y94, y95, y96, y97, y98, y99, z100, z101, z102, z103, z104, z105, z106, z107, z108, z109, z110, z111, z112, z113, z114, z115, z116, z117, z118, z119, z120, z121, z122, z123, z124, z125, z126, z127, z128, z129, z130, z131, z132, z133, z134, z135, z136, z137, z138, z139, z140, z141, z142, z143, z144, z145, z146, z147, z148, z149, z150, z151, z152, z153, z154, z155, z156, z157, z158, z159, z160, z161, z162, z163, z164, z165, z166, z167, z168, z169, z170, z171, z172, z173, z174, z175, z176, z177, z178, z179, z180, z181, z182, z183, z184, z185, z186, z187, z188, z189, z190, z191, z192, z193, z194], []⟩ wc) : c.wp Try.prog Q ⟨#[z0, z1, z2, z3, z4, z5, z6, z7, z8, .pointer (some ⟨bt, 0, none⟩), z10, z11, z12, z13, z14, z15, .pointer (some ⟨ba, 0, none⟩), .int .i64 N, z18, z19, z20, z21, z22, z23, z24, z25, z26, z27, z28, z29, z30, z31, z32, z33, z34, z35, z36, z37, z38, z39, z40, z41, z42, z43, z44, z45, z46, z47, z48, z49, z50, z51, z52, z53, z54, z55, z56, z57, z58, z59, z60, z61, z62, z63, z64, z65, z66, z67, z68, z69, z70, z71, z72, z73, z74, z75, z76, z77, z78, z79, z80, z81, z82, z83, z84, z85, z86, z87, z88, z89, z90, z91, z92, z93, z94, z95, z96, z97, z98, z99, z100, z101, z102, z103, z104, z105, z106, z107, z108, z109, z110, z111, z112, z113, z114, z115, z116, z117, z118, z119, z120, z121, z122, z123, z124, z125, z126, z127, z128, z129, z130, z131, z132, z133, z134, z135, z136, z137, z138, z139, z140, z141, z142, z143, z144, z145, z146, z147, z148, z149, z150, z151, z152, z153, z154, z155, z156, z157, z158, z159, z160, z161, z162, z163, z164, z165, z166, z167, z168, z169, z170, z171, z172, z173, z174, z175, z176, z177, z178, z179, z180, z181, z182, z183, z184, z185, z186, z187, z188, z189, z190, z191, z192, z193, z194], []⟩ wa := by
  replace hc : some _ = some c := hc
  cases hc
  obtain ⟨O, hM⟩ := make_u8 N hN
  have HM := Lib.hid hM
  have C1 := Lib.hid (fun (W : World) (AA : Option Addr) => media_any W x ⟨false, 0, q, tm, 0, none, 0, 0, false, 0, none, 0, 0, AA, N, N, 0⟩ (l, on, st, 0))
  simp only [hy] at C1
  have HP := Lib.hid hp
  have HE := Lib.hid he
  have R := Lib.hid hR
  clear hM hy hN hp he hR
  have f0 : ∀ W, Below wa.heap.size wa W → W.cell? ⟨bt, 0, none⟩ = some (.int .i64 x.g.1) := fun W hW => (R.out.more hW).t.c0
  have f1 : ∀ W, Below wa.heap.size wa W → W.cell? ⟨bt, 1, none⟩ = some (.int .i64 x.g.2.1) := fun W hW => (R.out.more hW).t.c1
  have f2 : ∀ W, Below wa.heap.size wa W → W.cell? ⟨bt, 2, none⟩ = some (.bool x.g.2.2.1) := fun W hW => (R.out.more hW).t.c2
  have f3 : ∀ W, Below wa.heap.size wa W → W.cell? ⟨bt, 3, none⟩ = some (.bool x.g.2.2.2) := fun W hW => (R.out.more hW).t.c3
  have f4 : ∀ W, Below wa.heap.size wa W → W.cell? ⟨bt, 4, none⟩ = some (.bool x.c.1) := fun W hW => (R.out.more hW).t.c4
  have f5 : ∀ W, Below wa.heap.size wa W → W.cell? ⟨bt, 5, none⟩ = some (.int .u16 x.c.2.1) := fun W hW => (R.out.more hW).t.c5
  have f6 : ∀ W, Below wa.heap.size wa W → W.cell? ⟨bt, 6, none⟩ = some (.int .u16 x.c.2.2.1) := fun W hW => (R.out.more hW).t.c6
  have f7 : ∀ W, Below wa.heap.size wa W → W.cell? ⟨bt, 7, none⟩ = some (.int .u16 x.c.2.2.2) := fun W hW => (R.out.more hW).t.c7
  have f8 : ∀ W, Below wa.heap.size wa W → W.cell? ⟨bt, 8, none⟩ = some (.bool x.k.1) := fun W hW => (R.out.more hW).t.c8
  have f9 : ∀ W, Below wa.heap.size wa W → W.cell? ⟨bt, 9, none⟩ = some (.int .u32 x.k.2.1) := fun W hW => (R.out.more hW).t.c9
  have f10 : ∀ W, Below wa.heap.size wa W → W.cell? ⟨bt, 10, none⟩ = some (.int .u32 x.k.2.2) := fun W hW => (R.out.more hW).t.c10
  have f11 : ∀ W, Below wa.heap.size wa W → W.cell? ⟨bt, 11, none⟩ = some (.int .u32 x.out) := fun W hW => (R.out.more hW).t.c11
  have f12 : ∀ W, Below wa.heap.size wa W → W.cell? ⟨bt, 12, none⟩ = some (.int .u16 x.fr) := fun W hW => (R.out.more hW).t.c12
  have f13 : ∀ W, Below wa.heap.size wa W → W.cell? ⟨bt, 13, none⟩ = some (.int .u32 x.sn) := fun W hW => (R.out.more hW).t.c13
  have f14 : ∀ W, Below wa.heap.size wa W → W.cell? ⟨bt, 14, none⟩ = some (.int .u32 x.oc) := fun W hW => (R.out.more hW).t.c14
  have g1 : ∀ W, Below wa.heap.size wa W → W.cell? ⟨ba, 1, none⟩ = some (.int .i64 l) := fun W hW => (R.out.more hW).a.c1
  have g2 : ∀ W, Below wa.heap.size wa W → W.cell? ⟨ba, 2, none⟩ = some (.bool on) := fun W hW => (R.out.more hW).a.c2
  have g3 : ∀ W, Below wa.heap.size wa W → W.cell? ⟨ba, 3, none⟩ = some (.int .u16 q) := fun W hW => (R.out.more hW).a.c3
  have g4 : ∀ W, Below wa.heap.size wa W → W.cell? ⟨ba, 4, none⟩ = some (.int .u32 tm) := fun W hW => (R.out.more hW).a.c4
  have g5 : ∀ W, Below wa.heap.size wa W → W.cell? ⟨ba, 5, none⟩ = some (.bool st) := fun W hW => (R.out.more hW).a.c5
  have hS : Below wa.heap.size wa wa.drew := (Below.refl _ _).drew
  refine region_tree (Below wa.heap.size wa) (.rd 0 (.rd 1 (.rd 2 (.rd 3 (.rd 4 (.rd 5 (.rd 8 (.rd 9 (.rd 10 (.rd 11 (.rd 12 (.rd 13 (.rd 14 (.fk3 6 20 21 (.rd 7 (.fk3 15 20 21 (.rd 16 (.rd 17 (.rd 18 (.rd 19 (.fk 20 21 (.dn 21 (.dn 22 (.dn 23 (.rd 24 .nil)))) (.dn 20 (.dn 22 (.dn 23 (.rd 24 .nil))))))))) (.fk 15 21 (.rd 16 (.rd 17 (.rd 18 (.rd 19 (.dn 21 (.dn 22 (.dn 23 (.rd 24 .nil)))))))) (.dn 15 (.rd 16 (.rd 17 (.rd 18 (.rd 19 (.dn 22 (.dn 23 (.rd 24 .nil))))))))) (.fk 15 20 (.rd 16 (.rd 17 (.rd 18 (.rd 19 (.dn 20 (.dn 22 (.dn 23 (.rd 24 .nil)))))))) (.dn 15 (.rd 16 (.rd 17 (.rd 18 (.rd 19 (.dn 22 (.dn 23 (.rd 24 .nil))))))))))) (.fk 6 21 (.rd 7 (.fk 15 21 (.rd 16 (.rd 17 (.rd 18 (.rd 19 (.dn 21 (.dn 22 (.dn 23 (.rd 24 .nil)))))))) (.dn 15 (.rd 16 (.rd 17 (.rd 18 (.rd 19 (.dn 22 (.dn 23 (.rd 24 .nil)))))))))) (.dn 6 (.rd 7 (.dn 15 (.rd 16 (.rd 17 (.rd 18 (.rd 19 (.dn 22 (.dn 23 (.rd 24 .nil))))))))))) (.fk 6 20 (.rd 7 (.fk 15 20 (.rd 16 (.rd 17 (.rd 18 (.rd 19 (.dn 20 (.dn 22 (.dn 23 (.rd 24 .nil)))))))) (.dn 15 (.rd 16 (.rd 17 (.rd 18 (.rd 19 (.dn 22 (.dn 23 (.rd 24 .nil)))))))))) (.dn 6 (.rd 7 (.dn 15 (.rd 16 (.rd 17 (.rd 18 (.rd 19 (.dn 22 (.dn 23 (.rd 24 .nil))))))))))))))))))))))))) (by kernel_rfl) (by kernel_rfl) rfl (by kernel_rfl) ?_
  obtain ⟨u0, hu0⟩ : ∃ u0, wa.drew = u0 := ⟨_, rfl⟩
  rw [hu0] at hS ⊢
  clear hu0
  iterate 13 (refine seqT_read (v := _) rfl (fun k _ W h => HP.out k _ _ _ W h) hS (Or.inl ⟨by rfl, fun W hW => by go_simp <;> with_reducible rfl⟩) ?_; simp only [Act.put, List.setIfInBounds_toArray, List.set_cons_zero, List.set_cons_succ])
  clear f0 f1 f2 f3 f4 f5 f6 f7 f8 f9 f10 f11 f12 f13 f14 g1 g2 g3 g4 g5 R
  apply share (rest := (.dn 22 (.dn 23 (.rd 24 .nil)))) (F := fun _ bT bQ V => TBlk V bT tv0 ∧ QBlk V bQ pc0 ∧ bT ≠ bQ ∧ wa.heap.size ≤ bT ∧ wa.heap.size ≤ bQ ∧ Below wa.heap.size wa V)
  case main =>
    intro fin
    refine seqT_fork3 rfl rfl rfl (fun K hK => ?_) (fun K hK => ?_) (fun K hK => ?_)
    · have hM := HM.out u0
      go_simp
      clear hM
      have hbx : Below u0.heap.size u0 (u0.alloc O) := (Below.refl _ _).alloc (Nat.le_refl _) _
      replace hS := hS.trans (hbx.mono hS.size)
      clear hbx
      obtain ⟨bm, hbm⟩ : ∃ b, u0.heap.size = b := ⟨_, rfl⟩
      obtain ⟨u1, hV⟩ : ∃ V, u0.alloc O = V := ⟨_, rfl⟩
      rw [hV] at hS
      rw [hV, hbm]
      clear hV hbm
      refine hK.out _ _ _ (fun W h => h) hS ?_
      clear hK K
      iterate 1 (refine seqT_read (v := _) rfl (fun k _ W h => HP.out k _ _ _ W h) hS (Or.inl ⟨by rfl, fun W hW => by go_simp <;> with_reducible rfl⟩) ?_; simp only [Act.put, List.setIfInBounds_toArray, List.set_cons_zero, List.set_cons_succ])
      refine seqT_fork3 rfl rfl rfl (fun K hK => ?_) (fun K hK => ?_) (fun K hK => ?_)
      · go_simp
        refine (C1.out _ _).mono ?_
        rintro e u2 ⟨rfl, hb⟩
        replace hS := hS.trans (hb.mono hS.size)
        refine hK.out _ _ _ (fun W h => h) hS ?_
        clear hK K hb
        iterate 4 (refine seqT_read (v := _) rfl (fun k _ W h => HP.out k _ _ _ W h) hS (Or.inl ⟨by rfl, fun W hW => by go_simp <;> with_reducible rfl⟩) ?_; simp only [Act.put, List.setIfInBounds_toArray, List.set_cons_zero, List.set_cons_succ])
        refine seqT_fork rfl rfl (fun K hK => ?_) (fun K hK => ?_)
        · go_simp
          have hbx : Below u2.heap.size u2 (u2.alloc (trkO tv0)) := (Below.refl _ _).alloc (Nat.le_refl _) _
          have LT := hS.size
          have DT := TBlk.new u2 tv0
          replace hS := hS.trans (hbx.mono hS.size)
          clear hbx
          obtain ⟨bT, hbT⟩ : ∃ b, u2.heap.size = b := ⟨_, rfl⟩
          obtain ⟨u3, hV⟩ : ∃ V, u2.alloc (trkO tv0) = V := ⟨_, rfl⟩
          rw [hV, hbT] at DT
          rw [hV] at hS
          rw [hbT] at LT
          rw [hV, hbT]
          clear hV hbT
          refine hK.out _ _ _ (fun W h => h) hS ?_
          clear hK K
          refine seqT_do rfl (fun K hK => ?_)
          go_simp
          have hbx : Below u3.heap.size u3 (u3.alloc (pcO pc0)) := (Below.refl _ _).alloc (Nat.le_refl _) _
          have LQ := hS.size
          have DQ := QBlk.new u3 pc0
          have NTQ := Nat.ne_of_lt DT.lt
          replace DT := DT.bel hbx DT.lt
          replace hS := hS.trans (hbx.mono hS.size)
          clear hbx
          obtain ⟨bQ, hbQ⟩ : ∃ b, u3.heap.size = b := ⟨_, rfl⟩
          obtain ⟨u4, hV⟩ : ∃ V, u3.alloc (pcO pc0) = V := ⟨_, rfl⟩
          rw [hV, hbQ] at DQ
          rw [hV] at hS
          rw [hbQ] at LQ
          rw [hV] at DT
          rw [hbQ] at NTQ
          rw [hV, hbQ]
          clear hV hbQ
          refine hK.out _ _ _ (fun W h => h) hS ?_
          clear hK K
          exact fin bm bT bQ u4 ⟨DT, DQ, NTQ, LT, LQ, hS⟩
        · go_simp
          have hbx : Below u2.heap.size u2 (u2.alloc (pcO pc0)) := (Below.refl _ _).alloc (Nat.le_refl _) _
          have LQ := hS.size
          have DQ := QBlk.new u2 pc0
          replace hS := hS.trans (hbx.mono hS.size)
          clear hbx
          obtain ⟨bQ, hbQ⟩ : ∃ b, u2.heap.size = b := ⟨_, rfl⟩
          obtain ⟨u3, hV⟩ : ∃ V, u2.alloc (pcO pc0) = V := ⟨_, rfl⟩
          rw [hV, hbQ] at DQ
          rw [hV] at hS
          rw [hbQ] at LQ
          rw [hV, hbQ]
          clear hV hbQ
          refine hK.out _ _ _ (fun W h => h) hS ?_
          clear hK K
          refine seqT_do rfl (fun K hK => ?_)
          go_simp
          have hbx : Below u3.heap.size u3 (u3.alloc (trkO tv0)) := (Below.refl _ _).alloc (Nat.le_refl _) _
          have LT := hS.size
          have DT := TBlk.new u3 tv0
          have NQT := Nat.ne_of_lt DQ.lt
          replace DQ := DQ.bel hbx DQ.lt
          replace hS := hS.trans (hbx.mono hS.size)
          clear hbx
          obtain ⟨bT, hbT⟩ : ∃ b, u3.heap.size = b := ⟨_, rfl⟩
          obtain ⟨u4, hV⟩ : ∃ V, u3.alloc (trkO tv0) = V := ⟨_, rfl⟩
          rw [hV, hbT] at DT
          rw [hV] at hS
          rw [hbT] at LT
          rw [hV] at DQ
          rw [hbT] at NQT
          rw [hV, hbT]
          clear hV hbT
          refine hK.out _ _ _ (fun W h => h) hS ?_
          clear hK K
          exact fin bm bT bQ u4 ⟨DT, DQ, (Ne.symm NQT), LT, LQ, hS⟩
      · go_simp
        have hbx : Below u1.heap.size u1 (u1.alloc (trkO tv0)) := (Below.refl _ _).alloc (Nat.le_refl _) _
        have LT := hS.size
        have DT := TBlk.new u1 tv0
        replace hS := hS.trans (hbx.mono hS.size)
        clear hbx
        obtain ⟨bT, hbT⟩ : ∃ b, u1.heap.size = b := ⟨_, rfl⟩
        obtain ⟨u2, hV⟩ : ∃ V, u1.alloc (trkO tv0) = V := ⟨_, rfl⟩
        rw [hV, hbT] at DT
        rw [hV] at hS
        rw [hbT] at LT
        rw [hV, hbT]
        clear hV hbT
        refine hK.out _ _ _ (fun W h => h) hS ?_
        clear hK K
        refine seqT_fork rfl rfl (fun K hK => ?_) (fun K hK => ?_)
        · go_simp
          refine (C1.out _ _).mono ?_
          rintro e u3 ⟨rfl, hb⟩
          replace hS := hS.trans (hb.mono hS.size)
          replace DT := DT.bel hb DT.lt
          refine hK.out _ _ _ (fun W h => h) hS ?_
          clear hK K hb
          iterate 4 (refine seqT_read (v := _) rfl (fun k _ W h => HP.out k _ _ _ W h) hS (Or.inl ⟨by rfl, fun W hW => by go_simp <;> with_reducible rfl⟩) ?_; simp only [Act.put, List.setIfInBounds_toArray, List.set_cons_zero, List.set_cons_succ])
          refine seqT_do rfl (fun K hK => ?_)
          go_simp
          have hbx : Below u3.heap.size u3 (u3.alloc (pcO pc0)) := (Below.refl _ _).alloc (Nat.le_refl _) _
          have LQ := hS.size
          have DQ := QBlk.new u3 pc0
          have NTQ := Nat.ne_of_lt DT.lt
          replace DT := DT.bel hbx DT.lt
          replace hS := hS.trans (hbx.mono hS.size)
          clear hbx
          obtain ⟨bQ, hbQ⟩ : ∃ b, u3.heap.size = b := ⟨_, rfl⟩
          obtain ⟨u4, hV⟩ : ∃ V, u3.alloc (pcO pc0) = V := ⟨_, rfl⟩
          rw [hV, hbQ] at DQ
          rw [hV] at hS
          rw [hbQ] at LQ
          rw [hV] at DT
          rw [hbQ] at NTQ
          rw [hV, hbQ]
          clear hV hbQ
          refine hK.out _ _ _ (fun W h => h) hS ?_
          clear hK K
          exact fin bm bT bQ u4 ⟨DT, DQ, NTQ, LT, LQ, hS⟩
        · go_simp
          have hbx : Below u2.heap.size u2 (u2.alloc (pcO pc0)) := (Below.refl _ _).alloc (Nat.le_refl _) _
          have LQ := hS.size
          have DQ := QBlk.new u2 pc0
          have NTQ := Nat.ne_of_lt DT.lt
          replace DT := DT.bel hbx DT.lt
          replace hS := hS.trans (hbx.mono hS.size)
          clear hbx
          obtain ⟨bQ, hbQ⟩ : ∃ b, u2.heap.size = b := ⟨_, rfl⟩
          obtain ⟨u3, hV⟩ : ∃ V, u2.alloc (pcO pc0) = V := ⟨_, rfl⟩
          rw [hV, hbQ] at DQ
          rw [hV] at hS
          rw [hbQ] at LQ
          rw [hV] at DT
          rw [hbQ] at NTQ
          rw [hV, hbQ]
          clear hV hbQ
          refine hK.out _ _ _ (fun W h => h) hS ?_
          clear hK K
          refine seqT_do rfl (fun K hK => ?_)
          go_simp
          refine (C1.out _ _).mono ?_
          rintro e u4 ⟨rfl, hb⟩
          replace hS := hS.trans (hb.mono hS.size)
          replace DT := DT.bel hb DT.lt
          replace DQ := DQ.bel hb DQ.lt
          refine hK.out _ _ _ (fun W h => h) hS ?_
          clear hK K hb
          iterate 4 (refine seqT_read (v := _) rfl (fun k _ W h => HP.out k _ _ _ W h) hS (Or.inl ⟨by rfl, fun W hW => by go_simp <;> with_reducible rfl⟩) ?_; simp only [Act.put, List.setIfInBounds_toArray, List.set_cons_zero, List.set_cons_succ])
          exact fin bm bT bQ u4 ⟨DT, DQ, NTQ, LT, LQ, hS⟩
      · go_simp
        have hbx : Below u1.heap.size u1 (u1.alloc (pcO pc0)) := (Below.refl _ _).alloc (Nat.le_refl _) _
        have LQ := hS.size
        have DQ := QBlk.new u1 pc0
        replace hS := hS.trans (hbx.mono hS.size)
        clear hbx
        obtain ⟨bQ, hbQ⟩ : ∃ b, u1.heap.size = b := ⟨_, rfl⟩
        obtain ⟨u2, hV⟩ : ∃ V, u1.alloc (pcO pc0) = V := ⟨_, rfl⟩
        rw [hV, hbQ] at DQ
        rw [hV] at hS
        rw [hbQ] at LQ
        rw [hV, hbQ]
        clear hV hbQ
        refine hK.out _ _ _ (fun W h => h) hS ?_
        clear hK K
        refine seqT_fork rfl rfl (fun K hK => ?_) (fun K hK => ?_)
        · go_simp
          refine (C1.out _ _).mono ?_
          rintro e u3 ⟨rfl, hb⟩
          replace hS := hS.trans (hb.mono hS.size)
          replace DQ := DQ.bel hb DQ.lt
          refine hK.out _ _ _ (fun W h => h) hS ?_
          clear hK K hb
          iterate 4 (refine seqT_read (v := _) rfl (fun k _ W h => HP.out k _ _ _ W h) hS (Or.inl ⟨by rfl, fun W hW => by go_simp <;> with_reducible rfl⟩) ?_; simp only [Act.put, List.setIfInBounds_toArray, List.set_cons_zero, List.set_cons_succ])
          refine seqT_do rfl (fun K hK => ?_)
          go_simp
          have hbx : Below u3.heap.size u3 (u3.alloc (trkO tv0)) := (Below.refl _ _).alloc (Nat.le_refl _) _
          have LT := hS.size
          have DT := TBlk.new u3 tv0
          have NQT := Nat.ne_of_lt DQ.lt
          replace DQ := DQ.bel hbx DQ.lt
          replace hS := hS.trans (hbx.mono hS.size)
          clear hbx
          obtain ⟨bT, hbT⟩ : ∃ b, u3.heap.size = b := ⟨_, rfl⟩
          obtain ⟨u4, hV⟩ : ∃ V, u3.alloc (trkO tv0) = V := ⟨_, rfl⟩
          rw [hV, hbT] at DT
          rw [hV] at hS
          rw [hbT] at LT
          rw [hV] at DQ
          rw [hbT] at NQT
          rw [hV, hbT]
          clear hV hbT
          refine hK.out _ _ _ (fun W h => h) hS ?_
          clear hK K
          exact fin bm bT bQ u4 ⟨DT, DQ, (Ne.symm NQT), LT, LQ, hS⟩
        · go_simp
          have hbx : Below u2.heap.size u2 (u2.alloc (trkO tv0)) := (Below.refl _ _).alloc (Nat.le_refl _) _
          have LT := hS.size
          have DT := TBlk.new u2 tv0
          have NQT := Nat.ne_of_lt DQ.lt
          replace DQ := DQ.bel hbx DQ.lt
          replace hS := hS.trans (hbx.mono hS.size)
          clear hbx
          obtain ⟨bT, hbT⟩ : ∃ b, u2.heap.size = b := ⟨_, rfl⟩
          obtain ⟨u3, hV⟩ : ∃ V, u2.alloc (trkO tv0) = V := ⟨_, rfl⟩
          rw [hV, hbT] at DT
          rw [hV] at hS
          rw [hbT] at LT
          rw [hV] at DQ
          rw [hbT] at NQT
          rw [hV, hbT]
          clear hV hbT
          refine hK.out _ _ _ (fun W h => h) hS ?_
          clear hK K
          refine seqT_do rfl (fun K hK => ?_)
          go_simp
          refine (C1.out _ _).mono ?_
          rintro e u4 ⟨rfl, hb⟩
          replace hS := hS.trans (hb.mono hS.size)
          replace DQ := DQ.bel hb DQ.lt
          replace DT := DT.bel hb DT.lt
          refine hK.out _ _ _ (fun W h => h) hS ?_
          clear hK K hb
          iterate 4 (refine seqT_read (v := _) rfl (fun k _ W h => HP.out k _ _ _ W h) hS (Or.inl ⟨by rfl, fun W hW => by go_simp <;> with_reducible rfl⟩) ?_; simp only [Act.put, List.setIfInBounds_toArray, List.set_cons_zero, List.set_cons_succ])
          exact fin bm bT bQ u4 ⟨DT, DQ, (Ne.symm NQT), LT, LQ, hS⟩
    · go_simp
      have hbx : Below u0.heap.size u0 (u0.alloc (trkO tv0)) := (Below.refl _ _).alloc (Nat.le_refl _) _
      have LT := hS.size
      have DT := TBlk.new u0 tv0
      replace hS := hS.trans (hbx.mono hS.size)
      clear hbx
      obtain ⟨bT, hbT⟩ : ∃ b, u0.heap.size = b := ⟨_, rfl⟩
      obtain ⟨u1, hV⟩ : ∃ V, u0.alloc (trkO tv0) = V := ⟨_, rfl⟩
      rw [hV, hbT] at DT
      rw [hV] at hS
      rw [hbT] at LT
      rw [hV, hbT]
      clear hV hbT
      refine hK.out _ _ _ (fun W h => h) hS ?_
      clear hK K
      refine seqT_fork rfl rfl (fun K hK => ?_) (fun K hK => ?_)
      · have hM := HM.out u1
        go_simp
        clear hM
        have hbx : Below u1.heap.size u1 (u1.alloc O) := (Below.refl _ _).alloc (Nat.le_refl _) _
        replace DT := DT.bel hbx DT.lt
        replace hS := hS.trans (hbx.mono hS.size)
        clear hbx
        obtain ⟨bm, hbm⟩ : ∃ b, u1.heap.size = b := ⟨_, rfl⟩
        obtain ⟨u2, hV⟩ : ∃ V, u1.alloc O = V := ⟨_, rfl⟩
        rw [hV] at hS
        rw [hV] at DT
        rw [hV, hbm]
        clear hV hbm
        refine hK.out _ _ _ (fun W h => h) hS ?_
        clear hK K
        iterate 1 (refine seqT_read (v := _) rfl (fun k _ W h => HP.out k _ _ _ W h) hS (Or.inl ⟨by rfl, fun W hW => by go_simp <;> with_reducible rfl⟩) ?_; simp only [Act.put, List.setIfInBounds_toArray, List.set_cons_zero, List.set_cons_succ])
        refine seqT_fork rfl rfl (fun K hK => ?_) (fun K hK => ?_)
        · go_simp
          refine (C1.out _ _).mono ?_
          rintro e u3 ⟨rfl, hb⟩
          replace hS := hS.trans (hb.mono hS.size)
          replace DT := DT.bel hb DT.lt
          refine hK.out _ _ _ (fun W h => h) hS ?_
          clear hK K hb
          iterate 4 (refine seqT_read (v := _) rfl (fun k _ W h => HP.out k _ _ _ W h) hS (Or.inl ⟨by rfl, fun W hW => by go_simp <;> with_reducible rfl⟩) ?_; simp only [Act.put, List.setIfInBounds_toArray, List.set_cons_zero, List.set_cons_succ])
          refine seqT_do rfl (fun K hK => ?_)
          go_simp
          have hbx : Below u3.heap.size u3 (u3.alloc (pcO pc0)) := (Below.refl _ _).alloc (Nat.le_refl _) _
          have LQ := hS.size
          have DQ := QBlk.new u3 pc0
          have NTQ := Nat.ne_of_lt DT.lt
          replace DT := DT.bel hbx DT.lt
          replace hS := hS.trans (hbx.mono hS.size)
          clear hbx
          obtain ⟨bQ, hbQ⟩ : ∃ b, u3.heap.size = b := ⟨_, rfl⟩
          obtain ⟨u4, hV⟩ : ∃ V, u3.alloc (pcO pc0) = V := ⟨_, rfl⟩
          rw [hV, hbQ] at DQ
          rw [hV] at hS
          rw [hbQ] at LQ
          rw [hV] at DT
          rw [hbQ] at NTQ
          rw [hV, hbQ]
          clear hV hbQ
          refine hK.out _ _ _ (fun W h => h) hS ?_
          clear hK K
          exact fin bm bT bQ u4 ⟨DT, DQ, NTQ, LT, LQ, hS⟩
        · go_simp
          have hbx : Below u2.heap.size u2 (u2.alloc (pcO pc0)) := (Below.refl _ _).alloc (Nat.le_refl _) _
          have LQ := hS.size
          have DQ := QBlk.new u2 pc0
          have NTQ := Nat.ne_of_lt DT.lt
          replace DT := DT.bel hbx DT.lt
          replace hS := hS.trans (hbx.mono hS.size)
          clear hbx
          obtain ⟨bQ, hbQ⟩ : ∃ b, u2.heap.size = b := ⟨_, rfl⟩
          obtain ⟨u3, hV⟩ : ∃ V, u2.alloc (pcO pc0) = V := ⟨_, rfl⟩
          rw [hV, hbQ] at DQ
          rw [hV] at hS
          rw [hbQ] at LQ
          rw [hV] at DT
          rw [hbQ] at NTQ
          rw [hV, hbQ]
          clear hV hbQ
          refine hK.out _ _ _ (fun W h => h) hS ?_
          clear hK K
          refine seqT_do rfl (fun K hK => ?_)
          go_simp
          refine (C1.out _ _).mono ?_
          rintro e u4 ⟨rfl, hb⟩
          replace hS := hS.trans (hb.mono hS.size)
          replace DT := DT.bel hb DT.lt
          replace DQ := DQ.bel hb DQ.lt
          refine hK.out _ _ _ (fun W h => h) hS ?_
          clear hK K hb
          iterate 4 (refine seqT_read (v := _) rfl (fun k _ W h => HP.out k _ _ _ W h) hS (Or.inl ⟨by rfl, fun W hW => by go_simp <;> with_reducible rfl⟩) ?_; simp only [Act.put, List.setIfInBounds_toArray, List.set_cons_zero, List.set_cons_succ])
          exact fin bm bT bQ u4 ⟨DT, DQ, NTQ, LT, LQ, hS⟩
      · go_simp
        have hbx : Below u1.heap.size u1 (u1.alloc (pcO pc0)) := (Below.refl _ _).alloc (Nat.le_refl _) _
        have LQ := hS.size
        have DQ := QBlk.new u1 pc0
        have NTQ := Nat.ne_of_lt DT.lt
        replace DT := DT.bel hbx DT.lt
        replace hS := hS.trans (hbx.mono hS.size)
        clear hbx
        obtain ⟨bQ, hbQ⟩ : ∃ b, u1.heap.size = b := ⟨_, rfl⟩
        obtain ⟨u2, hV⟩ : ∃ V, u1.alloc (pcO pc0) = V := ⟨_, rfl⟩
        rw [hV, hbQ] at DQ
        rw [hV] at hS
        rw [hbQ] at LQ
        rw [hV] at DT
        rw [hbQ] at NTQ
        rw [hV, hbQ]
        clear hV hbQ
        refine hK.out _ _ _ (fun W h => h) hS ?_
        clear hK K
        refine seqT_do rfl (fun K hK => ?_)
        have hM := HM.out u2
        go_simp
        clear hM
        have hbx : Below u2.heap.size u2 (u2.alloc O) := (Below.refl _ _).alloc (Nat.le_refl _) _
        replace DT := DT.bel hbx DT.lt
        replace DQ := DQ.bel hbx DQ.lt
        replace hS := hS.trans (hbx.mono hS.size)
        clear hbx
        obtain ⟨bm, hbm⟩ : ∃ b, u2.heap.size = b := ⟨_, rfl⟩
        obtain ⟨u3, hV⟩ : ∃ V, u2.alloc O = V := ⟨_, rfl⟩
        rw [hV] at hS
        rw [hV] at DT
        rw [hV] at DQ
        rw [hV, hbm]
        clear hV hbm
        refine hK.out _ _ _ (fun W h => h) hS ?_
        clear hK K
        iterate 1 (refine seqT_read (v := _) rfl (fun k _ W h => HP.out k _ _ _ W h) hS (Or.inl ⟨by rfl, fun W hW => by go_simp <;> with_reducible rfl⟩) ?_; simp only [Act.put, List.setIfInBounds_toArray, List.set_cons_zero, List.set_cons_succ])
        refine seqT_do rfl (fun K hK => ?_)
        go_simp
        refine (C1.out _ _).mono ?_
        rintro e u4 ⟨rfl, hb⟩
        replace hS := hS.trans (hb.mono hS.size)
        replace DT := DT.bel hb DT.lt
        replace DQ := DQ.bel hb DQ.lt
        refine hK.out _ _ _ (fun W h => h) hS ?_
        clear hK K hb
        iterate 4 (refine seqT_read (v := _) rfl (fun k _ W h => HP.out k _ _ _ W h) hS (Or.inl ⟨by rfl, fun W hW => by go_simp <;> with_reducible rfl⟩) ?_; simp only [Act.put, List.setIfInBounds_toArray, List.set_cons_zero, List.set_cons_succ])
        exact fin bm bT bQ u4 ⟨DT, DQ, NTQ, LT, LQ, hS⟩
    · go_simp
      have hbx : Below u0.heap.size u0 (u0.alloc (pcO pc0)) := (Below.refl _ _).alloc (Nat.le_refl _) _
      have LQ := hS.size
      have DQ := QBlk.new u0 pc0
      replace hS := hS.trans (hbx.mono hS.size)
      clear hbx
      obtain ⟨bQ, hbQ⟩ : ∃ b, u0.heap.size = b := ⟨_, rfl⟩
      obtain ⟨u1, hV⟩ : ∃ V, u0.alloc (pcO pc0) = V := ⟨_, rfl⟩
      rw [hV, hbQ] at DQ
      rw [hV] at hS
      rw [hbQ] at LQ
      rw [hV, hbQ]
      clear hV hbQ
      refine hK.out _ _ _ (fun W h => h) hS ?_
      clear hK K
      refine seqT_fork rfl rfl (fun K hK => ?_) (fun K hK => ?_)
      · have hM := HM.out u1
        go_simp
        clear hM
        have hbx : Below u1.heap.size u1 (u1.alloc O) := (Below.refl _ _).alloc (Nat.le_refl _) _
        replace DQ := DQ.bel hbx DQ.lt
        replace hS := hS.trans (hbx.mono hS.size)
        clear hbx
        obtain ⟨bm, hbm⟩ : ∃ b, u1.heap.size = b := ⟨_, rfl⟩
        obtain ⟨u2, hV⟩ : ∃ V, u1.alloc O = V := ⟨_, rfl⟩
        rw [hV] at hS
        rw [hV] at DQ
        rw [hV, hbm]
        clear hV hbm
        refine hK.out _ _ _ (fun W h => h) hS ?_
        clear hK K
        iterate 1 (refine seqT_read (v := _) rfl (fun k _ W h => HP.out k _ _ _ W h) hS (Or.inl ⟨by rfl, fun W hW => by go_simp <;> with_reducible rfl⟩) ?_; simp only [Act.put, List.setIfInBounds_toArray, List.set_cons_zero, List.set_cons_succ])
        refine seqT_fork rfl rfl (fun K hK => ?_) (fun K hK => ?_)
        · go_simp
          refine (C1.out _ _).mono ?_
          rintro e u3 ⟨rfl, hb⟩
          replace hS := hS.trans (hb.mono hS.size)
          replace DQ := DQ.bel hb DQ.lt
          refine hK.out _ _ _ (fun W h => h) hS ?_
          clear hK K hb
          iterate 4 (refine seqT_read (v := _) rfl (fun k _ W h => HP.out k _ _ _ W h) hS (Or.inl ⟨by rfl, fun W hW => by go_simp <;> with_reducible rfl⟩) ?_; simp only [Act.put, List.setIfInBounds_toArray, List.set_cons_zero, List.set_cons_succ])
          refine seqT_do rfl (fun K hK => ?_)
          go_simp
          have hbx : Below u3.heap.size u3 (u3.alloc (trkO tv0)) := (Below.refl _ _).alloc (Nat.le_refl _) _
          have LT := hS.size
          have DT := TBlk.new u3 tv0
          have NQT := Nat.ne_of_lt DQ.lt
          replace DQ := DQ.bel hbx DQ.lt
          replace hS := hS.trans (hbx.mono hS.size)
          clear hbx
          obtain ⟨bT, hbT⟩ : ∃ b, u3.heap.size = b := ⟨_, rfl⟩
          obtain ⟨u4, hV⟩ : ∃ V, u3.alloc (trkO tv0) = V := ⟨_, rfl⟩
          rw [hV, hbT] at DT
          rw [hV] at hS
          rw [hbT] at LT
          rw [hV] at DQ
          rw [hbT] at NQT
          rw [hV, hbT]
          clear hV hbT
          refine hK.out _ _ _ (fun W h => h) hS ?_
          clear hK K
          exact fin bm bT bQ u4 ⟨DT, DQ, (Ne.symm NQT), LT, LQ, hS⟩
        · go_simp
          have hbx : Below u2.heap.size u2 (u2.alloc (trkO tv0)) := (Below.refl _ _).alloc (Nat.le_refl _) _
          have LT := hS.size
          have DT := TBlk.new u2 tv0
          have NQT := Nat.ne_of_lt DQ.lt
          replace DQ := DQ.bel hbx DQ.lt
          replace hS := hS.trans (hbx.mono hS.size)
          clear hbx
          obtain ⟨bT, hbT⟩ : ∃ b, u2.heap.size = b := ⟨_, rfl⟩
          obtain ⟨u3, hV⟩ : ∃ V, u2.alloc (trkO tv0) = V := ⟨_, rfl⟩
          rw [hV, hbT] at DT
          rw [hV] at hS
          rw [hbT] at LT
          rw [hV] at DQ
          rw [hbT] at NQT
          rw [hV, hbT]
          clear hV hbT
          refine hK.out _ _ _ (fun W h => h) hS ?_
          clear hK K
          refine seqT_do rfl (fun K hK => ?_)
          go_simp
          refine (C1.out _ _).mono ?_
          rintro e u4 ⟨rfl, hb⟩
          replace hS := hS.trans (hb.mono hS.size)
          replace DQ := DQ.bel hb DQ.lt
          replace DT := DT.bel hb DT.lt
          refine hK.out _ _ _ (fun W h => h) hS ?_
          clear hK K hb
          iterate 4 (refine seqT_read (v := _) rfl (fun k _ W h => HP.out k _ _ _ W h) hS (Or.inl ⟨by rfl, fun W hW => by go_simp <;> with_reducible rfl⟩) ?_; simp only [Act.put, List.setIfInBounds_toArray, List.set_cons_zero, List.set_cons_succ])
          exact fin bm bT bQ u4 ⟨DT, DQ, (Ne.symm NQT), LT, LQ, hS⟩
      · go_simp
        have hbx : Below u1.heap.size u1 (u1.alloc (trkO tv0)) := (Below.refl _ _).alloc (Nat.le_refl _) _
        have LT := hS.size
        have DT := TBlk.new u1 tv0
        have NQT := Nat.ne_of_lt DQ.lt
        replace DQ := DQ.bel hbx DQ.lt
        replace hS := hS.trans (hbx.mono hS.size)
        clear hbx
        obtain ⟨bT, hbT⟩ : ∃ b, u1.heap.size = b := ⟨_, rfl⟩
        obtain ⟨u2, hV⟩ : ∃ V, u1.alloc (trkO tv0) = V := ⟨_, rfl⟩
        rw [hV, hbT] at DT
        rw [hV] at hS
        rw [hbT] at LT
        rw [hV] at DQ
        rw [hbT] at NQT
        rw [hV, hbT]
        clear hV hbT
        refine hK.out _ _ _ (fun W h => h) hS ?_
        clear hK K
        refine seqT_do rfl (fun K hK => ?_)
        have hM := HM.out u2
        go_simp
        clear hM
        have hbx : Below u2.heap.size u2 (u2.alloc O) := (Below.refl _ _).alloc (Nat.le_refl _) _
        replace DQ := DQ.bel hbx DQ.lt
        replace DT := DT.bel hbx DT.lt
        replace hS := hS.trans (hbx.mono hS.size)
        clear hbx
        obtain ⟨bm, hbm⟩ : ∃ b, u2.heap.size = b := ⟨_, rfl⟩
        obtain ⟨u3, hV⟩ : ∃ V, u2.alloc O = V := ⟨_, rfl⟩
        rw [hV] at hS
        rw [hV] at DQ
        rw [hV] at DT
        rw [hV, hbm]
        clear hV hbm
        refine hK.out _ _ _ (fun W h => h) hS ?_
        clear hK K
        iterate 1 (refine seqT_read (v := _) rfl (fun k _ W h => HP.out k _ _ _ W h) hS (Or.inl ⟨by rfl, fun W hW => by go_simp <;> with_reducible rfl⟩) ?_; simp only [Act.put, List.setIfInBounds_toArray, List.set_cons_zero, List.set_cons_succ])
        refine seqT_do rfl (fun K hK => ?_)
        go_simp
        refine (C1.out _ _).mono ?_
        rintro e u4 ⟨rfl, hb⟩
        replace hS := hS.trans (hb.mono hS.size)
        replace DQ := DQ.bel hb DQ.lt
        replace DT := DT.bel hb DT.lt
        refine hK.out _ _ _ (fun W h => h) hS ?_
        clear hK K hb
        iterate 4 (refine seqT_read (v := _) rfl (fun k _ W h => HP.out k _ _ _ W h) hS (Or.inl ⟨by rfl, fun W hW => by go_simp <;> with_reducible rfl⟩) ?_; simp only [Act.put, List.setIfInBounds_toArray, List.set_cons_zero, List.set_cons_succ])
        exact fin bm bT bQ u4 ⟨DT, DQ, (Ne.symm NQT), LT, LQ, hS⟩
  case fin =>
    intro bm bT bQ u20 hF
    clear hS
    obtain ⟨DT, DQ, NTQ, LT, LQ, hS⟩ := hF
    refine seqT_do rfl (fun K hK => ?_)
    have d0 := DT.c0
    have e0 := DT.frozen 0
    have d1 := DT.c1
    have e1 := DT.frozen 1
    have d2 := DT.c2
    have e2 := DT.frozen 2
    have d3 := DT.c3
    have e3 := DT.frozen 3
    have d4 := DT.c4
    have e4 := DT.frozen 4
    have d5 := DT.c5
    have e5 := DT.frozen 5
    have d6 := DT.c6
    have e6 := DT.frozen 6
    have d7 := DT.c7
    have e7 := DT.frozen 7
    have d8 := DT.c8
    have e8 := DT.frozen 8
    have d9 := DT.c9
    have e9 := DT.frozen 9
    have d10 := DT.c10
    have e10 := DT.frozen 10
    have d11 := DT.c11
    have e11 := DT.frozen 11
    have d12 := DT.c12
    have e12 := DT.frozen 12
    have d13 := DT.c13
    have e13 := DT.frozen 13
    have d14 := DT.c14
    have e14 := DT.frozen 14
    go_simp
    clear d0 e0 d1 e1 d2 e2 d3 e3 d4 e4 d5 e5 d6 e6 d7 e7 d8 e8 d9 e9 d10 e10 d11 e11 d12 e12 d13 e13 d14 e14
    replace hS := bel_putT hS LT y
    replace DQ := DQ.beside ((Ne.symm NTQ)) (beside_putT u20 bT y)
    dsimp only [putT] at DQ
    replace DT := DT.store y
    dsimp only [putT] at hS DT
    obtain ⟨u21, hV⟩ : ∃ V, ((((((((((((((u20.setCell ⟨bT, 0, none⟩ (.int .i64 y.g.1)).setCell ⟨bT, 1, none⟩ (.int .i64 y.g.2.1)).setCell ⟨bT, 2, none⟩ (.bool y.g.2.2.1)).setCell ⟨bT, 3, none⟩ (.bool y.g.2.2.2)).setCell ⟨bT, 4, none⟩ (.bool y.c.1)).setCell ⟨bT, 5, none⟩ (.int .u16 y.c.2.1)).setCell ⟨bT, 6, none⟩ (.int .u16 y.c.2.2.1)).setCell ⟨bT, 7, none⟩ (.int .u16 y.c.2.2.2)).setCell ⟨bT, 8, none⟩ (.bool y.k.1)).setCell ⟨bT, 9, none⟩ (.int .u32 y.k.2.1)).setCell ⟨bT, 10, none⟩ (.int .u32 y.k.2.2)).setCell ⟨bT, 11, none⟩ (.int .u32 y.out)).setCell ⟨bT, 12, none⟩ (.int .u16 y.fr)).setCell ⟨bT, 13, none⟩ (.int .u32 y.sn)).setCell ⟨bT, 14, none⟩ (.int .u32 y.oc) = V := ⟨_, rfl⟩
    rw [hV] at hS
    rw [hV] at DT
    rw [hV] at DQ
    rw [hV]
    clear hV
    refine hK.out _ _ _ (fun W h => h) hS ?_
    clear hK K
    refine seqT_do rfl (fun K hK => ?_)
    have d0 := DQ.c0
    have e0 := DQ.frozen 0
    have d1 := DQ.c1
    have e1 := DQ.frozen 1
    have d2 := DQ.c2
    have e2 := DQ.frozen 2
    have d3 := DQ.c3
    have e3 := DQ.frozen 3
    go_simp
    clear d0 e0 d1 e1 d2 e2 d3 e3
    replace hS := bel_putP hS LQ r
    replace DT := DT.beside (NTQ) (beside_putP u21 bQ r)
    dsimp only [putP] at DT
    replace DQ := DQ.store r
    dsimp only [putP] at hS DQ
    obtain ⟨u22, hV⟩ : ∃ V, (((u21.setCell ⟨bQ, 0, none⟩ (.int .u16 r.1)).setCell ⟨bQ, 1, none⟩ (.int .u32 r.2.1)).setCell ⟨bQ, 2, none⟩ (.int .u32 r.2.2.1)).setCell ⟨bQ, 3, none⟩ (.int .u16 r.2.2.2) = V := ⟨_, rfl⟩
    rw [hV] at hS
    rw [hV] at DT
    rw [hV] at DQ
    rw [hV]
    clear hV
    refine hK.out _ _ _ (fun W h => h) hS ?_
    clear hK K
    iterate 1 (refine seqT_read (v := _) rfl (fun k _ W h => HP.out k _ _ _ W h) hS (Or.inl ⟨by rfl, fun W hW => by go_simp <;> with_reducible rfl⟩) ?_; simp only [Act.put, List.setIfInBounds_toArray, List.set_cons_zero, List.set_cons_succ])
    refine seqT_end ?_
    exact HE.out _ _ _ _ _ _ _ _ _ _ _ _ _ _ _ _ _ _ _ _ bT bQ _ ⟨DT, DQ, hS⟩
end Go.Proofs.Ytolobojidnomfaa.Stp
