/- What StampRow's loop holds: plain. -/
import Derived.Test.YtolobojidnomfaaYi
set_option maxRecDepth 100000
namespace Go.Proofs.Ytolobojidnomfaa.Stp
open Go.RowKit Go.Proofs.Ytolobojidnomfaa.Gat Go.Proofs.Ytolobojidnomfaa.Crs Go.Proofs.Ytolobojidnomfaa.Clk Go.Proofs.Ytolobojidnomfaa.Rtp
set_option linter.unusedVariables false

/-- A track's numbers against those that the law counts: packets, bytes, frame, the times that went in and out last. -/
structure Inv (x : TV) (n oc fr li lo : Int) : Prop where
  sn : x.sn = n
  oc : x.oc = oc
  fr : x.fr = fr
  nx : x.c.2.2.2 = n
  any : x.k.1 = decide (0 < n)
  lst : x.k.2.2 = lo
  cur : 0 ≤ x.g.2.1 → x.c.1 = true ∧ x.k.2.1 = (lo - li) % 4294967296
theorem Inv.start (p s w : Int) : Inv (newT p s w) 0 0 65535 0 0 := ⟨rfl, rfl, rfl, rfl, rfl, rfl, fun h => absurd h (by simp [newT, nw])⟩
theorem Inv.gate {x : TV} {n oc fr li lo : Int} (h : Inv x n oc fr li lo) (g : Gt) (hg : 0 ≤ g.2.1 → 0 ≤ x.g.2.1) : Inv ⟨g, x.c, x.k, x.out, x.fr, x.sn, x.oc⟩ n oc fr li lo :=
  ⟨h.sn, h.oc, h.fr, h.nx, h.any, h.lst, fun hh => h.cur (hg hh)⟩
theorem mda_not {x y : TV} {q tm pn : Int} {d : Ds} {r : Pc} {v : Int} (h : mda x q tm pn d = (y, r, v)) (h1 : v ≠ 1) (h2 : v ≠ 2) : x = y ∧ pc0 = r := by
  unfold mda at h
  obtain ⟨g, u, hr⟩ : ∃ g u, tke x.g d.1 (d.2.1 && d.2.2.1) = (g, u) := ⟨_, _, rfl⟩
  rw [hr] at h
  simp only at h
  split at h
  · unfold snd at h
    split at h
    · simp only [Prod.mk.injEq] at h; exact ⟨h.1, by rw [← h.2.1]⟩
    · simp only [Prod.mk.injEq] at h; omega
  · split at h
    · unfold snd at h
      rw [if_neg (by simp [swT, brk, refd])] at h
      simp only [Prod.mk.injEq] at h; omega
    · simp only [Prod.mk.injEq] at h; exact ⟨h.1, by rw [← h.2.1]⟩
/-- The law's time of a packet that is sent. -/
def tmN (n lo li tm v : Int) : Int := if v = 2 then (if n = 0 then 0 else (lo + 3000) % 4294967296) else (lo + tm - li) % 4294967296
structure Sent (x : TV) (n oc fr li lo q tm pn l : Int) (on st : Bool) (y : TV) (r : Pc) (v : Int) : Prop where
  quiet : qui x.g = false
  r : r = (n, tmN n lo li tm v, x.out, frN fr st)
  two : v = 2 → on = true ∧ st = true
  one : v = 1 → ah16 q x.c.2.1 = true
  inv : Inv y (n + 1) ((oc + pn) % 4294967296) (frN fr st) tm (tmN n lo li tm v)
theorem mda_yes {x y : TV} {n oc fr li lo q tm pn l : Int} {on st : Bool} {r : Pc} {v : Int} (hI : Inv x n oc fr li lo) (h : mda x q tm pn (l, on, st, 0) = (y, r, v)) (hv : v = 1 ∨ v = 2) (hl : 0 ≤ l)
    (hn : 0 ≤ n ∧ n ≤ 1000) (hlo : 0 ≤ lo ∧ lo ≤ 4294967295) (hli : 0 ≤ li ∧ li ≤ 4294967295) (ht : 0 ≤ tm ∧ tm ≤ 4294967295) : Sent x n oc fr li lo q tm pn l on st y r v := by
  unfold mda at h
  obtain ⟨g, u, hr⟩ : ∃ g u, tke x.g l (on && st) = (g, u) := ⟨_, _, rfl⟩
  simp only at h
  rw [hr] at h
  simp only at h
  obtain ⟨h1, h2, h3, h4, h5, h6, h7⟩ := hI
  obtain ⟨xg, ⟨cl, ci, co, cn⟩, ⟨ka, ko, kl⟩, xo, xf, xs, xc⟩ := x
  simp only at h1 h2 h3 h4 h5 h6 h7 hr
  subst h1 h2 h3 h4 h5 h6
  by_cases hu : u = 1
  · subst hu
    rw [if_pos rfl] at h
    have hg : qui xg = false ∧ l = xg.2.1 := by
      unfold tke at hr
      split at hr
      · simp only [Prod.mk.injEq] at hr; omega
      · rename_i hq
        split at hr
        · simp only [Prod.mk.injEq] at hr; omega
        · split at hr
          · rename_i hl; exact ⟨by simpa using hq, hl⟩
          · simp only [Prod.mk.injEq] at hr; omega
    obtain ⟨k1, k2⟩ := h7 (by rw [← hg.2]; exact hl)
    subst k1 k2
    unfold snd at h
    split at h
    · simp only [Prod.mk.injEq] at h; omega
    · rename_i hrf
      have hrf : refd (true, ci, co, cn) q = false := by simpa using hrf
      simp only [Prod.mk.injEq] at h
      obtain ⟨rfl, rfl, rfl⟩ := h
      have hah : ah16 q ci = true := by simpa [refd] using hrf
      have hT : tmN cn kl li tm 1 = tim (decide (0 < cn), (kl - li) % 4294967296, kl) tm := by
        unfold tmN tim
        rw [if_neg (by decide)]
        simp only
        omega
      refine ⟨hg.1, ?_, fun h => by omega, fun _ => hah, ?_⟩
      · unfold sntP
        simp only [stp_yes hrf, hT]
      · unfold sntT
        refine ⟨?_, rfl, rfl, ?_, ?_, ?_, fun _ => ⟨?_, ?_⟩⟩
        · show (cn + 1) % 4294967296 = cn + 1; omega
        · simp only [stp_yes hrf]; omega
        · simp only [stk]; simp; omega
        · simp only [stk]; exact hT.symm
        · simp only [stp_yes hrf]
        · simp only [stk]
          rw [hT]
          unfold tim
          simp only
          omega
  · rw [if_neg hu] at h
    by_cases hu2 : u = 2
    · subst hu2
      rw [if_pos rfl] at h
      have hg : qui xg = false ∧ on = true ∧ st = true ∧ g.2.1 = l := by
        unfold tke at hr
        split at hr
        · simp only [Prod.mk.injEq] at hr; omega
        · rename_i hq
          split at hr
          · rename_i hk
            simp only [Prod.mk.injEq] at hr
            obtain ⟨rfl, -⟩ := hr
            have hk1 := hk.1
            simp only [Bool.and_eq_true] at hk1
            exact ⟨by simpa using hq, hk1.1, hk1.2, hk.2.1.symm⟩
          · split at hr
            · simp only [Prod.mk.injEq] at hr; omega
            · simp only [Prod.mk.injEq] at hr; omega
      obtain ⟨hq, rfl, rfl, hgl⟩ := hg
      have hrf : refd (false, ci, co, cn) q = false := by simp [refd]
      unfold snd swT brk at h
      simp only at h
      rw [if_neg (by rw [hrf]; decide)] at h
      simp only [Prod.mk.injEq] at h
      obtain ⟨rfl, rfl, rfl⟩ := h
      have hT : tmN cn kl li tm 2 = tim (strt (decide (0 < cn), ko, kl) tm) tm := by
        unfold tmN tim strt fst0
        rw [if_pos rfl]
        by_cases h0 : cn = 0
        · subst h0
          simp
          omega
        · rw [if_neg h0]
          have : decide (0 < cn) = true := by simp; omega
          simp only [this]
          simp
          omega
      refine ⟨hq, ?_, fun _ => ⟨rfl, rfl⟩, fun h => by omega, ?_⟩
      · unfold sntP
        simp only [stp_yes hrf, hT]
      · unfold sntT
        refine ⟨?_, rfl, rfl, ?_, ?_, ?_, fun _ => ⟨?_, ?_⟩⟩
        · show (cn + 1) % 4294967296 = cn + 1; omega
        · simp only [stp_yes hrf]; omega
        · simp only [stk]; simp; omega
        · simp only [stk]; exact hT.symm
        · simp only [stp_yes hrf]
        · simp only [stk]
          rw [hT]
          unfold tim strt
          simp only
          omega
    · rw [if_neg hu2] at h
      simp only [Prod.mk.injEq] at h
      omega
theorem tmN_bd {n lo li tm v : Int} : 0 ≤ tmN n lo li tm v ∧ tmN n lo li tm v ≤ 4294967295 := by
  unfold tmN
  split
  · split <;> omega
  · omega
end Go.Proofs.Ytolobojidnomfaa.Stp
