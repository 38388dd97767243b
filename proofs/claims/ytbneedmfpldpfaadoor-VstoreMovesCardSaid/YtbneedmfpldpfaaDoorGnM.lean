/- A move of a directory in a store of four names: no model. Four names behind a move: no model. -/
import Derived.Test.YtbneedmfpldpfaaDoorGj
set_option linter.unusedSimpArgs false
namespace Go.Proofs.YtbneedmfpldpfaaDoor
open Go.RowKit Go.Pth

def nD : B := [100]
def nE : B := [100, 47, 101]
def nF : B := [100, 47, 101, 47, 102]
def nX : B := [120]
def n4 (a e f x : Nat) : List Nm := [(nD, a), (nE, e), (nF, f), (nX, x)]
def tE (t : B) : B := t ++ [47, 101]
def tF (t : B) : B := t ++ [47, 101, 47, 102]
theorem n4_srt (a e f x : Nat) : Srt (n4 a e f x) := by
  unfold Srt n4
  simp only [List.pairwise_cons, List.mem_cons, List.not_mem_nil, or_false, forall_eq_or_imp, forall_eq, false_implies, implies_true, and_true, List.Pairwise.nil]
  decide
theorem n4_place (a e f x : Nat) : place (n4 a e f x) nD = 0 := by
  have h : less nD nD = false := by decide
  simp [place, n4, List.takeWhile, h]
theorem n4_rung (a e f x : Nat) : rung (n4 a e f x) nD = [(nD, a), (nE, e), (nF, f)] := by
  unfold rung
  rw [n4_place]
  have h1 : (nD == nD || under nD nD) = true := by decide
  have h2 : (nE == nD || under nE nD) = true := by decide
  have h3 : (nF == nD || under nF nD) = true := by decide
  have h4 : (nX == nD || under nX nD) = false := by decide
  simp [n4, runF, List.takeWhile, h1, h2, h3, h4]
theorem n4_rest (a e f x : Nat) : rest (n4 a e f x) nD = [(nX, x)] := by
  unfold rest
  rw [n4_place, n4_rung]
  rfl
theorem n4_mvd (a e f x : Nat) (t : B) : mvd (rung (n4 a e f x) nD) nD t = [(t, a), (tE t, e), (tF t, f)] := by
  rw [n4_rung]
  simp [mvd, nD, nE, nF, tE, tF]
/-- A part alone. -/
theorem alone {t : B} (h : valid t = true) (hp : parent t = []) : (47 : UInt8) ∉ t := by
  intro hm
  unfold parent at hp
  rw [if_pos h] at hp
  obtain ⟨p, r, hc⟩ := cut_cons t
  cases r with
  | nil =>
    have := cut_mem t p (by rw [hc]; simp)
    have ht := glue_cut t
    rw [hc] at ht
    have ht : p = t := by simpa [glue] using ht
    rw [ht] at this
    exact this hm
  | cons q r =>
    have hpp := valid_parts h p (by rw [hc]; simp)
    have := (okPart_len p hpp).1
    rw [hc, List.dropLast_cons_cons] at hp
    have hl : (glue (p :: (q :: r).dropLast)).length = 0 := by rw [hp]; rfl
    cases hd : (q :: r).dropLast with
    | nil => rw [hd] at hl; simp [glue] at hl; rw [hl] at this; simp at this
    | cons y z => rw [hd, glue_cons _ _ (by simp)] at hl; simp at hl
theorem up_app {t : B} (h : valid t = true) (hp : parent t ≠ []) : ∃ n, t = parent t ++ 47 :: n := by
  have hj := join_back h
  have hn : join (parent t) (name t) ≠ [] := by rw [hj]; exact valid_ne h
  obtain ⟨h1, _⟩ := join_some hp hn
  exact ⟨name t, by rw [← h1, hj]⟩
/-- Where it may be moved, it is a part alone. -/
theorem takes_alone {a e f x : Nat} {K : Nat → Int} {t : B} (hv : valid t = true) (hu : under t nD = false) (hf : K f = 1) (hx : K x = 1) (ht : takes (n4 a e f x) K t = 0) : parent t = [] ∧ t ≠ nX := by
  unfold takes at ht
  cases hl : look (n4 a e f x) t with
  | some q => rw [hl] at ht; simp at ht
  | none =>
    rw [hl] at ht
    simp only at ht
    have hpar : parent t = [] := by
      by_cases hp : parent t = []
      · exact hp
      · exfalso
        rw [if_neg hp] at ht
        obtain ⟨n, hn⟩ := up_app hv hp
        cases hq : look (n4 a e f x) (parent t) with
        | none => rw [hq] at ht; simp at ht
        | some q =>
          rw [hq] at ht
          have hm := look_mem _ _ _ hq
          simp only [n4, List.mem_cons, Prod.mk.injEq, List.not_mem_nil, or_false] at hm
          rcases hm with ⟨h1, h2⟩ | ⟨h1, h2⟩ | ⟨h1, h2⟩ | ⟨h1, h2⟩
          · rw [h1] at hn
            unfold under at hu
            rw [hv, hn] at hu
            simp [nD, show valid [100] = true by decide, List.isPrefixOf] at hu
          · rw [h1] at hn
            unfold under at hu
            rw [hv, hn] at hu
            simp [nD, nE, show valid [100] = true by decide, List.isPrefixOf] at hu
          · rw [h2] at ht; simp [hf] at ht
          · rw [h2] at ht; simp [hx] at ht
    refine ⟨hpar, fun e => ?_⟩
    subst e
    have : look (n4 a e f x) nX = some x := by
      have hp : place (n4 a e f x) nX = 3 := by
        have h1 : less nD nX = true := by decide
        have h2 : less nE nX = true := by decide
        have h3 : less nF nX = true := by decide
        have h4 : less nX nX = false := by decide
        simp [place, n4, List.takeWhile, h1, h2, h3, h4]
      unfold look
      rw [hp]
      simp [n4]
    rw [this] at hl
    cases hl
end Go.Proofs.YtbneedmfpldpfaaDoor

set_option linter.unusedSimpArgs false
namespace Go.Proofs.YtbneedmfpldpfaaDoor
open Go.RowKit Go.Pth

theorem less_parts {a b t u : B} {r s : List B} (va : valid a = true) (vb : valid b = true) (ca : cut a = t :: r) (cb : cut b = u :: s) (h : t ≠ u) : less a b = ltB t u := by
  unfold less ltP
  rw [va, vb, ca, cb]
  simp [lex, h]
theorem less_more {a b : B} {r s : List B} (va : valid a = true) (vb : valid b = true) (ca : cut a = r) (cb : cut b = r ++ s) (h : s ≠ []) : less a b = true := by
  unfold less ltP
  rw [va, vb, ca, cb]
  simp [lex_more r s h]
structure Mv (t : B) : Prop where
  vt : valid t = true
  vE : valid (tE t) = true
  vF : valid (tF t) = true
  ns : (47 : UInt8) ∉ t
  nx : t ≠ nX
  nd : t ≠ nD
theorem Mv.c1 {t : B} (h : Mv t) : cut t = [t] := cut_one t h.ns
theorem Mv.c2 {t : B} (h : Mv t) : cut (tE t) = [t, [101]] := by
  unfold tE
  rw [cut_app t [101], h.c1, show cut [101] = [[101]] by decide]; rfl
theorem Mv.c3 {t : B} (h : Mv t) : cut (tF t) = [t, [101], [102]] := by
  unfold tF
  rw [cut_app t [101, 47, 102], h.c1, show cut [101, 47, 102] = [[101], [102]] by decide]; rfl
theorem Mv.l1 {t : B} (h : Mv t) : less t (tE t) = true := less_more (s := [[101]]) h.vt h.vE h.c1 (by rw [h.c2]; rfl) (by simp)
theorem Mv.l2 {t : B} (h : Mv t) : less (tE t) (tF t) = true := less_more (s := [[102]]) h.vE h.vF h.c2 (by rw [h.c3]; rfl) (by simp)
theorem Mv.l3 {t : B} (h : Mv t) : less t (tF t) = true := less_more (s := [[101], [102]]) h.vt h.vF h.c1 (by rw [h.c3]; rfl) (by simp)
theorem vX : valid nX = true := by decide
theorem cX : cut nX = [nX] := by decide
theorem Mv.x {t : B} (h : Mv t) : less t nX = ltB t nX ∧ less (tE t) nX = ltB t nX ∧ less (tF t) nX = ltB t nX ∧ less nX t = ltB nX t ∧ less nX (tE t) = ltB nX t ∧ less nX (tF t) = ltB nX t :=
  ⟨less_parts h.vt vX h.c1 cX h.nx, less_parts h.vE vX h.c2 cX h.nx, less_parts h.vF vX h.c3 cX h.nx, less_parts vX h.vt cX h.c1 h.nx.symm, less_parts vX h.vE cX h.c2 h.nx.symm, less_parts vX h.vF cX h.c3 h.nx.symm⟩
theorem Mv.ne {t : B} (h : Mv t) : tE t ≠ nD ∧ tF t ≠ nD := by
  have := h.c2
  have := h.c3
  constructor
  · intro e; have h2 := h.c2; rw [e] at h2; revert h2; rw [show cut nD = [nD] by decide]; simp
  · intro e; have h2 := h.c3; rw [e] at h2; revert h2; rw [show cut nD = [nD] by decide]; simp
theorem Mv.u {t : B} (h : Mv t) : runF t (t, 0) = true ∧ under (tE t) t = true ∧ under (tF t) t = true ∧ under nX t = false := by
  refine ⟨by simp [runF], ?_, ?_, under_short nX t (valid_ne h.vt) ?_⟩
  · unfold under
    rw [h.vE, h.vt]
    simp [tE, List.isPrefixOf_iff_prefix]
  · unfold under
    rw [h.vF, h.vt]
    simp [tF, List.isPrefixOf_iff_prefix]
  · have := valid_ne h.vt
    cases t with
    | nil => exact absurd rfl this
    | cons a b => simp [nX]
/-- All that is asked of the names behind a move. -/
structure Done4 (l : List Nm) (t : B) (a e f x : Nat) : Prop where
  srt : Srt l
  len : l.length = 4
  tf : look l (tF t) = some f
  d : look l nD = none
  held : 2 ≤ (rung l t).length
  mem : ∀ p ∈ l, p.2 = a ∨ p.2 = e ∨ p.2 = f ∨ p.2 = x
theorem look_no {l : List Nm} {p : B} (h : ∀ q ∈ l, q.1 ≠ p) : look l p = none := by
  cases hl : look l p with
  | none => rfl
  | some n => exact absurd rfl (h _ (look_mem _ _ _ hl))
theorem done4 (a e f x : Nat) (t : B) (h : Mv t) : Done4 (mvl (n4 a e f x) nD t (place [(nX, x)] t)) t a e f x := by
  obtain ⟨x1, x2, x3, x4, x5, x6⟩ := h.x
  obtain ⟨u1, u2, u3, u4⟩ := h.u
  obtain ⟨ne1, ne2⟩ := h.ne
  have nxd : nX ≠ nD := by decide
  have l1 := h.l1; have l2 := h.l2; have l3 := h.l3
  have nxt : (nX == t) = false := by simpa using h.nx.symm
  have i1 := less_irr t
  have i3 := less_irr (tF t)
  unfold mvl
  rw [n4_rest, n4_mvd]
  rcases Bool.eq_false_or_eq_true (ltB nX t) with hb | hb
  · have hc := ltB_asym _ _ hb
    have hk : place [(nX, x)] t = 1 := by simp [place, List.takeWhile, x4, hb]
    rw [hk]
    have el : List.take 1 [(nX, x)] ++ [(t, a), (tE t, e), (tF t, f)] ++ List.drop 1 [(nX, x)] = [(nX, x), (t, a), (tE t, e), (tF t, f)] := rfl
    rw [el]
    rw [hb] at x4 x5 x6
    refine ⟨?_, rfl, ?_, look_no ?_, ?_, ?_⟩
    · unfold Srt
      simp [x4, x5, x6, l1, l2, l3]
    · have hp : place [(nX, x), (t, a), (tE t, e), (tF t, f)] (tF t) = 3 := by simp [place, List.takeWhile, x6, l3, l2, i3]
      unfold look
      rw [hp]; simp
    · simp [nxd, h.nd, ne1, ne2]
    · have hp : place [(nX, x), (t, a), (tE t, e), (tF t, f)] t = 1 := by simp [place, List.takeWhile, x4, i1]
      unfold rung
      rw [hp]
      simp [runF, List.takeWhile, u2, u3]
    · simp
  · have hne : ltB t nX = true := by
      have := ltB_tri t nX h.nx
      rw [hb] at this; simpa using this
    have hk : place [(nX, x)] t = 0 := by simp [place, List.takeWhile, x4, hb]
    rw [hk]
    have el : List.take 0 [(nX, x)] ++ [(t, a), (tE t, e), (tF t, f)] ++ List.drop 0 [(nX, x)] = [(t, a), (tE t, e), (tF t, f), (nX, x)] := rfl
    rw [el]
    rw [hne] at x1 x2 x3
    refine ⟨?_, rfl, ?_, look_no ?_, ?_, ?_⟩
    · unfold Srt
      simp [x1, x2, x3, l1, l2, l3]
    · have hp : place [(t, a), (tE t, e), (tF t, f), (nX, x)] (tF t) = 2 := by simp [place, List.takeWhile, l3, l2, i3]
      unfold look
      rw [hp]; simp
    · simp [nxd, h.nd, ne1, ne2]
    · have hp : place [(t, a), (tE t, e), (tF t, f), (nX, x)] t = 0 := by simp [place, List.takeWhile, i1]
      unfold rung
      rw [hp]
      simp [runF, List.takeWhile, u2, u3, u4, nxt]
    · simp
end Go.Proofs.YtbneedmfpldpfaaDoor
