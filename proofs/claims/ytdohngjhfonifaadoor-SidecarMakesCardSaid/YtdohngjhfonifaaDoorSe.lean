/- The contract of the document's own SameSide. -/
import Derived.Test.YtdohngjhfonifaaDoorSd
namespace Go.Proofs.YtdohngjhfonifaaDoor
open Go.RowKit Go.Sha
set_option linter.unusedSimpArgs false

set_option maxHeartbeats 4000000 in
theorem rsame_any (s t : Sd) (vr vl vp ur ul up : Value) (w : World) (h : SR w s vr vl vp) (g : SR w t ur ul up) (h1 : s.leaves.length ≤ 9223372036854775807) (h2 : s.parity.length ≤ 9223372036854775807) (h3 : t.leaves.length ≤ 9223372036854775807) (h4 : t.parity.length ≤ 9223372036854775807) :
    Calls Tryd.prog 9 #[.agg #[.int .i64 s.size, .int .i64 s.block, .int .i64 s.k, vr, vl, vp], .agg #[.int .i64 t.size, .int .i64 t.block, .int .i64 t.k, ur, ul, up]] w fun e w' => e = .returned (.bool (sameL s t)) ∧ Ext w w' := by
  obtain ⟨adr, capr, ev⟩ := h.r.len
  subst ev
  obtain ⟨adl, capl, ev⟩ := h.l.len
  subst ev
  obtain ⟨adp, capp, ev⟩ := h.p.len
  subst ev
  obtain ⟨bdr, dapr, ev⟩ := g.r.len
  subst ev
  obtain ⟨bdl, dapl, ev⟩ := g.l.len
  subst ev
  obtain ⟨bdp, dapp, ev⟩ := g.p.len
  subst ev
  obtain ⟨z, b, k, rt, ls, ps⟩ := s
  obtain ⟨y, c, q, rt', ls', ps'⟩ := t
  simp only at *
  unfold sameL
  simp only
  obtain ⟨nr, hnr⟩ : ∃ n, n = rt.length := ⟨_, rfl⟩
  obtain ⟨nl, hnl⟩ : ∃ n, n = ls.length := ⟨_, rfl⟩
  obtain ⟨np, hnp⟩ : ∃ n, n = ps.length := ⟨_, rfl⟩
  obtain ⟨mr, hmr⟩ : ∃ n, n = rt'.length := ⟨_, rfl⟩
  obtain ⟨ml, hml⟩ : ∃ n, n = ls'.length := ⟨_, rfl⟩
  obtain ⟨mp, hmp⟩ : ∃ n, n = ps'.length := ⟨_, rfl⟩
  have Hlen := Lib.hid (And.intro h1 (And.intro h2 (And.intro h3 h4)))
  rw [← hnr, ← hnl, ← hnp] at h ⊢
  rw [← hmr, ← hml, ← hmp] at g ⊢
  clear hnr hnl hnp hmr hml hmp h1 h2 h3 h4
  have e0 : Ext w ((w.alloc (.cells #[.int .i64 z, .int .i64 b, .int .i64 k, .slice adr nr capr, .slice adl nl capl, .slice adp np capp] 30)).alloc (.cells #[.int .i64 y, .int .i64 c, .int .i64 q, .slice bdr mr dapr, .slice bdl ml dapl, .slice bdp mp dapp] 30)) := (Ext.alloc w _).trans (Ext.alloc _ _)
  have H := h.ext e0
  have G := g.ext e0
  have v1 := convB H.r
  have v2 := convB G.r
  simp only at v1 v2
  have HH := Lib.hid H
  have HG := Lib.hid G
  clear h g H G
  obtain ⟨B1, d1⟩ : ∃ B, (z == y) = B := ⟨_, rfl⟩
  obtain ⟨B2, d2⟩ : ∃ B, (b == c) = B := ⟨_, rfl⟩
  obtain ⟨B3, d3⟩ : ∃ B, (k == q) = B := ⟨_, rfl⟩
  obtain ⟨B4, d4⟩ : ∃ B, eqS rt rt' = B := ⟨_, rfl⟩
  rw [d1, d2, d3, d4]
  unfold eqS at d4
  cases B1
  · clear d2 d3 d4 v1 v2
    go_enter Tryd.func9, Tryd.ntmps9
    go_wp2
    go_ret
    exact ⟨rfl, e0⟩
  cases B2
  · clear d3 d4 v1 v2
    go_enter Tryd.func9, Tryd.ntmps9
    go_wp2
    go_ret
    exact ⟨rfl, e0⟩
  cases B3
  · clear d4 v1 v2
    go_enter Tryd.func9, Tryd.ntmps9
    go_wp2
    go_ret
    exact ⟨rfl, e0⟩
  cases B4
  · skip
    go_enter Tryd.func9, Tryd.ntmps9
    go_wp2
    go_ret
    exact ⟨rfl, e0⟩
  have a1 : At ((w.alloc (.cells #[.int .i64 z, .int .i64 b, .int .i64 k, .slice adr nr capr, .slice adl nl capl, .slice adp np capp] 30)).alloc (.cells #[.int .i64 y, .int .i64 c, .int .i64 q, .slice bdr mr dapr, .slice bdl ml dapl, .slice bdp mp dapp] 30)) w.heap.size #[.int .i64 z, .int .i64 b, .int .i64 k, .slice adr nr capr, .slice adl nl capl, .slice adp np capp] 30 := (At.new w _ _).alloc _
  have a2 := At.new1 w (.cells #[.int .i64 z, .int .i64 b, .int .i64 k, .slice adr nr capr, .slice adl nl capl, .slice adp np capp] 30) #[.int .i64 y, .int .i64 c, .int .i64 q, .slice bdr mr dapr, .slice bdl ml dapl, .slice bdp mp dapp] 30
  go_enter Tryd.func9, Tryd.ntmps9
  go_wp2_with fail
  refine (rlists_any _ _ ls ls' _ HH.out.l HG.out.l Hlen.out.1 Hlen.out.2.2.1).mono ?_
  rintro e w1 ⟨rfl, e1⟩
  clear v1 v2
  replace a1 := at_ext a1 e1
  replace a2 := at_ext a2 e1
  have c1 := a1.cell 5
  have c2 := a2.cell 5
  have H1 := Lib.hid (HH.out.ext e1)
  have G1 := Lib.hid (HG.out.ext e1)
  replace e0 := e0.trans e1
  clear HH HG e1 a1 a2
  obtain ⟨B5, d5⟩ : ∃ B, eqLL ls ls' = B := ⟨_, rfl⟩
  rw [d5]
  have Hd := Lib.hid d5; clear d5
  cases B5
  · go_wp2
    go_ret
    exact ⟨by rw [Hd.out]; rfl, e0⟩
  go_wp2_with fail
  refine (rlists_any _ _ ps ps' _ H1.out.p G1.out.p Hlen.out.2.1 Hlen.out.2.2.2).mono ?_
  rintro e w2 ⟨rfl, e1⟩
  replace e0 := e0.trans e1
  clear e1 c1 c2
  go_wp2
  go_ret
  exact ⟨by rw [Hd.out]; rfl, e0⟩
end Go.Proofs.YtdohngjhfonifaaDoor
