/- The contract of the document's own SameSide. The contracts of slices.EqualFunc with digest.Equal, and Same (the code's). -/
import Derived.Test.YtfhgoedonjcekaaDoorSd
namespace Go.Proofs.YtfhgoedonjcekaaDoor
open Go.RowKit Go.Sha
set_option linter.unusedSimpArgs false

set_option maxHeartbeats 4000000 in
theorem rsame_any (s t : Sd) (vr vl vp ur ul up : Value) (w : World) (h : SR w s vr vl vp) (g : SR w t ur ul up) (h1 : s.leaves.length ≤ 9223372036854775807) (h2 : s.parity.length ≤ 9223372036854775807) (h3 : t.leaves.length ≤ 9223372036854775807) (h4 : t.parity.length ≤ 9223372036854775807) :
    Calls Tryd.prog 9 #[.agg #[.int .i64 s.size, .int .i64 s.block, .int .i64 s.k, vr, vl, vp], .agg #[.int .i64 t.size, .int .i64 t.block, .int .i64 t.k, ur, ul, up]] w fun e w' => e = .returned (.bool (sameL s t)) ∧ Ext w w' := by
  obtain ⟨adr, capr, ev⟩ := h.r.len
  subst ev
  obtain ⟨adl, capl, ev⟩ := h.l.len
  subst ev
  obtain ⟨adp, capp, ev⟩ := h.p.len
  subst ev
  obtain ⟨bdr, dapr, ev⟩ := g.r.len
  subst ev
  obtain ⟨bdl, dapl, ev⟩ := g.l.len
  subst ev
  obtain ⟨bdp, dapp, ev⟩ := g.p.len
  subst ev
  obtain ⟨z, b, k, rt, ls, ps⟩ := s
  obtain ⟨y, c, q, rt', ls', ps'⟩ := t
  simp only at *
  unfold sameL
  simp only
  obtain ⟨nr, hnr⟩ : ∃ n, n = rt.length := ⟨_, rfl⟩
  obtain ⟨nl, hnl⟩ : ∃ n, n = ls.length := ⟨_, rfl⟩
  obtain ⟨np, hnp⟩ : ∃ n, n = ps.length := ⟨_, rfl⟩
  obtain ⟨mr, hmr⟩ : ∃ n, n = rt'.length := ⟨_, rfl⟩
  obtain ⟨ml, hml⟩ : ∃ n, n = ls'.length := ⟨_, rfl⟩
  obtain ⟨mp, hmp⟩ : ∃ n, n = ps'.length := ⟨_, rfl⟩
  have Hlen := Lib.hid (And.intro h1 (And.intro h2 (And.intro h3 h4)))
  rw [← hnr, ← hnl, ← hnp] at h ⊢
  rw [← hmr, ← hml, ← hmp] at g ⊢
  clear hnr hnl hnp hmr hml hmp h1 h2 h3 h4
  have e0 : Ext w ((w.alloc (.cells #[.int .i64 z, .int .i64 b, .int .i64 k, .slice adr nr capr, .slice adl nl capl, .slice adp np capp] 30)).alloc (.cells #[.int .i64 y, .int .i64 c, .int .i64 q, .slice bdr mr dapr, .slice bdl ml dapl, .slice bdp mp dapp] 30)) := (Ext.alloc w _).trans (Ext.alloc _ _)
  have H := h.ext e0
  have G := g.ext e0
  have v1 := convB H.r
  have v2 := convB G.r
  simp only at v1 v2
  have HH := Lib.hid H
  have HG := Lib.hid G
  clear h g H G
  obtain ⟨B1, d1⟩ : ∃ B, (z == y) = B := ⟨_, rfl⟩
  obtain ⟨B2, d2⟩ : ∃ B, (b == c) = B := ⟨_, rfl⟩
  obtain ⟨B3, d3⟩ : ∃ B, (k == q) = B := ⟨_, rfl⟩
  obtain ⟨B4, d4⟩ : ∃ B, eqS rt rt' = B := ⟨_, rfl⟩
  rw [d1, d2, d3, d4]
  unfold eqS at d4
  cases B1
  · clear d2 d3 d4 v1 v2
    go_enter Tryd.func9, Tryd.ntmps9
    go_wp2
    go_ret
    exact ⟨rfl, e0⟩
  cases B2
  · clear d3 d4 v1 v2
    go_enter Tryd.func9, Tryd.ntmps9
    go_wp2
    go_ret
    exact ⟨rfl, e0⟩
  cases B3
  · clear d4 v1 v2
    go_enter Tryd.func9, Tryd.ntmps9
    go_wp2
    go_ret
    exact ⟨rfl, e0⟩
  cases B4
  · skip
    go_enter Tryd.func9, Tryd.ntmps9
    go_wp2
    go_ret
    exact ⟨rfl, e0⟩
  have a1 : At ((w.alloc (.cells #[.int .i64 z, .int .i64 b, .int .i64 k, .slice adr nr capr, .slice adl nl capl, .slice adp np capp] 30)).alloc (.cells #[.int .i64 y, .int .i64 c, .int .i64 q, .slice bdr mr dapr, .slice bdl ml dapl, .slice bdp mp dapp] 30)) w.heap.size #[.int .i64 z, .int .i64 b, .int .i64 k, .slice adr nr capr, .slice adl nl capl, .slice adp np capp] 30 := (At.new w _ _).alloc _
  have a2 := At.new1 w (.cells #[.int .i64 z, .int .i64 b, .int .i64 k, .slice adr nr capr, .slice adl nl capl, .slice adp np capp] 30) #[.int .i64 y, .int .i64 c, .int .i64 q, .slice bdr mr dapr, .slice bdl ml dapl, .slice bdp mp dapp] 30
  go_enter Tryd.func9, Tryd.ntmps9
  go_wp2_with fail
  refine (rlists_any _ _ ls ls' _ HH.out.l HG.out.l Hlen.out.1 Hlen.out.2.2.1).mono ?_
  rintro e w1 ⟨rfl, e1⟩
  clear v1 v2
  replace a1 := at_ext a1 e1
  replace a2 := at_ext a2 e1
  have c1 := a1.cell 5
  have c2 := a2.cell 5
  have H1 := Lib.hid (HH.out.ext e1)
  have G1 := Lib.hid (HG.out.ext e1)
  replace e0 := e0.trans e1
  clear HH HG e1 a1 a2
  obtain ⟨B5, d5⟩ : ∃ B, eqLL ls ls' = B := ⟨_, rfl⟩
  rw [d5]
  have Hd := Lib.hid d5; clear d5
  cases B5
  · go_wp2
    go_ret
    exact ⟨by rw [Hd.out]; rfl, e0⟩
  go_wp2_with fail
  refine (rlists_any _ _ ps ps' _ H1.out.p G1.out.p Hlen.out.2.1 Hlen.out.2.2.2).mono ?_
  rintro e w2 ⟨rfl, e1⟩
  replace e0 := e0.trans e1
  clear e1 c1 c2
  go_wp2
  go_ret
  exact ⟨by rw [Hd.out]; rfl, e0⟩
end Go.Proofs.YtfhgoedonjcekaaDoor

namespace Go.Proofs.YtfhgoedonjcekaaDoor
open Go.RowKit Go.Sha
set_option linter.unusedSimpArgs false
set_option linter.unusedVariables false

def InvEf (w : World) (a b : List (List Int)) (n : Nat) (i : Value) (wr : World) : Prop := ∃ k : Nat, k ≤ n ∧ i = .int .i64 k ∧ ((a.zip b).take k).all (fun p => eqS p.1 p.2) = true ∧ w = wr

set_option maxHeartbeats 1000000 in
theorem eqf_any (v u : Value) (a b : List (List Int)) (w : World) (hv : LR w v a w.heap.size) (hu : LR w u b w.heap.size) (hl : a.length ≤ 9223372036854775807) (hl2 : b.length ≤ 9223372036854775807) :
    Calls Tryd.prog 55 #[v, u, .func (.func 37) #[] #[]] w fun e w' => e = .returned (.bool (eqLL a b)) ∧ w = w' := by
  obtain ⟨adv, capv, ev⟩ := hv.len
  subst ev
  obtain ⟨adu, capu, eu⟩ := hu.len
  subst eu
  obtain ⟨N, hN⟩ : ∃ N, N = a.length := ⟨_, rfl⟩
  obtain ⟨M, hM⟩ : ∃ N, N = b.length := ⟨_, rfl⟩
  have F : eqLL a b = (((N : Int) == (M : Int)) && (a.zip b).all fun p => eqS p.1 p.2) := by rw [eqLL, hN, hM]
  rw [F]
  clear F
  have HV := Lib.hid hv; clear hv
  have HU := Lib.hid hu; clear hu
  rw [← hN] at HV hl ⊢
  rw [← hM] at HU hl2 ⊢
  have HN := Lib.hid hN; clear hN
  have HM := Lib.hid hM; clear hM
  by_cases hNM : N = M
  · subst hNM
    have t0 : ((N : Int) == (N : Int)) = true := by simp
    rw [t0, Bool.true_and]
    go_enter Tryd.func55, Tryd.ntmps55
    go_wp2
    go_loopw [17] (fun i wr => InvEf w a b N i wr) (fun i _ => N - (intOf i).toNat)
    case atStart => exact ⟨0, by omega, rfl, by simp, rfl⟩
    case round =>
      obtain ⟨k, hk, rfl, hall, rfl⟩ := hrel
      by_cases hlt : k < N
      · have i0 : (k : Int) < (N : Int) := by omega
        have i1 : (0 : Int) ≤ (k : Int) := by omega
        obtain ⟨m1, hm1⟩ : ∃ m, a[k]? = some m := ⟨_, List.getElem?_eq_getElem (by rw [← HN.out]; exact hlt)⟩
        obtain ⟨m2, hm2⟩ : ∃ m, b[k]? = some m := ⟨_, List.getElem?_eq_getElem (by rw [← HM.out]; exact hlt)⟩
        have hv := HV.out
        have hu := HU.out
        rw [HN.out] at hv
        rw [HM.out] at hu
        obtain ⟨cap1, pb, po, ev1, _, hc1⟩ := lr_at hv (by rw [← HN.out]; omega)
        obtain ⟨cap2, qb, qo, ev2, _, hc2⟩ := lr_at hu (by rw [← HM.out]; omega)
        injection ev1 with a1 _ a2
        injection ev2 with a3 _ a4
        subst a1 a2 a3 a4
        obtain ⟨x1, c1, s1⟩ := hc1 k m1 hm1
        obtain ⟨x2, c2, s2⟩ := hc2 k m2 hm2
        have hz : (a.zip b)[k]? = some (m1, m2) := by rw [List.getElem?_zip_eq_some]; exact ⟨hm1, hm2⟩
        have hstep : ((a.zip b).take (k + 1)).all (fun p => eqS p.1 p.2) = eqS m1 m2 := by
          rw [List.take_add_one, hz, List.all_append, hall]; simp
        have hmem := List.mem_of_getElem? hz
        have Hs := Lib.hid hstep
        clear hv hu hc1 hc2 HV HU hm1 hm2 hstep hz hall
        go_wp2_with fail
        refine (deq_any x1 x2 m1 m2 w s1 s2).mono ?_
        rintro e w1 ⟨rfl, rfl⟩
        obtain ⟨E, hE⟩ : ∃ E, eqS m1 m2 = E := ⟨_, rfl⟩
        rw [hE] at Hs ⊢
        cases E
        · have fin : (a.zip b).all (fun p => eqS p.1 p.2) = false := by
            rw [List.all_eq_false]
            exact ⟨_, hmem, by simpa using hE⟩
          have Hf := Lib.hid fin
          clear hmem fin Hs hE
          go_wp2
          go_ret
          exact ⟨by rw [Hf.out]; rfl, rfl⟩
        · clear hmem hE
          go_wp2
          refine ⟨⟨k + 1, by omega, by go_num, Hs.out, rfl⟩, by simp [intOf]; omega⟩
      · have i0 : ¬ ((k : Int) < (N : Int)) := by omega
        have d0 : decide ((k : Int) < (N : Int)) = false := by simp; omega
        rw [List.take_of_length_le (by rw [List.length_zip, ← HN.out, ← HM.out]; omega)] at hall
        have Hf := Lib.hid hall
        clear hlt hall
        go_wp2
        go_ret
        exact ⟨by rw [Hf.out]; rfl, rfl⟩
  · have t0 : ((N : Int) == (M : Int)) = false := by simp; omega
    rw [t0, Bool.false_and]
    replace t0 : ((N : Int) != (M : Int)) = true := by simp; omega
    go_enter Tryd.func55, Tryd.ntmps55
    go_wp2
    go_ret
    exact ⟨rfl, rfl⟩

set_option maxHeartbeats 4000000 in
theorem same_any (s t : Sd) (vr vl vp ur ul up : Value) (w : World) (h : SR w s vr vl vp) (g : SR w t ur ul up) (h1 : s.leaves.length ≤ 9223372036854775807) (h2 : s.parity.length ≤ 9223372036854775807) (h3 : t.leaves.length ≤ 9223372036854775807) (h4 : t.parity.length ≤ 9223372036854775807) :
    Calls Tryd.prog 19 #[.agg #[.int .i64 s.size, .int .i64 s.block, .int .i64 s.k, vr, vl, vp], .agg #[.int .i64 t.size, .int .i64 t.block, .int .i64 t.k, ur, ul, up]] w fun e w' => e = .returned (.bool (sameL s t)) ∧ Ext w w' := by
  obtain ⟨adr, capr, ev⟩ := h.r.len
  subst ev
  obtain ⟨adl, capl, ev⟩ := h.l.len
  subst ev
  obtain ⟨adp, capp, ev⟩ := h.p.len
  subst ev
  obtain ⟨bdr, dapr, ev⟩ := g.r.len
  subst ev
  obtain ⟨bdl, dapl, ev⟩ := g.l.len
  subst ev
  obtain ⟨bdp, dapp, ev⟩ := g.p.len
  subst ev
  obtain ⟨z, b, k, rt, ls, ps⟩ := s
  obtain ⟨y, c, q, rt', ls', ps'⟩ := t
  simp only at *
  unfold sameL
  simp only
  obtain ⟨nr, hnr⟩ : ∃ n, n = rt.length := ⟨_, rfl⟩
  obtain ⟨nl, hnl⟩ : ∃ n, n = ls.length := ⟨_, rfl⟩
  obtain ⟨np, hnp⟩ : ∃ n, n = ps.length := ⟨_, rfl⟩
  obtain ⟨mr, hmr⟩ : ∃ n, n = rt'.length := ⟨_, rfl⟩
  obtain ⟨ml, hml⟩ : ∃ n, n = ls'.length := ⟨_, rfl⟩
  obtain ⟨mp, hmp⟩ : ∃ n, n = ps'.length := ⟨_, rfl⟩
  have Hlen := Lib.hid (And.intro h1 (And.intro h2 (And.intro h3 h4)))
  rw [← hnr, ← hnl, ← hnp] at h ⊢
  rw [← hmr, ← hml, ← hmp] at g ⊢
  clear hnr hnl hnp hmr hml hmp h1 h2 h3 h4
  have e0 : Ext w ((w.alloc (.cells #[.int .i64 z, .int .i64 b, .int .i64 k, .slice adr nr capr, .slice adl nl capl, .slice adp np capp] 26)).alloc (.cells #[.int .i64 y, .int .i64 c, .int .i64 q, .slice bdr mr dapr, .slice bdl ml dapl, .slice bdp mp dapp] 26)) := (Ext.alloc w _).trans (Ext.alloc _ _)
  have H := h.ext e0
  have G := g.ext e0
  have HH := Lib.hid H
  have HG := Lib.hid G
  clear h g H G
  obtain ⟨B1, d1⟩ : ∃ B, (z == y) = B := ⟨_, rfl⟩
  obtain ⟨B2, d2⟩ : ∃ B, (b == c) = B := ⟨_, rfl⟩
  obtain ⟨B3, d3⟩ : ∃ B, (k == q) = B := ⟨_, rfl⟩
  obtain ⟨B4, d4⟩ : ∃ B, eqS rt rt' = B := ⟨_, rfl⟩
  rw [d1, d2, d3, d4]
  cases B1
  · clear d2 d3 d4
    go_enter Tryd.func19, Tryd.ntmps19
    go_wp2
    go_ret
    exact ⟨rfl, e0⟩
  cases B2
  · clear d3 d4
    go_enter Tryd.func19, Tryd.ntmps19
    go_wp2
    go_ret
    exact ⟨rfl, e0⟩
  cases B3
  · clear d4
    go_enter Tryd.func19, Tryd.ntmps19
    go_wp2
    go_ret
    exact ⟨rfl, e0⟩
  have a1 : At ((w.alloc (.cells #[.int .i64 z, .int .i64 b, .int .i64 k, .slice adr nr capr, .slice adl nl capl, .slice adp np capp] 26)).alloc (.cells #[.int .i64 y, .int .i64 c, .int .i64 q, .slice bdr mr dapr, .slice bdl ml dapl, .slice bdp mp dapp] 26)) w.heap.size #[.int .i64 z, .int .i64 b, .int .i64 k, .slice adr nr capr, .slice adl nl capl, .slice adp np capp] 26 := (At.new w _ _).alloc _
  have a2 := At.new1 w (.cells #[.int .i64 z, .int .i64 b, .int .i64 k, .slice adr nr capr, .slice adl nl capl, .slice adp np capp] 26) #[.int .i64 y, .int .i64 c, .int .i64 q, .slice bdr mr dapr, .slice bdl ml dapl, .slice bdp mp dapp] 26
  have DE := deq_any _ _ rt rt' _ HH.out.r HG.out.r
  rw [d4] at DE
  have f4 := a1.cell 4
  have f5 := a1.cell 5
  have g4 := a2.cell 4
  have g5 := a2.cell 5
  go_enter Tryd.func19, Tryd.ntmps19
  go_wp2_with fail
  refine DE.mono ?_
  rintro e w' ⟨rfl, rfl⟩
  clear DE
  cases B4
  · go_wp2
    go_ret
    exact ⟨rfl, e0⟩
  go_wp2_with fail
  refine (eqf_any _ _ ls ls' _ HH.out.l HG.out.l Hlen.out.1 Hlen.out.2.2.1).mono ?_
  rintro e w' ⟨rfl, rfl⟩
  obtain ⟨B5, d5⟩ : ∃ B, eqLL ls ls' = B := ⟨_, rfl⟩
  rw [d5]
  have Hd := Lib.hid d5; clear d5
  cases B5
  · go_wp2
    go_ret
    exact ⟨by rw [Hd.out]; rfl, e0⟩
  go_wp2_with fail
  refine (eqf_any _ _ ps ps' _ HH.out.p HG.out.p Hlen.out.2.1 Hlen.out.2.2.2).mono ?_
  rintro e w' ⟨rfl, rfl⟩
  go_wp2
  go_ret
  exact ⟨by rw [Hd.out]; rfl, e0⟩
end Go.Proofs.YtfhgoedonjcekaaDoor
