/- The contract of what the document fixes of sidecars. -/
import Derived.Test.YtfhgoedonjcekaaDoorSc
namespace Go.Proofs.YtfhgoedonjcekaaDoor
open Go.RowKit Go.Sha
set_option linter.unusedSimpArgs false

theorem aw1 : mayL (([] : List Int).length) 16 4 = true := by decide
theorem aw2 : mayL (([] : List Int).length) 15 4 = false := by decide
theorem aw3 : leavesL [] 16 = [] := by simp [leavesL, cntL]
theorem aw4 : buildL [] 16 4 = [] := by simp [buildL, grpsN, cntL]
theorem aw5 : (rootL []).length = 32 := by rw [rootL]; simp [shaL_length]
theorem aw6 : makeL [] 16 4 = ⟨0, 16, 4, rootL [], [], []⟩ := by rw [makeL, aw3, aw4]; rfl

set_option maxHeartbeats 2000000 in
theorem awake_any (w : World) (hK : KAt w) : Calls Tryd.prog 6 #[] w fun e w' => e = .returned (.bool true) ∧ Ext w w' := by
  go_enter Tryd.func6, Tryd.ntmps6
  go_wp2_with fail
  refine (make_ok _ [] 16 4 w hK (src_nil w _) aw1).mono ?_
  rintro e w1 ⟨vr, vl, vp, rfl, e1, h1⟩
  have hS := sound_make [] 16 4 aw1
  rw [aw6] at h1 hS ⊢
  simp only
  obtain ⟨adr, capr, ev⟩ := h1.r.len
  subst ev
  obtain ⟨adl, capl, ev⟩ := h1.l.len
  subst ev
  obtain ⟨adp, capp, ev⟩ := h1.p.len
  subst ev
  simp only [aw5, List.length_nil] at h1 ⊢
  have e2 : Ext w1 (w1.alloc (.cells #[.int .i64 0, .int .i64 16, .int .i64 4, .slice adr 32 capr, .slice adl 0 capl, .slice adp 0 capp] 26)) := Ext.alloc w1 _
  have a1 := At.new w1 #[.int .i64 0, .int .i64 16, .int .i64 4, .slice adr 32 capr, .slice adl 0 capl, .slice adp 0 capp] 26
  have h2 := h1.ext e2
  have e02 := e1.trans e2
  clear e1 h1
  go_wp2_with fail
  generalize w1.alloc (.cells #[.int .i64 0, .int .i64 16, .int .i64 4, .slice adr 32 capr, .slice adl 0 capl, .slice adp 0 capp] 26) = w2 at *
  refine (make_not _ [] 15 4 w2 (src_nil w2 _) aw2).mono ?_
  rintro e w3 ⟨ur, ul, up, rfl, e3, hz⟩
  replace a1 := at_ext a1 e3
  replace h2 := h2.ext e3
  replace e02 := e02.trans e3
  clear e3
  obtain ⟨bdr, dapr, ev⟩ := hz.r.len
  subst ev
  obtain ⟨bdl, dapl, ev⟩ := hz.l.len
  subst ev
  obtain ⟨bdp, dapp, ev⟩ := hz.p.len
  subst ev
  simp only [noneL, List.length_nil]
  clear hz
  have e3 : Ext w3 (w3.alloc (.cells #[.int .i64 0, .int .i64 0, .int .i64 0, .slice bdr 0 dapr, .slice bdl 0 dapl, .slice bdp 0 dapp] 26)) := Ext.alloc w3 _
  replace a1 := at_ext a1 e3
  replace h2 := h2.ext e3
  replace e02 := e02.trans e3
  have k3 := hK.below e02 hK.lt
  have c0 := a1.cell 0
  have c1 := a1.cell 1
  have c2 := a1.cell 2
  have c3 := a1.cell 3
  have c4 := a1.cell 4
  have c5 := a1.cell 5
  clear e3 hK
  have SO := sound_any ⟨0, 16, 4, rootL [], [], []⟩ _ _ _ _ k3 h2 (by simp) (by simp)
  rw [hS] at SO
  simp only at SO
  go_wp2_with fail
  refine SO.mono ?_
  rintro e w5 ⟨rfl, e5⟩
  go_wp2
  go_ret
  exact ⟨rfl, e02.trans e5⟩
end Go.Proofs.YtfhgoedonjcekaaDoor
