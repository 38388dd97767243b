/- VoteAsks: for whatever three copies the law's Go function returns true, and each argument reads behind the call as it read before. Conditions: none but those that the given card itself prints (the table of the rounds is tied to the program's text). -/
import Derived.Test.YtblhipdcgdhmiaaDoorHs
import Derived.Test.YtblhipdcgdhmiaaDoorHt
import Derived.Test.YtblhipdcgdhmiaaDoorRw
import Derived.Test.YtblhipdcgdhmiaaDoorLaid
import Derived.Test.YtblhipdcgdhmiaaDoorTie
import Derived.Test.YtblhipdcgdhmiaaDoorCards
namespace Go.Proofs.YtblhipdcgdhmiaaDoor
namespace voteAsksP
open Go.ChangeShapes Go.WideShapes Go.ChangeAt Go.RowKit Go.Sha
set_option linter.unusedVariables false

set_option maxRecDepth 100000 in
theorem lifted (os : Os) (started : os.Started) (H : Type) (enc : TypeId × Value → H) :
    ReturnsInHanded {} Tryd.checked os 4 .any (fun w args => (Rows.voteAsksSpec.pre enc Tryd.prog Tryd.f4 [] false w args ∧ laidMetH Tryd.prog laidK w) ∧ sizedMet enc Tryd.prog Tryd.f4 (OpenSpec.ofChange Rows.voteAsksSpec) false w args)
      (Rows.voteAsksSpec.post enc Tryd.prog Tryd.f4 false true false false) := by
  refine returnsInHanded_of_change_and (C := Tryd.checked) (X := fun w _ => laidMetH Tryd.prog laidK w) (fun _ _ _ hh h => h.of_heap hh) own started (by kernel_rfl) Tryd.func4
    (ChangeSpec.witness_shaped (enc := enc) (C := Tryd.checked) (os := os) (X := fun w _ => laidMetH Tryd.prog laidK w) false (World.doorLaid Tryd.prog 400 os) #[.agg #[.slice none 0 0, .slice none 0 0, .slice none 0 0]] 8 rfl (World.shaped_of_RefB (by kernel_rfl) (by kernel_rfl)) (by kernel_rfl) (by kernel_rfl) (by kernel_rfl) (door_met os _)) ?_
  intro W base args ds gs before hval0 hW _ _ hL _
  have hval : ∀ (j : Nat) t v, Tryd.f4.params[j]? = some t → args[j]? = some v → Value.okWide Tryd.prog W .any base t v := hval0
  have hW' := hW
  obtain ⟨p, q, hA0, hV, rfl, hfz, hnd⟩ := hW
  have hA : DataW.TrodAll enc Tryd.prog W 0 (fun _ => true) true Tryd.f4.params.toList args.toList ds p := hA0
  rw [Tryd.params4] at hA hval
  obtain ⟨v0, vs0, d0, ds0, p0, q0, hargs, rfl, rfl, h0, r0⟩ := trodAll_cons hA
  obtain ⟨rfl, rfl, rfl⟩ := trodAll_nil r0
  obtain rfl : args = #[v0] := by cases args; simp_all
  obtain ⟨rfl, rfl⟩ := trodVars_none hV
  obtain ⟨cs0, rfl, hsz⟩ := okWide_array Tryd.underlying38 (hval 0 38 v0 rfl rfl)
  rw [cellsA3] at hsz
  have k0 := h0
  have lt0 : ∀ x ∈ p0, x.block < W.heap.size := by obtain ⟨m, hm⟩ := k0; exact DataW.trod_lt m _ _ _ hm
  obtain ⟨u0, u1, u2, a, b, c, ecs, g0, g1, g2⟩ : ∃ (v0 v1 v2 : Value) (a b c : List Int), cs0 = #[v0, v1, v2] ∧ ArgB W v0 a ∧ ArgB W v1 b ∧ ArgB W v2 c := by
    obtain ⟨fuel, hf⟩ := h0
    obtain ⟨v0, v1, v2, a, b, c, e, g⟩ := open_array3 (by simpa [Value.cells] using hsz) hf
    exact ⟨v0, v1, v2, a, b, c, by cases cs0; simpa [Value.cells] using e, g⟩
  subst ecs
  clear hA0 hval0
  refine (asks_all u0 u1 u2 a b c W (k_of_laid hL) g0.1 g0.2.1 g0.2.2 g1.1 g1.2.1 g1.2.2 g2.1 g2.2.1 g2.2.2).mono fun e W' ⟨he, bel⟩ => ?_
  subst he
  exact ⟨_, rfl, _, _, _, [], _, [], hW', trodAll_mk1 (shut_bool Tryd.underlying4 _), (trodAll_cons_mk (Below.trod laidOut (by kernel_rfl) (of_decide_eq_true (by kernel_rfl)) k0 bel lt0) trodAll_mk0), rfl, bel.frame _, fun h => by cases h⟩

theorem over : Rows.voteAsksRow.holds Tryd.pinned (OpenSpec.ofChange Rows.voteAsksSpec) :=
  OpenClaim.holds_of_wide 4 Tryd.f4 rfl rfl rfl rfl rfl rfl rfl ⟨rfl, rfl, rfl, rfl, rfl⟩ rfl rfl rfl rfl rfl (by kernel_rfl) Tryd.func4 (by kernel_rfl)
    (of_decide_eq_true (by kernel_rfl)) (by unfold Func.isWrapper; first | (rw [if_pos (by decide +kernel)]; kernel_rfl) | (rw [if_neg (by decide +kernel)]; exact ⟨rfl, rfl⟩))
    (fun os started H enc _ => lifted os started H enc)
end voteAsksP

theorem voteAsks_row : Rows.VoteAsksSaid := voteAsksP.over

theorem voteAsks_card : Rows.VoteAsksCardSaid :=
  Claim7.holds_tied_plain_at .later [] [.data] true (true, "71c2baa88182f0111843f5ca3c58e217d8396fa7d7ba9511b99c063775ab4c79") false
    voteAsks_row (fun _ h => by cases h) (by kernel_rfl) (fun _ h => by cases h) voteAsks_row_tie rfl ⟨rfl, rfl⟩ (by kernel_rfl) rfl
    (fun f fn hf hfn => by
      obtain rfl : f = 4 := Option.some.inj ((show Tryd.prog.funcNamed "linnet/linnetlaw9.VoteAsks" = some 4 by kernel_rfl).symm.trans hf) |>.symm
      obtain rfl : fn = Tryd.f4 := (Option.some.inj (Tryd.func4.symm.trans hfn)).symm
      exact ⟨by kernel_rfl, fun j t ht => by
        rw [Tryd.params4] at ht
        have hm : t ∈ [38] := by simpa using Array.mem_of_getElem? ht
        have hall : ([38].all fun u => !Tryd.prog.wantsStandIn u) = true := by kernel_rfl
        exact (show Tryd.prog.wantsStandIn t = false by simpa using List.all_eq_true.1 hall t hm)⟩)
    (by kernel_rfl)

end Go.Proofs.YtblhipdcgdhmiaaDoor
