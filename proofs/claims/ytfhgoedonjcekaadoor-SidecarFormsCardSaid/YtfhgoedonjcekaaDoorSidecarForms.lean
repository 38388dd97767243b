/- SidecarForms: for whatever two sidecars and bytes the law's Go function returns true, and each argument reads behind the call as it read before. Conditions: none but those that the given card itself prints (the table of the rounds is tied to the program's text). -/
import Derived.Test.YtfhgoedonjcekaaDoorTaM
import Derived.Test.YtfhgoedonjcekaaDoorWiM
import Derived.Test.YtfhgoedonjcekaaDoorLaid
import Derived.Test.YtfhgoedonjcekaaDoorTie
import Derived.Test.YtfhgoedonjcekaaDoorCards
namespace Go.Proofs.YtfhgoedonjcekaaDoor
namespace sidecarFormsP
open Go.ChangeShapes Go.WideShapes Go.ChangeAt Go.RowKit Go.Sha
set_option linter.unusedVariables false

set_option maxRecDepth 100000 in
theorem lifted (os : Os) (started : os.Started) (H : Type) (enc : TypeId × Value → H) :
    ReturnsInHanded {} Tryd.checked os 4 .any (fun w args => (Rows.sidecarFormsSpec.pre enc Tryd.prog Tryd.f4 [] false w args ∧ laidMetH Tryd.prog laidK w) ∧ sizedMet enc Tryd.prog Tryd.f4 (OpenSpec.ofChange Rows.sidecarFormsSpec) false w args)
      (Rows.sidecarFormsSpec.post enc Tryd.prog Tryd.f4 false true false false) := by
  refine returnsInHanded_of_change_and (C := Tryd.checked) (X := fun w _ => laidMetH Tryd.prog laidK w) (fun _ _ _ hh h => h.of_heap hh) own started (by kernel_rfl) Tryd.func4
    (ChangeSpec.witness_shaped (enc := enc) (C := Tryd.checked) (os := os) (X := fun w _ => laidMetH Tryd.prog laidK w) false (World.doorLaid Tryd.prog 400 os) #[.agg #[.int .i64 0, .int .i64 0, .int .i64 0, .slice none 0 0, .slice none 0 0, .slice none 0 0], .agg #[.int .i64 0, .int .i64 0, .int .i64 0, .slice none 0 0, .slice none 0 0, .slice none 0 0], .slice none 0 0] 8 rfl (World.shaped_of_RefB (by kernel_rfl) (by kernel_rfl)) (by kernel_rfl) (by kernel_rfl) (by kernel_rfl) (door_met os _)) ?_
  intro W base args ds gs before hval0 hW _ _ hL _
  have hval : ∀ (j : Nat) t v, Tryd.f4.params[j]? = some t → args[j]? = some v → Value.okWide Tryd.prog W .any base t v := hval0
  have hW' := hW
  obtain ⟨p, q, hA0, hV, rfl, hfz, hnd⟩ := hW
  have hA : DataW.TrodAll enc Tryd.prog W 0 (fun _ => true) true Tryd.f4.params.toList args.toList ds p := hA0
  rw [Tryd.params4] at hA hval
  obtain ⟨v0, vs0, d0, ds0, p0, q0, hargs, rfl, rfl, h0, r0⟩ := trodAll_cons hA
  obtain ⟨v1, vs1, d1, ds1, p1, q1, rfl, rfl, rfl, h1, r1⟩ := trodAll_cons r0
  obtain ⟨v2, vs2, d2, ds2, p2, q2, rfl, rfl, rfl, h2, r2⟩ := trodAll_cons r1
  obtain ⟨rfl, rfl, rfl⟩ := trodAll_nil r2
  obtain rfl : args = #[v0, v1, v2] := by cases args; simp_all
  obtain ⟨rfl, rfl⟩ := trodVars_none hV
  obtain ⟨cs0, rfl, _⟩ := okWide_struct Tryd.underlying30 (hval 0 30 v0 rfl rfl)
  have k0 := h0
  have lt0 : ∀ x ∈ p0, x.block < W.heap.size := by obtain ⟨m, hm⟩ := k0; exact DataW.trod_lt m _ _ _ hm
  obtain ⟨z0, b0, c0, vr0, vl0, vp0, rt0, pl0, pp0, ecs0, g0⟩ : ∃ (z b k : Int) (vr vl vp : Value) (rt : List Int) (pl pp : List (Value × List Int)), cs0 = #[.int .i64 z, .int .i64 b, .int .i64 k, vr, vl, vp] ∧ ArgS W rt pl pp vr vl vp := by
    obtain ⟨fuel, hf⟩ := h0
    obtain ⟨z, b, k, vr, vl, vp, rt, pl, pp, e, g⟩ := open_side hf
    exact ⟨z, b, k, vr, vl, vp, rt, pl, pp, by cases cs0; simpa [Value.cells] using e, g⟩
  subst ecs0
  obtain ⟨cs1, rfl, _⟩ := okWide_struct Tryd.underlying30 (hval 1 30 v1 rfl rfl)
  have k1 := h1
  have lt1 : ∀ x ∈ p1, x.block < W.heap.size := by obtain ⟨m, hm⟩ := k1; exact DataW.trod_lt m _ _ _ hm
  obtain ⟨z1, b1, c1, vr1, vl1, vp1, rt1, pl1, pp1, ecs1, g1⟩ : ∃ (z b k : Int) (vr vl vp : Value) (rt : List Int) (pl pp : List (Value × List Int)), cs1 = #[.int .i64 z, .int .i64 b, .int .i64 k, vr, vl, vp] ∧ ArgS W rt pl pp vr vl vp := by
    obtain ⟨fuel, hf⟩ := h1
    obtain ⟨z, b, k, vr, vl, vp, rt, pl, pp, e, g⟩ := open_side hf
    exact ⟨z, b, k, vr, vl, vp, rt, pl, pp, by cases cs1; simpa [Value.cells] using e, g⟩
  subst ecs1
  obtain ⟨a2, len2, cap2, rfl⟩ := okWide_slice Tryd.underlying22 (hval 2 22 v2 rfl rfl)
  have k2 := h2
  have lt2 : ∀ x ∈ p2, x.block < W.heap.size := by obtain ⟨m, hm⟩ := k2; exact DataW.trod_lt m _ _ _ hm
  obtain ⟨z2, g2⟩ : ∃ zs, IsRow .u8 W a2 len2 cap2 zs := by
    obtain ⟨fuel, hf⟩ := h2
    rcases open_ints Tryd.underlying22 Tryd.underlying5 (by kernel_rfl) hf with ⟨hcs, _⟩ | ⟨x, l, c, zs, hcs, _, hl, hm, hz, _, hcell, hwz⟩
    · simp [Value.cells] at hcs
      obtain ⟨rfl, rfl, rfl⟩ := hcs
      exact ⟨[], .inl ⟨rfl, rfl, rfl, rfl⟩⟩
    · simp [Value.cells] at hcs
      obtain ⟨rfl, rfl, rfl⟩ := hcs
      exact ⟨zs, .inr ⟨_, rfl, hl, hm, by simpa using hz, hcell, hwz⟩⟩
  have l2 : (z2.take len2).length ≤ 9223372036854775807 := by
    obtain ⟨_, h2, h3⟩ := src_of_row g2
    rw [h2]; unfold maxLen at h3; omega
  clear hA0 hval0
  refine (forms_all _ _ _ _ _ _ _ z0 b0 c0 rt0 pl0 pp0 z1 b1 c1 rt1 pl1 pp1 (z2.take len2) W (k_of_laid hL) g0 g1 (src_of_row g2).1 (byt_of_row g2) l2).mono fun e W' ⟨he, bel⟩ => ?_
  subst he
  exact ⟨_, rfl, _, _, _, [], _, [], hW', trodAll_mk1 (shut_bool Tryd.underlying4 _), (trodAll_cons_mk (Below.trod laidOut (by kernel_rfl) (of_decide_eq_true (by kernel_rfl)) k0 bel lt0) (trodAll_cons_mk (Below.trod laidOut (by kernel_rfl) (of_decide_eq_true (by kernel_rfl)) k1 bel lt1) (trodAll_cons_mk (Below.trod laidOut (by kernel_rfl) (of_decide_eq_true (by kernel_rfl)) k2 bel lt2) trodAll_mk0))), rfl, bel.frame _, fun h => by cases h⟩

theorem over : Rows.sidecarFormsRow.holds Tryd.pinned (OpenSpec.ofChange Rows.sidecarFormsSpec) :=
  OpenClaim.holds_of_wide 4 Tryd.f4 rfl rfl rfl rfl rfl rfl rfl ⟨rfl, rfl, rfl, rfl, rfl⟩ rfl rfl rfl rfl rfl (by kernel_rfl) Tryd.func4 (by kernel_rfl)
    (of_decide_eq_true (by kernel_rfl)) (by unfold Func.isWrapper; first | (rw [if_pos (by decide +kernel)]; kernel_rfl) | (rw [if_neg (by decide +kernel)]; exact ⟨rfl, rfl⟩))
    (fun os started H enc _ => lifted os started H enc)
end sidecarFormsP

theorem sidecarForms_row : Rows.SidecarFormsSaid := sidecarFormsP.over

theorem sidecarForms_card : Rows.SidecarFormsCardSaid :=
  Claim7.holds_tied_plain_at .later [] [.data] true (true, "bfffb6356c9cec5d49ab41a68dea3c5bd7e8e6e2d5be42313ddd712ab4db8942") false
    sidecarForms_row (fun _ h => by cases h) (by kernel_rfl) (fun _ h => by cases h) sidecarForms_row_tie rfl ⟨rfl, rfl⟩ (by kernel_rfl) rfl
    (fun f fn hf hfn => by
      obtain rfl : f = 4 := Option.some.inj ((show Tryd.prog.funcNamed "linnet/linnetlaw7.SidecarForms" = some 4 by kernel_rfl).symm.trans hf) |>.symm
      obtain rfl : fn = Tryd.f4 := (Option.some.inj (Tryd.func4.symm.trans hfn)).symm
      exact ⟨by kernel_rfl, fun j t ht => by
        rw [Tryd.params4] at ht
        have hm : t ∈ [30, 30, 22] := by simpa using Array.mem_of_getElem? ht
        have hall : ([30, 30, 22].all fun u => !Tryd.prog.wantsStandIn u) = true := by kernel_rfl
        exact (show Tryd.prog.wantsStandIn t = false by simpa using List.all_eq_true.1 hall t hm)⟩)
    (by kernel_rfl)

end Go.Proofs.YtfhgoedonjcekaaDoor
