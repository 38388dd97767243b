/- What Vote answers of three copies of which two are one page's, and of three that are written one behind the other; Round. No conditions but those named: lemmas. -/
import Derived.Test.YtblhipdcgdhmiaaDoorHj
namespace Go.Proofs.YtblhipdcgdhmiaaDoor
open Go.RowKit Go.Sha
set_option linter.unusedSimpArgs false
set_option linter.unusedVariables false

theorem eqS_comm' (a b : List Int) : eqS a b = eqS b a := by
  rw [Bool.eq_iff_iff, eqS_iff, eqS_iff]
  exact ⟨fun h => h.symm, fun h => h.symm⟩
theorem sameP_comm (p q : Pg) : sameP p q = sameP q p := by
  unfold sameP
  rw [eqS_comm', Bool.beq_comm]
theorem pg_byt {b : List Int} (hb : Byt b) : Byt (pgO (decP b)).2 := by
  cases h : decP b with
  | none => exact byt_nil
  | some p => obtain ⟨_, _, _, _, _, h5, _⟩ := dec_inv hb h; exact h5
theorem pg_may {b : List Int} (hb : Byt b) : mayP (pgO (decP b)) = (decP b).isSome := by
  cases h : decP b with
  | none => rfl
  | some p => exact dec_may hb h
/-- A page is alike just if the bytes are. -/
theorem same_copy {X o : List Int} (hX : Byt X) (ho : Byt o) {p : Pg} (hp : decP X = some p) : sameP p (pgO (decP o)) = eqS o X := by
  have hpb : Byt p.2 := by have := pg_byt hX; rw [hp] at this; exact this
  have hp1 : 1 ≤ p.1 := by obtain ⟨g, h1, h2, _⟩ := dec_inv hX hp; omega
  rw [Bool.eq_iff_iff, sameP_iff hpb (pg_byt ho), eqS_byt ho hX]
  constructor
  · intro h
    cases hd : decP o with
    | none => rw [hd] at h; rw [h] at hp1; simp [pgO] at hp1
    | some q =>
      rw [hd] at h
      have : p = q := h
      subst this
      exact dec_eq ho hX hd hp
  · intro h
    subst h
    rw [hp]
    rfl
theorem hit_self (p : Pg) (r : List Pg) (h : mayP p = true) (hm : p ∈ r) : hit p r = true := by
  unfold hit
  rw [List.any_eq_true]
  exact ⟨p, hm, by rw [h, sameP_self]; rfl⟩
theorem one_may {X o : List Int} {p : Pg} (hX : Byt X) (ho : Byt o) (hp : decP X = some p) : mayP p = true := dec_may hX hp
theorem one_eq {X o : List Int} {p : Pg} (hX : Byt X) (ho : Byt o) (hp : decP X = some p) (h : sameP (pgO (decP o)) p = true) : pgO (decP o) = p := by
  have hpb : Byt p.2 := by have := pg_byt hX; rw [hp] at this; exact this
  exact (sameP_iff (pg_byt ho) hpb).1 h
theorem one0 {X o : List Int} {p : Pg} (hX : Byt X) (ho : Byt o) (hp : decP X = some p) : voteP o X X = p := by
  unfold voteP pgs
  simp only [List.map_cons, List.map_nil, hp]
  show electL [pgO (decP o), p, p] (0, []) = p
  simp only [electL]
  split
  · rename_i h
    unfold hit at h
    rw [List.any_eq_true] at h
    obtain ⟨q, hq, h2⟩ := h
    simp only [Bool.and_eq_true] at h2
    have : q = p := by simp at hq; exact hq
    subst this
    exact one_eq hX ho hp h2.2
  · rw [if_pos (hit_self p [p] (one_may hX ho hp) (by simp))]
theorem one1 {X o : List Int} {p : Pg} (hX : Byt X) (ho : Byt o) (hp : decP X = some p) : voteP X o X = p := by
  unfold voteP pgs
  simp only [List.map_cons, List.map_nil, hp]
  show electL [p, pgO (decP o), p] (0, []) = p
  simp only [electL]
  rw [if_pos (hit_self p _ (one_may hX ho hp) (by simp))]
theorem one2 {X o : List Int} {p : Pg} (hX : Byt X) (ho : Byt o) (hp : decP X = some p) : voteP X X o = p := by
  unfold voteP pgs
  simp only [List.map_cons, List.map_nil, hp]
  show electL [p, p, pgO (decP o)] (0, []) = p
  simp only [electL]
  rw [if_pos (hit_self p _ (one_may hX ho hp) (by simp))]
theorem min0 {X o : List Int} {p : Pg} (hX : Byt X) (ho : Byt o) (hp : decP X = some p) : voteM o X X = if eqS o X then [] else [0] := by
  unfold voteM
  rw [one0 hX ho hp]
  unfold pgs
  simp only [List.map_cons, List.map_nil, hp]
  show othL p [pgO (decP o), p, p] 0 = _
  simp [othL, sameP_self, same_copy hX ho hp]
theorem min1 {X o : List Int} {p : Pg} (hX : Byt X) (ho : Byt o) (hp : decP X = some p) : voteM X o X = if eqS o X then [] else [1] := by
  unfold voteM
  rw [one1 hX ho hp]
  unfold pgs
  simp only [List.map_cons, List.map_nil, hp]
  show othL p [p, pgO (decP o), p] 0 = _
  simp [othL, sameP_self, same_copy hX ho hp]
theorem min2 {X o : List Int} {p : Pg} (hX : Byt X) (ho : Byt o) (hp : decP X = some p) : voteM X X o = if eqS o X then [] else [2] := by
  unfold voteM
  rw [one2 hX ho hp]
  unfold pgs
  simp only [List.map_cons, List.map_nil, hp]
  show othL p [p, p, pgO (decP o)] 0 = _
  simp [othL, sameP_self, same_copy hX ho hp]
/-- One whole copy of the newer page, a torn one, and one of the elder page. -/
theorem step1 {X Y t : List Int} {p q : Pg} (hX : Byt X) (hY : Byt Y) (hp : decP X = some p) (hq : decP Y = some q) (ht : decP t = none) (hlt : p.1 < q.1) : voteP Y t X = q := by
  have hq1 : 0 < q.1 := by obtain ⟨g, h1, h2, _⟩ := dec_inv hY hq; omega
  unfold voteP pgs
  simp only [List.map_cons, List.map_nil, hp, hq, ht]
  show electL [q, (0, []), p] (0, []) = q
  have s1 : sameP q (0, []) = false := by unfold sameP; rw [show (q.1 == (0 : Int)) = false by simp; omega]; rfl
  have s2 : sameP q p = false := by unfold sameP; rw [show (q.1 == p.1) = false by simp; omega]; rfl
  have h1 : hit q [(0, []), p] = false := by simp [hit, s1, s2]
  have h2 : hit (0, []) [p] = false := by simp [hit, may0]
  have h3 : hit p [] = false := rfl
  simp only [electL, h1, h2, h3, Bool.false_eq_true, if_false]
  rw [if_pos hq1]
  simp only [if_neg (show ¬ q.1 < 0 by omega), if_neg (show ¬ q.1 < p.1 by omega)]
theorem tmod_pos (k n : Int) (hn : 0 < n) : -n < k.tmod n ∧ k.tmod n < n := by
  have h1 := Int.tmod_lt_of_pos k hn
  refine ⟨?_, h1⟩
  have h2 := Int.tmod_lt_of_pos (-k) hn
  rw [Int.neg_tmod] at h2
  omega
theorem round_any (k n : Int) (w : World) (hn : 0 < n) (hn2 : n ≤ 1000000) : Calls Tryd.prog 17 #[.int .i64 k, .int .i64 n] w fun e w' => (∃ c : Int, e = .returned (.int .i64 c) ∧ 0 ≤ c ∧ c < n) ∧ w = w' := by
  have h1 := tmod_pos k n hn
  have h0 : ¬ (n = 0) := by omega
  by_cases hs : k.tmod n < 0
  · have t1 : decide (k.tmod n < 0) = true := decide_eq_true hs
    have w1 : IntKind.i64.wrap (k.tmod n + n) = k.tmod n + n := IntWalk.i64_in _ (by omega)
    go_enter Tryd.func17, Tryd.ntmps17
    go_wp2
    go_ret
    exact ⟨⟨_, rfl, by omega, by omega⟩, rfl⟩
  · have t1 : decide (k.tmod n < 0) = false := decide_eq_false hs
    go_enter Tryd.func17, Tryd.ntmps17
    go_wp2
    go_ret
    exact ⟨⟨_, rfl, by omega, by omega⟩, rfl⟩
theorem enc_page (g : Nat) (m : List Int) (h1 : 1 ≤ g) (h2 : g ≤ 2147483647) (hm : m.length ≤ 60000) : encO (g : Int) m = some (sealL (encP g m)) := by
  unfold encO
  rw [show mayP ((g : Int), m) = true by unfold mayP; simp; omega, if_pos rfl]
  rfl
theorem szArr : (Tryd.prog.info? 38).map (·.size) = some 3 := by kernel_rfl
end Go.Proofs.YtblhipdcgdhmiaaDoor
