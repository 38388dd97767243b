/- The document's Vote, by itself, and that it is the code's. No conditions but that all are bytes: lemmas. -/
import Derived.Test.YtblhipdcgdhmiaaDoorHl
namespace Go.Proofs.YtblhipdcgdhmiaaDoor
open Go.RowKit Go.Sha
set_option linter.unusedSimpArgs false
set_option linter.unusedVariables false

/-- Does another copy hold the same? -/
def twinF (L : List (List Int)) (j k : Nat) : Bool := ([0, 1, 2].drop k).any fun q => !(q == j) && eqS (L[q]?.getD []) (L[j]?.getD [])
/-- The place of the copy that counts. -/
def docV (L : List (List Int)) : List Nat → Option (Nat × Int) → Option Nat
  | [], best => best.map (·.1)
  | j :: r, best =>
    match decP (L[j]?.getD []) with
    | none => docV L r best
    | some p => if twinF L j 0 then some j else docV L r (match best with
      | none => some (j, p.1)
      | some (b, g) => if g < p.1 then some (j, p.1) else some (b, g))
/-- The places of the copies that are unlike one. -/
def minD (L : List (List Int)) (x : List Int) : Nat → List Int
  | 0 => []
  | n + 1 => minD L x n ++ (if eqS (L[n]?.getD []) x then [] else [(n : Int)])
theorem min_doc {a b c X : List Int} (ha : Byt a) (hb : Byt b) (hc : Byt c) (hX : Byt X) {p : Pg} (hp : decP X = some p) : othL p (pgs [a, b, c]) 0 = minD [a, b, c] X 3 := by
  unfold pgs
  simp only [List.map_cons, List.map_nil, othL, same_copy hX ha hp, same_copy hX hb hp, same_copy hX hc hp, minD]
  simp
theorem eq_none {a b : List Int} (ha : Byt a) (hb : Byt b) (h : decP a = none) {p : Pg} (k : decP b = some p) : eqS a b = false := by
  cases he : eqS a b
  · rfl
  · have := (eqS_byt ha hb).1 he
    subst this
    rw [h] at k
    cases k
theorem hit_none (r : List Pg) : hit (0, []) r = false := by simp [hit, may0]
theorem hit2 {X b c : List Int} (hX : Byt X) (hb : Byt b) (hc : Byt c) {p : Pg} (hp : decP X = some p) : hit p [pgO (decP b), pgO (decP c)] = (eqS b X || eqS c X) := by
  have h1 := dec_may hX hp
  have h2 := same_copy hX hb hp
  have h3 := same_copy hX hc hp
  simp [hit, h1, h2, h3]
theorem hit1 {X c : List Int} (hX : Byt X) (hc : Byt c) {p : Pg} (hp : decP X = some p) : hit p [pgO (decP c)] = eqS c X := by
  have h1 := dec_may hX hp
  have h3 := same_copy hX hc hp
  simp [hit, h1, h3]
theorem hit0 (p : Pg) : hit p [] = false := rfl
theorem twin0 (a b c : List Int) : twinF [a, b, c] 0 0 = (eqS b a || eqS c a) := by simp [twinF]
theorem twin1 (a b c : List Int) : twinF [a, b, c] 1 0 = (eqS a b || eqS c b) := by simp [twinF]
theorem twin2 (a b c : List Int) : twinF [a, b, c] 2 0 = (eqS a c || eqS b c) := by simp [twinF]
/-- What the document says of three copies is what the code answers. -/
theorem doc_code {a b c : List Int} (ha : Byt a) (hb : Byt b) (hc : Byt c) :
    (docV [a, b, c] [0, 1, 2] none = none → voteP a b c = (0, [])) ∧ (∀ j, docV [a, b, c] [0, 1, 2] none = some j → j < 3 ∧ decP ([a, b, c][j]?.getD []) = some (voteP a b c)) := by
  have pos : ∀ {X : List Int} {p : Pg}, Byt X → decP X = some p → 0 < p.1 := fun hX hp => by obtain ⟨g, h1, h2, _⟩ := dec_inv hX hp; omega
  unfold voteP pgs
  simp only [List.map_cons, List.map_nil, electL, docV, List.getElem?_cons_zero, List.getElem?_cons_succ, Option.getD_some]
  cases da : decP a with
  | none =>
    rw [show pgO (none : Option Pg) = (0, []) from rfl, hit_none]
    cases db : decP b with
    | none =>
      rw [show pgO (none : Option Pg) = (0, []) from rfl, hit_none]
      cases dc : decP c with
      | none => simp [pgO, hit0, hit_none]
      | some r =>
        have h1 := eq_none ha hc da dc
        have h2 := eq_none hb hc db dc
        have := pos hc dc
        simp [twin2, h1, h2, pgO, hit0, this, dc]
    | some q =>
      have hq := pos hb db
      have hba := eq_none ha hb da db
      have hit := hit1 hb hc db
      rw [show pgO (some q) = q from rfl, hit, twin1, hba]
      cases e : eqS c b
      · cases dc : decP c with
        | none => simp [pgO, hit0, hq, db, Int.not_lt.2 (Int.le_of_lt hq)]
        | some r =>
          have h1 := eq_none ha hc da dc
          have h2 : eqS b c = false := by rw [eqS_comm']; exact e
          by_cases hl : q.1 < r.1 <;> simp [twin2, h1, h2, pgO, hit0, hq, db, dc, hl]
      · simp [db]
  | some p =>
    have hp := pos ha da
    have hit := hit2 ha hb hc da
    rw [show pgO (some p) = p from rfl, hit, twin0]
    cases e1 : eqS b a
    · cases e2 : eqS c a
      · have e1' : eqS a b = false := by rw [eqS_comm']; exact e1
        have e2' : eqS a c = false := by rw [eqS_comm']; exact e2
        cases db : decP b with
        | none =>
          rw [show pgO (none : Option Pg) = (0, []) from rfl, hit_none]
          cases dc : decP c with
          | none => simp [pgO, hit0, hp, da, Int.not_lt.2 (Int.le_of_lt hp)]
          | some r =>
            have h2 := eq_none hb hc db dc
            by_cases hl : p.1 < r.1 <;> simp [twin2, e2', h2, pgO, hit0, hp, da, dc, hl, Int.not_lt.2 (Int.le_of_lt hp)]
        | some q =>
          have hq := pos hb db
          have hit := hit1 hb hc db
          rw [show pgO (some q) = q from rfl, hit, twin1, e1']
          cases e : eqS c b
          · cases dc : decP c with
            | none => by_cases hl : p.1 < q.1 <;> simp [pgO, hit0, hp, hq, da, db, hl, Int.not_lt.2 (Int.le_of_lt hp), Int.not_lt.2 (Int.le_of_lt hq)]
            | some r =>
              have h2 : eqS b c = false := by rw [eqS_comm']; exact e
              by_cases hl : p.1 < q.1 <;> by_cases hl2 : p.1 < r.1 <;> by_cases hl3 : q.1 < r.1 <;> simp [twin2, e2', h2, pgO, hit0, hp, hq, da, db, dc, hl, hl2, hl3]
          · simp [db, hp]
      · simp [da]
    · simp [da]
end Go.Proofs.YtblhipdcgdhmiaaDoor
