import Derived.Test.YtoompkmncglmoaaDoorPb
import Derived.Test.YtoompkmncglmoaaDoorIc
import Derived.Lib.IndexAny
/-! Rules: what a line says, what the last one that matches says, what is ignored. No program in it. -/
namespace Go.Proofs.YtoompkmncglmoaaDoor
open Go.Pth

/-- the walk by sets of places. -/
def sim (P S : List UInt8) : Nat → Nat → (Nat → Bool) → Bool
  | 0, _, F => F S.length
  | n + 1, i, F =>
    match P[i]? with
    | none => F S.length
    | some c => if c = 42 then (if P[i + 1]? = some 42 then sim P S n (i + 2) (onS S F true) else sim P S n (i + 1) (onS S F false)) else sim P S n (i + 1) (litS S F c)
def mat (P S : List UInt8) : Bool := sim P S P.length 0 (fun k => k == 0)

theorem sim_iff (P S : List UInt8) : ∀ (n i : Nat) (F : Nat → Bool), P.length ≤ n + i → i ≤ P.length → RI P S i F → (sim P S n i F = true ↔ Am P S 0 0)
  | 0, i, F, hn, hi, h => by
    rw [show i = P.length from by omega] at h
    exact h.fin
  | n + 1, i, F, hn, hi, h => by
    unfold sim
    cases hc : P[i]? with
    | none =>
      have : P.length ≤ i := List.getElem?_eq_none_iff.mp hc
      rw [show i = P.length from by omega] at h
      exact h.fin
    | some c =>
      have hl : i < P.length := (List.getElem?_eq_some_iff.mp hc).1
      dsimp only
      by_cases h1 : c = 42
      · subst h1
        rw [if_pos rfl]
        by_cases h2 : P[i + 1]? = some 42
        · rw [if_pos h2]
          have hl2 : i + 1 < P.length := (List.getElem?_eq_some_iff.mp h2).1
          exact sim_iff P S n (i + 2) _ (by omega) (by omega) (h.two hc h2)
        · rw [if_neg h2]; exact sim_iff P S n (i + 1) _ (by omega) (by omega) (h.one hc h2)
      · rw [if_neg h1]; exact sim_iff P S n (i + 1) _ (by omega) (by omega) (h.lit hc h1)
theorem mat_iff (P S : List UInt8) : mat P S = true ↔ Am P S 0 0 :=
  sim_iff P S P.length 0 _ (by omega) (by omega) (RI.start P S _ rfl (fun k hk => by simp; omega))
theorem mat_eq {P S : List UInt8} {b : Bool} (h : Am P S 0 0 ↔ b = true) : mat P S = b := by
  rw [Bool.eq_iff_iff, mat_iff]; exact h

/-- what is told of any pattern and any text. -/
def mB (P S : B) : Bool := !(decide (200 < P.length) || decide (200 < S.length)) && mat P S

/-- a rule: its line, and what it says. -/
structure RL where
  line : B
  pat : B
  nt : Bool
  dr : Bool
  wh : Bool
def mkR (s : B) : RL :=
  ⟨s, Lib.trimSuffix (Lib.trimPrefix s [33]) [47], Lib.hasPrefix s [33], Lib.hasSuffix (Lib.trimPrefix s [33]) [47], (Lib.trimSuffix (Lib.trimPrefix s [33]) [47]).contains 47⟩
def okR (r : RL) : Bool := decide (0 < r.pat.length) && decide (r.pat.length ≤ 60) && !(Lib.containsAny r.pat [32, 10])
def hit (r : RL) (p : B) (dir : Bool) : Bool := !(r.dr && !dir) && mB r.pat (if r.wh then p else name p)
def tell (rs : List RL) (p : B) (dir : Bool) : Bool := rs.foldl (fun y r => if hit r p dir then !r.nt else y) false

theorem fold_none (p : B) (dir : Bool) : ∀ (rs : List RL) (y : Bool), (∀ r ∈ rs, hit r p dir = false) → rs.foldl (fun y r => if hit r p dir then !r.nt else y) y = y
  | [], _, _ => rfl
  | r :: rs, y, h => by
    rw [List.foldl_cons, h r (by simp), if_neg (by simp)]
    exact fold_none p dir rs y fun q hq => h q (by simp [hq])
theorem tell_none {rs : List RL} {p : B} {dir : Bool} (h : ∀ r ∈ rs, hit r p dir = false) : tell rs p dir = false := fold_none p dir rs false h
theorem tell_at {rs : List RL} {p : B} {dir : Bool} {i : Nat} {r : RL} (hr : rs[i]? = some r) (hh : hit r p dir = true) (h : ∀ q ∈ rs.drop (i + 1), hit q p dir = false) : tell rs p dir = !r.nt := by
  have hl : i < rs.length := (List.getElem?_eq_some_iff.mp hr).1
  have e : rs = rs.take i ++ r :: rs.drop (i + 1) := by
    conv => lhs; rw [← List.take_append_drop i rs]
    congr 1
    rw [List.drop_eq_getElem_cons hl]
    congr 1
    rw [List.getElem?_eq_getElem hl] at hr; injection hr
  unfold tell
  rw [e, List.foldl_append, List.foldl_cons, hh, if_pos rfl]
  exact fold_none p dir _ _ h

def ign : Nat → List RL → B → Bool → Bool
  | 0, _, _, _ => false
  | n + 1, rs, p, d => if p = [] then false else tell rs p d || ign n rs (parent p) true
def ignored (rs : List RL) (p : B) (d : Bool) : Bool := valid p && ign (p.length + 1) rs p d

/-- a path is one part, or a path, a slash and a part. -/
theorem path_cases {p : B} (h : valid p = true) : ((47 : UInt8) ∉ p ∧ parent p = [] ∧ name p = p) ∨ ∃ a b, p = a ++ 47 :: b ∧ (47 : UInt8) ∉ b ∧ valid a = true ∧ a ≠ [] ∧ parent p = a ∧ name p = b := by
  by_cases hs : (47 : UInt8) ∈ p
  · right
    have key : ∀ l : B, (47 : UInt8) ∈ l → ∃ a b, l = a ++ 47 :: b ∧ (47 : UInt8) ∉ b := by
      intro l
      induction l with
      | nil => intro h; simp at h
      | cons c r ih =>
        intro h
        by_cases hr : (47 : UInt8) ∈ r
        · obtain ⟨a, b, e, hb⟩ := ih hr
          exact ⟨c :: a, b, by rw [e]; rfl, hb⟩
        · have : c = 47 := by
            rcases List.mem_cons.mp h with h | h
            · exact h.symm
            · exact absurd h hr
          subst this
          exact ⟨[], r, rfl, hr⟩
    obtain ⟨a, b, e, hb⟩ := key p hs
    subst e
    have hv := valid_app h
    have hp := parent_app h hb
    exact ⟨a, b, rfl, hb, hv.1, valid_ne hv.1, hp.1, hp.2⟩
  · exact Or.inl ⟨hs, parent_one h hs⟩
theorem parent_ok {p : B} (h : valid p = true) : (parent p = [] ∨ valid (parent p) = true) ∧ (parent p).length < p.length := by
  have hl : 0 < p.length := List.length_pos_iff.mpr (valid_ne h)
  rcases path_cases h with ⟨_, h1, _⟩ | ⟨a, b, e, _, h1, _, h2, _⟩
  · rw [h1]; exact ⟨Or.inl rfl, hl⟩
  · rw [h2]; refine ⟨Or.inr h1, ?_⟩
    rw [e]; simp

theorem ign_more (rs : List RL) : ∀ (n m : Nat) (p : B) (d : Bool), p.length < n → p.length < m → (p = [] ∨ valid p = true) → ign n rs p d = ign m rs p d
  | 0, _, p, _, h, _, _ => by omega
  | n + 1, 0, p, _, _, h, _ => by omega
  | n + 1, m + 1, p, d, hn, hm, hv => by
    unfold ign
    by_cases hp : p = []
    · rw [if_pos hp, if_pos hp]
    · rw [if_neg hp, if_neg hp]
      have hv' : valid p = true := hv.resolve_left hp
      obtain ⟨h1, h2⟩ := parent_ok hv'
      rw [ign_more rs n m (parent p) true (by omega) (by omega) h1]
/-- as the document says it: what stands above comes first. -/
theorem ignored_step (rs : List RL) (p : B) (d : Bool) (h : valid p = true) : ignored rs p d = ((!(parent p == []) && ignored rs (parent p) true) || tell rs p d) := by
  unfold ignored
  rw [h, Bool.true_and]
  conv => lhs; unfold ign
  rw [if_neg (valid_ne h)]
  obtain ⟨h1, h2⟩ := parent_ok h
  rcases h1 with h1 | h1
  · rw [h1]
    have : ign p.length rs [] true = false := by cases p.length <;> simp [ign]
    rw [this]; simp
  · rw [h1, Bool.true_and, ign_more rs p.length ((parent p).length + 1) (parent p) true h2 (by omega) (Or.inr h1)]
    have : (parent p == []) = false := by simpa using valid_ne h1
    rw [this, Bool.or_comm]; rfl
theorem ignored_not (rs : List RL) (p : B) (d : Bool) (h : valid p = false) : ignored rs p d = false := by unfold ignored; rw [h]; rfl
/-- what stands under what is ignored is ignored. -/
theorem ignored_under (rs : List RL) (a : B) (ha : ignored rs a true = true) : ∀ (n : Nat) (b : B) (d : Bool), b.length < n → valid (a ++ 47 :: b) = true → ignored rs (a ++ 47 :: b) d = true
  | 0, b, _, h, _ => by omega
  | n + 1, b, d, hn, hv => by
    have hva : valid a = true := by
      cases h : valid a with
      | true => rfl
      | false => rw [ignored_not rs a true h] at ha; cases ha
    rw [ignored_step rs _ d hv]
    rcases path_cases hv with ⟨h1, _⟩ | ⟨a', b', e, hb', hv', hne, hp, _⟩
    · exact absurd (by simp) h1
    · rw [hp]
      have hx : ignored rs a' true = true := by
        by_cases hb : (47 : UInt8) ∈ b
        · -- the last slash lies in b
          have h2 : b'.length < b.length ∧ ∃ c, a' = a ++ 47 :: c ∧ c.length < b.length := by
            have hlen := congrArg List.length e
            simp at hlen
            rcases Nat.lt_or_ge b'.length b.length with h3 | h3
            · refine ⟨h3, ?_⟩
              have hk : a.length + 1 ≤ a'.length := by omega
              have e2 := congrArg (List.take a'.length) e
              rw [List.take_left] at e2
              have e3 : List.take a'.length (a ++ 47 :: b) = a ++ 47 :: b.take (a'.length - a.length - 1) := by
                rw [List.take_append, List.take_of_length_le (by omega), show a'.length - a.length = (a'.length - a.length - 1) + 1 from by omega, List.take_succ_cons]; rfl
              rw [e3] at e2
              exact ⟨_, e2.symm, by simp; omega⟩
            · exfalso
              have e2 := congrArg (List.drop (a.length + 1)) e
              have e3 : List.drop (a.length + 1) (a ++ 47 :: b) = b := by rw [← List.drop_drop, List.drop_left]; rfl
              have e4 : List.drop (a.length + 1) (a' ++ 47 :: b') = List.drop (a.length + 1 - a'.length - 1) b' := by
                rw [show a.length + 1 = a'.length + ((a.length - a'.length) + 1) from by omega, ← List.drop_drop, List.drop_left]
                simp
              rw [e3, e4] at e2
              rw [e2] at hb
              exact hb' (List.mem_of_mem_drop hb)
          obtain ⟨_, c, hc, hcl⟩ := h2
          rw [hc]
          exact ignored_under rs a ha n c true (by omega) (by rw [← hc]; exact hv')
        · have := parent_app hv hb
          rw [hp] at this
          rw [this.1]; exact ha
      rw [hx]
      have : (a' == []) = false := by simpa using hne
      rw [this]; rfl
end Go.Proofs.YtoompkmncglmoaaDoor
