import Derived.Laws.Strings
/-! What a pattern stands for, byte by byte: the walk that goes back to the last star, and the walk by sets of places, tell the same. No program in it. -/
namespace Go.Proofs.YtoompkmncglmoaaDoor

/-- a byte of a pattern that is no star stands for a byte of a text. -/
def Ch (c x : UInt8) : Prop := if c = 63 then x ≠ 47 else c = x

/-- there is no slash in k bytes from j on. -/
def NoS (S : List UInt8) (j k : Nat) : Prop := ∀ y, y < k → S[j + y]? ≠ some 47

/-- what stands in the pattern from i on matches what stands in the text from j on. -/
inductive Am (P S : List UInt8) : Nat → Nat → Prop
  | done : Am P S P.length S.length
  | two {i j k : Nat} (h1 : P[i]? = some 42) (h2 : P[i + 1]? = some 42) (hk : j + k ≤ S.length) (h : Am P S (i + 2) (j + k)) : Am P S i j
  | one {i j k : Nat} (h1 : P[i]? = some 42) (h2 : P[i + 1]? ≠ some 42) (hk : j + k ≤ S.length) (hn : NoS S j k) (h : Am P S (i + 1) (j + k)) : Am P S i j
  | lit {i j : Nat} {c x : UInt8} (h1 : P[i]? = some c) (hc : c ≠ 42) (h2 : S[j]? = some x) (hs : Ch c x) (h : Am P S (i + 1) (j + 1)) : Am P S i j

theorem Am.le {P S : List UInt8} {i j : Nat} (h : Am P S i j) : i ≤ P.length ∧ j ≤ S.length := by
  induction h with
  | done => exact ⟨Nat.le_refl _, Nat.le_refl _⟩
  | two h1 h2 hk h ih => have := ih; omega
  | one h1 h2 hk hn h ih => have := ih; omega
  | lit h1 hc h2 hs h ih => have := ih; omega

theorem am_end {P S : List UInt8} {j : Nat} : Am P S P.length j ↔ j = S.length := by
  constructor
  · intro h
    generalize hp : P.length = n at h
    cases h with
    | done => rfl
    | two h1 => rw [List.getElem?_eq_none (by omega)] at h1; cases h1
    | one h1 => rw [List.getElem?_eq_none (by omega)] at h1; cases h1
    | lit h1 => rw [List.getElem?_eq_none (by omega)] at h1; cases h1
  · rintro rfl; exact .done

theorem am_two {P S : List UInt8} {i j : Nat} (h1 : P[i]? = some 42) (h2 : P[i + 1]? = some 42) :
    Am P S i j ↔ ∃ k, j + k ≤ S.length ∧ Am P S (i + 2) (j + k) := by
  constructor
  · intro h
    cases h with
    | done => rw [List.getElem?_eq_none (Nat.le_refl _)] at h1; cases h1
    | two _ _ hk h => exact ⟨_, hk, h⟩
    | one _ h2' => exact absurd h2 h2'
    | lit h1' hc => rw [h1] at h1'; cases h1'; exact absurd rfl hc
  · rintro ⟨k, hk, h⟩; exact .two h1 h2 hk h

theorem am_one {P S : List UInt8} {i j : Nat} (h1 : P[i]? = some 42) (h2 : P[i + 1]? ≠ some 42) :
    Am P S i j ↔ ∃ k, j + k ≤ S.length ∧ NoS S j k ∧ Am P S (i + 1) (j + k) := by
  constructor
  · intro h
    cases h with
    | done => rw [List.getElem?_eq_none (Nat.le_refl _)] at h1; cases h1
    | two _ h2' => exact absurd h2' h2
    | one _ _ hk hn h => exact ⟨_, hk, hn, h⟩
    | lit h1' hc => rw [h1] at h1'; cases h1'; exact absurd rfl hc
  · rintro ⟨k, hk, hn, h⟩; exact .one h1 h2 hk hn h

theorem am_lit {P S : List UInt8} {i j : Nat} {c : UInt8} (h1 : P[i]? = some c) (hc : c ≠ 42) :
    Am P S i j ↔ ∃ x, S[j]? = some x ∧ Ch c x ∧ Am P S (i + 1) (j + 1) := by
  constructor
  · intro h
    cases h with
    | done => rw [List.getElem?_eq_none (Nat.le_refl _)] at h1; cases h1
    | two h1' => rw [h1] at h1'; cases h1'; exact absurd rfl hc
    | one h1' => rw [h1] at h1'; cases h1'; exact absurd rfl hc
    | lit h1' _ h2 hs h => rw [h1] at h1'; cases h1'; exact ⟨_, h2, hs, h⟩
  · rintro ⟨x, h2, hs, h⟩; exact .lit h1 hc h2 hs h

/-- n bytes of the pattern from a on stand for n bytes of the text from b on. -/
def Run (P S : List UInt8) (a b n : Nat) : Prop := ∀ x, x < n → ∃ p q, P[a + x]? = some p ∧ S[b + x]? = some q ∧ p ≠ 42 ∧ Ch p q

theorem Run.step {P S : List UInt8} {a b n : Nat} (h : Run P S a b (n + 1)) : ∃ p q, P[a]? = some p ∧ S[b]? = some q ∧ p ≠ 42 ∧ Ch p q ∧ Run P S (a + 1) (b + 1) n := by
  obtain ⟨p, q, h1, h2, h3, h4⟩ := h 0 (by omega)
  refine ⟨p, q, h1, h2, h3, h4, fun x hx => ?_⟩
  have := h (x + 1) (by omega)
  rwa [show a + (x + 1) = a + 1 + x from by omega, show b + (x + 1) = b + 1 + x from by omega] at this

/-- where the pattern stands for bytes one by one, what it matches goes along. -/
theorem Run.am {P S : List UInt8} {n : Nat} : ∀ {a b : Nat}, Run P S a b n → (Am P S a b ↔ Am P S (a + n) (b + n)) := by
  induction n with
  | zero => intro a b _; exact Iff.rfl
  | succ n ih =>
    intro a b h
    obtain ⟨p, q, h1, h2, h3, h4, h5⟩ := h.step
    rw [am_lit h1 h3, show a + (n + 1) = a + 1 + n from by omega, show b + (n + 1) = b + 1 + n from by omega, ← ih h5]
    constructor
    · rintro ⟨x, hx, _, h6⟩; exact h6
    · intro h6; exact ⟨q, h2, h4, h6⟩

/-- the same pattern, elsewhere in the text: what it stands for there. -/
theorem Run.at {P S : List UInt8} {n : Nat} : ∀ {a b t : Nat}, Run P S a b n → Am P S a t → Run P S a t n ∧ Am P S (a + n) (t + n) := by
  induction n with
  | zero => intro a b t _ h; exact ⟨fun x hx => absurd hx (by omega), h⟩
  | succ n ih =>
    intro a b t h ht
    obtain ⟨p, q, h1, h2, h3, h4, h5⟩ := h.step
    obtain ⟨x, hx, hs, h6⟩ := (am_lit h1 h3).mp ht
    obtain ⟨h7, h8⟩ := ih h5 h6
    refine ⟨?_, ?_⟩
    · intro y hy
      rcases y with _ | y
      · exact ⟨p, x, h1, hx, h3, hs⟩
      · have := h7 y (by omega)
        rwa [show a + 1 + y = a + (y + 1) from by omega, show t + 1 + y = t + (y + 1) from by omega] at this
    · rwa [show a + (n + 1) = a + 1 + n from by omega, show t + (n + 1) = t + 1 + n from by omega]

theorem Ch.slash {c x : UInt8} (h : Ch c x) (hx : x = 47) : c = 47 := by
  unfold Ch at h
  split at h
  · exact absurd hx h
  · rw [h, hx]

theorem Ch.of_slash {c x : UInt8} (h : Ch c x) (hc : c = 47) : x = 47 := by
  subst hc; unfold Ch at h; rw [if_neg (by decide)] at h; exact h.symm

/-- where k bytes have no slash and the n that follow them repeat, no slash is in any. -/
theorem no_slash {P S : List UInt8} {a b k n : Nat} (hk0 : 0 < k) (h1 : Run P S a b n) (h2 : Run P S a (b + k) n) (hn : NoS S b k) : NoS S b (n + k) := by
  intro y
  induction y using Nat.strongRecOn with
  | ind y ih =>
    intro hy hs
    by_cases hk : y < k
    · exact hn y hk hs
    · obtain ⟨p, q, e1, e2, e3, e4⟩ := h2 (y - k) (by omega)
      obtain ⟨p', q', f1, f2, f3, f4⟩ := h1 (y - k) (by omega)
      rw [show b + k + (y - k) = b + y from by omega, hs] at e2
      cases e2
      rw [e1] at f1; cases f1
      have := f4.of_slash (e4.slash rfl)
      exact ih (y - k) (by omega) (by omega) (by rw [f2, this])

/-- the single star takes a byte or more. -/
def Al1 (P S : List UInt8) (a b : Nat) : Prop := ∃ k, 0 < k ∧ b + k ≤ S.length ∧ NoS S b k ∧ Am P S a (b + k)
/-- the two stars take a byte or more. -/
def Al2 (P S : List UInt8) (c d : Nat) : Prop := ∃ k, 0 < k ∧ d + k ≤ S.length ∧ Am P S c (d + k)

/-- where the walk stands, what its last stars may take, and what that says of the whole. -/
structure MI (P S : List UInt8) (i j a b : Nat) (f : Bool) (c d : Nat) (g : Bool) : Prop where
  hi : i ≤ P.length
  hj : j ≤ S.length
  ha : a ≤ i
  hb : b ≤ j
  hc : c ≤ i
  hd : d ≤ j
  f0 : f = false → a = 0 ∧ b = 0
  hca : f = true → c ≤ a ∧ d ≤ b
  run : f = true → i - a = j - b ∧ Run P S a b (i - a)
  eqv : Am P S 0 0 ↔ (Am P S i j ∨ (f = true ∧ Al1 P S a b) ∨ (g = true ∧ Al2 P S c d))
  late : g = true → Al2 P S c d → ∃ t, j ≤ t ∧ Am P S i t
  both : f = true → g = true → Al2 P S c d → ∃ t, b ≤ t ∧ Am P S a t

theorem MI.start (P S : List UInt8) : MI P S 0 0 0 0 false 0 0 false :=
  ⟨by omega, by omega, by omega, by omega, by omega, by omega, fun _ => ⟨rfl, rfl⟩, fun h => (by cases h), fun h => (by cases h), by simp, fun h => (by cases h), fun h => (by cases h)⟩

/-- what the single star may take, the walk may take where it stands. -/
theorem MI.al1 {P S : List UInt8} {i j a b c d : Nat} {f g : Bool} (h : MI P S i j a b f c d g) (hf : f = true) (h1 : Al1 P S a b) :
    ∃ k, 0 < k ∧ j + k ≤ S.length ∧ NoS S b (i - a + k) ∧ Am P S i (j + k) := by
  obtain ⟨k, hk, hl, hn, hm⟩ := h1
  obtain ⟨e, hr⟩ := h.run hf
  obtain ⟨h2, h3⟩ := hr.at hm
  have ha := h.ha; have hb := h.hb
  rw [show a + (i - a) = i from by omega, show b + k + (i - a) = j + k from by omega] at h3
  exact ⟨k, hk, h3.le.2, no_slash hk hr h2 hn, h3⟩

theorem MI.two {P S : List UInt8} {i j a b c d : Nat} {f g : Bool} (h : MI P S i j a b f c d g) (h1 : P[i]? = some 42) (h2 : P[i + 1]? = some 42) :
    MI P S (i + 2) j 0 0 false (i + 2) j true := by
  have hl : i + 1 < P.length := (List.getElem?_eq_some_iff.mp h2).1
  refine ⟨by omega, h.hj, by omega, by omega, by omega, by omega, fun _ => ⟨rfl, rfl⟩, fun h => (by cases h), fun h => (by cases h), ?_, ?_, fun h => (by cases h)⟩
  · have key : Am P S 0 0 ↔ Am P S i j := by
      rw [h.eqv]
      refine ⟨?_, Or.inl⟩
      rintro (h3 | ⟨hf, h3⟩ | ⟨hg, h3⟩)
      · exact h3
      · obtain ⟨k, hk, hle, hn, hm⟩ := h.al1 hf h3
        obtain ⟨k', hk', hm'⟩ := (am_two h1 h2).mp hm
        exact (am_two h1 h2).mpr ⟨k + k', by omega, by rwa [← Nat.add_assoc]⟩
      · obtain ⟨t, ht, hm⟩ := h.late hg h3
        obtain ⟨k', hk', hm'⟩ := (am_two h1 h2).mp hm
        exact (am_two h1 h2).mpr ⟨t - j + k', by omega, by rwa [show j + (t - j + k') = t + k' from by omega]⟩
    rw [key, am_two h1 h2]
    constructor
    · rintro ⟨k, hk, hm⟩
      rcases Nat.eq_zero_or_pos k with rfl | hp
      · exact Or.inl hm
      · exact Or.inr (Or.inr ⟨rfl, k, hp, hk, hm⟩)
    · rintro (hm | ⟨hf, _⟩ | ⟨_, k, hp, hk, hm⟩)
      · exact ⟨0, h.hj, hm⟩
      · cases hf
      · exact ⟨k, hk, hm⟩
  · rintro _ ⟨k, hp, hk, hm⟩; exact ⟨j + k, by omega, hm⟩

theorem NoS.shift {S : List UInt8} {b n m : Nat} (h : NoS S b (n + m)) : NoS S (b + n) m := fun y hy => by
  have := h (n + y) (by omega); rwa [← Nat.add_assoc] at this
theorem NoS.add {S : List UInt8} {b n m : Nat} (h1 : NoS S b n) (h2 : NoS S (b + n) m) : NoS S b (n + m) := fun y hy => by
  by_cases hn : y < n
  · exact h1 y hn
  · have := h2 (y - n) (by omega); rwa [show b + n + (y - n) = b + y from by omega] at this

theorem MI.one {P S : List UInt8} {i j a b c d : Nat} {f g : Bool} (h : MI P S i j a b f c d g) (h1 : P[i]? = some 42) (h2 : P[i + 1]? ≠ some 42) :
    MI P S (i + 1) j (i + 1) j true c d g := by
  have hl : i < P.length := (List.getElem?_eq_some_iff.mp h1).1
  have h5 := h.hc
  have late' : g = true → Al2 P S c d → ∃ t, j ≤ t ∧ Am P S (i + 1) t := by
    intro hg h3
    obtain ⟨t, ht, hm⟩ := h.late hg h3
    obtain ⟨k, hk, hn, hm'⟩ := (am_one h1 h2).mp hm
    exact ⟨t + k, by omega, hm'⟩
  refine ⟨by omega, h.hj, by omega, by omega, by omega, h.hd, fun h => (by cases h), fun _ => ⟨by omega, h.hd⟩, fun _ => ⟨by omega, fun x hx => absurd hx (by omega)⟩, ?_, late', fun _ => late'⟩
  rw [h.eqv]
  constructor
  · rintro (h3 | ⟨hf, h3⟩ | h3)
    · obtain ⟨k, hk, hn, hm⟩ := (am_one h1 h2).mp h3
      rcases Nat.eq_zero_or_pos k with rfl | hp
      · exact Or.inl hm
      · exact Or.inr (Or.inl ⟨rfl, k, hp, hk, hn, hm⟩)
    · obtain ⟨k, hk, hle, hn, hm⟩ := h.al1 hf h3
      obtain ⟨k', hk', hn', hm'⟩ := (am_one h1 h2).mp hm
      have ha := h.ha; have hb := h.hb; obtain ⟨e, _⟩ := h.run hf
      have hn2 := hn.shift
      rw [show b + (i - a) = j from by omega] at hn2
      exact Or.inr (Or.inl ⟨rfl, k + k', by omega, by omega, hn2.add hn', by rwa [← Nat.add_assoc]⟩)
    · exact Or.inr (Or.inr h3)
  · rintro (hm | ⟨_, k, hp, hk, hn, hm⟩ | h3)
    · exact Or.inl ((am_one h1 h2).mpr ⟨0, h.hj, fun y hy => absurd hy (by omega), hm⟩)
    · exact Or.inl ((am_one h1 h2).mpr ⟨k, hk, hn, hm⟩)
    · exact Or.inr (Or.inr h3)

/-- where the text is at its end and no star follows: all of the pattern is walked, or nothing matches. -/
theorem MI.fin {P S : List UInt8} {i j a b c d : Nat} {f g : Bool} (h : MI P S i j a b f c d g) (h1 : P[i]? ≠ some 42) (hj : j = S.length) :
    Am P S 0 0 ↔ i = P.length := by
  subst hj
  constructor
  · intro hm
    have hi := h.hi
    by_cases he : i = P.length
    · exact he
    · exfalso
      have hl : i < P.length := by omega
      have hp : P[i]? = some P[i] := List.getElem?_eq_getElem hl
      have no : ¬ Am P S i S.length := by
        intro h3
        obtain ⟨x, hx, _⟩ := (am_lit hp (fun e => h1 (by rw [hp, e]))).mp h3
        rw [List.getElem?_eq_none (Nat.le_refl _)] at hx; cases hx
      rcases h.eqv.mp hm with h3 | ⟨hf, h3⟩ | ⟨hg, h3⟩
      · exact no h3
      · obtain ⟨k, hk, hle, _⟩ := h.al1 hf h3; omega
      · obtain ⟨t, ht, hm'⟩ := h.late hg h3
        have := hm'.le.2
        exact no (by rwa [show t = S.length from by omega] at hm')
  · intro hi
    rw [h.eqv, hi]; exact Or.inl (am_end.mpr rfl)

theorem MI.lit {P S : List UInt8} {i j a b c d : Nat} {f g : Bool} {p q : UInt8} (h : MI P S i j a b f c d g) (h1 : P[i]? = some p) (hp : p ≠ 42) (h2 : S[j]? = some q) (hs : Ch p q) :
    MI P S (i + 1) (j + 1) a b f c d g := by
  have hl : i < P.length := (List.getElem?_eq_some_iff.mp h1).1
  have hl2 : j < S.length := (List.getElem?_eq_some_iff.mp h2).1
  have ha := h.ha; have hb := h.hb; have hc := h.hc; have hd := h.hd
  have key : ∀ t, Am P S i t → Am P S (i + 1) (t + 1) := fun t ht => by obtain ⟨x, _, _, h3⟩ := (am_lit h1 hp).mp ht; exact h3
  refine ⟨by omega, by omega, by omega, by omega, by omega, by omega, h.f0, h.hca, ?_, ?_, ?_, h.both⟩
  · intro hf
    obtain ⟨e, hr⟩ := h.run hf
    refine ⟨by omega, fun x hx => ?_⟩
    by_cases hx' : x < i - a
    · exact hr x hx'
    · rw [show a + x = i from by omega, show b + x = j from by omega]; exact ⟨p, q, h1, h2, hp, hs⟩
  · rw [h.eqv]
    have : Am P S i j ↔ Am P S (i + 1) (j + 1) := ⟨key j, fun h3 => .lit h1 hp h2 hs h3⟩
    rw [this]
  · intro hg h3
    obtain ⟨t, ht, hm⟩ := h.late hg h3
    exact ⟨t + 1, by omega, key t hm⟩

/-- what stands here in the pattern does not stand for what stands here in the text. -/
def Miss (P S : List UInt8) (i j : Nat) : Prop := j < S.length ∧ P[i]? ≠ some 42 ∧ ∀ p q, P[i]? = some p → S[j]? = some q → ¬ Ch p q
theorem Miss.am {P S : List UInt8} {i j : Nat} (h : Miss P S i j) (hi : i ≤ P.length) : ¬ Am P S i j := by
  obtain ⟨h1, h2, h3⟩ := h
  intro hm
  by_cases he : i = P.length
  · rw [he] at hm; have := am_end.mp hm; omega
  · have hp : P[i]? = some P[i] := List.getElem?_eq_getElem (by omega)
    obtain ⟨x, hx, hs, _⟩ := (am_lit hp (fun e => h2 (by rw [hp, e]))).mp hm
    exact h3 _ _ hp hx hs

theorem MI.again1 {P S : List UInt8} {i j a b c d : Nat} {g : Bool} (h : MI P S i j a b true c d g) (hm : Miss P S i j) (hs : S[b]? ≠ some 47) :
    MI P S a (b + 1) a (b + 1) true c d g := by
  have no := hm.am h.hi
  have ha := h.ha; have hb := h.hb; have hi := h.hi
  have hl := hm.1
  obtain ⟨hca, hdb⟩ := h.hca rfl
  have nob : ¬ Am P S a b := by
    obtain ⟨e, hr⟩ := h.run rfl
    intro h3
    have := hr.am.mp h3
    rw [show a + (i - a) = i from by omega, show b + (i - a) = j from by omega] at this
    exact no this
  have late' : g = true → Al2 P S c d → ∃ t, b + 1 ≤ t ∧ Am P S a t := by
    intro hg h3
    obtain ⟨t, ht, hm'⟩ := h.both rfl hg h3
    refine ⟨t, ?_, hm'⟩
    rcases Nat.lt_or_eq_of_le ht with h4 | h4
    · omega
    · subst h4; exact absurd hm' nob
  refine ⟨by omega, by omega, by omega, by omega, by omega, by omega, fun h => (by cases h), fun _ => ⟨hca, by omega⟩, fun _ => ⟨by omega, fun x hx => absurd hx (by omega)⟩, ?_, late', fun _ => late'⟩
  rw [h.eqv]
  constructor
  · rintro (h3 | ⟨_, k, hp, hk, hn, h3⟩ | h3)
    · exact absurd h3 no
    · by_cases h1 : k = 1
      · subst h1; exact Or.inl h3
      · refine Or.inr (Or.inl ⟨rfl, k - 1, by omega, by omega, ?_, by rwa [show b + 1 + (k - 1) = b + k from by omega]⟩)
        exact NoS.shift (by rwa [show 1 + (k - 1) = k from by omega])
    · exact Or.inr (Or.inr h3)
  · have n1 : NoS S b 1 := fun y hy => by rw [show y = 0 from by omega]; exact hs
    rintro (h3 | ⟨_, k, hp, hk, hn, h3⟩ | h3)
    · exact Or.inr (Or.inl ⟨rfl, 1, by omega, by omega, n1, h3⟩)
    · exact Or.inr (Or.inl ⟨rfl, 1 + k, by omega, by omega, n1.add hn, by rwa [← Nat.add_assoc]⟩)
    · exact Or.inr (Or.inr h3)

theorem MI.no1 {P S : List UInt8} {i j a b c d : Nat} {f g : Bool} (h : MI P S i j a b f c d g) (hm : Miss P S i j) (hs : f = true → S[b]? = some 47) :
    Am P S 0 0 ↔ (g = true ∧ Al2 P S c d) := by
  rw [h.eqv]
  refine ⟨?_, fun h => Or.inr (Or.inr h)⟩
  rintro (h3 | ⟨hf, k, hp, hk, hn, h3⟩ | h3)
  · exact absurd h3 (hm.am h.hi)
  · exact absurd (hs hf) (hn 0 hp)
  · exact h3

theorem MI.again2 {P S : List UInt8} {i j a b c d : Nat} {f : Bool} (h : MI P S i j a b f c d true) (hm : Miss P S i j) (hs : f = true → S[b]? = some 47) :
    MI P S c (d + 1) 0 0 false c (d + 1) true := by
  have hc := h.hc; have hd := h.hd; have hi := h.hi; have hl := hm.1
  refine ⟨by omega, by omega, by omega, by omega, by omega, by omega, fun _ => ⟨rfl, rfl⟩, fun h => (by cases h), fun h => (by cases h), ?_, ?_, fun h => (by cases h)⟩
  · rw [h.no1 hm hs]
    constructor
    · rintro ⟨_, k, hp, hk, h3⟩
      by_cases h1 : k = 1
      · subst h1; exact Or.inl h3
      · exact Or.inr (Or.inr ⟨rfl, k - 1, by omega, by omega, by rwa [show d + 1 + (k - 1) = d + k from by omega]⟩)
    · rintro (h3 | ⟨hf, _⟩ | ⟨_, k, hp, hk, h3⟩)
      · exact ⟨rfl, 1, by omega, by omega, h3⟩
      · cases hf
      · exact ⟨rfl, 1 + k, by omega, by omega, by rwa [← Nat.add_assoc]⟩
  · rintro _ ⟨k, hp, hk, h3⟩; exact ⟨d + 1 + k, by omega, h3⟩

theorem MI.none {P S : List UInt8} {i j a b c d : Nat} {f : Bool} (h : MI P S i j a b f c d false) (hm : Miss P S i j) (hs : f = true → S[b]? = some 47) : ¬ Am P S 0 0 := by
  rw [h.no1 hm hs]; rintro ⟨h, _⟩; cases h

end Go.Proofs.YtoompkmncglmoaaDoor
