import Derived.Test.YtoompkmncglmoaaDoorIa
/-! The document's own walk, by sets of places: round by round. No program in it. -/
namespace Go.Proofs.YtoompkmncglmoaaDoor

/-- what a star makes of the places: place by place. -/
def onS (S : List UInt8) (F : Nat → Bool) (deep : Bool) : Nat → Bool
  | 0 => F 0
  | k + 1 => ((deep || !(S[k]? == some 47)) && onS S F deep k) || F (k + 1)

/-- what another byte makes of the places. -/
def litS (S : List UInt8) (F : Nat → Bool) (c : UInt8) : Nat → Bool
  | 0 => false
  | k + 1 => F k && (match S[k]? with | some x => (c == 63 && !(x == 47)) || (c == x && !(c == 63)) | none => false)

theorem onS_iff (S : List UInt8) (F : Nat → Bool) (deep : Bool) (k : Nat) :
    onS S F deep k = true ↔ ∃ j, j ≤ k ∧ F j = true ∧ (deep = true ∨ NoS S j (k - j)) := by
  induction k with
  | zero =>
    constructor
    · intro h; exact ⟨0, Nat.le_refl _, h, Or.inr fun y hy => absurd hy (by omega)⟩
    · rintro ⟨j, hj, h, _⟩; rwa [show j = 0 from by omega] at h
  | succ k ih =>
    simp only [onS, Bool.or_eq_true, Bool.and_eq_true, ih]
    constructor
    · rintro (⟨h1, j, hj, hF, h2⟩ | h)
      · refine ⟨j, by omega, hF, ?_⟩
        rcases h1 with h1 | h1
        · exact Or.inl h1
        · rcases h2 with h2 | h2
          · exact Or.inl h2
          · refine Or.inr fun y hy => ?_
            by_cases hy' : y < k - j
            · exact h2 y hy'
            · rw [show j + y = k from by omega]; simpa using h1
      · exact ⟨k + 1, Nat.le_refl _, h, Or.inr fun y hy => absurd hy (by omega)⟩
    · rintro ⟨j, hj, hF, h2⟩
      by_cases hjk : j = k + 1
      · subst hjk; exact Or.inr hF
      · left
        refine ⟨?_, j, by omega, hF, ?_⟩
        · rcases h2 with h2 | h2
          · exact Or.inl h2
          · right
            have := h2 (k - j) (by omega)
            rw [show j + (k - j) = k from by omega] at this
            simpa using this
        · exact h2.imp id fun h2 y hy => h2 y (by omega)

/-- the invariant of the document's walk. -/
def RI (P S : List UInt8) (i : Nat) (F : Nat → Bool) : Prop := Am P S 0 0 ↔ ∃ k, k ≤ S.length ∧ F k = true ∧ Am P S i k

theorem RI.start (P S : List UInt8) (F : Nat → Bool) (h0 : F 0 = true) (h1 : ∀ k, 0 < k → F k = false) : RI P S 0 F := by
  unfold RI
  constructor
  · intro h; exact ⟨0, by omega, h0, h⟩
  · rintro ⟨k, _, hF, h⟩
    rcases Nat.eq_zero_or_pos k with rfl | hk
    · exact h
    · rw [h1 k hk] at hF; cases hF

theorem RI.two {P S : List UInt8} {i : Nat} {F : Nat → Bool} (h : RI P S i F) (h1 : P[i]? = some 42) (h2 : P[i + 1]? = some 42) : RI P S (i + 2) (onS S F true) := by
  unfold RI at *
  rw [h]
  constructor
  · rintro ⟨k, hk, hF, hm⟩
    obtain ⟨d, hd, hm'⟩ := (am_two h1 h2).mp hm
    exact ⟨k + d, hd, (onS_iff S F true _).mpr ⟨k, by omega, hF, Or.inl rfl⟩, hm'⟩
  · rintro ⟨k, hk, hF, hm⟩
    obtain ⟨j, hj, hFj, _⟩ := (onS_iff S F true k).mp hF
    exact ⟨j, by omega, hFj, (am_two h1 h2).mpr ⟨k - j, by omega, by rwa [show j + (k - j) = k from by omega]⟩⟩

theorem RI.one {P S : List UInt8} {i : Nat} {F : Nat → Bool} (h : RI P S i F) (h1 : P[i]? = some 42) (h2 : P[i + 1]? ≠ some 42) : RI P S (i + 1) (onS S F false) := by
  unfold RI at *
  rw [h]
  constructor
  · rintro ⟨k, hk, hF, hm⟩
    obtain ⟨d, hd, hn, hm'⟩ := (am_one h1 h2).mp hm
    exact ⟨k + d, hd, (onS_iff S F false _).mpr ⟨k, by omega, hF, Or.inr (by rwa [show k + d - k = d from by omega])⟩, hm'⟩
  · rintro ⟨k, hk, hF, hm⟩
    obtain ⟨j, hj, hFj, hn⟩ := (onS_iff S F false k).mp hF
    rcases hn with hn | hn
    · cases hn
    · exact ⟨j, by omega, hFj, (am_one h1 h2).mpr ⟨k - j, by omega, hn, by rwa [show j + (k - j) = k from by omega]⟩⟩

theorem lit_ch (c x : UInt8) : ((c == 63 && !(x == 47)) || (c == x && !(c == 63))) = true ↔ Ch c x := by
  unfold Ch
  by_cases h : c = 63
  · simp [h]
  · simp [h]

theorem RI.lit {P S : List UInt8} {i : Nat} {F : Nat → Bool} {c : UInt8} (h : RI P S i F) (h1 : P[i]? = some c) (hc : c ≠ 42) : RI P S (i + 1) (litS S F c) := by
  unfold RI at *
  rw [h]
  constructor
  · rintro ⟨k, hk, hF, hm⟩
    obtain ⟨x, hx, hs, hm'⟩ := (am_lit h1 hc).mp hm
    refine ⟨k + 1, hm'.le.2, ?_, hm'⟩
    simp only [litS, hF, hx, Bool.true_and]
    exact (lit_ch c x).mpr hs
  · rintro ⟨k, hk, hF, hm⟩
    rcases k with _ | k
    · cases hF
    · simp only [litS, Bool.and_eq_true] at hF
      obtain ⟨hF, hs⟩ := hF
      cases hx : S[k]? with
      | none => rw [hx] at hs; cases hs
      | some x =>
        rw [hx] at hs
        exact ⟨k, by omega, hF, (am_lit h1 hc).mpr ⟨x, hx, (lit_ch c x).mp hs, hm⟩⟩

theorem RI.fin {P S : List UInt8} {F : Nat → Bool} (h : RI P S P.length F) : F S.length = true ↔ Am P S 0 0 := by
  unfold RI at h
  rw [h]
  constructor
  · intro hF; exact ⟨S.length, Nat.le_refl _, hF, am_end.mpr rfl⟩
  · rintro ⟨k, _, hF, hm⟩; rwa [am_end.mp hm] at hF

end Go.Proofs.YtoompkmncglmoaaDoor
