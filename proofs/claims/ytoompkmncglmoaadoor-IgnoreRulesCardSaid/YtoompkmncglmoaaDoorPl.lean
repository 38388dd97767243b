import Derived.Test.YtoompkmncglmoaaDoorId
/-! Plain patterns, stars between plain bytes; a rule for one part. No program in it. -/
namespace Go.Proofs.YtoompkmncglmoaaDoor
open Go.Pth

/-- bytes that stand for themselves. -/
def Plain (l : B) : Prop := ∀ c ∈ l, c ≠ 42 ∧ c ≠ 63
theorem plain_ch {c x : UInt8} (h : c ≠ 63) : Ch c x ↔ c = x := by unfold Ch; rw [if_neg h]
/-- the same plain bytes in the pattern and in the text. -/
theorem run_plain {P S : List UInt8} : ∀ (l : B) (i j : Nat), Plain l → (∀ k, k < l.length → P[i + k]? = l[k]?) → (∀ k, k < l.length → S[j + k]? = l[k]?) → (Am P S i j ↔ Am P S (i + l.length) (j + l.length))
  | [], i, j, _, _, _ => Iff.rfl
  | c :: r, i, j, hp, h1, h2 => by
    have a1 : P[i]? = some c := by simpa using h1 0 (by simp)
    have a2 : S[j]? = some c := by simpa using h2 0 (by simp)
    have hc := hp c (by simp)
    have ih := run_plain (P := P) (S := S) r (i + 1) (j + 1) (fun x hx => hp x (by simp [hx])) (fun k hk => by
      have := h1 (k + 1) (by simp; omega)
      rw [show i + 1 + k = i + (k + 1) by omega, this]; simp) (fun k hk => by
      have := h2 (k + 1) (by simp; omega)
      rw [show j + 1 + k = j + (k + 1) by omega, this]; simp)
    rw [am_lit a1 hc.1]
    simp only [List.length_cons]
    rw [show i + (r.length + 1) = i + 1 + r.length by omega, show j + (r.length + 1) = j + 1 + r.length by omega, ← ih]
    constructor
    · rintro ⟨x, _, _, h⟩; exact h
    · intro h; exact ⟨c, a2, (plain_ch hc.2).mpr rfl, h⟩
/-- a plain pattern stands for itself alone. -/
theorem am_plain {P S : List UInt8} (hp : Plain P) : ∀ (n i j : Nat), P.length ≤ n + i → i ≤ P.length → j ≤ S.length → (Am P S i j ↔ P.drop i = S.drop j)
  | 0, i, j, hn, hi, hj => by
    have e : i = P.length := by omega
    subst e
    rw [am_end, List.drop_length]
    constructor
    · rintro rfl; rw [List.drop_length]
    · intro h
      have := congrArg List.length h.symm
      simp at this; omega
  | n + 1, i, j, hn, hi, hj => by
    by_cases e : i = P.length
    · exact am_plain hp 0 i j (by omega) hi hj
    have hl : i < P.length := by omega
    have a1 : P[i]? = some P[i] := List.getElem?_eq_getElem hl
    have hc := hp P[i] (List.getElem_mem hl)
    rw [am_lit a1 hc.1, List.drop_eq_getElem_cons hl]
    constructor
    · rintro ⟨x, hx, hs, h⟩
      have hjl : j < S.length := (List.getElem?_eq_some_iff.mp hx).1
      have hx' : S[j] = x := by rw [List.getElem?_eq_getElem hjl] at hx; injection hx
      rw [List.drop_eq_getElem_cons hjl, hx', (plain_ch hc.2).mp hs]
      rw [(am_plain hp n (i + 1) (j + 1) (by omega) (by omega) (by omega)).mp h]
    · intro h
      by_cases hjl : j < S.length
      · rw [List.drop_eq_getElem_cons hjl] at h
        injection h with h1 h2
        exact ⟨S[j], List.getElem?_eq_getElem hjl, (plain_ch hc.2).mpr h1, (am_plain hp n (i + 1) (j + 1) (by omega) (by omega) (by omega)).mpr h2⟩
      · have e2 : S.drop j = [] := List.drop_eq_nil_of_le (by omega)
        rw [e2] at h; cases h
theorem mat_plain {P S : B} (hp : Plain P) : mat P S = (P == S) := by
  rw [Bool.eq_iff_iff, mat_iff, am_plain hp P.length 0 0 (by omega) (by omega) (by omega)]
  simp
theorem mB_plain {P S : B} (hp : Plain P) (h1 : P.length ≤ 200) (h2 : S.length ≤ 200) : mB P S = (P == S) := by
  unfold mB
  rw [decide_eq_false (by omega), decide_eq_false (by omega), mat_plain hp]; rfl
theorem mB_small {P S : B} (h1 : P.length ≤ 200) (h2 : S.length ≤ 200) : mB P S = mat P S := by
  unfold mB
  rw [decide_eq_false (by omega), decide_eq_false (by omega)]; rfl

theorem get_mid {a b : B} (k : Nat) : (a ++ b)[a.length + k]? = b[k]? := by rw [List.getElem?_append_right (by omega), Nat.add_sub_cancel_left]
theorem get_fst {a b : B} (k : Nat) (h : k < a.length) : (a ++ b)[k]? = a[k]? := List.getElem?_append_left h
/-- two stars between plain bytes. -/
theorem mat_two (b a c : B) (hb : Plain b) (hc : Plain c) : mat (b ++ [42, 42] ++ c) (b ++ a ++ c) = true := by
  rw [mat_iff, run_plain b 0 0 hb (fun k hk => by rw [Nat.zero_add, List.append_assoc, get_fst k hk]) (fun k hk => by rw [Nat.zero_add, List.append_assoc, get_fst k hk]), Nat.zero_add]
  rw [am_two (by rw [List.append_assoc, ← Nat.add_zero b.length, get_mid]; rfl) (by rw [List.append_assoc, get_mid]; rfl)]
  refine ⟨a.length, by simp, ?_⟩
  rw [run_plain c _ _ hc (fun k hk => by rw [show b.length + 2 = (b ++ [42, 42]).length by simp, get_mid]) (fun k hk => by rw [show b.length + a.length = (b ++ a).length by simp, get_mid])]
  rw [show b.length + 2 + c.length = (b ++ [42, 42] ++ c).length by simp; omega, am_end]
  simp; omega
/-- one star between plain bytes. -/
theorem mat_one (b a c : B) (hb : Plain b) (hc : Plain c) (ha : (47 : UInt8) ∉ a) : mat (b ++ [42] ++ c) (b ++ a ++ c) = true := by
  rw [mat_iff, run_plain b 0 0 hb (fun k hk => by rw [Nat.zero_add, List.append_assoc, get_fst k hk]) (fun k hk => by rw [Nat.zero_add, List.append_assoc, get_fst k hk]), Nat.zero_add]
  rw [am_one (by rw [List.append_assoc, ← Nat.add_zero b.length, get_mid]; rfl) (by
    rw [show b.length + 1 = (b ++ [42]).length + 0 by simp, get_mid]
    intro h
    exact (hc 42 (List.mem_of_getElem? h)).1 rfl)]
  refine ⟨a.length, by simp, fun y hy => ?_, ?_⟩
  · rw [List.append_assoc, get_mid, get_fst y hy]
    intro h
    exact ha (List.mem_of_getElem? h)
  rw [run_plain c _ _ hc (fun k hk => by rw [show b.length + 1 = (b ++ [42]).length by simp, get_mid]) (fun k hk => by rw [show b.length + a.length = (b ++ a).length by simp, get_mid])]
  rw [show b.length + 1 + c.length = (b ++ [42] ++ c).length by simp; omega, am_end]
  simp; omega
/-- a star alone. -/
theorem mat_star (a : B) : mat [42] a = !(a.contains 47) := by
  rw [Bool.eq_iff_iff, mat_iff, am_one rfl (by simp)]
  constructor
  · rintro ⟨k, hk, hn, h⟩
    have hk2 : 0 + k = a.length := am_end.mp h
    rw [Bool.not_eq_true', ← Bool.not_eq_true]
    intro hm
    obtain ⟨j, hj⟩ := List.mem_iff_getElem?.1 (List.elem_iff.1 hm : (47 : UInt8) ∈ a)
    have := (List.getElem?_eq_some_iff.1 hj).1
    exact hn j (by omega) (by rw [Nat.zero_add]; exact hj)
  · intro h
    refine ⟨a.length, by omega, fun y hy hm => ?_, am_end.mpr (Nat.zero_add _)⟩
    rw [Nat.zero_add] at hm
    rw [Bool.not_eq_true', ← Bool.not_eq_true] at h
    exact h (List.elem_iff.2 (List.mem_of_getElem? hm))
theorem mat_twos (a : B) : mat [42, 42] a = true := by
  rw [mat_iff, am_two rfl rfl]
  exact ⟨a.length, by omega, am_end.mpr (Nat.zero_add _)⟩
/-- a question mark alone. -/
theorem mat_quest (a : B) : mat [63] a = (a.length == 1 && !(a.contains 47)) := by
  rw [Bool.eq_iff_iff, mat_iff, am_lit rfl (by decide)]
  constructor
  · rintro ⟨x, hx, hs, h⟩
    have h1 : 0 + 1 = a.length := am_end.mp h
    match a, h1, hx with
    | [y], _, hx =>
      simp at hx; subst hx
      unfold Ch at hs
      rw [if_pos rfl] at hs
      simp
      exact fun e => hs e.symm
  · intro h
    simp only [Bool.and_eq_true, beq_iff_eq] at h
    obtain ⟨h1, h2⟩ := h
    match a, h1, h2 with
    | [y], _, h2 =>
      refine ⟨y, rfl, ?_, am_end.mpr rfl⟩
      unfold Ch
      rw [if_pos rfl]
      intro e; subst e; simp at h2
end Go.Proofs.YtoompkmncglmoaaDoor
