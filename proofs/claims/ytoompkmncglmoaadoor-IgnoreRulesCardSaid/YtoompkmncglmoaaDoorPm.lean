import Derived.Test.YtoompkmncglmoaaDoorPl
/-! Rules about one part. No program in it. -/
namespace Go.Proofs.YtoompkmncglmoaaDoor
open Go.Pth

/-- a path of one part. -/
structure One (p : B) : Prop where
  ok : valid p = true
  ns : (47 : UInt8) ∉ p
  by_ : ∀ c ∈ p, okByte c = true
  l0 : 0 < p.length
  l20 : p.length ≤ 20
  par : parent p = []
  nam : name p = p
theorem one_of {p : B} (h : valid p = true) (hp : parent p = []) : One p := by
  rcases path_cases h with ⟨h1, h2, h3⟩ | ⟨a, b, _, _, _, h1, h2, _⟩
  · have hc := valid_parts h
    rw [cut_one p h1] at hc
    have ho := hc p (by simp)
    have hl := okPart_len p ho
    refine ⟨h, h1, ?_, hl.1, hl.2, h2, h3⟩
    unfold okPart at ho
    simp only [Bool.and_eq_true] at ho
    exact List.all_eq_true.1 ho.2
  · rw [h2] at hp; exact absurd hp h1
theorem okByte_range {c : UInt8} (h : okByte c = true) : c ≠ 33 ∧ c ≠ 42 ∧ c ≠ 63 ∧ c ≠ 47 ∧ c ≠ 32 ∧ c ≠ 10 ∧ c.toNat < 128 := by
  unfold okByte at h
  simp only [Bool.or_eq_true, Bool.and_eq_true, decide_eq_true_eq, beq_iff_eq] at h
  refine ⟨?_, ?_, ?_, ?_, ?_, ?_, by omega⟩ <;> (rintro rfl; simp at h)
theorem suf_end (l : B) : Lib.trimSuffix (l ++ [47]) [47] = l ∧ Lib.hasSuffix (l ++ [47]) [47] = true := by
  have h : Lib.hasSuffix (l ++ [47]) [47] = true := by unfold Lib.hasSuffix List.isSuffixOf; simp [List.isPrefixOf]
  refine ⟨?_, h⟩
  unfold Lib.trimSuffix
  rw [if_pos h]; simp
theorem suf_no {l : B} (h0 : l ≠ []) (h : ∀ c, l.getLast? = some c → c ≠ 47) : Lib.trimSuffix l [47] = l ∧ Lib.hasSuffix l [47] = false := by
  have e := List.dropLast_concat_getLast h0
  have hc := h (l.getLast h0) (List.getLast?_eq_some_getLast h0)
  have h : Lib.hasSuffix l [47] = false := by
    rw [← e]
    unfold Lib.hasSuffix List.isSuffixOf
    simp only [List.reverse_append, List.reverse_cons, List.reverse_nil, List.nil_append, List.singleton_append, List.isPrefixOf, Bool.and_true]
    exact beq_eq_false_iff_ne.mpr fun k => hc k.symm
  refine ⟨?_, h⟩
  unfold Lib.trimSuffix
  rw [h, if_neg (by simp)]
theorem pre_yes (l : B) : Lib.trimPrefix (33 :: l) [33] = l ∧ Lib.hasPrefix (33 :: l) [33] = true := ⟨rfl, rfl⟩
theorem pre_no {c : UInt8} (l : B) (h : c ≠ 33) : Lib.trimPrefix (c :: l) [33] = c :: l ∧ Lib.hasPrefix (c :: l) [33] = false := by
  have h1 : Lib.hasPrefix (c :: l) [33] = false := by
    unfold Lib.hasPrefix
    simp only [List.isPrefixOf, Bool.and_true]
    exact beq_eq_false_iff_ne.mpr fun k => h k.symm
  refine ⟨?_, h1⟩
  unfold Lib.trimPrefix
  rw [h1, if_neg (by simp)]

def lastL (n d : Bool) (p : B) : B := (if n then [33] else []) ++ p ++ (if d then [47] else [])
theorem One.last {p : B} (h : One p) : ∀ c, p.getLast? = some c → c ≠ 47 := fun c hc => by
  have : c ∈ p := List.mem_of_getLast? hc
  exact (okByte_range (h.by_ c this)).2.2.2.1
theorem One.ne {p : B} (h : One p) : p ≠ [] := List.length_pos_iff.1 h.l0
theorem One.pre {p : B} (h : One p) (t : B) : Lib.trimPrefix (p ++ t) [33] = p ++ t ∧ Lib.hasPrefix (p ++ t) [33] = false := by
  match p, h with
  | c :: r, h => exact pre_no _ (okByte_range (h.by_ c (by simp))).1
theorem mkR_last {p : B} (h : One p) (n d : Bool) : mkR (lastL n d p) = ⟨lastL n d p, p, n, d, false⟩ := by
  have hw : p.contains 47 = false := by
    rw [← Bool.not_eq_true]; intro k; exact h.ns (List.elem_iff.1 k)
  have hs := suf_no h.ne h.last
  have he := suf_end p
  have h0 := h.pre []
  have h1 := h.pre [47]
  rw [List.append_nil] at h0
  unfold mkR
  cases n <;> cases d <;> simp only [lastL, if_true, Bool.false_eq_true, if_false, List.nil_append, List.append_nil, List.cons_append, (pre_yes _).1, (pre_yes _).2, h0, h1, hs, he, hw]
theorem mkR_x {p : B} (h : One p) : mkR ([120, 47] ++ p) = ⟨[120, 47] ++ p, [120, 47] ++ p, false, false, true⟩ := by
  have hp := pre_no (c := 120) (47 :: p) (by decide)
  have hl : ∀ c, (120 :: 47 :: p).getLast? = some c → c ≠ 47 := fun c hc => by
    have e : (120 :: 47 :: p).getLast? = p.getLast? := by
      rw [show 120 :: 47 :: p = [120, 47] ++ p from rfl, List.getLast?_append]
      cases hx : p.getLast? with
      | none => exact absurd (List.getLast?_eq_none_iff.1 hx) h.ne
      | some y => rfl
    rw [e] at hc
    exact h.last c hc
  have hs := suf_no (l := 120 :: 47 :: p) (by simp) hl
  unfold mkR
  simp only [List.cons_append, List.nil_append, hp, hs]
  simp
theorem mkR_star : mkR [42] = ⟨[42], [42], false, false, false⟩ := by rfl
theorem any_no {l : B} (h : ∀ c ∈ l, c ≠ 32 ∧ c ≠ 10) : Lib.containsAny l [32, 10] = false := by
  unfold Lib.containsAny
  rw [Lib.indexAny_none (fun j b _ hb => ?_)]
  · rfl
  · have := h b (List.mem_of_getElem? hb)
    simp only [List.contains_cons, List.contains_nil, Bool.or_false, Bool.or_eq_false_iff, beq_eq_false_iff_ne]
    exact this
theorem okR_of {r : RL} (h0 : 0 < r.pat.length) (h1 : r.pat.length ≤ 60) (h : ∀ c ∈ r.pat, c ≠ 32 ∧ c ≠ 10) : okR r = true := by
  unfold okR
  rw [decide_eq_true h0, decide_eq_true h1, any_no h]; rfl
theorem One.clean {p : B} (h : One p) : ∀ c ∈ p, c ≠ 32 ∧ c ≠ 10 := fun c hc => ⟨(okByte_range (h.by_ c hc)).2.2.2.2.1, (okByte_range (h.by_ c hc)).2.2.2.2.2.1⟩
theorem ok_last {p : B} (h : One p) (n d : Bool) : okR (mkR (lastL n d p)) = true := by
  rw [mkR_last h]; exact okR_of h.l0 (by have := h.l20; simp only; omega) h.clean
theorem ok_x {p : B} (h : One p) : okR (mkR ([120, 47] ++ p)) = true := by
  rw [mkR_x h]
  refine okR_of (by simp) (by have := h.l20; simp; omega) fun c hc => ?_
  simp only [List.cons_append, List.nil_append, List.mem_cons] at hc
  rcases hc with rfl | rfl | hc
  · decide
  · decide
  · exact h.clean c hc
theorem One.plain {p : B} (h : One p) : Plain p := fun c hc => ⟨(okByte_range (h.by_ c hc)).2.1, (okByte_range (h.by_ c hc)).2.2.1⟩
theorem hit_last {p : B} (h : One p) (n d dir : Bool) : hit (mkR (lastL n d p)) p dir = (!d || dir) := by
  have := h.l20
  rw [mkR_last h]
  unfold hit
  simp only [h.nam, Bool.false_eq_true, if_false]
  rw [mB_plain h.plain (by omega) (by omega), beq_self_eq_true, Bool.and_true]
  cases d <;> cases dir <;> rfl
theorem hit_x {p : B} (h : One p) (dir : Bool) : hit (mkR ([120, 47] ++ p)) p dir = false := by
  have := h.l20
  rw [mkR_x h]
  unfold hit
  simp only [if_true]
  have hp : Plain ([120, 47] ++ p) := fun c hc => by
    simp only [List.cons_append, List.nil_append, List.mem_cons] at hc
    rcases hc with rfl | rfl | hc
    · decide
    · decide
    · exact h.plain c hc
  rw [mB_plain hp (by simp; omega) (by omega)]
  have : ([120, 47] ++ p == p) = false := by
    rw [beq_eq_false_iff_ne]
    intro k
    have := congrArg List.length k
    simp at this
    omega
  rw [this, Bool.and_false]
theorem hit_star {p : B} (h : One p) (dir : Bool) : hit (mkR [42]) p dir = true := by
  have := h.l20
  rw [mkR_star]
  unfold hit
  simp only [Bool.false_eq_true, if_false, h.nam]
  rw [mB_small (by simp) (by omega), mat_star]
  have : p.contains 47 = false := by
    rw [← Bool.not_eq_true]; intro k; exact h.ns (List.elem_iff.1 k)
  rw [this]; rfl
theorem ign_one {p : B} (h : One p) (rs : List RL) (dir : Bool) : ignored rs p dir = tell rs p dir := by
  rw [ignored_step rs p dir h.ok, h.par]; simp
theorem last_one {p : B} (h : One p) (n d dir : Bool) : ignored [mkR ([120, 47] ++ p), mkR (lastL n d p)] p dir = ((!d || dir) && !n) := by
  rw [ign_one h]
  unfold tell
  have key : (mkR (lastL n d p)).nt = n := by rw [mkR_last h]
  simp only [List.foldl_cons, List.foldl_nil, hit_x h, hit_last h, Bool.false_eq_true, if_false, key]
  cases d <;> cases dir <;> rfl
theorem last_two {p : B} (h : One p) (n d dir : Bool) : ignored [mkR [42], mkR (lastL n d p)] p dir = (!(!d || dir) || !n) := by
  rw [ign_one h]
  unfold tell
  have key : (mkR (lastL n d p)).nt = n := by rw [mkR_last h]
  have key2 : (mkR [42]).nt = false := by rw [mkR_star]
  simp only [List.foldl_cons, List.foldl_nil, hit_star h, hit_last h, if_true, key, key2]
  cases d <;> cases dir <;> rfl
end Go.Proofs.YtoompkmncglmoaaDoor
