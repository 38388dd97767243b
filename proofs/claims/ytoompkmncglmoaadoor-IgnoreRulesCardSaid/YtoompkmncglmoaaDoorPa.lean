/- The plain functions that the walks of this seat compute: paths as lists of bytes, their parts, their order. No conditions: definitions and lemmas. -/
import Derived.Laws.Strings
import Derived.Lib.SplitLaws
namespace Go.Pth

abbrev B := List UInt8

/-- A byte that may be in a part. -/
def okByte (b : UInt8) : Bool := (decide (97 ≤ b.toNat) && decide (b.toNat ≤ 122)) || (decide (48 ≤ b.toNat) && decide (b.toNat ≤ 57)) || b.toNat == 46 || b.toNat == 45 || b.toNat == 95
/-- A part that may be. -/
def okPart (p : B) : Bool := decide (0 < p.length) && decide (p.length ≤ 20) && !(p == [46]) && !(p == [46, 46]) && p.all okByte
/-- A text at each slash. -/
def cut : B → List B
  | [] => [[]]
  | c :: r => if c = 47 then [] :: cut r else (c :: (cut r).headD []) :: (cut r).tail
/-- Parts with slashes between. -/
def glue : List B → B
  | [] => []
  | [p] => p
  | p :: q :: r => p ++ 47 :: glue (q :: r)
def valid (l : B) : Bool := decide (l.length ≤ 60) && (cut l).all okPart
def parts (l : B) : List B := if valid l then cut l else []
def hidden (l : B) : Bool := valid l && l.head? == some 46
def parent (l : B) : B := if valid l then glue (cut l).dropLast else []
def name (l : B) : B := if valid l then (cut l).getLastD [] else []
def joined (d n : B) : B := if d = [] then n else d ++ 47 :: n
def join (d n : B) : B := if valid (joined d n) then joined d n else []
def under (s d : B) : Bool := valid s && (d == [] || (valid d && (d ++ [47]).isPrefixOf s))
/-- By the first place where they differ; the shorter one first. -/
def lex {α : Type} [DecidableEq α] (lt : α → α → Bool) : List α → List α → Bool
  | [], [] => false
  | [], _ :: _ => true
  | _ :: _, [] => false
  | x :: xs, y :: ys => if x = y then lex lt xs ys else lt x y
def ltB : B → B → Bool := lex fun x y => decide (x < y)
def ltP : List B → List B → Bool := lex ltB
def less (a b : B) : Bool := if valid a != valid b then valid a else if valid a then ltP (cut a) (cut b) else ltB a b

theorem cut_ne (l : B) : cut l ≠ [] := by
  cases l with
  | nil => simp [cut]
  | cons c r => unfold cut; split <;> simp
theorem cut_cons (l : B) : ∃ h t, cut l = h :: t := by
  cases h : cut l with
  | nil => exact absurd h (cut_ne l)
  | cons a t => exact ⟨a, t, rfl⟩
theorem cut_slash (r : B) : cut (47 :: r) = [] :: cut r := by simp [cut]
theorem cut_other (c : UInt8) (r : B) (h : c ≠ 47) : cut (c :: r) = (c :: (cut r).headD []) :: (cut r).tail := by simp [cut, h]

/-- No slash: one part. -/
theorem cut_one : ∀ (l : B), (47 : UInt8) ∉ l → cut l = [l]
  | [], _ => rfl
  | c :: r, h => by
    have h1 : c ≠ 47 := fun e => h (by simp [e])
    have h2 : (47 : UInt8) ∉ r := fun e => h (by simp [e])
    rw [cut_other c r h1, cut_one r h2]; rfl
/-- A slash parts. -/
theorem cut_app : ∀ (a b : B), cut (a ++ 47 :: b) = cut a ++ cut b
  | [], b => by simp [cut]
  | c :: r, b => by
    obtain ⟨h, t, e⟩ := cut_cons r
    by_cases hc : c = 47
    · subst hc; rw [List.cons_append, cut_slash, cut_slash, cut_app r b]; rfl
    · rw [List.cons_append, cut_other _ _ hc, cut_other _ _ hc, cut_app r b, e]; rfl
theorem glue_cons (p : B) (l : List B) (h : l ≠ []) : glue (p :: l) = p ++ 47 :: glue l := by
  cases l with
  | nil => exact absurd rfl h
  | cons q r => rfl
theorem glue_app : ∀ (x y : List B), x ≠ [] → y ≠ [] → glue (x ++ y) = glue x ++ 47 :: glue y
  | [], _, h, _ => absurd rfl h
  | [p], y, _, hy => by rw [List.singleton_append, glue_cons p y hy]; rfl
  | p :: q :: r, y, _, hy => by
    rw [List.cons_append, glue_cons p _ (by simp), glue_app (q :: r) y (by simp) hy, glue_cons p (q :: r) (by simp)]
    simp
theorem glue_cut : ∀ (l : B), glue (cut l) = l
  | [] => rfl
  | c :: r => by
    obtain ⟨h, t, e⟩ := cut_cons r
    have ih := glue_cut r
    by_cases hc : c = 47
    · subst hc; rw [cut_slash, glue_cons _ _ (cut_ne r), ih]; rfl
    · rw [cut_other _ _ hc, e]
      rw [e] at ih
      cases t with
      | nil => simp [glue] at ih ⊢; exact ih
      | cons q t' =>
        rw [glue_cons h _ (by simp)] at ih
        show glue ((c :: h) :: q :: t') = _
        rw [glue_cons (c :: h) _ (by simp), List.cons_append, ih]
theorem cut_mem : ∀ (l : B) (p : B), p ∈ cut l → (47 : UInt8) ∉ p
  | [], p, h => by simp [cut] at h; simp [h]
  | c :: r, p, hp => by
    obtain ⟨h, t, e⟩ := cut_cons r
    have ih := cut_mem r
    by_cases hc : c = 47
    · subst hc
      rw [cut_slash] at hp
      rcases List.mem_cons.1 hp with rfl | hp
      · simp
      · exact ih p hp
    · rw [cut_other _ _ hc, e] at hp
      rw [e] at ih
      rcases List.mem_cons.1 hp with rfl | hp
      · have := ih h (by simp)
        intro hm
        rcases List.mem_cons.1 hm with hm | hm
        · exact hc hm.symm
        · exact this hm
      · exact ih p (by simp at hp; simp [hp])
theorem cut_glue : ∀ (ps : List B), ps ≠ [] → (∀ p ∈ ps, (47 : UInt8) ∉ p) → cut (glue ps) = ps
  | [], h, _ => absurd rfl h
  | [p], _, h => cut_one p (h p (by simp))
  | p :: q :: r, _, h => by
    rw [glue_cons p _ (by simp), cut_app, cut_one p (h p (by simp)), cut_glue (q :: r) (by simp) fun x hx => h x (by simp at hx ⊢; exact Or.inr hx)]
    rfl
theorem okByte_slash (p : B) (h : okPart p = true) : (47 : UInt8) ∉ p := by
  intro hm
  unfold okPart at h
  simp only [Bool.and_eq_true] at h
  have := List.all_eq_true.1 h.2 47 hm
  exact absurd this (by decide)
theorem okPart_len (p : B) (h : okPart p = true) : 0 < p.length ∧ p.length ≤ 20 := by
  unfold okPart at h
  simp only [Bool.and_eq_true, decide_eq_true_eq] at h
  exact ⟨h.1.1.1.1, h.1.1.1.2⟩
theorem valid_nil : valid [] = false := by decide
theorem valid_len {l : B} (h : valid l = true) : l.length ≤ 60 := by
  unfold valid at h; simp only [Bool.and_eq_true, decide_eq_true_eq] at h; exact h.1
theorem valid_parts {l : B} (h : valid l = true) : ∀ p ∈ cut l, okPart p = true := by
  unfold valid at h; simp only [Bool.and_eq_true, decide_eq_true_eq] at h; exact List.all_eq_true.1 h.2
theorem valid_ne {l : B} (h : valid l = true) : l ≠ [] := fun e => by subst e; rw [valid_nil] at h; cases h

/-- What the library cuts at slashes. -/
theorem split_cut : ∀ (l : B), Lib.splitK [47] 0 (Lib.count l [47]) l = cut l
  | [] => by rw [Lib.count_one]; rfl
  | c :: r => by
    have ih := split_cut r
    obtain ⟨h, t, e⟩ := cut_cons r
    by_cases hc : c = 47
    · subst hc
      rw [Lib.count_cons_eq, cut_slash, ← ih, Nat.add_comm, Lib.splitK]
      have hix : Lib.index (47 :: r) [47] = 0 := by rw [Lib.index]; simp [List.isPrefixOf]
      rw [hix]; simp
    · have hp : ([47] : List UInt8).isPrefixOf (c :: r) = false := by simp [List.isPrefixOf, Ne.symm hc]
      have hix : Lib.index (c :: r) [47] = if Lib.index r [47] == -1 then -1 else Lib.index r [47] + 1 := by rw [Lib.index, hp]; simp
      rw [Lib.count_cons_ne c 47 r hc, cut_other c r hc]
      by_cases hm : Lib.index r [47] = -1
      · have h0 : Lib.count r [47] = 0 := Lib.count_miss hm
        rw [h0] at ih ⊢
        have ih : [r] = cut r := ih
        rw [← ih]; rfl
      · have hge := Lib.index_ge r [47]
        obtain ⟨j, hj⟩ : ∃ j : Nat, Lib.index r [47] = j := ⟨(Lib.index r [47]).toNat, by omega⟩
        rw [Lib.count_hit (by simp) hj] at ih ⊢
        rw [Nat.add_comm, Lib.splitK] at ih ⊢
        rw [hix, hj]
        rw [hj] at ih
        have n1 : ((j : Int) == -1) = false := by simp
        have n2 : (((j : Int) + 1) == -1) = false := by simp; omega
        simp only [n1, Bool.false_eq_true, if_false, n2] at ih ⊢
        rw [← ih]
        have t1 : ((j : Int) + 1).toNat = j + 1 := by omega
        simp [t1]
end Go.Pth
