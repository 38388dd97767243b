/- The plain functions that the walks of this seat compute: paths as lists of bytes, their parts, their order. No conditions: definitions and lemmas. Plain facts on paths: their order, what stands under what, parts put together again. No conditions: definitions and lemmas. -/
import Derived.Laws.Strings
import Derived.Lib.SplitLaws
import GoSem.Op.String
namespace Go.Pth

abbrev B := List UInt8

def okByte (b : UInt8) : Bool := (decide (97 ≤ b.toNat) && decide (b.toNat ≤ 122)) || (decide (48 ≤ b.toNat) && decide (b.toNat ≤ 57)) || b.toNat == 46 || b.toNat == 45 || b.toNat == 95
def okPart (p : B) : Bool := decide (0 < p.length) && decide (p.length ≤ 20) && !(p == [46]) && !(p == [46, 46]) && p.all okByte
def cut : B → List B
  | [] => [[]]
  | c :: r => if c = 47 then [] :: cut r else (c :: (cut r).headD []) :: (cut r).tail
def glue : List B → B
  | [] => []
  | [p] => p
  | p :: q :: r => p ++ 47 :: glue (q :: r)
def valid (l : B) : Bool := decide (l.length ≤ 60) && (cut l).all okPart
def parts (l : B) : List B := if valid l then cut l else []
def hidden (l : B) : Bool := valid l && l.head? == some 46
def parent (l : B) : B := if valid l then glue (cut l).dropLast else []
def name (l : B) : B := if valid l then (cut l).getLastD [] else []
def joined (d n : B) : B := if d = [] then n else d ++ 47 :: n
def join (d n : B) : B := if valid (joined d n) then joined d n else []
def under (s d : B) : Bool := valid s && (d == [] || (valid d && (d ++ [47]).isPrefixOf s))
def lex {α : Type} [DecidableEq α] (lt : α → α → Bool) : List α → List α → Bool
  | [], [] => false
  | [], _ :: _ => true
  | _ :: _, [] => false
  | x :: xs, y :: ys => if x = y then lex lt xs ys else lt x y
def ltB : B → B → Bool := lex fun x y => decide (x < y)
def ltP : List B → List B → Bool := lex ltB
def less (a b : B) : Bool := if valid a != valid b then valid a else if valid a then ltP (cut a) (cut b) else ltB a b

theorem cut_ne (l : B) : cut l ≠ [] := by
  cases l with
  | nil => simp [cut]
  | cons c r => unfold cut; split <;> simp
theorem cut_cons (l : B) : ∃ h t, cut l = h :: t := by
  cases h : cut l with
  | nil => exact absurd h (cut_ne l)
  | cons a t => exact ⟨a, t, rfl⟩
theorem cut_slash (r : B) : cut (47 :: r) = [] :: cut r := by simp [cut]
theorem cut_other (c : UInt8) (r : B) (h : c ≠ 47) : cut (c :: r) = (c :: (cut r).headD []) :: (cut r).tail := by simp [cut, h]

theorem cut_one : ∀ (l : B), (47 : UInt8) ∉ l → cut l = [l]
  | [], _ => rfl
  | c :: r, h => by
    have h1 : c ≠ 47 := fun e => h (by simp [e])
    have h2 : (47 : UInt8) ∉ r := fun e => h (by simp [e])
    rw [cut_other c r h1, cut_one r h2]; rfl
theorem cut_app : ∀ (a b : B), cut (a ++ 47 :: b) = cut a ++ cut b
  | [], b => by simp [cut]
  | c :: r, b => by
    obtain ⟨h, t, e⟩ := cut_cons r
    by_cases hc : c = 47
    · subst hc; rw [List.cons_append, cut_slash, cut_slash, cut_app r b]; rfl
    · rw [List.cons_append, cut_other _ _ hc, cut_other _ _ hc, cut_app r b, e]; rfl
theorem glue_cons (p : B) (l : List B) (h : l ≠ []) : glue (p :: l) = p ++ 47 :: glue l := by
  cases l with
  | nil => exact absurd rfl h
  | cons q r => rfl
theorem glue_app : ∀ (x y : List B), x ≠ [] → y ≠ [] → glue (x ++ y) = glue x ++ 47 :: glue y
  | [], _, h, _ => absurd rfl h
  | [p], y, _, hy => by rw [List.singleton_append, glue_cons p y hy]; rfl
  | p :: q :: r, y, _, hy => by
    rw [List.cons_append, glue_cons p _ (by simp), glue_app (q :: r) y (by simp) hy, glue_cons p (q :: r) (by simp)]
    simp
theorem glue_cut : ∀ (l : B), glue (cut l) = l
  | [] => rfl
  | c :: r => by
    obtain ⟨h, t, e⟩ := cut_cons r
    have ih := glue_cut r
    by_cases hc : c = 47
    · subst hc; rw [cut_slash, glue_cons _ _ (cut_ne r), ih]; rfl
    · rw [cut_other _ _ hc, e]
      rw [e] at ih
      cases t with
      | nil => simp [glue] at ih ⊢; exact ih
      | cons q t' =>
        rw [glue_cons h _ (by simp)] at ih
        show glue ((c :: h) :: q :: t') = _
        rw [glue_cons (c :: h) _ (by simp), List.cons_append, ih]
theorem cut_mem : ∀ (l : B) (p : B), p ∈ cut l → (47 : UInt8) ∉ p
  | [], p, h => by simp [cut] at h; simp [h]
  | c :: r, p, hp => by
    obtain ⟨h, t, e⟩ := cut_cons r
    have ih := cut_mem r
    by_cases hc : c = 47
    · subst hc
      rw [cut_slash] at hp
      rcases List.mem_cons.1 hp with rfl | hp
      · simp
      · exact ih p hp
    · rw [cut_other _ _ hc, e] at hp
      rw [e] at ih
      rcases List.mem_cons.1 hp with rfl | hp
      · have := ih h (by simp)
        intro hm
        rcases List.mem_cons.1 hm with hm | hm
        · exact hc hm.symm
        · exact this hm
      · exact ih p (by simp at hp; simp [hp])
theorem cut_glue : ∀ (ps : List B), ps ≠ [] → (∀ p ∈ ps, (47 : UInt8) ∉ p) → cut (glue ps) = ps
  | [], h, _ => absurd rfl h
  | [p], _, h => cut_one p (h p (by simp))
  | p :: q :: r, _, h => by
    rw [glue_cons p _ (by simp), cut_app, cut_one p (h p (by simp)), cut_glue (q :: r) (by simp) fun x hx => h x (by simp at hx ⊢; exact Or.inr hx)]
    rfl
theorem okPart_len (p : B) (h : okPart p = true) : 0 < p.length ∧ p.length ≤ 20 := by
  unfold okPart at h
  simp only [Bool.and_eq_true, decide_eq_true_eq] at h
  exact ⟨h.1.1.1.1, h.1.1.1.2⟩
theorem valid_nil : valid [] = false := by decide
theorem valid_len {l : B} (h : valid l = true) : l.length ≤ 60 := by
  unfold valid at h; simp only [Bool.and_eq_true, decide_eq_true_eq] at h; exact h.1
theorem valid_parts {l : B} (h : valid l = true) : ∀ p ∈ cut l, okPart p = true := by
  unfold valid at h; simp only [Bool.and_eq_true, decide_eq_true_eq] at h; exact List.all_eq_true.1 h.2
theorem valid_ne {l : B} (h : valid l = true) : l ≠ [] := fun e => by subst e; rw [valid_nil] at h; cases h

theorem split_cut : ∀ (l : B), Lib.splitK [47] 0 (Lib.count l [47]) l = cut l
  | [] => by rw [Lib.count_one]; rfl
  | c :: r => by
    have ih := split_cut r
    obtain ⟨h, t, e⟩ := cut_cons r
    by_cases hc : c = 47
    · subst hc
      rw [Lib.count_cons_eq, cut_slash, ← ih, Nat.add_comm, Lib.splitK]
      have hix : Lib.index (47 :: r) [47] = 0 := by rw [Lib.index]; simp [List.isPrefixOf]
      rw [hix]; simp
    · have hp : ([47] : List UInt8).isPrefixOf (c :: r) = false := by simp [List.isPrefixOf, Ne.symm hc]
      have hix : Lib.index (c :: r) [47] = if Lib.index r [47] == -1 then -1 else Lib.index r [47] + 1 := by rw [Lib.index, hp]; simp
      rw [Lib.count_cons_ne c 47 r hc, cut_other c r hc]
      by_cases hm : Lib.index r [47] = -1
      · have h0 : Lib.count r [47] = 0 := Lib.count_miss hm
        rw [h0] at ih ⊢
        have ih : [r] = cut r := ih
        rw [← ih]; rfl
      · have hge := Lib.index_ge r [47]
        obtain ⟨j, hj⟩ : ∃ j : Nat, Lib.index r [47] = j := ⟨(Lib.index r [47]).toNat, by omega⟩
        rw [Lib.count_hit (by simp) hj] at ih ⊢
        rw [Nat.add_comm, Lib.splitK] at ih ⊢
        rw [hix, hj]
        rw [hj] at ih
        have n1 : ((j : Int) == -1) = false := by simp
        have n2 : (((j : Int) + 1) == -1) = false := by simp; omega
        simp only [n1, Bool.false_eq_true, if_false, n2] at ih ⊢
        rw [← ih]
        have t1 : ((j : Int) + 1).toNat = j + 1 := by omega
        simp [t1]
end Go.Pth

namespace Go.Pth

section
variable {α : Type} [DecidableEq α] {lt : α → α → Bool}
theorem lex_irr : ∀ x : List α, lex lt x x = false
  | [] => rfl
  | x :: xs => by rw [lex, if_pos rfl]; exact lex_irr xs
theorem lex_tri (ht : ∀ a b, a ≠ b → (lt a b || lt b a) = true) : ∀ x y : List α, x ≠ y → (lex lt x y || lex lt y x) = true
  | [], [], h => absurd rfl h
  | [], _ :: _, _ => rfl
  | _ :: _, [], _ => rfl
  | a :: x, b :: y, h => by
    by_cases e : a = b
    · subst e
      rw [lex, lex, if_pos rfl, if_pos rfl]
      exact lex_tri ht x y fun e => h (by rw [e])
    · rw [lex, lex, if_neg e, if_neg (Ne.symm e)]
      exact ht a b e
theorem lex_asym (ha : ∀ a b, lt a b = true → lt b a = false) : ∀ x y : List α, lex lt x y = true → lex lt y x = false
  | [], [], h => by cases h
  | [], _ :: _, _ => rfl
  | _ :: _, [], h => by cases h
  | a :: x, b :: y, h => by
    by_cases e : a = b
    · subst e
      rw [lex, if_pos rfl] at h ⊢
      exact lex_asym ha x y h
    · rw [lex, if_neg e] at h
      rw [lex, if_neg (Ne.symm e)]
      exact ha a b h
theorem lex_trans (ha : ∀ a b, lt a b = true → lt b a = false) (ht : ∀ a b c, lt a b = true → lt b c = true → lt a c = true) : ∀ x y z : List α, lex lt x y = true → lex lt y z = true → lex lt x z = true
  | [], [], _, h, _ => by cases h
  | [], _ :: _, [], _, h => by cases h
  | [], _ :: _, _ :: _, _, _ => rfl
  | _ :: _, [], _, h, _ => by cases h
  | _ :: _, _ :: _, [], _, h => by cases h
  | a :: x, b :: y, c :: z, h, k => by
    rw [lex] at h k ⊢
    by_cases e : a = b
    · subst e
      rw [if_pos rfl] at h
      by_cases f : a = c
      · subst f
        rw [if_pos rfl] at k ⊢
        exact lex_trans ha ht x y z h k
      · rw [if_neg f] at k ⊢
        exact k
    · rw [if_neg e] at h
      by_cases f : b = c
      · subst f
        rw [if_neg e]; exact h
      · rw [if_neg f] at k
        have := ht a b c h k
        by_cases g : a = c
        · subst g
          rw [ha a b h] at k; cases k
        · rw [if_neg g]; exact this
theorem lex_between (ha : ∀ a b, lt a b = true → lt b a = false) : ∀ x y z : List α, lex lt x y = true → lex lt y (x ++ z) = true → ∃ u, u ≠ [] ∧ y = x ++ u
  | [], [], _, h, _ => by cases h
  | [], b :: y, _, _, _ => ⟨b :: y, by simp, rfl⟩
  | _ :: _, [], _, h, _ => by cases h
  | a :: x, b :: y, z, h, k => by
    rw [List.cons_append, lex] at k
    rw [lex] at h
    by_cases e : a = b
    · subst e
      rw [if_pos rfl] at h k
      obtain ⟨u, hu, e⟩ := lex_between ha x y z h k
      exact ⟨u, hu, by rw [e]; rfl⟩
    · rw [if_neg e] at h
      rw [if_neg (Ne.symm e)] at k
      rw [ha a b h] at k; cases k
theorem lex_more : ∀ (x z : List α), z ≠ [] → lex lt x (x ++ z) = true
  | [], [], h => absurd rfl h
  | [], _ :: _, _ => rfl
  | a :: x, z, h => by rw [List.cons_append, lex, if_pos rfl]; exact lex_more x z h
def com : List α → List α → Nat
  | a :: x, b :: y => if a = b then com x y + 1 else 0
  | _, _ => 0
theorem com_le : ∀ x y : List α, com x y ≤ x.length ∧ com x y ≤ y.length
  | [], _ => by simp [com]
  | _ :: _, [] => by simp [com]
  | a :: x, b :: y => by
    rw [com]
    have := com_le x y
    split
    · simp only [List.length_cons]; omega
    · simp
theorem com_all : ∀ x y : List α, com x y = y.length ↔ y <+: x
  | [], [] => by simp [com]
  | [], _ :: _ => by simp [com]
  | _ :: _, [] => by simp [com]
  | a :: x, b :: y => by
    rw [com, List.cons_prefix_cons, ← com_all x y]
    by_cases e : a = b
    · subst e; simp
    · rw [if_neg e]; simp [Ne.symm e]
theorem com_step : ∀ (x y : List α) (k : Nat), k ≤ com x y → (k < com x y ↔ ∃ a, x[k]? = some a ∧ y[k]? = some a)
  | [], y, k, h => by simp [com] at h ⊢
  | _ :: _, [], k, h => by simp [com] at h ⊢
  | a :: x, b :: y, k, h => by
    rw [com] at h ⊢
    by_cases e : a = b
    · subst e
      rw [if_pos rfl] at h ⊢
      cases k with
      | zero => simp
      | succ k => simp only [List.getElem?_cons_succ]; rw [← com_step x y k (by omega)]; omega
    · rw [if_neg e] at h ⊢
      have : k = 0 := by omega
      subst this
      simp
      exact fun h => e h.symm
theorem lex_com : ∀ x y : List α, lex lt x y = if com x y = y.length then false else if com x y = x.length then true else match x[com x y]?, y[com x y]? with | some a, some b => lt a b | _, _ => false
  | [], [] => by simp [com, lex]
  | [], _ :: _ => by simp [com, lex]
  | _ :: _, [] => by simp [com, lex]
  | a :: x, b :: y => by
    rw [lex, com]
    by_cases e : a = b
    · subst e
      rw [if_pos rfl, if_pos rfl, lex_com x y]
      simp
    · rw [if_neg e, if_neg e]; simp
end

theorem ltB_asym (a b : B) (h : ltB a b = true) : ltB b a = false := lex_asym (fun a b h => by simp only [decide_eq_true_eq, decide_eq_false_iff_not] at *; exact fun k => absurd (UInt8.lt_trans h k) (UInt8.lt_irrefl _)) a b h
theorem ltB_tri (a b : B) (h : a ≠ b) : (ltB a b || ltB b a) = true := lex_tri (fun a b h => by
  simp only [Bool.or_eq_true, decide_eq_true_eq]
  exact UInt8.lt_or_lt_of_ne h) a b h
theorem ltB_trans (a b c : B) (h : ltB a b = true) (k : ltB b c = true) : ltB a c = true := lex_trans (fun a b h => by simp only [decide_eq_true_eq, decide_eq_false_iff_not] at *; exact fun k => absurd (UInt8.lt_trans h k) (UInt8.lt_irrefl _)) (fun a b c h k => by simp only [decide_eq_true_eq] at *; exact UInt8.lt_trans h k) a b c h k
theorem ltP_asym (a b : List B) (h : ltP a b = true) : ltP b a = false := lex_asym ltB_asym a b h
theorem ltP_tri (a b : List B) (h : a ≠ b) : (ltP a b || ltP b a) = true := lex_tri ltB_tri a b h
theorem ltP_trans (a b c : List B) (h : ltP a b = true) (k : ltP b c = true) : ltP a c = true := lex_trans ltB_asym ltB_trans a b c h k
theorem bytesLess_ltB : ∀ a b : B, Op.bytesLess a b = ltB a b
  | [], [] => rfl
  | _ :: _, [] => rfl
  | [], _ :: _ => rfl
  | x :: a, y :: b => by
    rw [Op.bytesLess, bytesLess_ltB a b]
    unfold ltB
    rw [lex]
    by_cases e : x = y
    · subst e; simp [UInt8.lt_irrefl]
    · rw [if_neg e]; simp [e]

theorem cut_inj {a b : B} (h : cut a = cut b) : a = b := by rw [← glue_cut a, h, glue_cut]
theorem less_irr (a : B) : less a a = false := by
  unfold less
  simp only [bne_self_eq_false, Bool.false_eq_true, if_false]
  split
  · exact lex_irr _
  · exact lex_irr _
theorem less_tri (a b : B) (h : a ≠ b) : (less a b || less b a) = true := by
  unfold less
  cases valid a <;> cases valid b <;> first | exact ltB_tri _ _ h | exact ltP_tri _ _ (fun e => h (cut_inj e)) | rfl
theorem less_trans (a b c : B) (h : less a b = true) (k : less b c = true) : less a c = true := by
  unfold less at *
  cases ha : valid a <;> cases hb : valid b <;> cases hc : valid c <;> simp only [ha, hb, hc] at h k ⊢ <;> first | exact ltB_trans _ _ _ h k | exact ltP_trans _ _ _ h k | rfl | (cases h; done) | (cases k; done) | simp_all

theorem join_some {a n : B} (ha : a ≠ []) (h : join a n ≠ []) : join a n = a ++ 47 :: n ∧ valid (a ++ 47 :: n) = true := by
  unfold join joined at *
  rw [if_neg ha] at *
  by_cases hv : valid (a ++ 47 :: n) = true
  · rw [if_pos hv]; exact ⟨rfl, hv⟩
  · rw [if_neg hv] at h; exact absurd rfl h
theorem under_parts (s d : B) (hd : d ≠ []) : under s d = (decide (0 < (parts d).length) && decide ((parts d).length < (parts s).length) && (com (parts s) (parts d) == (parts d).length)) := by
  unfold under parts
  have h0 : (d == ([] : B)) = false := by simpa using hd
  rw [h0]
  cases vd : valid d with
  | false => simp
  | true =>
    cases vs : valid s with
    | false => simp
    | true =>
      simp only [if_true, Bool.true_and, Bool.false_or]
      have l0 : 0 < (cut d).length := List.length_pos_iff.2 (cut_ne d)
      rw [decide_eq_true l0, Bool.true_and, Bool.eq_iff_iff]
      simp only [Bool.and_eq_true, decide_eq_true_eq, beq_iff_eq, com_all]
      rw [List.isPrefixOf_iff_prefix]
      constructor
      · rintro ⟨t, rfl⟩
        rw [show d ++ [47] ++ t = d ++ 47 :: t by simp, cut_app]
        exact ⟨by simpa using List.length_pos_iff.2 (cut_ne t), ⟨cut t, rfl⟩⟩
      · rintro ⟨h1, ⟨t, e⟩⟩
        have ht : t ≠ [] := fun h => by rw [h, List.append_nil] at e; rw [e] at h1; omega
        refine ⟨glue t, ?_⟩
        have := glue_cut s
        rw [← e, glue_app _ _ (cut_ne d) ht, glue_cut] at this
        rw [← this]; simp
theorem under_root (s : B) : under s [] = valid s := by simp [under]

theorem parent_app {a b : B} (h : valid (a ++ 47 :: b) = true) (hb : (47 : UInt8) ∉ b) : parent (a ++ 47 :: b) = a ∧ name (a ++ 47 :: b) = b := by
  unfold parent name
  rw [if_pos h, if_pos h, cut_app, cut_one b hb]
  simp [glue_cut]
theorem parent_one {l : B} (h : valid l = true) (hl : (47 : UInt8) ∉ l) : parent l = [] ∧ name l = l := by
  unfold parent name
  rw [if_pos h, if_pos h, cut_one l hl]
  simp [glue]
theorem join_back {l : B} (h : valid l = true) : join (parent l) (name l) = l := by
  unfold parent name
  rw [if_pos h, if_pos h]
  have e := List.dropLast_concat_getLast (cut_ne l)
  have hg := glue_cut l
  have hn : (cut l).getLastD [] = (cut l).getLast (cut_ne l) := by rw [List.getLastD_eq_getLast?, List.getLast?_eq_some_getLast (cut_ne l)]; rfl
  rw [hn]
  generalize hx : (cut l).getLast (cut_ne l) = p at *
  generalize hy : (cut l).dropLast = q at *
  have hok := valid_parts h
  have : joined (glue q) p = l := by
    unfold joined
    cases q with
    | nil =>
      rw [if_pos (show glue [] = [] from rfl), ← hg, ← e]; rfl
    | cons a r =>
      have : glue (a :: r) ≠ [] := by
        have ha := (okPart_len a (hok a (by rw [← e]; simp))).1
        cases r with
        | nil => intro h0; simp [glue] at h0; subst h0; simp at ha
        | cons b r => rw [glue_cons a _ (by simp)]; simp
      rw [if_neg this, ← hg, ← e, glue_app _ _ (by simp) (by simp)]; rfl
  unfold join
  rw [this, if_pos h]
def rep (n p : Nat) : B := glue (List.replicate p (List.replicate n 120))
end Go.Pth
