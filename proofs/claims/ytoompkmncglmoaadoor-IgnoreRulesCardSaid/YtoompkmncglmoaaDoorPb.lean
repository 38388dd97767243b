/- Plain facts on paths: their order, what stands under what, parts put together again. No conditions: definitions and lemmas. -/
import Derived.Test.YtoompkmncglmoaaDoorPa
import GoSem.Op.String
namespace Go.Pth

section
variable {α : Type} [DecidableEq α] {lt : α → α → Bool}
theorem lex_irr : ∀ x : List α, lex lt x x = false
  | [] => rfl
  | x :: xs => by rw [lex, if_pos rfl]; exact lex_irr xs
theorem lex_tri (ht : ∀ a b, a ≠ b → (lt a b || lt b a) = true) : ∀ x y : List α, x ≠ y → (lex lt x y || lex lt y x) = true
  | [], [], h => absurd rfl h
  | [], _ :: _, _ => rfl
  | _ :: _, [], _ => rfl
  | a :: x, b :: y, h => by
    by_cases e : a = b
    · subst e
      rw [lex, lex, if_pos rfl, if_pos rfl]
      exact lex_tri ht x y fun e => h (by rw [e])
    · rw [lex, lex, if_neg e, if_neg (Ne.symm e)]
      exact ht a b e
theorem lex_asym (ha : ∀ a b, lt a b = true → lt b a = false) : ∀ x y : List α, lex lt x y = true → lex lt y x = false
  | [], [], h => by cases h
  | [], _ :: _, _ => rfl
  | _ :: _, [], h => by cases h
  | a :: x, b :: y, h => by
    by_cases e : a = b
    · subst e
      rw [lex, if_pos rfl] at h ⊢
      exact lex_asym ha x y h
    · rw [lex, if_neg e] at h
      rw [lex, if_neg (Ne.symm e)]
      exact ha a b h
theorem lex_trans (ha : ∀ a b, lt a b = true → lt b a = false) (ht : ∀ a b c, lt a b = true → lt b c = true → lt a c = true) : ∀ x y z : List α, lex lt x y = true → lex lt y z = true → lex lt x z = true
  | [], [], _, h, _ => by cases h
  | [], _ :: _, [], _, h => by cases h
  | [], _ :: _, _ :: _, _, _ => rfl
  | _ :: _, [], _, h, _ => by cases h
  | _ :: _, _ :: _, [], _, h => by cases h
  | a :: x, b :: y, c :: z, h, k => by
    rw [lex] at h k ⊢
    by_cases e : a = b
    · subst e
      rw [if_pos rfl] at h
      by_cases f : a = c
      · subst f
        rw [if_pos rfl] at k ⊢
        exact lex_trans ha ht x y z h k
      · rw [if_neg f] at k ⊢
        exact k
    · rw [if_neg e] at h
      by_cases f : b = c
      · subst f
        rw [if_neg e]; exact h
      · rw [if_neg f] at k
        have := ht a b c h k
        by_cases g : a = c
        · subst g
          rw [ha a b h] at k; cases k
        · rw [if_neg g]; exact this
/-- What comes between a list and what goes on from it goes on from it. -/
theorem lex_between (ha : ∀ a b, lt a b = true → lt b a = false) : ∀ x y z : List α, lex lt x y = true → lex lt y (x ++ z) = true → ∃ u, u ≠ [] ∧ y = x ++ u
  | [], [], _, h, _ => by cases h
  | [], b :: y, _, _, _ => ⟨b :: y, by simp, rfl⟩
  | _ :: _, [], _, h, _ => by cases h
  | a :: x, b :: y, z, h, k => by
    rw [List.cons_append, lex] at k
    rw [lex] at h
    by_cases e : a = b
    · subst e
      rw [if_pos rfl] at h k
      obtain ⟨u, hu, e⟩ := lex_between ha x y z h k
      exact ⟨u, hu, by rw [e]; rfl⟩
    · rw [if_neg e] at h
      rw [if_neg (Ne.symm e)] at k
      rw [ha a b h] at k; cases k
theorem lex_more : ∀ (x z : List α), z ≠ [] → lex lt x (x ++ z) = true
  | [], [], h => absurd rfl h
  | [], _ :: _, _ => rfl
  | a :: x, z, h => by rw [List.cons_append, lex, if_pos rfl]; exact lex_more x z h
/-- How many they have in common from the front. -/
def com : List α → List α → Nat
  | a :: x, b :: y => if a = b then com x y + 1 else 0
  | _, _ => 0
theorem com_le : ∀ x y : List α, com x y ≤ x.length ∧ com x y ≤ y.length
  | [], _ => by simp [com]
  | _ :: _, [] => by simp [com]
  | a :: x, b :: y => by
    rw [com]
    have := com_le x y
    split
    · simp only [List.length_cons]; omega
    · simp
theorem com_all : ∀ x y : List α, com x y = y.length ↔ y <+: x
  | [], [] => by simp [com]
  | [], _ :: _ => by simp [com]
  | _ :: _, [] => by simp [com]
  | a :: x, b :: y => by
    rw [com, List.cons_prefix_cons, ← com_all x y]
    by_cases e : a = b
    · subst e; simp
    · rw [if_neg e]; simp [Ne.symm e]
theorem com_step : ∀ (x y : List α) (k : Nat), k ≤ com x y → (k < com x y ↔ ∃ a, x[k]? = some a ∧ y[k]? = some a)
  | [], y, k, h => by simp [com] at h ⊢
  | _ :: _, [], k, h => by simp [com] at h ⊢
  | a :: x, b :: y, k, h => by
    rw [com] at h ⊢
    by_cases e : a = b
    · subst e
      rw [if_pos rfl] at h ⊢
      cases k with
      | zero => simp
      | succ k => simp only [List.getElem?_cons_succ]; rw [← com_step x y k (by omega)]; omega
    · rw [if_neg e] at h ⊢
      have : k = 0 := by omega
      subst this
      simp
      exact fun h => e h.symm
theorem lex_com : ∀ x y : List α, lex lt x y = if com x y = y.length then false else if com x y = x.length then true else match x[com x y]?, y[com x y]? with | some a, some b => lt a b | _, _ => false
  | [], [] => by simp [com, lex]
  | [], _ :: _ => by simp [com, lex]
  | _ :: _, [] => by simp [com, lex]
  | a :: x, b :: y => by
    rw [lex, com]
    by_cases e : a = b
    · subst e
      rw [if_pos rfl, if_pos rfl, lex_com x y]
      simp
    · rw [if_neg e, if_neg e]; simp
end

theorem ltB_asym (a b : B) (h : ltB a b = true) : ltB b a = false := lex_asym (fun a b h => by simp only [decide_eq_true_eq, decide_eq_false_iff_not] at *; exact fun k => absurd (UInt8.lt_trans h k) (UInt8.lt_irrefl _)) a b h
theorem ltB_tri (a b : B) (h : a ≠ b) : (ltB a b || ltB b a) = true := lex_tri (fun a b h => by
  simp only [Bool.or_eq_true, decide_eq_true_eq]
  exact UInt8.lt_or_lt_of_ne h) a b h
theorem ltB_trans (a b c : B) (h : ltB a b = true) (k : ltB b c = true) : ltB a c = true := lex_trans (fun a b h => by simp only [decide_eq_true_eq, decide_eq_false_iff_not] at *; exact fun k => absurd (UInt8.lt_trans h k) (UInt8.lt_irrefl _)) (fun a b c h k => by simp only [decide_eq_true_eq] at *; exact UInt8.lt_trans h k) a b c h k
theorem ltP_asym (a b : List B) (h : ltP a b = true) : ltP b a = false := lex_asym ltB_asym a b h
theorem ltP_tri (a b : List B) (h : a ≠ b) : (ltP a b || ltP b a) = true := lex_tri ltB_tri a b h
theorem ltP_trans (a b c : List B) (h : ltP a b = true) (k : ltP b c = true) : ltP a c = true := lex_trans ltB_asym ltB_trans a b c h k
theorem bytesLess_ltB : ∀ a b : B, Op.bytesLess a b = ltB a b
  | [], [] => rfl
  | _ :: _, [] => rfl
  | [], _ :: _ => rfl
  | x :: a, y :: b => by
    rw [Op.bytesLess, bytesLess_ltB a b]
    unfold ltB
    rw [lex]
    by_cases e : x = y
    · subst e; simp [UInt8.lt_irrefl]
    · rw [if_neg e]; simp [e]

theorem cut_inj {a b : B} (h : cut a = cut b) : a = b := by rw [← glue_cut a, h, glue_cut]
theorem less_irr (a : B) : less a a = false := by
  unfold less
  simp only [bne_self_eq_false, Bool.false_eq_true, if_false]
  split
  · exact lex_irr _
  · exact lex_irr _
theorem less_asym (a b : B) (h : less a b = true) : less b a = false := by
  unfold less at *
  cases ha : valid a <;> cases hb : valid b <;> simp only [ha, hb] at h ⊢ <;> first | exact ltB_asym _ _ h | exact ltP_asym _ _ h | rfl | (cases h)
theorem less_tri (a b : B) (h : a ≠ b) : (less a b || less b a) = true := by
  unfold less
  cases valid a <;> cases valid b <;> first | exact ltB_tri _ _ h | exact ltP_tri _ _ (fun e => h (cut_inj e)) | rfl
theorem less_either (a b : B) : (less a b || less b a) = (a != b) := by
  by_cases e : a = b
  · subst e; simp [less_irr]
  · rw [less_tri a b e]; simp [e]
theorem less_trans (a b c : B) (h : less a b = true) (k : less b c = true) : less a c = true := by
  unfold less at *
  cases ha : valid a <;> cases hb : valid b <;> cases hc : valid c <;> simp only [ha, hb, hc] at h k ⊢ <;> first | exact ltB_trans _ _ _ h k | exact ltP_trans _ _ _ h k | rfl | (cases h; done) | (cases k; done) | simp_all

theorem valid_app {a b : B} (h : valid (a ++ 47 :: b) = true) : valid a = true ∧ valid b = true := by
  have h1 := valid_len h
  have h2 := valid_parts h
  rw [cut_app] at h2
  simp only [List.length_append, List.length_cons] at h1
  unfold valid
  simp only [Bool.and_eq_true, decide_eq_true_eq]
  exact ⟨⟨by omega, List.all_eq_true.2 fun p hp => h2 p (by simp [hp])⟩, ⟨by omega, List.all_eq_true.2 fun p hp => h2 p (by simp [hp])⟩⟩
theorem join_some {a n : B} (ha : a ≠ []) (h : join a n ≠ []) : join a n = a ++ 47 :: n ∧ valid (a ++ 47 :: n) = true := by
  unfold join joined at *
  rw [if_neg ha] at *
  by_cases hv : valid (a ++ 47 :: n) = true
  · rw [if_pos hv]; exact ⟨rfl, hv⟩
  · rw [if_neg hv] at h; exact absurd rfl h
theorem under_short (a c : B) (hc : c ≠ []) (h : a.length ≤ c.length) : under a c = false := by
  unfold under
  have : (c ++ [47]).isPrefixOf a = false := by
    cases e : (c ++ [47]).isPrefixOf a with
    | false => rfl
    | true =>
      have := (List.isPrefixOf_iff_prefix.1 e).length_le
      simp at this; omega
  rw [this]
  have : (c == ([] : B)) = false := by simpa using hc
  simp [this]
theorem trees (a b n : B) (ha : a ≠ []) (h : join a n ≠ []) : under (join a n) a = true ∧ under a (join a n) = false ∧ less a (join a n) = true ∧ under (join a n) (join a n) = false ∧ (valid b = true → less a b = true → less b (join a n) = true → under b a = true) := by
  obtain ⟨e, hv⟩ := join_some ha h
  obtain ⟨va, vn⟩ := valid_app hv
  rw [e] at h ⊢
  refine ⟨?_, under_short _ _ h (by simp), ?_, under_short _ _ h (Nat.le_refl _), fun hb h1 h2 => ?_⟩
  · unfold under
    have : (a ++ [47]).isPrefixOf (a ++ 47 :: n) = true := List.isPrefixOf_iff_prefix.2 ⟨n, by simp⟩
    rw [hv, va, this]; simp
  · unfold less
    rw [hv, va, cut_app]
    exact lex_more _ _ (cut_ne n)
  · unfold less at h1 h2
    rw [va, hb] at h1
    rw [hv, hb, cut_app] at h2
    obtain ⟨u, hu, e⟩ := lex_between ltB_asym (cut a) (cut b) (cut n) h1 h2
    have e2 : b = a ++ 47 :: glue u := by rw [← glue_cut b, e, glue_app _ _ (cut_ne a) hu, glue_cut]
    unfold under
    have : (a ++ [47]).isPrefixOf b = true := List.isPrefixOf_iff_prefix.2 ⟨glue u, by rw [e2]; simp⟩
    rw [hb, va, this]; simp

/-- Under, as the parts say it. -/
theorem under_parts (s d : B) (hd : d ≠ []) : under s d = (decide (0 < (parts d).length) && decide ((parts d).length < (parts s).length) && (com (parts s) (parts d) == (parts d).length)) := by
  unfold under parts
  have h0 : (d == ([] : B)) = false := by simpa using hd
  rw [h0]
  cases vd : valid d with
  | false => simp
  | true =>
    cases vs : valid s with
    | false => simp
    | true =>
      simp only [if_true, Bool.true_and, Bool.false_or]
      have l0 : 0 < (cut d).length := List.length_pos_iff.2 (cut_ne d)
      rw [decide_eq_true l0, Bool.true_and, Bool.eq_iff_iff]
      simp only [Bool.and_eq_true, decide_eq_true_eq, beq_iff_eq, com_all]
      rw [List.isPrefixOf_iff_prefix]
      constructor
      · rintro ⟨t, rfl⟩
        rw [show d ++ [47] ++ t = d ++ 47 :: t by simp, cut_app]
        exact ⟨by simpa using List.length_pos_iff.2 (cut_ne t), ⟨cut t, rfl⟩⟩
      · rintro ⟨h1, ⟨t, e⟩⟩
        have ht : t ≠ [] := fun h => by rw [h, List.append_nil] at e; rw [e] at h1; omega
        refine ⟨glue t, ?_⟩
        have := glue_cut s
        rw [← e, glue_app _ _ (cut_ne d) ht, glue_cut] at this
        rw [← this]; simp
theorem under_root (s : B) : under s [] = valid s := by simp [under]

/-- What stands above, and the name. -/
theorem parent_app {a b : B} (h : valid (a ++ 47 :: b) = true) (hb : (47 : UInt8) ∉ b) : parent (a ++ 47 :: b) = a ∧ name (a ++ 47 :: b) = b := by
  unfold parent name
  rw [if_pos h, if_pos h, cut_app, cut_one b hb]
  simp [glue_cut]
theorem parent_one {l : B} (h : valid l = true) (hl : (47 : UInt8) ∉ l) : parent l = [] ∧ name l = l := by
  unfold parent name
  rw [if_pos h, if_pos h, cut_one l hl]
  simp [glue]
theorem join_back {l : B} (h : valid l = true) : join (parent l) (name l) = l := by
  unfold parent name
  rw [if_pos h, if_pos h]
  have e := List.dropLast_concat_getLast (cut_ne l)
  have hg := glue_cut l
  have hn : (cut l).getLastD [] = (cut l).getLast (cut_ne l) := by rw [List.getLastD_eq_getLast?, List.getLast?_eq_some_getLast (cut_ne l)]; rfl
  rw [hn]
  generalize hx : (cut l).getLast (cut_ne l) = p at *
  generalize hy : (cut l).dropLast = q at *
  have hok := valid_parts h
  have : joined (glue q) p = l := by
    unfold joined
    cases q with
    | nil =>
      rw [if_pos (show glue [] = [] from rfl), ← hg, ← e]; rfl
    | cons a r =>
      have : glue (a :: r) ≠ [] := by
        have ha := (okPart_len a (hok a (by rw [← e]; simp))).1
        cases r with
        | nil => intro h0; simp [glue] at h0; subst h0; simp at ha
        | cons b r => rw [glue_cons a _ (by simp)]; simp
      rw [if_neg this, ← hg, ← e, glue_app _ _ (by simp) (by simp)]; rfl
  unfold join
  rw [this, if_pos h]
theorem glue_len_take (ps : List B) (k : Nat) : (glue (ps.take k)).length ≤ (glue ps).length := by
  induction ps generalizing k with
  | nil => simp
  | cons p r ih =>
    cases k with
    | zero => simp [glue]
    | succ k =>
      rw [List.take_succ_cons]
      by_cases hr : r = []
      · subst hr; simp
      · rw [glue_cons p r hr]
        by_cases hk : r.take k = []
        · rw [hk]; simp [glue]
        · rw [glue_cons p _ hk]
          have := ih k
          simp only [List.length_append, List.length_cons]; omega
/-- The parts put together one by one. -/
theorem join_step {l : B} (h : valid l = true) (k : Nat) (hk : k < (cut l).length) : join (glue ((cut l).take k)) ((cut l)[k]?.getD []) = glue ((cut l).take (k + 1)) := by
  have hok := valid_parts h
  have e : (cut l).take (k + 1) = (cut l).take k ++ [(cut l)[k]?.getD []] := by
    rw [List.take_succ_eq_append_getElem hk, List.getElem?_eq_getElem hk]; rfl
  have hv : valid (glue ((cut l).take (k + 1))) = true := by
    unfold valid
    simp only [Bool.and_eq_true, decide_eq_true_eq]
    refine ⟨?_, ?_⟩
    · have := glue_len_take (cut l) (k + 1)
      rw [glue_cut] at this
      have := valid_len h
      omega
    · rw [cut_glue _ (by rw [e]; simp) fun p hp => okByte_slash p (hok p (List.mem_of_mem_take hp))]
      exact List.all_eq_true.2 fun p hp => hok p (List.mem_of_mem_take hp)
  have hj : joined (glue ((cut l).take k)) ((cut l)[k]?.getD []) = glue ((cut l).take (k + 1)) := by
    unfold joined
    rw [e]
    cases hq : (cut l).take k with
    | nil => rfl
    | cons a r =>
      have ha := (okPart_len a (hok a (List.mem_of_mem_take (i := k) (by rw [hq]; simp)))).1
      have : glue (a :: r) ≠ [] := by
        cases r with
        | nil => intro h0; simp [glue] at h0; subst h0; simp at ha
        | cons b r => rw [glue_cons a _ (by simp)]; simp
      rw [if_neg this, glue_app _ _ (by simp) (by simp)]; rfl
  unfold join
  rw [hj, if_pos hv]

/-- So many parts of so many bytes. -/
def rep (n p : Nat) : B := glue (List.replicate p (List.replicate n 120))
theorem rep_succ (n p : Nat) : rep n (p + 1) = if p = 0 then List.replicate n 120 else rep n p ++ 47 :: List.replicate n 120 := by
  unfold rep
  split
  · rename_i h; subst h; rfl
  · rename_i h
    rw [List.replicate_succ', glue_app _ _ (by simp [h]) (by simp)]; rfl
theorem rep_len (n p : Nat) : (rep n (p + 1)).length = (p + 1) * (n + 1) - 1 := by
  induction p with
  | zero => rw [rep_succ, if_pos rfl]; simp
  | succ p ih =>
    rw [rep_succ, if_neg (by omega), List.length_append, ih]
    have : (p + 1 + 1) * (n + 1) = (p + 1) * (n + 1) + (n + 1) := Nat.succ_mul _ _
    have h2 : 1 ≤ (p + 1) * (n + 1) := Nat.mul_pos (by omega) (by omega)
    simp only [List.length_cons, List.length_replicate]; omega
theorem x_no (n : Nat) : (47 : UInt8) ∉ List.replicate n (120 : UInt8) := by
  intro h
  have := (List.mem_replicate.1 h).2
  exact absurd this (by decide)
theorem okPart_x (n : Nat) (h : 1 ≤ n) : okPart (List.replicate n 120) = decide (n ≤ 20) := by
  unfold okPart
  have h1 : (List.replicate n (120 : UInt8)).all okByte = true := by
    rw [List.all_eq_true]
    intro b hb
    rw [(List.mem_replicate.1 hb).2]; decide
  have h2 : (List.replicate n (120 : UInt8) == [46]) = false := by
    cases n with
    | zero => omega
    | succ n => rw [List.replicate_succ]; simp
  have h3 : (List.replicate n (120 : UInt8) == [46, 46]) = false := by
    cases n with
    | zero => omega
    | succ n => rw [List.replicate_succ]; simp
  rw [h1, h2, h3]
  simp; omega
theorem rep_valid (n p : Nat) (hn : 1 ≤ n) (hp : 1 ≤ p) : valid (rep n p) = (decide (n ≤ 20) && decide (p * (n + 1) - 1 ≤ 60)) := by
  obtain ⟨q, rfl⟩ : ∃ q, p = q + 1 := ⟨p - 1, by omega⟩
  unfold valid
  rw [rep_len]
  have : cut (rep n (q + 1)) = List.replicate (q + 1) (List.replicate n 120) := cut_glue _ (by simp) fun x hx => by
    rw [(List.mem_replicate.1 hx).2]; exact x_no n
  rw [this, List.all_replicate, okPart_x n hn]
  simp [Bool.and_comm]
theorem valid_end (l : B) : valid (l ++ [47]) = false := by
  unfold valid
  rw [show l ++ [47] = l ++ 47 :: [] from rfl, cut_app]
  simp [cut, okPart]
theorem valid_front (l : B) : valid (47 :: l) = false := by
  unfold valid
  rw [cut_slash]
  simp [okPart]
theorem valid_byte (c : UInt8) : valid [c] = (okByte c && c.toNat != 46) := by
  by_cases h : c = 47
  · subst h; decide
  · unfold valid
    rw [cut_one [c] (by simpa using Ne.symm h)]
    by_cases h2 : c = 46
    · subst h2; decide
    · have : (c.toNat != 46) = true := by
        simp only [bne_iff_ne]
        exact fun e => h2 (UInt8.toNat_inj.1 (by simpa using e))
      rw [this]
      simp [okPart, h2]
theorem valid_mid (c : UInt8) : valid [97, c, 98] = (okByte c || c.toNat == 47) := by
  by_cases h : c = 47
  · subst h; decide
  · have h47 : (c.toNat == 47) = false := by
      simp only [beq_eq_false_iff_ne]
      exact fun e => h (UInt8.toNat_inj.1 (by simpa using e))
    unfold valid
    rw [cut_one [97, c, 98] (by simp; exact Ne.symm h), h47]
    have a : okByte 97 = true := by decide
    have b : okByte 98 = true := by decide
    simp [okPart, a, b]
end Go.Pth
