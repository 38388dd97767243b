/- Contract of Rename. A move of a directory in a store of four names: no model. Names as a tree: what stands under a name stands directly behind it; what is made, taken away and moved keeps them a tree. No conditions but those named: definitions and lemmas. Rename, whatever it answers, where the names are a tree. Acts on names, one behind the other: what they leave. No conditions but those named: definitions and lemmas. Contract of apply: acts one behind the other. SyncDir and held, whatever acts are not safe. -/
import Derived.Test.YtnhokjnmpdiokaaGreatDoorVLM
import Derived.Test.YtnhokjnmpdiokaaGreatDoorVFM
import Derived.Test.YtnhokjnmpdiokaaGreatDoorVDM
import Derived.Test.YtnhokjnmpdiokaaGreatDoorVKM
import Derived.Test.YtnhokjnmpdiokaaGreatDoorVHM
set_option linter.unusedSimpArgs false
namespace Go.Proofs.YtnhokjnmpdiokaaGreatDoor.V
open Go.RowKit Go.Pth

def mvOk (l : List Nm) (f t : B) : Bool := (mvd (rung l f) f t).all fun e => valid e.1
def RenPost (w : World) (b : Nat) (S T : SV) (V : SW) (L : Nat → Option Role) (c : Int) (e : Ending) (w' : World) : Prop :=
  e = .returned (.int .i64 c) ∧ (c ≠ 0 → Rep w' b S.beg V L ∧ StTo w w' L L) ∧ (c = 0 → ∃ V' L', Rep w' b T V' L' ∧ StTo w w' L L')
theorem RenPost.err {w : World} {b : Nat} {S T : SV} {V : SW} {L : Nat → Option Role} {c : Int} {w' : World} (hc : c ≠ 0) (h : Rep w' b S.beg V L) (t : StTo w w' L L) : RenPost w b S T V L c (.returned (.int .i64 c)) w' := ⟨rfl, fun _ => ⟨h, t⟩, fun h => absurd h hc⟩
end Go.Proofs.YtnhokjnmpdiokaaGreatDoor.V

set_option linter.unusedSimpArgs false
namespace Go.Proofs.YtnhokjnmpdiokaaGreatDoor.V
open Go.RowKit Go.Pth

def nD : B := [100]
def nE : B := [100, 47, 101]
def nF : B := [100, 47, 101, 47, 102]
def nX : B := [120]
def n4 (a e f x : Nat) : List Nm := [(nD, a), (nE, e), (nF, f), (nX, x)]
theorem alone {t : B} (h : valid t = true) (hp : parent t = []) : (47 : UInt8) ∉ t := by
  intro hm
  unfold parent at hp
  rw [if_pos h] at hp
  obtain ⟨p, r, hc⟩ := cut_cons t
  cases r with
  | nil =>
    have := cut_mem t p (by rw [hc]; simp)
    have ht := glue_cut t
    rw [hc] at ht
    have ht : p = t := by simpa [glue] using ht
    rw [ht] at this
    exact this hm
  | cons q r =>
    have hpp := valid_parts h p (by rw [hc]; simp)
    have := (okPart_len p hpp).1
    rw [hc, List.dropLast_cons_cons] at hp
    have hl : (glue (p :: (q :: r).dropLast)).length = 0 := by rw [hp]; rfl
    cases hd : (q :: r).dropLast with
    | nil => rw [hd] at hl; simp [glue] at hl; rw [hl] at this; simp at this
    | cons y z => rw [hd, glue_cons _ _ (by simp)] at hl; simp at hl
theorem up_app {t : B} (h : valid t = true) (hp : parent t ≠ []) : ∃ n, t = parent t ++ 47 :: n := by
  have hj := join_back h
  have hn : join (parent t) (name t) ≠ [] := by rw [hj]; exact valid_ne h
  obtain ⟨h1, _⟩ := join_some hp hn
  exact ⟨name t, by rw [← h1, hj]⟩
end Go.Proofs.YtnhokjnmpdiokaaGreatDoor.V

set_option linter.unusedSimpArgs false
set_option linter.unusedVariables false
namespace Go.Proofs.YtnhokjnmpdiokaaGreatDoor.V
open Go.RowKit Go.Pth

theorem lex_app {α : Type} [DecidableEq α] {lt : α → α → Bool} : ∀ (x a b : List α), lex lt (x ++ a) (x ++ b) = lex lt a b
  | [], _, _ => rfl
  | c :: x, a, b => by rw [List.cons_append, List.cons_append, lex, if_pos rfl]; exact lex_app x a b
theorem less_cut {a b : B} (ha : valid a = true) (hb : valid b = true) : less a b = ltP (cut a) (cut b) := by
  unfold less
  rw [ha, hb]
  rfl
theorem runF_iff {p : B} {e : Nm} (hp : valid p = true) (he : valid e.1 = true) : runF p e = true ↔ ∃ z, cut e.1 = cut p ++ z := by
  unfold runF
  rw [under_parts _ _ (valid_ne hp)]
  unfold parts
  rw [hp, he]
  simp only [if_true, Bool.or_eq_true, Bool.and_eq_true, decide_eq_true_eq, beq_iff_eq, com_all]
  constructor
  · rintro (h | ⟨_, z, h⟩)
    · exact ⟨[], by rw [h, List.append_nil]⟩
    · exact ⟨z, h.symm⟩
  · rintro ⟨z, h⟩
    by_cases hz : z = []
    · left
      subst hz
      rw [List.append_nil] at h
      exact cut_inj h
    · right
      have l0 : 0 < (cut p).length := List.length_pos_iff.2 (cut_ne p)
      refine ⟨⟨l0, ?_⟩, ⟨z, h.symm⟩⟩
      rw [h, List.length_append]
      have := List.length_pos_iff.2 hz
      omega
structure Tree (l : List Nm) : Prop where
  srt : Srt l
  val : ∀ x ∈ l, valid x.1 = true
  up : ∀ x ∈ l, parent x.1 = [] ∨ ∃ y ∈ l, y.1 = parent x.1
theorem Tree.nil : Tree [] := ⟨List.Pairwise.nil, fun x hx => by simp at hx, fun x hx => by simp at hx⟩

theorem filter_while {α : Type} (f : α → Bool) : ∀ (d : List α), d.Pairwise (fun a b => f a = false → f b = false) → d.filter f = d.takeWhile f ∧ d.filter (fun x => !f x) = d.drop (d.takeWhile f).length
  | [], _ => ⟨rfl, rfl⟩
  | x :: r, h => by
    rw [List.pairwise_cons] at h
    have ih := filter_while f r h.2
    cases hx : f x with
    | true =>
      rw [List.filter_cons, List.filter_cons, List.takeWhile_cons]
      simp only [hx, if_true, Bool.not_true, Bool.false_eq_true, if_false, List.length_cons, List.drop_succ_cons]
      exact ⟨by rw [ih.1], ih.2⟩
    | false =>
      have hr : ∀ y ∈ r, f y = false := fun y hy => h.1 y hy hx
      have e1 : r.filter f = [] := List.filter_eq_nil_iff.2 fun y hy => by rw [hr y hy]; simp
      have e2 : r.filter (fun x => !f x) = r := List.filter_eq_self.2 fun y hy => by rw [hr y hy]; rfl
      rw [List.filter_cons, List.filter_cons, List.takeWhile_cons]
      simp only [hx, Bool.false_eq_true, if_false, Bool.not_false, if_true, List.length_nil, List.drop_zero]
      exact ⟨e1, by rw [e2]⟩
theorem run_place {l : List Nm} {p : B} (hs : Srt l) (hv : ∀ x ∈ l, valid x.1 = true) (hp : valid p = true) : rung l p = l.filter (runF p) ∧ rest l p = l.filter (fun x => !runF p x) := by
  have hd : l.take (place l p) ++ l.drop (place l p) = l := List.take_append_drop _ _
  have below : ∀ x ∈ l.take (place l p), runF p x = false := by
    intro x hx
    have hxl := List.mem_of_mem_take hx
    obtain ⟨j, hj, rfl⟩ := List.mem_iff_getElem.1 hx
    rw [List.getElem_take] at hxl ⊢
    rw [List.length_take] at hj
    have hb := place_before l p j (by omega) (by omega)
    cases hr : runF p l[j] with
    | false => rfl
    | true =>
      obtain ⟨z, hz⟩ := (runF_iff hp (hv _ hxl)).1 hr
      rw [less_cut (hv _ hxl) hp, hz] at hb
      by_cases h0 : z = []
      · subst h0
        rw [List.append_nil] at hb
        have := lex_irr (lt := ltB) (cut p)
        unfold ltP at hb
        rw [this] at hb
        cases hb
      · have h1 : ltP (cut p) (cut p ++ z) = true := lex_more _ _ h0
        rw [ltP_asym _ _ h1] at hb
        cases hb
  have pw : (l.drop (place l p)).Pairwise (fun a b => runF p a = false → runF p b = false) := by
    rw [List.pairwise_iff_getElem]
    intro i j hi hj hij hn
    rw [List.length_drop] at hi hj
    rw [List.getElem_drop] at hn ⊢
    have hvi := hv _ (List.getElem_mem (show place l p + i < l.length by omega))
    have hvj := hv _ (List.getElem_mem (show place l p + j < l.length by omega))
    cases hr : runF p l[place l p + j] with
    | false => rfl
    | true =>
      obtain ⟨z, hz⟩ := (runF_iff hp hvj).1 hr
      have h1 := place_after l p hs (place l p + i) (by omega) (by omega)
      have hne : l[place l p + i].1 ≠ p := fun e => by
        have : runF p l[place l p + i] = true := by simp [runF, e]
        rw [this] at hn; cases hn
      have h2 := less_tri _ _ hne
      rw [h1, Bool.false_or] at h2
      have h3 := (List.pairwise_iff_getElem.1 hs) (place l p + i) (place l p + j) (by omega) (by omega) (by omega)
      rw [less_cut hp hvi] at h2
      rw [less_cut hvi hvj, hz] at h3
      obtain ⟨u, _, hu⟩ := lex_between ltB_asym (cut p) (cut l[place l p + i].1) z h2 h3
      rw [(runF_iff hp hvi).2 ⟨u, hu⟩] at hn
      cases hn
  obtain ⟨f1, f2⟩ := filter_while (runF p) _ pw
  have e1 : (l.take (place l p)).filter (runF p) = [] := List.filter_eq_nil_iff.2 fun x hx => by rw [below x hx]; simp
  have e2 : (l.take (place l p)).filter (fun x => !runF p x) = l.take (place l p) := List.filter_eq_self.2 fun x hx => by rw [below x hx]; rfl
  constructor
  · have : l.filter (runF p) = (l.take (place l p) ++ l.drop (place l p)).filter (runF p) := by rw [hd]
    rw [this, List.filter_append, e1, f1]
    rfl
  · have : l.filter (fun x => !runF p x) = (l.take (place l p) ++ l.drop (place l p)).filter (fun x => !runF p x) := by rw [hd]
    rw [this, List.filter_append, e2, f2, List.drop_drop]
    rfl
theorem Tree.rung_mem {l : List Nm} {p : B} (h : Tree l) (hp : valid p = true) {x : Nm} : x ∈ rung l p ↔ x ∈ l ∧ runF p x = true := by
  rw [(run_place h.srt h.val hp).1, List.mem_filter]
theorem Tree.rest_mem {l : List Nm} {p : B} (h : Tree l) (hp : valid p = true) {x : Nm} : x ∈ rest l p ↔ x ∈ l ∧ runF p x = false := by
  rw [(run_place h.srt h.val hp).2, List.mem_filter]
  simp
theorem Srt.sub {l m : List Nm} (h : Srt l) (hs : m.Sublist l) : Srt m := List.Pairwise.sublist hs h
theorem Tree.rest_srt {l : List Nm} (h : Tree l) (p : B) : Srt (rest l p) := h.srt.sub (rest_sub l p)
theorem Tree.rung_srt {l : List Nm} {p : B} (h : Tree l) (hp : valid p = true) : Srt (rung l p) := by
  rw [(run_place h.srt h.val hp).1]
  exact h.srt.sub List.filter_sublist

theorem up_cut {x : B} (hv : valid x = true) : parent x = [] ∨ ∃ u, u ≠ [] ∧ cut x = cut (parent x) ++ u := by
  by_cases h : parent x = []
  · exact Or.inl h
  · obtain ⟨n, hn⟩ := up_app hv h
    exact Or.inr ⟨cut n, cut_ne n, by rw [← cut_app, ← hn]⟩
theorem parent_cut {x : B} {ps z : List B} (hv : valid x = true) (h : cut x = ps ++ z) (hz : z ≠ []) (hp : ps ≠ []) : cut (parent x) = ps ++ z.dropLast := by
  unfold parent
  rw [if_pos hv, h, List.dropLast_append_of_ne_nil hz]
  refine cut_glue _ (by simp [hp]) fun p hpm => ?_
  refine cut_mem x p ?_
  rw [h]
  rcases List.mem_append.1 hpm with hm | hm
  · exact List.mem_append.2 (Or.inl hm)
  · exact List.mem_append.2 (Or.inr ((List.dropLast_sublist z).mem hm))
theorem cut_valid_ne {t : B} (h : valid t = true) (z : List B) : cut t ++ z ≠ cut [] := by
  intro e
  have hl := congrArg List.length e
  have h1 : (cut ([] : B)).length = 1 := rfl
  rw [List.length_append, h1] at hl
  have l0 : 0 < (cut t).length := List.length_pos_iff.2 (cut_ne t)
  have hz : z = [] := List.length_eq_zero_iff.1 (by omega)
  subst hz
  rw [List.append_nil] at e
  exact valid_ne h (cut_inj e)
theorem Tree.none_under {l : List Nm} (h : Tree l) {t : B} (ht : valid t = true) (hn : ∀ x ∈ l, x.1 ≠ t) : ∀ x ∈ l, runF t x = false := by
  have key : ∀ (n : Nat) (x : Nm), x ∈ l → ∀ z : List B, z.length = n → cut x.1 = cut t ++ z → False := by
    intro n
    induction n with
    | zero =>
      intro x hx z hz hc
      have : z = [] := List.length_eq_zero_iff.1 hz
      subst this
      rw [List.append_nil] at hc
      exact hn x hx (cut_inj hc)
    | succ n ih =>
      intro x hx z hz hc
      have hzn : z ≠ [] := fun e => by rw [e] at hz; simp at hz
      have hp := parent_cut (h.val x hx) hc hzn (cut_ne t)
      rcases h.up x hx with he | ⟨y, hy, he⟩
      · rw [he] at hp
        exact cut_valid_ne ht _ hp.symm
      · rw [← he] at hp
        exact ih y hy z.dropLast (by rw [List.length_dropLast]; omega) hp
  intro x hx
  cases hr : runF t x with
  | false => rfl
  | true =>
    obtain ⟨z, hz⟩ := (runF_iff ht (h.val x hx)).1 hr
    exact (key _ x hx z rfl hz).elim

theorem mv_cut {f t e : B} {z : List B} (h : cut e = cut f ++ z) : cut (t ++ e.drop f.length) = cut t ++ z := by
  by_cases hz : z = []
  · subst hz
    rw [List.append_nil] at h ⊢
    have := cut_inj h
    subst this
    rw [List.drop_length, List.append_nil]
  · have he : e = f ++ 47 :: glue z := by rw [← glue_cut e, h, glue_app _ _ (cut_ne f) hz, glue_cut]
    have hz2 : cut (glue z) = z := cut_glue z hz fun p hp => cut_mem e p (by rw [h]; exact List.mem_append.2 (Or.inr hp))
    rw [he, List.drop_left, cut_app, hz2]
theorem mv_long {f e : B} {z : List B} (h : cut e = cut f ++ z) : f.length ≤ e.length := by
  by_cases hz : z = []
  · subst hz
    rw [List.append_nil] at h
    rw [cut_inj h]
    exact Nat.le_refl _
  · have he : e = f ++ 47 :: glue z := by rw [← glue_cut e, h, glue_app _ _ (cut_ne f) hz, glue_cut]
    rw [he, List.length_append]
    omega
theorem mvd_mem {R : List Nm} {f t : B} {m : Nm} : m ∈ mvd R f t ↔ ∃ e ∈ R, m = (t ++ e.1.drop f.length, e.2) := by
  unfold mvd
  rw [List.mem_map]
  exact ⟨fun ⟨e, h1, h2⟩ => ⟨e, h1, h2.symm⟩, fun ⟨e, h1, h2⟩ => ⟨e, h1, h2.symm⟩⟩
theorem mvd_srt {l : List Nm} {f t : B} (h : Tree l) (hf : valid f = true) (hok : ∀ m ∈ mvd (rung l f) f t, valid m.1 = true) : Srt (mvd (rung l f) f t) := by
  have hs := h.rung_srt hf
  unfold Srt mvd
  rw [List.pairwise_map]
  refine List.Pairwise.imp_of_mem ?_ hs
  intro a b ha hb hab
  have va := hok _ (mvd_mem.2 ⟨a, ha, rfl⟩)
  have vb := hok _ (mvd_mem.2 ⟨b, hb, rfl⟩)
  obtain ⟨ha1, ha2⟩ := (h.rung_mem hf).1 ha
  obtain ⟨hb1, hb2⟩ := (h.rung_mem hf).1 hb
  obtain ⟨za, hza⟩ := (runF_iff hf (h.val a ha1)).1 ha2
  obtain ⟨zb, hzb⟩ := (runF_iff hf (h.val b hb1)).1 hb2
  rw [less_cut (h.val a ha1) (h.val b hb1), hza, hzb] at hab
  rw [less_cut va vb, mv_cut hza, mv_cut hzb]
  unfold ltP at hab ⊢
  rw [lex_app] at hab ⊢
  exact hab
theorem mvd_cut {l : List Nm} {f t : B} (h : Tree l) (hf : valid f = true) {m : Nm} (hm : m ∈ mvd (rung l f) f t) : ∃ z, cut m.1 = cut t ++ z := by
  obtain ⟨e, he, rfl⟩ := mvd_mem.1 hm
  obtain ⟨h1, h2⟩ := (h.rung_mem hf).1 he
  obtain ⟨z, hz⟩ := (runF_iff hf (h.val e h1)).1 h2
  exact ⟨z, mv_cut hz⟩
theorem mvl_srt {l : List Nm} {f t : B} (h : Tree l) (hf : valid f = true) (ht : valid t = true) (hok : ∀ m ∈ mvd (rung l f) f t, valid m.1 = true) (hn : ∀ x ∈ l, x.1 ≠ t)
    (m0 : Nm) (M' : List Nm) (hM : mvd (rung l f) f t = m0 :: M') : Srt (mvl l f t (place (rest l f) m0.1)) := by
  have hsM := mvd_srt h hf hok
  have hun := h.none_under ht hn
  have hsQ := h.rest_srt f
  have hQl : ∀ x ∈ rest l f, x ∈ l := fun x hx => ((h.rest_mem hf).1 hx).1
  have hcM := fun m (hm : m ∈ mvd (rung l f) f t) => mvd_cut h hf hm
  have hk := place_le (rest l f) m0.1
  have m0M : m0 ∈ mvd (rung l f) f t := by rw [hM]; simp
  have first : ∀ m ∈ mvd (rung l f) f t, m = m0 ∨ less m0.1 m.1 = true := by
    intro m hm
    rw [hM] at hm hsM
    rcases List.mem_cons.1 hm with e | hm'
    · exact Or.inl e
    · exact Or.inr ((List.pairwise_cons.1 hsM).1 m hm')
  have hQd : (rest l f).take (place (rest l f) m0.1) ++ (rest l f).drop (place (rest l f) m0.1) = rest l f := List.take_append_drop _ _
  have hsQ2 : Srt ((rest l f).take (place (rest l f) m0.1) ++ (rest l f).drop (place (rest l f) m0.1)) := by rw [hQd]; exact hsQ
  unfold Srt at hsQ2
  rw [List.pairwise_append] at hsQ2
  have below : ∀ x ∈ (rest l f).take (place (rest l f) m0.1), ∀ m ∈ mvd (rung l f) f t, less x.1 m.1 = true := by
    intro x hx m hm
    obtain ⟨j, hj, rfl⟩ := List.mem_iff_getElem.1 hx
    rw [List.getElem_take]
    rw [List.length_take] at hj
    have hb := place_before (rest l f) m0.1 j (by omega) (by omega)
    rcases first m hm with e | e
    · rw [e]; exact hb
    · exact less_trans _ _ _ hb e
  have above : ∀ y ∈ (rest l f).drop (place (rest l f) m0.1), ∀ m ∈ mvd (rung l f) f t, less m.1 y.1 = true := by
    intro y hy m hm
    have hyl := hQl y (List.mem_of_mem_drop hy)
    have hyr := hun y hyl
    have ney : ∀ m ∈ mvd (rung l f) f t, m.1 ≠ y.1 := by
      intro m hm e
      obtain ⟨z, hz⟩ := hcM m hm
      rw [e] at hz
      rw [(runF_iff ht (h.val y hyl)).2 ⟨z, hz⟩] at hyr
      cases hyr
    obtain ⟨j, hj, rfl⟩ := List.mem_iff_getElem.1 hy
    rw [List.getElem_drop] at *
    rw [List.length_drop] at hj
    have h1 := place_after (rest l f) m0.1 hsQ (place (rest l f) m0.1 + j) (by omega) (by omega)
    have h2 := less_tri _ _ (ney m0 m0M)
    rw [h1, Bool.or_false] at h2
    have h3 := less_tri _ _ (ney m hm)
    cases hl : less m.1 (rest l f)[place (rest l f) m0.1 + j].1 with
    | true => rfl
    | false =>
      rw [hl, Bool.false_or] at h3
      obtain ⟨z0, hz0⟩ := hcM m0 m0M
      obtain ⟨z, hz⟩ := hcM m hm
      rw [less_cut (hok m0 m0M) (h.val _ hyl), hz0] at h2
      rw [less_cut (h.val _ hyl) (hok m hm), hz] at h3
      have h4 : ltP (cut t) (cut (rest l f)[place (rest l f) m0.1 + j].1) = true := by
        by_cases e0 : z0 = []
        · rw [e0, List.append_nil] at h2; exact h2
        · exact ltP_trans _ _ _ (lex_more _ _ e0) h2
      obtain ⟨u, _, hu⟩ := lex_between ltB_asym (cut t) _ z h4 h3
      rw [(runF_iff ht (h.val _ hyl)).2 ⟨u, hu⟩] at hyr
      cases hyr
  unfold Srt mvl
  rw [List.pairwise_append, List.pairwise_append]
  refine ⟨⟨hsQ2.1, hsM, fun x hx m hm => below x hx m hm⟩, hsQ2.2.1, fun x hx y hy => ?_⟩
  rcases List.mem_append.1 hx with hx | hx
  · exact hsQ2.2.2 x hx y hy
  · exact above y hy x hx
theorem mvl_mem {l : List Nm} {f t : B} {k : Nat} {x : Nm} : x ∈ mvl l f t k ↔ x ∈ rest l f ∨ x ∈ mvd (rung l f) f t := by
  unfold mvl
  rw [List.mem_append, List.mem_append]
  constructor
  · rintro ((h | h) | h)
    · exact Or.inl (List.mem_of_mem_take h)
    · exact Or.inr h
    · exact Or.inl (List.mem_of_mem_drop h)
  · rintro (h | h)
    · rw [← List.take_append_drop k (rest l f)] at h
      rcases List.mem_append.1 h with h | h
      · exact Or.inl (Or.inl h)
      · exact Or.inr h
    · exact Or.inl (Or.inr h)
theorem Tree.gone {l : List Nm} (h : Tree l) {f : B} (hf : valid f = true) : Tree (rest l f) := by
  refine ⟨h.rest_srt f, fun x hx => h.val x ((h.rest_mem hf).1 hx).1, fun x hx => ?_⟩
  obtain ⟨hxl, hxr⟩ := (h.rest_mem hf).1 hx
  rcases h.up x hxl with he | ⟨y, hy, he⟩
  · exact Or.inl he
  · refine Or.inr ⟨y, (h.rest_mem hf).2 ⟨hy, ?_⟩, he⟩
    cases hr : runF f y with
    | false => rfl
    | true =>
      obtain ⟨z, hz⟩ := (runF_iff hf (h.val y hy)).1 hr
      rcases up_cut (h.val x hxl) with e | ⟨u, _, hu⟩
      · have := h.val y hy
        rw [he, e, valid_nil] at this
        cases this
      · rw [← he, hz, List.append_assoc] at hu
        rw [(runF_iff hf (h.val x hxl)).2 ⟨_, hu⟩] at hxr
        cases hxr
theorem Tree.moved {l : List Nm} {f t : B} (h : Tree l) (hf : valid f = true) (ht : valid t = true) (hok : ∀ m ∈ mvd (rung l f) f t, valid m.1 = true) (hn : ∀ x ∈ l, x.1 ≠ t)
    (htf : runF f (t, 0) = false) (hup : parent t = [] ∨ ∃ y ∈ l, y.1 = parent t) (m0 : Nm) (M' : List Nm) (hM : mvd (rung l f) f t = m0 :: M') : Tree (mvl l f t (place (rest l f) m0.1)) := by
  have hr := h.gone hf
  refine ⟨mvl_srt h hf ht hok hn m0 M' hM, fun x hx => ?_, fun x hx => ?_⟩
  · rcases mvl_mem.1 hx with hx | hx
    · exact hr.val x hx
    · exact hok x hx
  · rcases mvl_mem.1 hx with hx | hx
    · rcases hr.up x hx with e | ⟨y, hy, e⟩
      · exact Or.inl e
      · exact Or.inr ⟨y, mvl_mem.2 (Or.inl hy), e⟩
    · have vx := hok x hx
      obtain ⟨e, he, rfl⟩ := mvd_mem.1 hx
      obtain ⟨hel, her⟩ := (h.rung_mem hf).1 he
      obtain ⟨z, hz⟩ := (runF_iff hf (h.val e hel)).1 her
      have hc := mv_cut (t := t) hz
      by_cases hz0 : z = []
      · subst hz0
        rw [List.append_nil] at hc
        have ex := cut_inj hc
        simp only at ex vx ⊢
        rw [ex]
        rcases hup with e | ⟨y, hy, e⟩
        · exact Or.inl e
        · refine Or.inr ⟨y, mvl_mem.2 (Or.inl ((h.rest_mem hf).2 ⟨hy, ?_⟩)), e⟩
          cases hr : runF f y with
          | false => rfl
          | true =>
            obtain ⟨z, hz⟩ := (runF_iff hf (h.val y hy)).1 hr
            rcases up_cut ht with e' | ⟨u, _, hu⟩
            · have := h.val y hy
              rw [e, e', valid_nil] at this
              cases this
            · rw [← e, hz, List.append_assoc] at hu
              rw [(runF_iff (e := (t, 0)) hf ht).2 ⟨_, hu⟩] at htf
              cases htf
      · have hpe := parent_cut (h.val e hel) hz hz0 (cut_ne f)
        have hpm := parent_cut vx hc hz0 (cut_ne t)
        right
        rcases h.up e hel with e' | ⟨y, hy, e'⟩
        · rw [e'] at hpe
          exact (cut_valid_ne hf _ hpe.symm).elim
        · rw [← e'] at hpe
          refine ⟨(t ++ y.1.drop f.length, y.2), mvl_mem.2 (Or.inr (mvd_mem.2 ⟨y, (h.rung_mem hf).2 ⟨hy, (runF_iff hf (h.val y hy)).2 ⟨_, hpe⟩⟩, rfl⟩)), ?_⟩
          refine cut_inj ?_
          rw [hpm]
          exact mv_cut hpe
theorem Tree.made {l : List Nm} {p : B} {a : Nat} (h : Tree l) (hp : valid p = true) (hn : look l p = none) (hup : parent p = [] ∨ ∃ y ∈ l, y.1 = parent p) : Tree (insN l p a) := by
  have hin : ∀ x ∈ l, x ∈ insN l p a := by
    intro x hx
    rw [← List.take_append_drop (place l p) l] at hx
    unfold insN
    rcases List.mem_append.1 hx with hx | hx
    · exact List.mem_append.2 (Or.inl (List.mem_append.2 (Or.inl hx)))
    · exact List.mem_append.2 (Or.inr hx)
  refine ⟨h.srt.ins hn, fun x hx => ?_, fun x hx => ?_⟩
  · rcases insN_mem hx with hx | hx
    · exact h.val x hx
    · rw [hx]; exact hp
  · rcases insN_mem hx with hx | hx
    · rcases h.up x hx with e | ⟨y, hy, e⟩
      · exact Or.inl e
      · exact Or.inr ⟨y, hin y hy, e⟩
    · rw [hx]
      rcases hup with e | ⟨y, hy, e⟩
      · exact Or.inl e
      · exact Or.inr ⟨y, hin y hy, e⟩
end Go.Proofs.YtnhokjnmpdiokaaGreatDoor.V

set_option linter.unusedSimpArgs false
set_option linter.unusedVariables false
namespace Go.Proofs.YtnhokjnmpdiokaaGreatDoor.V
open Go.RowKit Go.Pth

def mvAt (l : List Nm) (f t : B) : Nat := place (rest l f) (((mvd (rung l f) f t).head?.map (·.1)).getD [])
def mvN (l : List Nm) (f t : B) : List Nm := mvl l f t (mvAt l f t)
def MayMv (S : SV) (f t : B) : Prop := valid f = true ∧ valid t = true ∧ 0 < (rung S.names f).length ∧ (t == f || under t f) = false ∧ takes S.names (kinds S) t = 0 ∧ mvOk S.names f t = true
theorem look_none {l : List Nm} {p : B} (hs : Srt l) (h : look l p = none) : ∀ x ∈ l, x.1 ≠ p := by
  intro x hx
  obtain ⟨j, hj, rfl⟩ := List.mem_iff_getElem.1 hx
  exact look_apart hs h j hj
theorem takes_up {l : List Nm} {K : Nat → Int} {t : B} (h : takes l K t = 0) : parent t = [] ∨ ∃ y ∈ l, y.1 = parent t := by
  unfold takes at h
  split at h
  · cases h
  · split at h
    · rename_i hp; exact Or.inl hp
    · split at h
      · cases h
      · rename_i n hn
        exact Or.inr ⟨_, look_mem _ _ _ hn, rfl⟩
theorem head_cons {α : Type} {l : List α} (h : 0 < l.length) : ∃ x r, l = x :: r := by
  cases l with
  | nil => simp at h
  | cons x r => exact ⟨x, r, rfl⟩
theorem mvAt_cons {l : List Nm} {f t : B} {m0 : Nm} {M' : List Nm} (h : mvd (rung l f) f t = m0 :: M') : mvAt l f t = place (rest l f) m0.1 := by
  unfold mvAt
  rw [h]
  rfl
theorem mvOk_all {l : List Nm} {f t : B} (h : mvOk l f t = true) : ∀ m ∈ mvd (rung l f) f t, valid m.1 = true := by
  unfold mvOk at h
  exact fun m hm => List.all_eq_true.1 h m hm
theorem MayMv.tree {S : SV} {f t : B} (h : MayMv S f t) (ht : Tree S.names) : Tree (mvN S.names f t) := by
  obtain ⟨hf, hv, hr, htf, htk, hok⟩ := h
  obtain ⟨m0, M', hM⟩ := head_cons (l := mvd (rung S.names f) f t) (by rw [mvd_len]; exact hr)
  unfold mvN
  rw [mvAt_cons hM]
  exact ht.moved hf hv (mvOk_all hok) (look_none ht.srt (takes_none htk)) (by unfold runF; exact htf) (takes_up htk) m0 M' hM
theorem mvN_ids {l : List Nm} {f t : B} {x : Nm} (hx : x ∈ mvN l f t) : ∃ y ∈ l, y.2 = x.2 := by
  unfold mvN at hx
  rcases mvl_mem.1 hx with h | h
  · exact ⟨x, (rest_sub l f).subset h, rfl⟩
  · obtain ⟨e, he, rfl⟩ := mvd_mem.1 h
    refine ⟨e, ?_, rfl⟩
    unfold rung at he
    exact List.mem_of_mem_drop ((List.takeWhile_sublist _).subset he)
end Go.Proofs.YtnhokjnmpdiokaaGreatDoor.V

set_option linter.unusedSimpArgs false
set_option linter.unusedVariables false
namespace Go.Proofs.YtnhokjnmpdiokaaGreatDoor.V
open Go.RowKit Go.Pth

def actN (l : List Nm) (a : Ac) : List Nm := if a.frm = [] then insN l a.too (a.made.getD 0) else if a.too = [] then rest l a.frm else mvN l a.frm a.too
inductive Legal (l : List Nm) : Ac → Prop
  | made (p : B) (n : Nat) (hp : valid p = true) (hn : look l p = none) (hup : parent p = [] ∨ ∃ y ∈ l, y.1 = parent p) : Legal l ⟨[], p, some n⟩
  | gone (f : B) (hf : valid f = true) (hr : 0 < (rung l f).length) : Legal l ⟨f, [], none⟩
  | moved (f t : B) (hf : valid f = true) (ht : valid t = true) (hr : 0 < (rung l f).length) (htf : runF f (t, 0) = false) (hn : ∀ x ∈ l, x.1 ≠ t) (hup : parent t = [] ∨ ∃ y ∈ l, y.1 = parent t) (hok : ∀ m ∈ mvd (rung l f) f t, valid m.1 = true) : Legal l ⟨f, t, none⟩
def foldN (l : List Nm) (A : List Ac) : List Nm := A.foldl actN l
def LegalAll : List Nm → List Ac → Prop
  | _, [] => True
  | l, a :: r => Legal l a ∧ LegalAll (actN l a) r
theorem actN_made (l : List Nm) (p : B) (n : Nat) : actN l ⟨[], p, some n⟩ = insN l p n := rfl
theorem actN_gone (l : List Nm) {f : B} (hf : valid f = true) : actN l ⟨f, [], none⟩ = rest l f := by
  unfold actN
  rw [if_neg (valid_ne hf), if_pos rfl]
theorem actN_moved (l : List Nm) {f t : B} (hf : valid f = true) (ht : valid t = true) : actN l ⟨f, t, none⟩ = mvN l f t := by
  unfold actN
  rw [if_neg (valid_ne hf), if_neg (valid_ne ht)]
theorem Legal.tree {l : List Nm} {a : Ac} (h : Legal l a) (ht : Tree l) : Tree (actN l a) := by
  cases h with
  | made p n hp hn hup => rw [actN_made]; exact ht.made hp hn hup
  | gone f hf hr => rw [actN_gone l hf]; exact ht.gone hf
  | moved f t hf hv hr htf hn hup hok =>
    rw [actN_moved l hf hv]
    obtain ⟨m0, M', hM⟩ := head_cons (l := mvd (rung l f) f t) (by rw [mvd_len]; exact hr)
    unfold mvN
    rw [mvAt_cons hM]
    exact ht.moved hf hv hok hn htf hup m0 M' hM
theorem Legal.len {l : List Nm} {a : Ac} (h : Legal l a) : (actN l a).length ≤ l.length + 1 := by
  cases h with
  | made p n hp hn hup => rw [actN_made, insN_len]; omega
  | gone f hf hr =>
    rw [actN_gone l hf]
    have := (rest_sub l f).length_le
    omega
  | moved f t hf hv hr htf hn hup hok =>
    rw [actN_moved l hf hv]
    unfold mvN
    rw [mvl_len]
    omega
theorem Legal.ids {l : List Nm} {a : Ac} (h : Legal l a) {x : Nm} (hx : x ∈ actN l a) : (∃ y ∈ l, y.2 = x.2) ∨ a.made = some x.2 := by
  cases h with
  | made p n hp hn hup =>
    rw [actN_made] at hx
    rcases insN_mem hx with hx | hx
    · exact Or.inl ⟨x, hx, rfl⟩
    · right; rw [hx]
  | gone f hf hr =>
    rw [actN_gone l hf] at hx
    exact Or.inl ⟨x, (rest_sub l f).subset hx, rfl⟩
  | moved f t hf hv hr htf hn hup hok =>
    rw [actN_moved l hf hv] at hx
    exact Or.inl (mvN_ids hx)
theorem legal_take : ∀ (A : List Ac) (l : List Nm) (k : Nat), LegalAll l A → LegalAll l (A.take k)
  | [], _, _, _ => by simp [LegalAll]
  | a :: r, l, 0, _ => trivial
  | a :: r, l, k + 1, h => ⟨h.1, legal_take r _ k h.2⟩
theorem fold_tree : ∀ (A : List Ac) (l : List Nm), LegalAll l A → Tree l → Tree (foldN l A)
  | [], _, _, h => h
  | a :: r, l, h, ht => fold_tree r _ h.2 (h.1.tree ht)
theorem fold_len : ∀ (A : List Ac) (l : List Nm), LegalAll l A → (foldN l A).length ≤ l.length + A.length
  | [], _, _ => by simp [foldN]
  | a :: r, l, h => by
    have h1 := fold_len r _ h.2
    have h2 := h.1.len
    unfold foldN at h1 ⊢
    simp only [List.foldl_cons, List.length_cons]
    omega
theorem fold_ids : ∀ (A : List Ac) (l : List Nm) (ids : List Nat), LegalAll l A → (∀ x ∈ l, x.2 ∈ ids) → (∀ a ∈ A, ∀ n, a.made = some n → n ∈ ids) → ∀ x ∈ foldN l A, x.2 ∈ ids
  | [], _, _, _, h, _ => h
  | a :: r, l, ids, h, hl, hA => fun x hx => by
    refine fold_ids r (actN l a) ids h.2 (fun y hy => ?_) (fun b hb => hA b (List.mem_cons_of_mem _ hb)) x hx
    rcases h.1.ids hy with ⟨z, hz, e⟩ | e
    · rw [← e]; exact hl z hz
    · exact hA a (by simp) _ e
theorem legal_at : ∀ (A : List Ac) (l : List Nm) (k : Nat) (a : Ac), LegalAll l A → A[k]? = some a → Legal (foldN l (A.take k)) a
  | [], _, _, _, _, h => by simp at h
  | b :: r, l, 0, a, h, e => by simp at e; subst e; exact h.1
  | b :: r, l, k + 1, a, h, e => legal_at r (actN l b) k a h.2 (by simpa using e)
theorem fold_step (A : List Ac) (l : List Nm) (k : Nat) (a : Ac) (e : A[k]? = some a) : foldN l (A.take (k + 1)) = actN (foldN l (A.take k)) a := by
  unfold foldN
  rw [List.take_add_one, e]
  simp
theorem legal_snoc : ∀ (A : List Ac) (l : List Nm) (a : Ac), LegalAll l A → Legal (foldN l A) a → LegalAll l (A ++ [a])
  | [], _, _, _, h => ⟨h, trivial⟩
  | b :: r, l, a, h, k => ⟨h.1, legal_snoc r (actN l b) a h.2 k⟩
theorem fold_snoc (A : List Ac) (l : List Nm) (a : Ac) : foldN l (A ++ [a]) = actN (foldN l A) a := by simp [foldN]
theorem MayMv.legal {S : SV} {f t : B} (h : MayMv S f t) (ht : Tree S.names) : Legal S.names ⟨f, t, none⟩ :=
  .moved f t h.1 h.2.1 h.2.2.1 (by unfold runF; exact h.2.2.2.1) (look_none ht.srt (takes_none h.2.2.2.2.1)) (takes_up h.2.2.2.2.1) (mvOk_all h.2.2.2.2.2)
end Go.Proofs.YtnhokjnmpdiokaaGreatDoor.V

set_option linter.unusedSimpArgs false
set_option linter.unusedVariables false
namespace Go.Proofs.YtnhokjnmpdiokaaGreatDoor.V
open Go.RowKit Go.Pth

def OwnOr (w : World) (v0 v : Value) : Prop := v.ownBlock = v0.ownBlock ∨ ∃ g, v.ownBlock = some g ∧ w.heap.size ≤ g
structure ApSt (w : World) (c j : Nat) (cs : Array Value) (tc : TypeId) (v0 : Value) (l : List Nm) (v : Value) (wr : World) : Prop where
  at_ : At wr c (cs.setIfInBounds j v) tc
  row : Row wr 79 2 v l.length (ents l)
  own : OwnOr w v0 v
  chg : Chg (fun i => i = c ∨ v0.ownBlock = some i) w wr
def InvAp (w : World) (c j : Nat) (cs : Array Value) (tc : TypeId) (v0 : Value) (l : List Nm) (A : List Ac) (i : Value) (wr : World) : Prop :=
  ∃ (k : Nat) (v : Value), k ≤ A.length ∧ i = .int .i64 k ∧ ApSt w c j cs tc v0 (foldN l (A.take k)) v wr
theorem ApSt.apart {w : World} {c j : Nat} {cs : Array Value} {tc : TypeId} {v0 v : Value} {l : List Nm} {wr : World} (h : ApSt w c j cs tc v0 l v wr) (h0 : v0.ownBlock ≠ some c) (hc : c < w.heap.size) : v.ownBlock ≠ some c := by
  rcases h.own with e | ⟨g, e, hg⟩
  · rw [e]; exact h0
  · rw [e]; intro q; injection q with q; omega
theorem ApSt.ext {w : World} {c j : Nat} {cs : Array Value} {tc : TypeId} {v0 v : Value} {l : List Nm} {wr w' : World} (h : ApSt w c j cs tc v0 l v wr) (he : Ext wr w') : ApSt w c j cs tc v0 l v w' :=
  ⟨h.at_.ext he, h.row.ext he, h.own, h.chg.trans (Chg.of_ext he) fun _ _ q => q⟩
theorem ApSt.step {w : World} {c j n : Nat} {cs : Array Value} {tc : TypeId} {v0 v : Value} {l m : List Nm} {wr w' : World} {e : Ending} (h : ApSt w c j cs tc v0 l v wr) (h0 : v0.ownBlock ≠ some c) (hc : c < w.heap.size)
    (hn : n = m.length) (hm : MovePost wr c j n v (ents m) e w') : ∃ v', ApSt w c j cs tc v0 m v' w' := by
  subst hn
  obtain ⟨_, v', w1, row, g, rfl⟩ := hm
  have ap := h.apart h0 hc
  have a1 : At w1 c (cs.setIfInBounds j v) tc := g.chg.at h.at_ ap
  have hown : v'.ownBlock ≠ some c := by
    rcases g.own with e | ⟨q, e, hq⟩
    · rw [e]; exact ap
    · rw [e]
      intro x
      injection x with x
      have := h.at_.lt
      omega
  refine ⟨v', ?_, row.chg (Chg.setCell w1 c j v') (fun q hq e => hown (by rw [hq, e])), ?_, ?_⟩
  · have := a1.set j v'
    rw [Array.setIfInBounds_setIfInBounds] at this
    exact this
  · rcases g.own with e | ⟨q, e, hq⟩
    · rcases h.own with e2 | ⟨q, e2, hq⟩
      · exact Or.inl (e.trans e2)
      · exact Or.inr ⟨q, e.trans e2, hq⟩
    · exact Or.inr ⟨q, e, Nat.le_trans h.chg.size hq⟩
  · refine (h.chg.trans (g.chg.mono fun i hi hv => (?_ : i = c ∨ v.ownBlock = some i)) ?_).trans (Chg.setCell w1 c j v') fun i _ e => Or.inl e
    · exact Or.inr hv
    · intro i hi hv
      rcases hv with e | hv
      · exact Or.inl e
      · rcases h.own with e2 | ⟨q, e2, hq⟩
        · exact Or.inr (e2 ▸ hv)
        · rw [e2] at hv
          injection hv with hv
          omega
theorem put_one (c j : Nat) (cs : Array Value) (tc : TypeId) (v : Value) (l : List Nm) (p : B) (a : Nat) (w : World) (hc : At w c cs tc) (hj : cs[j]? = some v) (h : Row w 79 2 v l.length (ents l)) (hoc : v.ownBlock ≠ some c) (hs : Srt l) (hl : l.length ≤ 1000000) :
    Calls Tryz.prog 134 #[.pointer (some ⟨c, j, none⟩), .slice (some ⟨w.heap.size + 1, 0, none⟩) 1 1] ((w.alloc (.cells #[.string ⟨#[]⟩, .string (tx p), ptr a] 167)).alloc (.cells #[.string (tx p), ptr a] 79)) (MovePost w c j (insN l p a).length v (ents (insN l p a))) := by
  obtain ⟨W1, hW1⟩ : ∃ W1, W1 = w.alloc (.cells #[.string ⟨#[]⟩, .string (tx p), ptr a] 167) := ⟨_, rfl⟩
  obtain ⟨W2, hW2⟩ : ∃ W2, W2 = W1.alloc (.cells #[.string (tx p), ptr a] 79) := ⟨_, rfl⟩
  rw [← hW1, ← hW2]
  have e1 : Ext w W1 := by rw [hW1]; exact Ext.alloc _ _
  have e2 : Ext W1 W2 := by rw [hW2]; exact Ext.alloc _ _
  have s1 : W1.heap.size = w.heap.size + 1 := by rw [hW1]; exact size_alloc _ _
  have hat : At W2 (w.heap.size + 1) #[.string (tx p), ptr a] 79 := by rw [hW2, ← s1]; exact At.new _ _ _
  have rw1 : Row W2 79 2 (.slice (some ⟨w.heap.size + 1, 0, none⟩) [(p, a)].length 1) [(p, a)].length (ents [(p, a)]) :=
    ⟨by simp [ents_len], .inr ⟨w.heap.size + 1, 1, _, rfl, Nat.zero_le _, hat, by simp, by simp [maxLen], rfl, rfl⟩⟩
  have ee := e1.trans e2
  have PU := put_gen c j (place l p) (l.length + 1) (ents (insN l p a)) cs tc v _ l [(p, a)] W2 (hc.ext ee) hj (h.ext ee) hoc (Row.trr rw1) (by simp) hs hl (by simp) (fun w' e' => insert_any v (place l p) (w.heap.size + 1) 1 l [(p, a)] w' ((h.ext ee).ext e') (rw1.ext e') (fun hb => by have := h.lt _ hb; omega) (place_le l p) (by simp) hl (by simp))
  refine PU.mono fun e w' ⟨h1, v', w1, h2, g, h3⟩ => ⟨h1, v', w1, by rw [insN_len]; exact h2, ⟨(Chg.of_ext ee).trans g.chg fun _ _ x => x, by rcases g.own with e | ⟨q, e1, e2⟩; exact Or.inl e; exact Or.inr ⟨q, e1, Nat.le_trans ee.size e2⟩⟩, h3⟩
theorem take_one (c j g cap : Nat) (cs : Array Value) (tc : TypeId) (l : List Nm) (f : ByteArray) (w : World) (hc : At w c cs tc) (hj : cs[j]? = some (.slice (some ⟨g, 0, none⟩) l.length cap)) (h : Row w 79 2 (.slice (some ⟨g, 0, none⟩) l.length cap) l.length (ents l)) (hgc : ¬ c = g) (hs : Srt l) (hl : l.length ≤ 1000000) (hR : 0 < (rung l f.toList).length) :
    Calls Tryz.prog 135 #[.pointer (some ⟨c, j, none⟩), .string f] (w.alloc (.cells #[.string f, .string ⟨#[]⟩, .pointer none] 167)) fun e w' => ∃ v, e = .returned v ∧ MovePost w c j (rest l f.toList).length (.slice (some ⟨g, 0, none⟩) l.length cap) (ents (rest l f.toList)) (.returned (.tuple #[])) w' := by
  have e1 : Ext w (w.alloc (.cells #[.string f, .string ⟨#[]⟩, .pointer none] 167)) := Ext.alloc _ _
  have TK := take_all c j g cap cs tc l f _ (hc.ext e1) hj (h.ext e1) hgc hs hl hR
  rw [← rest_len] at TK
  exact TK.mono fun e w' ⟨vr, w1, h1, h2, h3, h4, h5, h6⟩ => ⟨vr, h1, rfl, _, w1, h4, ⟨(Chg.of_ext e1).trans (h5.mono fun i _ e => by rw [e]; rfl) fun _ _ x => x, Or.inl rfl⟩, h6⟩
def ApPost (w : World) (c j : Nat) (cs : Array Value) (tc : TypeId) (v0 : Value) (m : List Nm) (e : Ending) (w' : World) : Prop := e = .returned (.tuple #[]) ∧ ∃ v, ApSt w c j cs tc v0 m v w'
def actAt (w : World) (ab ao : Nat) (A : List Ac) : Prop := ∀ k a, A[k]? = some a → w.cell? ⟨ab, ao + k * 3, none⟩ = some (.string (tx a.frm)) ∧ w.cell? ⟨ab, ao + k * 3 + 1, none⟩ = some (.string (tx a.too)) ∧ w.cell? ⟨ab, ao + k * 3 + 2, none⟩ = some (optr a.made)

set_option maxRecDepth 100000 in
set_option maxHeartbeats 16000000 in
theorem apply_all (c j : Nat) (cs : Array Value) (tc : TypeId) (v0 : Value) (l : List Nm) (A : List Ac) (ad : Option Addr) (ab ao acap : Nat) (w : World) (hc : At w c cs tc) (hj : cs[j]? = some v0) (h : Row w 79 2 v0 l.length (ents l)) (h0 : v0.ownBlock ≠ some c)
    (hT : Tree l) (hL : LegalAll l A) (hl : l.length ≤ 100000) (hA : A.length ≤ 100000) (had : 0 < A.length → ad = some ⟨ab, ao, none⟩) (hac : actAt w ab ao A) (hab : ¬ ab = c) (hav : v0.ownBlock ≠ some ab) :
    Calls Tryz.prog 112 #[.pointer (some ⟨c, j, none⟩), .slice ad A.length acap] w (ApPost w c j cs tc v0 (foldN l A)) := by
  have hjs : j < cs.size := (Array.getElem?_eq_some_iff.1 hj).1
  have st0 : ApSt w c j cs tc v0 (foldN l (A.take 0)) v0 w := ⟨by
    have : cs.setIfInBounds j v0 = cs := by
      apply Array.ext_getElem?
      intro i
      rw [Array.getElem?_setIfInBounds]
      split
      · rename_i e
        subst e
        first | exact hj.symm | (rw [if_pos hjs]; exact hj.symm)
      · rfl
    rw [this]; exact hc, h, Or.inl rfl, Chg.refl _ w⟩
  have S0 := Lib.hid st0
  have clt := hc.lt
  obtain ⟨N, hN⟩ : ∃ N, N = A.length := ⟨_, rfl⟩
  rw [← hN] at hA had ⊢
  have HN := Lib.hid hN
  have H0 := Lib.hid (And.intro h0 clt)
  have HT := Lib.hid hT
  have HL := Lib.hid hL
  have HAD := Lib.hid had
  have HAC := Lib.hid hac
  have HAB := Lib.hid (And.intro hab hav)
  have HJ := Lib.hid hjs
  have hlt3 : ∀ k, k ≤ N → (foldN l (A.take k)).length ≤ 200000 := fun k hk => by
    have := fold_len (A.take k) l (legal_take A l k hL)
    rw [List.length_take] at this
    omega
  have HLT := Lib.hid hlt3
  clear hN st0 hc hj h h0 hT hL had hac hab hav hl hjs hlt3 clt
  go_enter Tryz.func112, Tryz.ntmps112
  go_wp2
  go_loopw [8] (fun s8 wr => InvAp w c j cs tc v0 l A s8 wr) (fun s8 _ => N - (intOf s8).toNat)
  case atStart => exact ⟨0, v0, by omega, rfl, S0.out⟩
  case round =>
    clear S0
    obtain ⟨k, v, hk, rfl, st⟩ := hrel
    rw [← HN.out] at hk
    by_cases hlt : k < N
    · have i0 : (k : Int) < (N : Int) := by omega
      have i1 : (0 : Int) ≤ (k : Int) := by omega
      have ea := HAD.out (by omega)
      subst ea
      obtain ⟨a, ha⟩ : ∃ a, A[k]? = some a := ⟨_, List.getElem?_eq_getElem (by rw [← HN.out]; exact hlt)⟩
      have leg := legal_at A l k a HL.out ha
      have tr := fold_tree _ _ (legal_take A l k HL.out) HT.out
      have hfs := fold_step A l k a ha
      obtain ⟨c0, c1, c2⟩ := HAC.out k a ha
      have nX : ¬ (ab = c ∨ v0.ownBlock = some ab) := fun q => q.elim HAB.out.1 HAB.out.2
      have c0' := st.chg.cell c0 nX
      have c1' := st.chg.cell c1 nX
      have c2' := st.chg.cell c2 nX
      have ap := st.apart H0.out.1 H0.out.2
      have hjv : (cs.setIfInBounds j v)[j]? = some v := by rw [Array.getElem?_setIfInBounds, if_pos rfl, if_pos HJ.out]
      have hml := HLT.out k hk
      obtain ⟨m, hm⟩ : ∃ m, m = foldN l (A.take k) := ⟨_, rfl⟩
      rw [← hm] at st leg tr hfs hml
      have ST := Lib.hid st
      have HFS := Lib.hid hfs
      clear hm hfs c0 c1 c2 nX ha
      have leg0 := trivial
      cases leg with
      | made p n hp hn hup =>
        have PU := put_one c j _ tc v m p n wr st.at_ hjv st.row ap tr.srt (by omega)
        have HP := Lib.hid PU
        clear PU st leg0 tr ap hjv hml
        rw [show tx ([] : B) = ⟨#[]⟩ from rfl] at c0'
        simp only [optr] at c2'
        unfold ptr at *
        go_wp2_with fail
        refine (HP.out).mono ?_
        rintro e w' hm
        obtain ⟨v', st'⟩ := ST.out.step H0.out.1 H0.out.2 rfl hm
        obtain ⟨rfl, _⟩ := hm
        have F := Lib.hid st'
        clear st' HP c0' c1' c2'
        go_wp2
        exact ⟨⟨k + 1, v', by rw [← HN.out]; omega, by go_num, by rw [HFS.out, actN_made]; exact F.out⟩, by simp [intOf]; omega⟩
      | gone f hf hr =>
        have hle := rung_le m f
        obtain ⟨g, cap, hvv, _, _⟩ := Row.ownK st.row (by omega)
        subst hvv
        have TK := take_one c j g cap _ tc m (tx f) wr st.at_ hjv st.row (fun e => ap (by rw [e]; rfl)) tr.srt (by omega) (by rw [tx_list]; exact hr)
        rw [tx_list] at TK
        have HP := Lib.hid TK
        have hf0 : ((tx f).toList == []) = false := by rw [tx_list]; simpa using valid_ne hf
        have HV := Lib.hid hf
        clear TK st leg0 tr ap hjv hml hle hr hf
        rw [show tx ([] : B) = ⟨#[]⟩ from rfl] at c1'
        simp only [optr] at c2'
        go_wp2_with fail
        refine (HP.out).mono ?_
        rintro e w' ⟨vr, rfl, hm⟩
        obtain ⟨v', st'⟩ := ST.out.step H0.out.1 H0.out.2 rfl hm
        have F := Lib.hid st'
        clear st' hm HP c0' c1' c2' hf0
        go_wp2
        exact ⟨⟨k + 1, v', by rw [← HN.out]; omega, by go_num, by rw [HFS.out, actN_gone m HV.out]; exact F.out⟩, by simp [intOf]; omega⟩
      | moved f t hf ht hr htf hn hup hok =>
        have hle := rung_le m f
        obtain ⟨g, cap, hvv, _, _⟩ := Row.ownK st.row (by omega)
        subst hvv
        have hpre : ∀ e ∈ rung m f, (tx f).size ≤ e.1.length ∧ e.1.length ≤ 1000000 := by
          intro e he
          obtain ⟨h1, h2⟩ := (tr.rung_mem hf).1 he
          obtain ⟨z, hz⟩ := (runF_iff hf (tr.val e h1)).1 h2
          have h3 := mv_long hz
          have h4 := valid_len (tr.val e h1)
          have h5 : (tx f).toList.length = (tx f).size := by rw [ByteArray.toList_eq]; simp
          rw [tx_list] at h5
          omega
        have htl : (tx t).size ≤ 1000000 := by
          have h4 := valid_len ht
          have h5 : (tx t).toList.length = (tx t).size := by rw [ByteArray.toList_eq]; simp
          rw [tx_list] at h5
          omega
        obtain ⟨m0, M', hM⟩ := head_cons (l := mvd (rung m f) f t) (by rw [mvd_len]; exact hr)
        have hq : place (rest m f) ((mvd (rung m f) f t)[0]'(by rw [mvd_len]; exact hr)).1 = mvAt m f t := by
          rw [mvAt_cons hM]
          simp only [hM, List.getElem_cons_zero]
        obtain ⟨q, hqq⟩ : ∃ q, q = mvAt m f t := ⟨_, rfl⟩
        have HQ := Lib.hid hqq
        rw [← hqq] at hq
        obtain ⟨W1, hW1⟩ : ∃ W1, W1 = wr.alloc (.cells #[.string (tx f), .string (tx t), .pointer none] 167) := ⟨_, rfl⟩
        have e1 : Ext wr W1 := by rw [hW1]; exact Ext.alloc _ _
        have hA : At W1 wr.heap.size #[.string (tx f), .string (tx t), .pointer none] 167 := by rw [hW1]; exact At.new _ _ _
        have e2 : Ext wr W1.drew := e1.trans (Ext.drew W1)
        have SA := steps_all c j g cap q (cs.setIfInBounds j (.slice (some ⟨g, 0, none⟩) m.length cap)) tc m (tx f) (tx t) W1.drew (st.at_.ext e2) hjv (st.row.ext e2) (fun e => ap (by rw [e]; rfl)) tr.srt (by omega) (by rw [tx_list]; exact hr) (by rw [tx_list]; exact hpre) htl (by rw [tx_list]; exact tr.rest_srt f) (by simp only [tx_list]; exact hq)
        have HS := Lib.hid SA
        have hAc : ¬ wr.heap.size = c := by have := st.at_.lt; omega
        have hAg : ¬ wr.heap.size = g := by have := st.row.lt g rfl; omega
        have ME : Hid (∀ n v X e w', MovePost W1.drew c j n v X e w' → MovePost wr c j n v X e w') := fun n v X e w' => MovePost.ext e2
        have CH : Hid (∀ vr w', TakePost W1.drew c j g cap (rest m (tx f).toList).length (rest m (tx f).toList) (rung m (tx f).toList) (.returned vr) w' → ∀ q u, W1.cell? ⟨wr.heap.size, q, none⟩ = some u → w'.cell? ⟨wr.heap.size, q, none⟩ = some u) := by
          rintro vr w' ⟨vr', w1, -, -, -, -, h5, h6⟩ q u hu
          rw [h6]
          exact (Chg.setCell w1 c j _).cell (h5.cell hu hAg) hAc
        have CP : Hid (∀ n v X e w', MovePost W1.drew c j n v X e w' → (v.ownBlock = some g) → ∀ q u, W1.cell? ⟨wr.heap.size, q, none⟩ = some u → w'.cell? ⟨wr.heap.size, q, none⟩ = some u) := by
          rintro n v X e w' ⟨-, v', w1, -, gg, h6⟩ hv q u hu
          rw [h6]
          exact (Chg.setCell w1 c j _).cell (gg.chg.cell hu (fun e => by rw [hv] at e; injection e with e; exact hAg e.symm)) hAc
        have a0 : W1.cell? ⟨wr.heap.size, 0, none⟩ = some (.string (tx f)) := by rw [hA.cell]; rfl
        have a1 : W1.cell? ⟨wr.heap.size, 1, none⟩ = some (.string (tx t)) := by rw [hA.cell]; rfl
        have hf0 : ((tx f).toList == []) = false := by rw [tx_list]; simpa using valid_ne hf
        have ht0 : ((tx t).toList == []) = false := by rw [tx_list]; simpa using valid_ne ht
        have HV := Lib.hid (And.intro hf ht)
        simp only [optr] at c2'
        clear SA st leg0 tr ap hjv hml hle hr hf ht htf hn hup hok hpre htl hM hq hqq e1 hA e2
        go_upto_region 3 with fail
        clear c0' c1' c2' hf0 ht0
        refine wp_region_held (S := fun w' => w'.cell? ⟨wr.heap.size, 0, none⟩ = some (.string (tx f)) ∧ w'.cell? ⟨wr.heap.size, 1, none⟩ = some (.string (tx t))) (by kernel_rfl) ?_
        rw [← hW1]
        change wpAnyH _ _ _ _ _ _ _ _ W1.drew
        have hS : W1.drew.cell? ⟨wr.heap.size, 0, none⟩ = some (.string (tx f)) ∧ W1.drew.cell? ⟨wr.heap.size, 1, none⟩ = some (.string (tx t)) := ⟨a0, a1⟩
        clear hW1
        refine tkS 0 (some 12) (.pointer (some ⟨c, j, none⟩)) hS ?_
        simp only [pt0, pt4, pt1, pt2, pt3]
        refine tkS 1 (some 13) (.pointer (some ⟨c, j, none⟩)) hS ?_
        simp only [pt0, pt4, pt1, pt2, pt3]
        refine tkS 2 (some 14) (.pointer (some ⟨wr.heap.size, 0, none⟩)) hS ?_
        simp only [pt0, pt4, pt1, pt2, pt3]
        refine tkS 3 (some 15) (.string (tx f)) hS ?_ (hy := fun w' hw' => by have := hw'.1; go_simp)
        simp only [pt0, pt4, pt1, pt2, pt3]
        refine tkS 5 (some 17) (.pointer (some ⟨wr.heap.size, 0, none⟩)) hS ?_
        simp only [pt0, pt4, pt1, pt2, pt3]
        refine tkS 6 (some 18) (.string (tx f)) hS ?_ (hy := fun w' hw' => by have := hw'.1; go_simp)
        simp only [pt0, pt4, pt1, pt2, pt3]
        refine tkS 7 (some 19) (.pointer (some ⟨wr.heap.size, 1, none⟩)) hS ?_
        simp only [pt0, pt4, pt1, pt2, pt3]
        refine tkS 8 (some 20) (.string (tx t)) hS ?_ (hy := fun w' hw' => by have := hw'.2; go_simp)
        simp only [pt0, pt4, pt1, pt2, pt3]
        refine nextS 4 rfl (by kernel_rfl) rfl ?_
        refine callS (some 16) rfl 135 #[.pointer (some ⟨c, j, none⟩), .string (tx f)] (by go_simp) (fun v w' => TakePost W1.drew c j g cap (rest m (tx f).toList).length (rest m (tx f).toList) (rung m (tx f).toList) (.returned v) w') (HS.out.take.mono fun e w' ⟨vr, w1, h1, h2⟩ => ⟨vr, h1, vr, w1, rfl, h2⟩) ?_
        rintro v5 w5 h5
        have hS5 := And.intro (CH.out _ _ h5 0 _ a0) (CH.out _ _ h5 1 _ a1)
        refine ⟨hS5, ?_⟩
        simp only [pt0, pt4, pt1, pt2, pt3]
        refine nextS 9 rfl (by kernel_rfl) rfl ?_
        refine callS (some 21) rfl 136 #[v5, .string (tx f), .string (tx t)] (by go_simp) (fun v w' => MvPost w5 (mvd (rung m (tx f).toList) (tx f).toList (tx t).toList) (.returned v) w') ((HS.out.move _ _ h5).mono fun e w' ⟨vr, h1, h2⟩ => ⟨vr, h1, vr, rfl, h2⟩) ?_
        rintro v6 w6 h6
        have e56 : Ext w5 w6 := by obtain ⟨_, _, _, e, _⟩ := h6; exact e
        have hS6 := And.intro (e56.cell hS5.1) (e56.cell hS5.2)
        refine ⟨hS6, ?_⟩
        simp only [pt0, pt4, pt1, pt2, pt3]
        refine nextS 10 rfl (by kernel_rfl) rfl ?_
        refine callS (some 22) rfl 134 #[.pointer (some ⟨c, j, none⟩), v6] (by go_simp) (fun v w' => v = .tuple #[] ∧ MovePost W1.drew c j m.length (.slice (some ⟨g, 0, none⟩) m.length cap) (ents (mvl m (tx f).toList (tx t).toList q)) (.returned (.tuple #[])) w') ((HS.out.put _ _ _ _ h5 h6).mono fun e w' h => ⟨_, h.1, rfl, by obtain ⟨x1, x2⟩ := h; subst x1; exact ⟨rfl, x2⟩⟩) ?_
        rintro v7 w7 ⟨rfl, h7⟩
        refine ⟨And.intro (CP.out _ _ _ _ _ h7 rfl 0 _ a0) (CP.out _ _ _ _ _ h7 rfl 1 _ a1), ?_⟩
        simp only [pt0, pt4, pt1, pt2, pt3]
        refine wpAnyH_done (by kernel_rfl) ?_ _
        obtain ⟨v', st'⟩ := ST.out.step H0.out.1 H0.out.2 (mvl_len m (tx f).toList (tx t).toList q).symm (ME.out _ _ _ _ _ h7)
        have F := Lib.hid st'
        clear st' h5 h6 h7 hS hS5 hS6 e56 CH CP HS ME
        go_wp2
        refine ⟨⟨k + 1, v', by rw [← HN.out]; omega, by go_num, ?_⟩, by simp [intOf]; omega⟩
        rw [HFS.out, actN_moved m HV.out.1 HV.out.2]
        have hF := F.out
        rw [tx_list, tx_list, HQ.out] at hF
        exact hF
    · have i0 : ¬ ((k : Int) < (N : Int)) := by omega
      have d0 : decide ((k : Int) < (N : Int)) = false := by simp; omega
      obtain rfl : k = N := by omega
      rw [List.take_of_length_le (by rw [← HN.out]; exact Nat.le_refl _)] at st
      have F := Lib.hid st
      clear st hlt
      go_wp2
      go_end0
      exact ⟨rfl, v, F.out⟩
end Go.Proofs.YtnhokjnmpdiokaaGreatDoor.V

set_option linter.unusedSimpArgs false
set_option linter.unusedVariables false
namespace Go.Proofs.YtnhokjnmpdiokaaGreatDoor.V
open Go.RowKit Go.Pth

theorem setCell_self {w : World} {c j : Nat} {cs : Array Value} {t : TypeId} {v : Value} (h : At w c cs t) (hj : cs[j]? = some v) : w.setCell ⟨c, j, none⟩ v = w := by
  have e : (w.setCell ⟨c, j, none⟩ v).heap = w.heap := by
    apply Array.ext_getElem?
    intro i
    by_cases hi : i = c
    · subst hi
      have h2 := h.set j v
      unfold At at h h2
      rw [h2, h]
      have : cs.setIfInBounds j v = cs := by
        apply Array.ext_getElem?
        intro k
        rw [Array.getElem?_setIfInBounds]
        split
        · rename_i e
          subst e
          split
          · exact hj.symm
          · rename_i hk
            rw [Array.getElem?_eq_none (by omega)] at hj
            cases hj
        · rfl
      rw [this]
    · exact Below.heap_setCell _ _ _ _ (by simpa using hi)
  have e2 : w.setCell ⟨c, j, none⟩ v = { w with heap := (w.setCell ⟨c, j, none⟩ v).heap } := rfl
  rw [e2, e]
theorem ApSt.move {w : World} {c j : Nat} {cs : Array Value} {tc : TypeId} {v0 v' : Value} {m : List Nm} {w' : World} (h : ApSt w c j cs tc v0 m v' w') (hc : At w c cs tc) (hj : cs[j]? = some v0) (h0 : v0.ownBlock ≠ some c) :
    MovePost w c j m.length v0 (ents m) (.returned (.tuple #[])) w' := by
  have clt := hc.lt
  have ap := h.apart h0 clt
  have hjs : j < cs.size := (Array.getElem?_eq_some_iff.1 hj).1
  have a1 : At (w'.setCell ⟨c, j, none⟩ v0) c cs tc := by
    have := h.at_.set j v0
    rw [Array.setIfInBounds_setIfInBounds] at this
    have e : cs.setIfInBounds j v0 = cs := by
      apply Array.ext_getElem?
      intro k
      rw [Array.getElem?_setIfInBounds]
      split
      · rename_i e
        subst e
        first | exact hj.symm | (rw [if_pos hjs]; exact hj.symm)
      · rfl
    rw [e] at this
    exact this
  have sc := Chg.setCell w' c j v0
  refine ⟨rfl, v', w'.setCell ⟨c, j, none⟩ v0, h.row.chg sc (fun q hq e => ap (by rw [hq, e])), ⟨⟨h.chg.os, h.chg.tape, h.chg.output, by rw [size_setCell]; exact h.chg.size, fun i hi hn => ?_⟩, ?_⟩, ?_⟩
  · by_cases hic : i = c
    · subst hic
      unfold At at a1 hc
      rw [a1, hc]
    · have h1 : (w'.setCell ⟨c, j, none⟩ v0).heap[i]? = w'.heap[i]? := Below.heap_setCell _ _ _ _ (by simpa using hic)
      rw [h1]
      exact h.chg.block i hi fun q => q.elim hic hn
  · rcases h.own with e | e
    · exact Or.inl e
    · exact Or.inr e
  · rw [setCell_twice]
    exact (setCell_self h.at_ (by rw [Array.getElem?_setIfInBounds, if_pos rfl, if_pos hjs])).symm
theorem acells_get : ∀ (A : List Ac) (k : Nat) (a : Ac), A[k]? = some a → (acells A)[k * 3]? = some (.string (tx a.frm)) ∧ (acells A)[k * 3 + 1]? = some (.string (tx a.too)) ∧ (acells A)[k * 3 + 2]? = some (optr a.made)
  | [], k, a, h => by simp at h
  | b :: r, 0, a, h => by simp at h; subst h; simp [acells]
  | b :: r, k + 1, a, h => by
    have := acells_get r k a (by simpa using h)
    have e : ∀ q, (acells (b :: r))[q + 3]? = (acells r)[q]? := fun q => by simp [acells]
    rw [show (k + 1) * 3 = k * 3 + 3 by omega, show k * 3 + 3 + 1 = (k * 3 + 1) + 3 by omega, show k * 3 + 3 + 2 = (k * 3 + 2) + 3 by omega, e, e, e]
    exact this
theorem acts_row {w : World} {v : Value} {A : List Ac} (h : Row w 167 3 v A.length (acells A)) : ∃ ad cap ab, v = .slice ad A.length cap ∧ A.length ≤ cap ∧ cap ≤ maxLen ∧ (0 < A.length → ad = some ⟨ab, 0, none⟩ ∧ v.ownBlock = some ab) ∧ actAt w ab 0 A := by
  rcases h.2 with ⟨rfl, h0⟩ | ⟨g, cap, cur, hv, _, hga, h1, h2, h3, hx⟩
  · have : A = [] := List.length_eq_zero_iff.1 h0
    subst this
    exact ⟨none, 0, 0, rfl, by simp, by simp [maxLen], fun q => by simp at q, fun k a hk => by simp at hk⟩
  · subst hv
    refine ⟨_, cap, g, rfl, h1, h2, fun _ => ⟨rfl, rfl⟩, fun k a hk => ?_⟩
    have hat : At w g cur 167 := hga
    have hl : k < A.length := (List.getElem?_eq_some_iff.1 hk).1
    have cx : ∀ q, q < A.length * 3 → w.cell? ⟨g, q, none⟩ = (acells A)[q]? := fun q hq => by
      rw [hat.cell, ← hx, List.getElem?_take_of_lt (by omega), Array.getElem?_toList]
    obtain ⟨g0, g1, g2⟩ := acells_get A k a hk
    rw [Nat.zero_add]
    exact ⟨(cx _ (by omega)).trans g0, (cx _ (by omega)).trans g1, (cx _ (by omega)).trans g2⟩
structure Sound (S : SV) : Prop where
  tree : Tree S.kept
  legal : LegalAll S.kept S.acts
  names : S.names = foldN S.kept S.acts
  made : ∀ a ∈ S.acts, ∀ n, a.made = some n → n ∈ S.ids
  few : S.kept.length ≤ 10000 ∧ S.acts.length ≤ 10000
theorem Sound.ids {S : SV} (h : Sound S) {w : World} {b : Nat} {V : SW} {L : Nat → Option Role} (r : Rep w b S V L) : ∀ x ∈ foldN S.kept S.acts, x.2 ∈ S.ids := fold_ids S.acts S.kept S.ids h.legal r.rk h.made
end Go.Proofs.YtnhokjnmpdiokaaGreatDoor.V
