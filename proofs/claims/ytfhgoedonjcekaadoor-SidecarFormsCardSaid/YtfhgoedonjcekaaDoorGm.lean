/- What is held while the document's own DecodeSide reads. No conditions: definitions and lemmas. -/
import Derived.Test.YtfhgoedonjcekaaDoorGk
import Derived.Test.YtfhgoedonjcekaaDoorSd
namespace Go.Proofs.YtfhgoedonjcekaaDoor
open Go.RowKit Go.Sha
set_option linter.unusedSimpArgs false
set_option linter.unusedVariables false

/-- A piece of what was handed in. -/
def Sub (V0 : Value) (b : List Int) (v : Value) (r : List Int) : Prop := ∀ (W : World) (bh : Nat), Src W V0 b bh → Src W v r bh
def RT : World → Value → List Int → Nat → Prop := fun _ _ _ _ => True
theorem rt_kept : Kept RT := ⟨fun _ _ _ => trivial, fun _ _ => trivial⟩
abbrev OwnT := OwnG (α := List Int) 22 RT
theorem own_src {w : World} {base w0 : Nat} {v : Value} {ps : List (Value × List Int)} (h : OwnT w base v ps (fun _ => True)) (hb : w0 ≤ base) (hw : w0 ≤ w.heap.size) (hS : ∀ x ∈ ps, ∀ bh, w0 ≤ bh → Src w x.1 x.2 bh) : OwnL w base v ps (fun bh => w0 ≤ bh) :=
  ⟨h.1, fun x hx bh hbh => hS x hx bh (by
    rcases hbh with h1 | h1 | h1
    · exact h1
    · exact Nat.le_trans hb (h.block bh h1).1
    · omega)⟩
theorem own_below {w w' : World} {base n : Nat} {v : Value} {ps : List (Value × List Int)} (h : OwnT w base v ps (fun _ => True)) (hq : ∀ q, v.ownBlock = some q → q < n) (hb : Below n w w') : OwnT w' base v ps (fun _ => True) := by
  obtain ⟨⟨h1, h2⟩, h3⟩ := h
  refine ⟨⟨h1, ?_⟩, fun _ _ _ _ => trivial⟩
  rcases h2 with h2 | ⟨g, cap, cur, hv, hg, hw, r⟩
  · exact Or.inl h2
  · exact Or.inr ⟨g, cap, cur, hv, hg, At.below (c := cur) (t := 22) hw hb (hq g (by rw [hv]; rfl)), r⟩
theorem own_shape {w : World} {base : Nat} {v : Value} {ps : List (Value × List Int)} {A : Nat → Prop} (h : OwnT w base v ps A) : ∃ ad n cap, v = .slice ad n cap := by
  obtain ⟨a, c, e⟩ := h.len
  exact ⟨a, _, c, e⟩
theorem encLs_ge (q : List (List Int)) : q.length ≤ (encLs q).length := by
  induction q with
  | nil => simp
  | cons m r ih =>
    have e : encLs (m :: r) = encB m ++ encLs r := by simp [encLs]
    rw [e, List.length_append, encB_len, List.length_cons]
    omega
/-- Behind j fields of C: the rest, the fields that are leaves, and those that are parities. -/
structure DC (w wr : World) (V0 : Value) (b : List Int) (g B C1 C : Nat) (z bb k : Int) (x0 : List Int) (j : Nat) (x : Value) (r : List Int) (ls ps : List (Value × List Int)) (vl vp : Value) : Prop where
  jC : j ≤ C
  br : Byt r
  lr : r.length ≤ 8000
  sub : Sub V0 b x r
  ex : Ext w wr
  a2 : At wr w.heap.size #[.int .i64 0, .int .i64 0, .int .i64 0, .slice none 0 0, .slice none 0 0, .slice none 0 0] 30
  ag : At wr g #[.int .i64 z, .int .i64 bb, .int .i64 k, .slice none 0 0, vl, vp] 30
  own : OwnT wr B vl ls (fun _ => True)
  subs : ∀ y ∈ ls ++ ps, Sub V0 b y.1 y.2
  eq : rFld C x0 = (rFld (C - j) r).map (fun p => ((ls ++ ps).map (·.2) ++ p.1, p.2))
  bs : B ≤ wr.heap.size
  ph : (j ≤ C1 ∧ ls.length = j ∧ ps = [] ∧ vp = .slice none 0 0) ∨ (C1 ≤ j ∧ ls.length = C1 ∧ C1 + ps.length = j ∧ ∃ B2, B ≤ B2 ∧ B2 ≤ wr.heap.size ∧ (∀ q, vl.ownBlock = some q → q < B2) ∧ OwnT wr B2 vp ps (fun _ => True))
def InvDS (w : World) (V0 : Value) (b : List Int) (g B C1 C : Nat) (z bb k : Int) (x0 : List Int) (x i : Value) (wr : World) : Prop :=
  ∃ (j : Nat) (r : List Int) (ls ps : List (Value × List Int)) (vl vp : Value), i = .int .i64 j ∧ DC w wr V0 b g B C1 C z bb k x0 j x r ls ps vl vp
theorem DC.two {w wr : World} {V0 : Value} {b : List Int} {g B C1 C : Nat} {z bb k : Int} {x0 : List Int} {j : Nat} {x : Value} {r : List Int} {ls ps : List (Value × List Int)} {vl vp : Value} (h : DC w wr V0 b g B C1 C z bb k x0 j x r ls ps vl vp) (hj : C1 ≤ j) :
    ls.length = C1 ∧ C1 + ps.length = j ∧ ∃ B2, B ≤ B2 ∧ B2 ≤ wr.heap.size ∧ (∀ q, vl.ownBlock = some q → q < B2) ∧ OwnT wr B2 vp ps (fun _ => True) := by
  rcases h.ph with ⟨h1, h2, h3, h4⟩ | ⟨_, h⟩
  · subst h3 h4
    exact ⟨by omega, by rw [List.length_nil]; omega, wr.heap.size, h.bs, Nat.le_refl _, fun q hq => (h.own.block q hq).2, OwnG.nil _ _ _ _ _⟩
  · exact h
theorem DC.par {w wr : World} {V0 : Value} {b : List Int} {g B C1 C : Nat} {z bb k : Int} {x0 : List Int} {j : Nat} {x : Value} {r : List Int} {ls ps : List (Value × List Int)} {vl vp : Value} (h : DC w wr V0 b g B C1 C z bb k x0 j x r ls ps vl vp) : ∃ ad cap, vp = .slice ad ps.length cap := by
  rcases h.ph with ⟨_, _, h3, h4⟩ | ⟨_, _, _, B2, _, _, _, o⟩
  · subst h3 h4; exact ⟨_, _, rfl⟩
  · exact o.len
/-- One more leaf. -/
theorem DC.leaf {w wr w2 w3 : World} {V0 : Value} {b : List Int} {g B C1 C : Nat} {z bb k : Int} {x0 : List Int} {j : Nat} {x : Value} {r : List Int} {ls ps : List (Value × List Int)} {vl vp : Value} (h : DC w wr V0 b g B C1 C z bb k x0 j x r ls ps vl vp)
    (hj : j < C1) (hC : C1 ≤ C) (hgB : g < B) (hwg : w.heap.size < g) {y x2 v3 : Value} {m r2 : List Int} (hc : rCnt r 0 4096 = (m, r2, 0)) (e2 : Ext wr w2) (sy : Sub V0 b y m) (sx : Sub V0 b x2 r2) (ow : OwnT w3 B v3 (ls ++ [(y, m)]) (fun _ => True)) (b3 : Below B w2 w3) :
    DC w (w3.setCell ⟨g, 4, none⟩ v3) V0 b g B C1 C z bb k x0 (j + 1) x2 r2 (ls ++ [(y, m)]) ps v3 vp := by
  obtain ⟨h1, h2, rfl, rfl⟩ : j ≤ C1 ∧ ls.length = j ∧ ps = [] ∧ vp = .slice none 0 0 := by
    rcases h.ph with h | ⟨h, _⟩
    · exact h
    · omega
  have o4 := Only.set g 4 w3 v3
  have a2' := ((at_ext h.a2 e2).below b3 (by omega))
  have ag' := ((at_ext h.ag e2).below b3 hgB)
  have bw : w.heap.size ≤ B := by omega
  refine ⟨by omega, ?_, ?_, sx, ?_, o4.at a2' (by omega), ag'.set 4 v3, ownG_only rt_kept ow o4 trivial hgB, ?_, ?_, ?_, Or.inl ⟨by omega, by simp [h2], rfl, rfl⟩⟩
  · have := (rCnt_byt r 0 4096 h.br).2; rw [hc] at this; exact this
  · have := rCnt_inv r h.br 4096 m r2 hc
    have h3 := congrArg List.length this.1
    rw [List.length_append] at h3
    have := h.lr
    omega
  · exact ext_only' (Below.trans (h.ex.trans e2) (Below.mono b3 bw)) o4 (by omega)
  · intro q hq
    rw [List.append_nil] at hq
    rcases List.mem_append.1 hq with hq | hq
    · exact h.subs q (by rw [List.append_nil]; exact hq)
    · simp at hq; subst hq; exact sy
  · rw [h.eq, show C - j = (C - (j + 1)) + 1 by omega, rFld, hc, if_pos rfl, Option.map_map]
    congr 1
    funext p
    simp
  · exact Nat.le_trans h.bs (Nat.le_trans e2.size (Nat.le_trans b3.size o4.size))
/-- One more parity. -/
theorem DC.parity {w wr w2 w3 : World} {V0 : Value} {b : List Int} {g B C1 C B2 : Nat} {z bb k : Int} {x0 : List Int} {j : Nat} {x : Value} {r : List Int} {ls ps : List (Value × List Int)} {vl vp : Value} (h : DC w wr V0 b g B C1 C z bb k x0 j x r ls ps vl vp)
    (hj : C1 ≤ j) (hC : j < C) (hgB : g < B) (hwg : w.heap.size < g) (hB : B ≤ B2) (hB2 : B2 ≤ wr.heap.size) (hq : ∀ q, vl.ownBlock = some q → q < B2) {y x2 v3 : Value} {m r2 : List Int} (hc : rCnt r 0 4096 = (m, r2, 0)) (e2 : Ext wr w2) (sy : Sub V0 b y m) (sx : Sub V0 b x2 r2) (ow : OwnT w3 B2 v3 (ps ++ [(y, m)]) (fun _ => True)) (b3 : Below B2 w2 w3) :
    DC w (w3.setCell ⟨g, 5, none⟩ v3) V0 b g B C1 C z bb k x0 (j + 1) x2 r2 ls (ps ++ [(y, m)]) vl v3 := by
  obtain ⟨h1, h2, _⟩ := h.two hj
  have o4 := Only.set g 5 w3 v3
  have a2' := ((at_ext h.a2 e2).below b3 (by omega))
  have ag' := ((at_ext h.ag e2).below b3 (by omega))
  have bw : w.heap.size ≤ B2 := by omega
  have ol := own_below (h.own.ext rt_kept e2) hq b3
  have sz : wr.heap.size ≤ (w3.setCell ⟨g, 5, none⟩ v3).heap.size := Nat.le_trans e2.size (Nat.le_trans b3.size o4.size)
  refine ⟨by omega, ?_, ?_, sx, ?_, o4.at a2' (by omega), ag'.set 5 v3, ownG_only rt_kept ol o4 trivial hgB, ?_, ?_, Nat.le_trans h.bs sz, Or.inr ⟨by omega, h1, by simp; omega, B2, hB, Nat.le_trans hB2 sz, hq, ownG_only rt_kept ow o4 trivial (by omega)⟩⟩
  · have := (rCnt_byt r 0 4096 h.br).2; rw [hc] at this; exact this
  · have := rCnt_inv r h.br 4096 m r2 hc
    have h3 := congrArg List.length this.1
    rw [List.length_append] at h3
    have := h.lr
    omega
  · exact ext_only' (Below.trans (h.ex.trans e2) (Below.mono b3 bw)) o4 (by omega)
  · intro q hq
    rw [← List.append_assoc] at hq
    rcases List.mem_append.1 hq with hq | hq
    · exact h.subs q hq
    · simp at hq; subst hq; exact sy
  · rw [h.eq, show C - j = (C - (j + 1)) + 1 by omega, rFld, hc, if_pos rfl, Option.map_map]
    congr 1
    funext p
    simp
theorem DC.stop {w wr : World} {V0 : Value} {b : List Int} {g B C1 C : Nat} {z bb k : Int} {x0 : List Int} {j : Nat} {x : Value} {r : List Int} {ls ps : List (Value × List Int)} {vl vp : Value} (h : DC w wr V0 b g B C1 C z bb k x0 j x r ls ps vl vp)
    (hj : j < C) (hc : (rCnt r 0 4096).2.2 ≠ 0) : rFld C x0 = none := by
  rw [h.eq, show C - j = (C - (j + 1)) + 1 by omega, rFld, if_neg hc]
  rfl
theorem DC.grow {w wr wr' : World} {V0 : Value} {b : List Int} {g B C1 C : Nat} {z bb k : Int} {x0 : List Int} {j : Nat} {x : Value} {r : List Int} {ls ps : List (Value × List Int)} {vl vp : Value} (h : DC w wr V0 b g B C1 C z bb k x0 j x r ls ps vl vp) (he : Ext wr wr') : DC w wr' V0 b g B C1 C z bb k x0 j x r ls ps vl vp :=
  ⟨h.jC, h.br, h.lr, h.sub, h.ex.trans he, at_ext h.a2 he, at_ext h.ag he, h.own.ext rt_kept he, h.subs, h.eq, Nat.le_trans h.bs he.size, h.ph.imp_right fun ⟨q1, q2, q3, B2, q4, q5, q6, q7⟩ => ⟨q1, q2, q3, B2, q4, Nat.le_trans q5 he.size, q6, q7.ext rt_kept he⟩⟩
theorem DC.lens {w wr : World} {V0 : Value} {b : List Int} {g B C1 C : Nat} {z bb k : Int} {x0 : List Int} {j : Nat} {x : Value} {r : List Int} {ls ps : List (Value × List Int)} {vl vp : Value} (h : DC w wr V0 b g B C1 C z bb k x0 j x r ls ps vl vp) : ls.length ≤ C1 ∧ ps.length ≤ C := by
  rcases h.ph with ⟨h1, h2, h3, h4⟩ | ⟨h1, h2, h3, _⟩
  · subst h3; exact ⟨by omega, by simp⟩
  · have := h.jC; exact ⟨by omega, by omega⟩
theorem DC.done {w wr : World} {V0 : Value} {b : List Int} {g B C1 C : Nat} {z bb k : Int} {x0 : List Int} {j : Nat} {x : Value} {r : List Int} {ls ps : List (Value × List Int)} {vl vp : Value} (h : DC w wr V0 b g B C1 C z bb k x0 j x r ls ps vl vp) (hj : ¬ j < C) : rFld C x0 = some ((ls ++ ps).map (·.2), r) := by
  have := h.jC
  rw [h.eq, show C - j = 0 by omega, rFld]
  simp
/-- What lies apart from the blocks w0 and g, and from what is not there yet. -/
def Nr {α : Type} (R : World → Value → α → Nat → Prop) (w0 g : Nat) (W : World) (v : Value) (a : α) : Prop := ∀ bh, (bh = w0 ∨ bh = g ∨ W.heap.size ≤ bh) → R W v a bh
theorem Nr.ext {α : Type} {R : World → Value → α → Nat → Prop} (k : Kept R) {w0 g : Nat} {W W' : World} {v : Value} {a : α} (h : Nr R w0 g W v a) (he : Ext W W') : Nr R w0 g W' v a := fun bh hb => k.ext (h bh (hb.imp_right (Or.imp_right fun h => Nat.le_trans he.size h))) he
theorem Nr.only {α : Type} {R : World → Value → α → Nat → Prop} (k : Kept R) {w0 g c : Nat} {W W' : World} {v : Value} {a : α} (h : Nr R w0 g W v a) (ho : Only c W W') (hc : c = w0 ∨ c = g) : Nr R w0 g W' v a := fun bh hb =>
  k.keep (h c (hc.imp_right Or.inl)) (h bh (hb.imp_right (Or.imp_right fun h => Nat.le_trans ho.size h))) ho
theorem Nr.now {α : Type} {R : World → Value → α → Nat → Prop} {w0 g : Nat} {W : World} {v : Value} {a : α} (h : Nr R w0 g W v a) : R W v a W.heap.size := h _ (Or.inr (Or.inr (Nat.le_refl _)))
/-- Both lists, when all is read. -/
theorem DC.lists {w wr : World} {V0 : Value} {b : List Int} {g B C1 C : Nat} {z bb k : Int} {x0 : List Int} {j : Nat} {x : Value} {r : List Int} {ls ps : List (Value × List Int)} {vl vp : Value} (h : DC w wr V0 b g B C1 C z bb k x0 j x r ls ps vl vp)
    (hj : C1 ≤ j) (hgB : g < B) (hwg : w.heap.size < g) (hs : Src w V0 b w.heap.size) : Nr LR w.heap.size g wr vl (ls.map (·.2)) ∧ Nr LR w.heap.size g wr vp (ps.map (·.2)) := by
  obtain ⟨h1, h2, B2, h3, h4, h5, h6⟩ := h.two hj
  have hsz := h.ex.size
  have S : ∀ y ∈ ls ++ ps, ∀ bh, w.heap.size ≤ bh → Src wr y.1 y.2 bh := fun y hy bh hb => h.subs y hy wr bh ((hs.other hb).ext h.ex)
  have o1 := own_src h.own (w0 := w.heap.size) (by omega) hsz (fun y hy => S y (List.mem_append_left _ hy))
  have o2 := own_src h6 (w0 := w.heap.size) (by omega) hsz (fun y hy => S y (List.mem_append_right _ hy))
  refine ⟨fun bh hb => o1.lr bh ?_, fun bh hb => o2.lr bh ?_⟩
  · rcases hb with rfl | rfl | hb
    · exact Or.inl ⟨Nat.le_refl _, by omega⟩
    · exact Or.inl ⟨by omega, by omega⟩
    · exact Or.inr hb
  · rcases hb with rfl | rfl | hb
    · exact Or.inl ⟨Nat.le_refl _, by omega⟩
    · exact Or.inl ⟨by omega, by omega⟩
    · exact Or.inr hb
end Go.Proofs.YtfhgoedonjcekaaDoor
