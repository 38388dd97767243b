/- Small facts for the walk of MerkleLevels: levels, a number held within, a list copied, a place set anew. -/
import Derived.Test.YtmplnlcmdcogmaaDoorWz
import Derived.Test.YtmplnlcmdcogmaaDoorXd
namespace Go.Proofs.YtmplnlcmdcogmaaDoor
open Go.RowKit Go.Sha
set_option linter.unusedSimpArgs false

/-- The leaves of the law. -/
def lvsL (n : Nat) : List (List Int) := (List.range n).map fun i : Nat => leafL [(i : Int)]
theorem lvsL_len (n : Nat) : (lvsL n).length = n := by simp [lvsL]
theorem lvsL_get (n i : Nat) (h : i < n) : (lvsL n)[i]? = some (leafL [(i : Int)]) := by simp [lvsL, h]
theorem lvsL_bd (n : Nat) : ∀ x ∈ lvsL n, x.length = 32 := by
  intro x hx
  obtain ⟨k, _, rfl⟩ := List.mem_map.1 hx
  exact leafL_length _
theorem topL_len : ∀ (n : Nat) (ls : List (List Int)), ls.length ≤ n → 0 < ls.length → (topL ls).length = 1
  | n, ls, h, h0 => by
    by_cases h1 : ls.length ≤ 1
    · rw [topL_small ls h1]; omega
    · rw [topL_great ls h1]
      have hu := upL_length ls
      obtain ⟨n', rfl⟩ : ∃ n', n = n' + 1 := ⟨n - 1, by omega⟩
      exact topL_len n' (upL ls) (by omega) (by omega)
/-- The levels: the first, the last, and from each to the next. -/
theorem levels_facts : ∀ (n : Nat) (ls : List (List Int)), ls.length ≤ n → (levelsL ls)[0]? = some ls ∧ (levelsL ls)[(levelsL ls).length - 1]? = some (topL ls) ∧ 0 < (levelsL ls).length ∧ ∀ i x y, (levelsL ls)[i]? = some x → (levelsL ls)[i + 1]? = some y → y.length = (x.length + 1) / 2
  | n, ls, h => by
    by_cases h1 : ls.length ≤ 1
    · rw [levelsL_small ls h1, topL_small ls h1]
      exact ⟨rfl, rfl, by simp, fun i x y _ h2 => by simp at h2⟩
    · rw [levelsL_great ls h1, topL_great ls h1]
      have hu := upL_length ls
      obtain ⟨n', rfl⟩ : ∃ n', n = n' + 1 := ⟨n - 1, by omega⟩
      obtain ⟨i1, i2, i3, i4⟩ := levels_facts n' (upL ls) (by omega)
      refine ⟨rfl, ?_, by simp, fun i x y hx hy => ?_⟩
      · rw [List.length_cons, show (levelsL (upL ls)).length + 1 - 1 = ((levelsL (upL ls)).length - 1) + 1 by omega, List.getElem?_cons_succ]
        exact i2
      · cases i with
        | zero =>
          rw [List.getElem?_cons_zero] at hx
          rw [List.getElem?_cons_succ, i1] at hy
          injection hx with hx
          injection hy with hy
          subst hx hy
          exact hu
        | succ i =>
          rw [List.getElem?_cons_succ] at hx hy
          exact i4 i x y hx hy

theorem round_any (k : Int) (n : Nat) (w : World) (h0 : 0 < n) (hn : n ≤ 60)  : Calls Tryd.prog 29 #[.int .i64 k, .int .i64 n] w fun e w' => w = w' ∧ ∃ q : Nat, q < n ∧ e = .returned (.int .i64 (q : Nat)) := by
  have b0 : ¬ (n : Int) = 0 := by omega
  have m1 := Int.tmod_lt_of_pos k (show (0 : Int) < n by omega)
  have m2 := Int.lt_tmod_of_pos k (show (0 : Int) < n by omega)
  obtain ⟨r, hr⟩ : ∃ r, r = k.tmod n := ⟨_, rfl⟩
  rw [← hr] at m1 m2
  have wr1 : IntKind.i64.wrap r = r := IntWalk.i64_in _ (by omega)
  have e1 : k.tmod (n : Int) = r := hr.symm
  by_cases h : r < 0
  · have d1 : decide (r < 0) = true := by simpa using h
    have wr2 : IntKind.i64.wrap (r + (n : Int)) = r + (n : Int) := IntWalk.i64_in _ (by omega)
    obtain ⟨q, hq⟩ := Int.eq_ofNat_of_zero_le (show 0 ≤ r + n by omega)
    clear hr
    go_enter Tryd.func29, Tryd.ntmps29
    go_wp2
    go_ret
    exact ⟨rfl, q, by omega, by rw [← hq]; rfl⟩
  · have d1 : decide (r < 0) = false := by simpa using h
    obtain ⟨q, hq⟩ := Int.eq_ofNat_of_zero_le (show 0 ≤ r by omega)
    clear hr
    go_enter Tryd.func29, Tryd.ntmps29
    go_wp2
    go_ret
    exact ⟨rfl, q, by omega, by rw [← hq]; rfl⟩

/-- append([][]byte{}, l...): the same slices in a row of its own. -/
theorem list_append_copy {w : World} {ops : Array Oper} {rest : List Oper} {o : Oper} {a : Act} {Q : Exit → Act → World → Prop} (hgd : o.guard = none) (s x : Operand)
    (ho : o.op = .call { callee := .builtin .append, args := #[s, x], argTypes := #[25, 25] })
    (w0 : World) (hw : w = w0.alloc (.cells #[] 22)) (hs : a.eval s = .slice (some ⟨w0.heap.size, 0, none⟩) 0 0) (pb po n cap : Nat) (ls : List (List Int)) (hx : a.eval x = .slice (some ⟨pb, po, none⟩) n cap) (hn : ls.length = n) (h0 : 0 < n) (hn2 : n ≤ 1000)
    (hc : ∀ j m, ls[j]? = some m → ∃ x, w0.cell? ⟨pb, po + j, none⟩ = some x ∧ Src w0 x m w0.heap.size)
    (h : ∀ g c w' (xs : List Value), Ext w0 w' → w0.heap.size ≤ g → (∃ cur, w'.heap[g]? = some (.cells cur 22 (0, 0)) ∧ n ≤ cur.size ∧ ∀ j, j < n → cur[j]? = xs[j]?) → xs.length = n → (∀ j m, ls[j]? = some m → ∃ x, xs[j]? = some x ∧ w0.cell? ⟨pb, po + j, none⟩ = some x) → wpList Tryd.prog ops Q rest (a.put o.dst (.slice (some ⟨g, 0, none⟩) n c)) w') : wpList Tryd.prog ops Q (o :: rest) a w := by
  subst hw
  obtain ⟨i, hi', hzz⟩ := Option.map_eq_some_iff.1 u22zero
  simp only [Prod.mk.injEq] at hzz
  obtain ⟨hz1, hz2, hz3⟩ := hzz
  -- the values
  have hex : ∀ k, k ≤ n → ∃ xs : List Value, xs.length = k ∧ ∀ j m, j < k → ls[j]? = some m → ∃ x, xs[j]? = some x ∧ w0.cell? ⟨pb, po + j, none⟩ = some x ∧ x.oneCell' = true := by
    intro k
    induction k with
    | zero => intro _; exact ⟨[], rfl, fun j m hj => by omega⟩
    | succ k ih =>
      intro hk
      obtain ⟨xs, hl, hxs⟩ := ih (by omega)
      obtain ⟨m, hm⟩ : ∃ m, ls[k]? = some m := ⟨_, List.getElem?_eq_getElem (by omega)⟩
      obtain ⟨x, hx, sx⟩ := hc k m hm
      refine ⟨xs ++ [x], by simp [hl], fun j m' hj hm' => ?_⟩
      by_cases e : j = k
      · subst e
        exact ⟨x, by rw [List.getElem?_append_right (by omega), hl]; simp, hx, sx.one⟩
      · obtain ⟨y, h1, h2⟩ := hxs j m' (by omega) hm'
        exact ⟨y, by rw [List.getElem?_append_left (by omega)]; exact h1, h2⟩
  obtain ⟨xs, hl, hxs⟩ := hex n (Nat.le_refl _)
  have hown : (w0.alloc (.cells #[] 22)).ownsRow w0.heap.size 22 1 (.slice (some ⟨w0.heap.size, 0, none⟩) 0 0) 0 [] := World.ownsRow_made w0 #[] 0 (Nat.le_refl _) (by unfold maxLen; omega) rfl
  have e1 : Ext w0 (w0.alloc (.cells #[] 22)) := Ext.alloc w0 _
  have hget : ∀ j u, xs[j]? = some u → ∃ m, ls[j]? = some m ∧ j < n := fun j u hu => by
    have hj : j < xs.length := (List.getElem?_eq_some_iff.1 hu).1
    exact ⟨_, List.getElem?_eq_getElem (by omega), by omega⟩
  refine wpList_append_own_at (w0.alloc (.cells #[] 22)) hgd s x 25 ho w0.heap.size 22 i (.slice none 0 0) 1 24 Tryd.underlying25 hi' hz1 hz2 hz3 rfl (by omega) (.slice (some ⟨w0.heap.size, 0, none⟩) 0 0) 0 [] hs hown ⟨pb, po, none⟩ n cap xs hx (by rw [hl]; omega) ?_ ?_ (by unfold maxLen; omega) (by omega) (by rw [size_alloc]; omega) ?_
  · intro j u hu
    obtain ⟨m, hm, hj⟩ := hget j u hu
    obtain ⟨y, h1, h2, _⟩ := hxs j m hj hm
    rw [hu] at h1
    injection h1 with h1
    subst h1
    rw [Addr.add_mid, Below.cell (p := ⟨pb, po + j, none⟩) e1 (World.block_lt_of_cell? w0 _ h2)]
    exact h2
  · intro u hu
    obtain ⟨j, hj, rfl⟩ := List.getElem_of_mem hu
    obtain ⟨m, hm, hjn⟩ := hget j _ (List.getElem?_eq_getElem hj)
    obtain ⟨y, h1, _, h3⟩ := hxs j m hjn hm
    rw [List.getElem?_eq_getElem hj] at h1
    injection h1 with h1
    rw [h1]; exact h3
  · intro v' w' ow gr _ hat
    rw [Nat.zero_add, List.nil_append] at ow
    obtain ⟨_, ⟨hv, h9⟩ | ⟨g, c, cur, hv, hg, hgw, hnc, _, hcs, htk⟩⟩ := ow
    · omega
    · subst hv
      refine h g c w' xs (Below.trans e1 ?_) hg ⟨cur, hgw, by omega, fun j hj => ?_⟩ hl (fun j m hm => ?_)
      · refine ⟨gr.os, gr.tape, gr.output, gr.size, fun k hk => gr.block k (by rw [size_alloc]; omega) fun e => ?_⟩
        simp [Value.ownBlock] at e
        omega
      · rw [← htk, ← Array.getElem?_toList, List.getElem?_take_of_lt (by omega)]
      · obtain ⟨y, h1, h2, _⟩ := hxs j m (by have := (List.getElem?_eq_some_iff.1 hm).1; omega) hm
        exact ⟨y, h1, h2⟩
end Go.Proofs.YtmplnlcmdcogmaaDoor
