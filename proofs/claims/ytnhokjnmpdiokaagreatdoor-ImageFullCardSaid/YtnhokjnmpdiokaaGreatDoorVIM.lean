/- Insert where there is no room. A name put wherever it goes: Insert, put, apply of one act that makes a name. A name is made wherever it goes: change, add. -/
import Derived.Test.YtnhokjnmpdiokaaGreatDoorVKM
import Derived.Test.YtnhokjnmpdiokaaGreatDoorVFM
set_option linter.unusedSimpArgs false
set_option linter.unusedVariables false
namespace Go.Proofs.YtnhokjnmpdiokaaGreatDoor.V
open Go.RowKit Go.Pth

theorem run_append_zeros_new {P : Program} (w : World) (t tn ty e : TypeId) (kn : IntKind) (i : TypeInfo) (z : Value) (ht : P.underlying t = some (.slice e)) (htn : P.underlying tn = some (.int kn)) (hi : P.info? e = some i) (hz : i.zero = some z) (hzs : z.cells.size = i.size) (hsz : 0 < i.size)
    (g n cap : Nat) (xs : List Value) (hown : Row w e i.size (.slice (some ⟨g, 0, none⟩) n cap) n xs) (m : Nat) (h0 : 0 < m) (hroom : ¬ n + m ≤ cap) (h63 : n + m ≤ maxLen) (hbytes : (n + m) * i.bytes ≤ 140737488355328) :
    ∃ cap' w', (Builtin.append_ #[t, tn] ty #[.slice (some ⟨g, 0, none⟩) n cap, .int .i64 m]).run P w = .ok (.slice (some ⟨w.heap.size, 0, none⟩) (n + m) cap') w' ∧ Row w' e i.size (.slice (some ⟨w.heap.size, 0, none⟩) (n + m) cap') (n + m) (xs ++ (Builtin.zeroCells z.cells m).toList) ∧ Ext w w' := by
  have hsmall : ((n + m : Nat) : Int) ≤ 9223372036854775807 := by simp only [maxLen] at h63; omega
  have hw : IntKind.i64.wrap (m : Int) = m := by rw [IntKind.wrap_i64]; omega
  have hneg : ¬ ((m : Int) < 0) := by omega
  have hb1 : m * i.bytes ≤ 140737488355328 := Nat.le_trans (Nat.mul_le_mul_right _ (by omega)) hbytes
  have h48i : ¬ (281474976710656 < (m : Int) * (i.bytes : Int)) := by rw [← Int.natCast_mul]; omega
  have hm0 : m ≠ 0 := by omega
  have hns : ¬ (m * i.size = 0) := Nat.mul_ne_zero hm0 (by omega)
  have hnl : (Builtin.zeroCells z.cells m).toList.length = m * i.size := by rw [Array.length_toList, size_zeroCells, hzs]
  have h63' : ¬ (9223372036854775807 < ((n : Int) + (m : Int))) := by omega
  have hfit := growslice_fits (need := n + m) (old := cap) (bytes := i.bytes) (by omega) hbytes
  have h48' : ¬ (281474976710656 < Builtin.nextslicecap (n + m) cap * i.bytes) := by omega
  have holds : ∀ j u, xs[j]? = some u → w.cell? ((⟨g, 0, none⟩ : Addr).add j) = some u := hown.cells (g := g) rfl
  have hold := run_firstCells_some (P := P) w.drew i.size n ⟨g, 0, none⟩ n cap xs hown.1 (by simpa using holds)
  have hrow := row_grown (w := w) (e := e) (i := i) (old := cap) hzs (n := n) (m := m) (xs := xs) hown.1 hnl (by omega)
  refine ⟨_, _, ?_, hrow, ?_⟩
  · simp [Builtin.append_, run_underlying ht, run_underlying htn, sizeOf, typeInfo, zeroValue, hi, hz, asInt, asIntOf, hw, hns, hneg, h48i, hroom, h63', h48', Question.forced, hold, newRow, grownCap]
    have e1 : (xs ++ (Builtin.zeroCells z.cells m).toList).toArray = xs.toArray ++ Builtin.zeroCells z.cells m := by simp
    rw [e1, Array.append_assoc]
  · exact (Ext.drew w).trans (Ext.alloc _ _)

set_option maxRecDepth 100000 in
set_option maxHeartbeats 8000000 in
theorem insert_grow (g cap i b capr : Nat) (l r : List Nm) (w : World) (h : Row w 79 2 (.slice (some ⟨g, 0, none⟩) l.length cap) l.length (ents l)) (hr : Row w 79 2 (.slice (some ⟨b, 0, none⟩) r.length capr) r.length (ents r)) (hi : i < l.length) (hr0 : 0 < r.length) (hroom : ¬ l.length + r.length ≤ cap) (hl : l.length ≤ 1000000) (hrl : r.length ≤ 1000000) :
    Calls Tryz.prog 148 #[.slice (some ⟨g, 0, none⟩) l.length cap, .int .i64 i, .slice (some ⟨b, 0, none⟩) r.length capr] w (InsPost w (l.length + r.length) (.slice (some ⟨g, 0, none⟩) l.length cap) (ents (l.take i ++ r ++ l.drop i))) := by
  obtain ⟨ii, hi1, hi2, hi3, hi4⟩ := info_of info64
  obtain ⟨cur, hat, hn, hcm, hcs, hxs⟩ := Row.at' h
  obtain ⟨cub, hatb, hnb, hcmb, hcsb, hxsb⟩ := Row.at' hr
  simp only [maxLen] at hcm hcmb
  have hpre : Row w 79 ii.size (.slice (some ⟨g, 0, none⟩) i cap) i (ents (l.take i)) := by
    rw [hi3]
    refine ⟨by rw [ents_len, List.length_take]; omega, .inr ⟨g, cap, cur, rfl, Nat.zero_le _, hat, by omega, by simp only [maxLen]; omega, hcs, ?_⟩⟩
    rw [← ents_take, ← hxs, List.take_take, Nat.min_eq_left (by omega)]
  obtain ⟨n, hnn⟩ : ∃ n, n = l.length := ⟨_, rfl⟩
  obtain ⟨m, hmm⟩ : ∃ m, m = r.length := ⟨_, rfl⟩
  rw [← hnn] at hi hroom hl hn hxs h ⊢
  rw [← hmm] at hr0 hroom hrl hnb hxsb hr ⊢
  have AZ := fun ty => run_append_zeros_new (P := Tryz.prog) w 75 3 ty 79 .i64 ii _ Tryz.underlying75 Tryz.underlying3 hi1 hi2 (by rw [hi3]; rfl) (by rw [hi3]; omega) g i cap _ hpre (n + m - i) (by omega) (by omega) (by simp only [maxLen]; omega) (by rw [hi4]; omega)
  obtain ⟨cap', W1, hap, hrow, hext⟩ := AZ 75
  rw [hi3] at hrow
  rw [show i + (n + m - i) = n + m by omega] at hap hrow
  obtain ⟨cur1, hat1, hn1, hcm1, hcs1, hxs1⟩ := Row.at' hrow
  simp only [maxLen] at hcm1
  obtain ⟨H, hH⟩ : ∃ H, H = w.heap.size := ⟨_, rfl⟩
  rw [← hH] at hap hat1 hrow
  have hgH : g ≠ H := fun e => by have := hat.lt; omega
  have hbH : b ≠ H := fun e => by have := hatb.lt; omega
  have HAP := Lib.hid hap
  have ag1 := hat.ext hext
  have ab1 := hatb.ext hext
  obtain ⟨D, hD⟩ : ∃ D, D = ents (l.drop i) := ⟨_, rfl⟩
  have hDl : D.length = (n - i) * 2 := by rw [hD, ents_len, List.length_drop, hnn]
  obtain ⟨R, hR⟩ : ∃ R, R = ents r := ⟨_, rfl⟩
  have hRl : R.length = m * 2 := by rw [hR, ents_len, hmm]
  have hcp1 : ∀ ty dc, (Builtin.copy_ #[75, 74] ty #[.slice (some ⟨H, i * 2, none⟩) (n + m - i) dc, .slice (some ⟨b, 0, none⟩) m capr]).run Tryz.prog W1 = .ok (goInt (Nat.min m (n + m - i))) (W1.setCells H (i * 2) R) := fun ty dc =>
    run_copy_wide (P := Tryz.prog) W1 75 74 ty 79 2 H (i * 2) (n + m - i) dc ⟨b, 0, none⟩ m capr R Tryz.underlying75 sz64 (by rw [hRl]; congr 1; simp only [Nat.min_def]; split <;> omega)
      (fun t u hu => by
        have ht := (List.getElem?_eq_some_iff.1 hu).1
        rw [Addr.add_lit, Nat.zero_add, ab1.cell, ← hu, hR, ← hxsb, List.getElem?_take_of_lt (by omega), Array.getElem?_toList])
      (fun t ht => by rw [hat1.cell, Array.getElem?_eq_getElem (by omega)]; rfl) (fun t ht => hat1.frozen _) (by rw [hR]; exact ents_one _)
  obtain ⟨W2, hW2⟩ : ∃ W2, W2 = W1.setCells H (i * 2) R := ⟨_, rfl⟩
  have hat2 := At.sets R (i * 2) W1 cur1 hat1 (by omega)
  have cc2 := Chg.sets H R (i * 2) W1
  rw [← hW2] at hat2 hcp1 cc2
  have ag2 := cc2.at ag1 hgH
  obtain ⟨C2, hC2⟩ : ∃ C2, C2 = (cur1.toList.take (i * 2) ++ R ++ cur1.toList.drop (i * 2 + R.length)).toArray := ⟨_, rfl⟩
  rw [← hC2] at hat2
  have hC2s : C2.size = cap' * 2 := by
    rw [hC2]; simp only [List.size_toArray, List.length_append, List.length_take, List.length_drop, Array.length_toList]; omega
  have hcp2 : ∀ ty dc sc, (Builtin.copy_ #[75, 75] ty #[.slice (some ⟨H, (i + m) * 2, none⟩) (n + m - (i + m)) dc, .slice (some ⟨g, i * 2, none⟩) (n - i) sc]).run Tryz.prog W2.drew = .ok (goInt (Nat.min (n - i) (n + m - (i + m)))) (W2.drew.setCells H ((i + m) * 2) D) := fun ty dc sc =>
    run_copy_wide (P := Tryz.prog) W2.drew 75 75 ty 79 2 H ((i + m) * 2) (n + m - (i + m)) dc ⟨g, i * 2, none⟩ (n - i) sc D Tryz.underlying75 sz64 (by rw [hDl]; congr 1; simp only [Nat.min_def]; split <;> omega)
      (fun t u hu => by
        have ht := (List.getElem?_eq_some_iff.1 hu).1
        rw [Addr.add_lit]
        show W2.cell? _ = _
        rw [ag2.cell, ← hu, hD, ← ents_drop, ← hxs, List.getElem?_drop, List.getElem?_take_of_lt (by omega), Array.getElem?_toList])
      (fun t ht => by show (W2.cell? _).isSome = true; rw [hat2.cell, Array.getElem?_eq_getElem (by omega)]; rfl) (fun t ht => (at_drew hat2).frozen _) (by rw [hD]; exact ents_one _)
  have hat3 := At.sets D ((i + m) * 2) W2.drew C2 (at_drew hat2) (by omega)
  have cc3 : Chg (fun i => i = H) W1 (W2.drew.setCells H ((i + m) * 2) D) := (cc2.trans (Chg.of_ext (Ext.drew W2)) (fun _ _ h => h)).trans (Chg.sets H D ((i + m) * 2) _) (fun _ _ h => h)
  have r3 : Row (W2.drew.setCells H ((i + m) * 2) D) 79 2 (.slice (some ⟨H, 0, none⟩) (n + m) cap') (n + m) (ents (l.take i ++ r ++ l.drop i)) := by
    have hlt : (l.take i).length = i := by rw [List.length_take]; omega
    refine ⟨by rw [ents_len]; simp only [List.length_append, List.length_drop, hlt]; omega, .inr ⟨H, cap', _, rfl, Nat.zero_le _, hat3, hn1, by simp only [maxLen]; omega, ?_, ?_⟩⟩
    · simp only [List.size_toArray, List.length_append, List.length_take, List.length_drop, Array.length_toList]; omega
    · have e0 : cur1.toList.take (i * 2) = ents (l.take i) := by
        have := congrArg (List.take (i * 2)) hxs1
        rw [List.take_take, Nat.min_eq_left (by omega), List.take_left' (by rw [ents_len, hlt])] at this
        exact this
      have e1 : C2.toList.take ((i + m) * 2) = ents (l.take i) ++ R := by
        rw [hC2]
        show List.take _ (List.take (i * 2) cur1.toList ++ R ++ _) = _
        rw [e0]
        refine List.take_left' ?_
        rw [List.length_append, ents_len, hlt]; omega
      show List.take ((n + m) * 2) (List.take ((i + m) * 2) C2.toList ++ D ++ List.drop ((i + m) * 2 + D.length) C2.toList) = _
      rw [e1, hR, hD, ← ents_app, ← ents_app]
      refine List.take_left' ?_
      rw [ents_len]; simp only [List.length_append, List.length_drop, hlt]; omega
  have gr : Grew w (W2.drew.setCells H ((i + m) * 2) D) (.slice (some ⟨g, 0, none⟩) n cap) (.slice (some ⟨H, 0, none⟩) (n + m) cap') :=
    ⟨(Chg.of_ext hext).trans cc3 (fun j hj e => by omega), Or.inr ⟨H, rfl, by omega⟩⟩
  have FIN := Lib.hid (⟨r3, gr⟩ : _ ∧ _)
  clear h hr hat hatb hxs hxsb hcs hcsb hD hDl hR hRl hW2 hat1 hC2 hC2s hat2 cc2 r3 hnn hmm gr cc3 hat3 ag1 ag2 ab1 hrow hxs1 hcs1 hap AZ hpre hi1 hi2 hi3 hi4 hext hH hgH hbH
  generalize l.take i ++ r ++ l.drop i = X at *
  have hz1 : ¬ ((m : Int) = 0) := by omega
  have hz2 : ¬ ((i : Int) = (n : Int)) := by omega
  have hz3 : (i : Int) ≤ (n : Int) := by omega
  have hw1 : IntKind.i64.wrap ((i : Int) + (m : Int)) = (i : Int) + (m : Int) := by rw [IntKind.wrap_i64]; omega
  have hw2 : IntKind.i64.wrap ((n : Int) + (m : Int)) = (n : Int) + (m : Int) := by rw [IntKind.wrap_i64]; omega
  have hw3 : IntKind.i64.wrap ((n : Int) + (m : Int) - (i : Int)) = ((n + m - i : Nat) : Int) := by rw [IntKind.wrap_i64]; omega
  have hb1 : (0 : Int) ≤ (i : Int) + (m : Int) := by omega
  have hin : i ≤ n := by omega
  have htn : ((i : Int) + (m : Int)).toNat = i + m := by omega
  have htn2 : ((n : Int) + (m : Int)).toNat = n + m := by omega
  have hb0 : (0 : Int) ≤ (n : Int) + (m : Int) := by omega
  have hb3 : (i : Int) ≤ (n : Int) + (m : Int) := by omega
  have hb4 : ¬ (cap = i) := by omega
  have hb5 : (cap : Int) < (n : Int) + (m : Int) := by omega
  have hb7 : (i : Int) + (m : Int) ≤ (n : Int) + (m : Int) := by omega
  have hb8 : (i : Int) ≤ (cap : Int) := by omega
  have hb9 : ¬ (cap' = i) := by omega
  have hb10 : ¬ (cap' = i + m) := by omega
  have hb11 : (n : Int) + (m : Int) ≤ (cap' : Int) := by omega
  go_enter Tryz.func148, Tryz.ntmps148
  go_wp2_with (at_builtin; refine Lib.wpList_append_run _ rfl _ _ _ _ rfl _ _ rfl rfl _ _ (HAP.out) ?_)
  go_wp2
  go_still_tail 8, (by kernel_rfl)
  change wpList _ _ _ _ _ W2.drew
  go_wp2
  go_ret
  exact ⟨_, rfl, FIN.out.1, FIN.out.2⟩
end Go.Proofs.YtnhokjnmpdiokaaGreatDoor.V

set_option linter.unusedSimpArgs false
set_option linter.unusedVariables false
namespace Go.Proofs.YtnhokjnmpdiokaaGreatDoor.V
open Go.RowKit Go.Pth

theorem insert_any (v : Value) (k b capr : Nat) (l r : List Nm) (w : World) (h : Row w 79 2 v l.length (ents l)) (hr : Row w 79 2 (.slice (some ⟨b, 0, none⟩) r.length capr) r.length (ents r)) (hbg : v.ownBlock ≠ some b) (hk : k ≤ l.length) (hr0 : 0 < r.length) (hl : l.length ≤ 1000000) (hrl : r.length ≤ 1000000) :
    Calls Tryz.prog 148 #[v, .int .i64 k, .slice (some ⟨b, 0, none⟩) r.length capr] w (InsPost w (l.length + r.length) v (ents (l.take k ++ r ++ l.drop k))) := by
  rcases Nat.lt_or_ge k l.length with hlt | hge
  · obtain ⟨g, cap, rfl⟩ : ∃ g cap, v = .slice (some ⟨g, 0, none⟩) l.length cap := by
      rcases h.2 with ⟨_, h2⟩ | ⟨g, cap, cur, hv, _⟩
      · omega
      · exact ⟨g, cap, hv⟩
    have hb : b ≠ g := fun e => hbg (by rw [e]; rfl)
    by_cases hroom : l.length + r.length ≤ cap
    · exact insert_back g cap k b capr l r w h hr hb hk hr0 hroom hl hrl
    · exact insert_grow g cap k b capr l r w h hr hlt hr0 hroom hl hrl
  · obtain rfl : k = l.length := by omega
    rw [List.take_of_length_le (Nat.le_refl _), List.drop_of_length_le (Nat.le_refl _), List.append_nil]
    exact insert_end _ _ l r w h (Row.trr hr) hr0 hl hrl
def insN (l : List Nm) (p : B) (a : Nat) : List Nm := l.take (place l p) ++ [(p, a)] ++ l.drop (place l p)

end Go.Proofs.YtnhokjnmpdiokaaGreatDoor.V

set_option linter.unusedSimpArgs false
set_option linter.unusedVariables false
namespace Go.Proofs.YtnhokjnmpdiokaaGreatDoor.V
open Go.RowKit Go.Pth

theorem insN_len (l : List Nm) (p : B) (a : Nat) : (insN l p a).length = l.length + 1 := by
  have := place_le l p
  unfold insN
  simp only [List.length_append, List.length_take, List.length_drop, List.length_cons, List.length_nil]; omega
theorem insN_mem {l : List Nm} {p : B} {a : Nat} {x : Nm} (h : x ∈ insN l p a) : x ∈ l ∨ x = (p, a) := by
  unfold insN at h
  rcases List.mem_append.1 h with h | h
  · rcases List.mem_append.1 h with h | h
    · exact Or.inl (List.mem_of_mem_take h)
    · exact Or.inr (List.mem_singleton.1 h)
  · exact Or.inl (List.mem_of_mem_drop h)
theorem look_apart {l : List Nm} {p : B} (hs : Srt l) (hn : look l p = none) (j : Nat) (hj : j < l.length) : l[j].1 ≠ p := by
  intro e
  rcases Nat.lt_trichotomy j (place l p) with h | h | h
  · have := place_before l p j h hj
    rw [e, less_irr] at this; cases this
  · subst h
    unfold look at hn
    rw [dif_pos hj, if_pos e] at hn; cases hn
  · have h1 := place_at l p (by omega)
    have h2 := (List.pairwise_iff_getElem.1 hs) (place l p) j (by omega) hj h
    rw [e, h1] at h2; cases h2
theorem Srt.ins {l : List Nm} {p : B} {a : Nat} (hs : Srt l) (hn : look l p = none) : Srt (insN l p a) := by
  have hk := place_le l p
  have hd : l.take (place l p) ++ l.drop (place l p) = l := List.take_append_drop _ _
  have hs2 : Srt (l.take (place l p) ++ l.drop (place l p)) := by rw [hd]; exact hs
  unfold insN Srt at *
  rw [List.pairwise_append] at hs2
  rw [List.pairwise_append, List.pairwise_append]
  have below : ∀ x ∈ l.take (place l p), less x.1 p = true := by
    intro x hx
    obtain ⟨j, hj, rfl⟩ := List.mem_iff_getElem.1 hx
    rw [List.getElem_take]
    rw [List.length_take] at hj
    exact place_before l p j (by omega) (by omega)
  have above : ∀ x ∈ l.drop (place l p), less p x.1 = true := by
    intro x hx
    obtain ⟨j, hj, rfl⟩ := List.mem_iff_getElem.1 hx
    rw [List.getElem_drop]
    rw [List.length_drop] at hj
    have h1 := place_after l p hs (place l p + j) (by omega) (by omega)
    have h2 := less_tri _ _ (look_apart hs hn (place l p + j) (by omega))
    rw [h1] at h2
    simpa using h2
  refine ⟨⟨hs2.1, List.pairwise_singleton _ _, fun x hx y hy => ?_⟩, hs2.2.1, fun x hx y hy => ?_⟩
  · rw [List.mem_singleton.1 hy]; exact below x hx
  · rcases List.mem_append.1 hx with hx | hx
    · exact hs2.2.2 x hx y hy
    · rw [List.mem_singleton.1 hx]; exact above y hy
theorem takes_none {l : List Nm} {K : Nat → Int} {p : B} (h : takes l K p = 0) : look l p = none := by
  unfold takes at h
  cases e : look l p with
  | none => rfl
  | some q => rw [e] at h; cases h

end Go.Proofs.YtnhokjnmpdiokaaGreatDoor.V
