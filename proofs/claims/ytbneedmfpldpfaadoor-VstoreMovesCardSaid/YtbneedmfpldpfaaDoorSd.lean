/- Contracts of Insert at the end, put, apply of one act that makes a name. -/
import Derived.Test.YtbneedmfpldpfaaDoorSa
namespace Go.Proofs.YtbneedmfpldpfaaDoor
open Go.RowKit Go.Pth

theorem Row.src {P : Program} {w : World} {e : TypeId} {k : Nat} {v : Value} {n : Nat} {xs : List Value} (h : Row w e k v n xs) (h1 : ∀ u ∈ xs, u.oneCell' = true) {tx e' : TypeId} (hk : P.underlying tx = some (.slice e')) : Src P k tx v n xs w := by
  rcases h.2 with ⟨rfl, rfl⟩ | ⟨g, cap, cur, rfl, _, _⟩
  · have : xs = [] := List.length_eq_zero_iff.1 (by simpa using h.1)
    subst this
    exact Src.ofNil w hk 0
  · exact Src.ofSlice w hk ⟨g, 0, none⟩ n cap xs h.1 (World.ownsRow.cells h rfl) h1
theorem ents_one (l : List Nm) : ∀ u ∈ ents l, u.oneCell' = true := by
  intro u hu
  unfold ents at hu
  obtain ⟨p, _, hp⟩ := List.mem_flatMap.1 hu
  rcases List.mem_cons.1 hp with rfl | hp
  · rfl
  · rcases List.mem_cons.1 hp with rfl | hp
    · rfl
    · cases hp
theorem TrR.src {w : World} {v : Value} {l : List Nm} {ad : Option Addr} {cap b o : Nat} (h : TrR w v l ad cap b o) (hl : 0 < l.length) {tx e' : TypeId} (hk : Tryd.prog.underlying tx = some (.slice e')) : Src Tryd.prog 2 tx v l.length (ents l) w := by
  rw [h.val, h.adr hl]
  refine Src.ofSlice w hk ⟨b, o, none⟩ l.length cap (ents l) (ents_len l) (fun j u hu => ?_) (ents_one l)
  rw [Addr.add_lit]
  have hj := (List.getElem?_eq_some_iff.1 hu).1
  rw [ents_len] at hj
  have hq : j / 2 < l.length := by omega
  have g := ents_get l (j / 2) hq
  rcases Nat.mod_two_eq_zero_or_one j with e | e
  · have e2 : j / 2 * 2 = j := by omega
    have := h.nm (j / 2) hq
    rw [e2] at this g
    rw [this, ← g.1, hu]
  · have e2 : j / 2 * 2 + 1 = j := by omega
    have := h.nd (j / 2) hq
    rw [Nat.add_assoc, e2] at this
    rw [e2] at g
    rw [this, ← g.2, hu]
theorem info64 : (Tryd.prog.info? 64).map (fun i => (i.zero, i.size, i.bytes)) = some (some (.agg #[.string ByteArray.empty, .pointer none]), 2, 24) := by kernel_rfl
theorem info87 : (Tryd.prog.info? 87).map (fun i => (i.zero, i.size, i.bytes)) = some (some (.agg #[.string ByteArray.empty, .string ByteArray.empty, .pointer none]), 3, 40) := by kernel_rfl
theorem ents_app (a b : List Nm) : ents (a ++ b) = ents a ++ ents b := by simp [ents]

set_option maxRecDepth 100000 in
set_option maxHeartbeats 4000000 in
theorem insert_end (v vr : Value) (l r : List Nm) (w : World) (h : Row w 64 2 v l.length (ents l)) {ad : Option Addr} {cap b o : Nat} (hr : TrR w vr r ad cap b o) (hr0 : 0 < r.length) (hl : l.length ≤ 1000000) (hrl : r.length ≤ 1000000) :
    Calls Tryd.prog 72 #[v, .int .i64 l.length, vr] w fun e w' => ∃ v', e = .returned v' ∧ Row w' 64 2 v' (l.length + r.length) (ents (l ++ r)) ∧ Grew w w' v v' := by
  obtain ⟨i, hi1, hi2, hi3, hi4⟩ := info_of info64
  have HR := fun ty => run_append_row (P := Tryd.prog) w 60 59 ty 64 i _ Tryd.underlying60 hi1 hi2 (by rw [hi3]; rfl) v l.length (ents l) (by rw [hi3]; exact h) vr r.length (ents r) (by rw [hi3]; exact hr.src hr0 Tryd.underlying59) (by simp only [maxLen]; omega) (by rw [hi4]; omega)
  rw [hi3, ← ents_app] at HR
  obtain ⟨da, ca, rfl, hc1, hc2, hc3, hc4⟩ := h.shape
  have hv := hr.val
  subst hv
  obtain ⟨v', w', hrun, hrow, hg⟩ := HR 60
  have R1 := Lib.hid hrun
  have R2 := Lib.hid hrow
  have R3 := Lib.hid hg
  simp only [maxLen] at hc2
  clear HR hrun hrow hg h hi1 hi2 hi3 hi4 hc4 hr
  generalize ents (l ++ r) = X at *
  generalize l.length = n at *
  generalize r.length = m at *
  have q0 : (m == 0) = false := by simp; omega
  have q1 : ((m : Int) == 0) = false := by simp; omega
  have i0 : (0 : Int) ≤ (n : Int) := by omega
  have i1 : (n : Int) ≤ (ca : Int) := by omega
  by_cases hk : ca = n
  · subst hk
    cases da with
    | none =>
      obtain ⟨e1, _⟩ := hc3 rfl
      subst e1
      have R4 := R2.out
      rw [Nat.zero_add] at R4
      have R5 := Lib.hid R4
      clear R4 R2
      go_enter Tryd.func72, Tryd.ntmps72
      go_wp2_with (at_builtin; refine Lib.wpList_append_run _ rfl _ _ _ _ rfl _ _ rfl rfl _ _ R1.out ?_)
      go_ret
      exact ⟨_, rfl, by first | exact R5.out | (rw [Nat.zero_add]; exact R5.out), R3.out⟩
    | some p =>
      clear hc3
      go_enter Tryd.func72, Tryd.ntmps72
      go_wp2_with (at_builtin; refine Lib.wpList_append_run _ rfl _ _ _ _ rfl _ _ rfl rfl _ _ R1.out ?_)
      go_ret
      exact ⟨_, rfl, R2.out, R3.out⟩
  · cases da with
    | none =>
      obtain ⟨e1, e2⟩ := hc3 rfl
      omega
    | some p =>
      clear hc3
      go_enter Tryd.func72, Tryd.ntmps72
      go_wp2_with (at_builtin; refine Lib.wpList_append_run _ rfl _ _ _ _ rfl _ _ rfl rfl _ _ R1.out ?_)
      go_ret
      exact ⟨_, rfl, R2.out, R3.out⟩

/-- One that reads. -/
theorem runL {P : Program} {op : Oper} {a : Act} {w : World} {K : Act → World → Prop} {Q : Exit → Act → World → Prop} (d : Option Tmp) (hd : op.dst = d) (v : Value) (hr : (execOp a.eval op).run P w = .ok (.value v) w) (h : K (a.put d v) w) : op.wp P a w K Q := runV d hd v w hr h
/-- One of three may come up. -/
theorem next_three {P : Program} {ops : Array Oper} {Q : Exit → Act → World → Prop} {md : Region.Mode} (i j l : Nat) {oi oj ol : Oper} {fuel : Nat} {listed : Array Bool} {a : Act} {w : World} (hi : ops[i]? = some oi) (hj : ops[j]? = some oj) (hl : ops[l]? = some ol)
    (hr : Region.ready md ops listed = [i, j, l]) (hgi : oi.guard = none) (hgj : oj.guard = none) (hgl : ol.guard = none)
    (h1 : ∀ K : Act → World → Prop, (∀ a w, wpAny P md ops Q fuel (listed.setIfInBounds i true) a w → K a w) → oi.wp P a w K Q)
    (h2 : ∀ K : Act → World → Prop, (∀ a w, wpAny P md ops Q fuel (listed.setIfInBounds j true) a w → K a w) → oj.wp P a w K Q)
    (h3 : ∀ K : Act → World → Prop, (∀ a w, wpAny P md ops Q fuel (listed.setIfInBounds l true) a w → K a w) → ol.wp P a w K Q) : wpAny P md ops Q (fuel + 1) listed a w := by
  refine wpAny_ready hr (by simp) (AllReady.cons hi (fun K hK => ?_) (AllReady.cons hj (fun K hK => ?_) (AllReady.cons hl (fun K hK => ?_) AllReady.nil)))
  · rw [if_pos (by simp [Region.wanted, hgi])]; exact h1 K hK
  · rw [if_pos (by simp [Region.wanted, hgj])]; exact h2 K hK
  · rw [if_pos (by simp [Region.wanted, hgl])]; exact h3 K hK

set_option maxRecDepth 100000 in
set_option maxHeartbeats 8000000 in
theorem put_any (c j : Nat) (cs : Array Value) (tc : TypeId) (v vr : Value) (l r : List Nm) (w : World) (hc : At w c cs tc) (hj : cs[j]? = some v) (h : Row w 64 2 v l.length (ents l)) (hoc : v.ownBlock ≠ some c) {ad : Option Addr} {cap b o : Nat} (hr : TrR w vr r ad cap b o) (hr0 : 0 < r.length) (hs : Srt l) (hl : l.length ≤ 1000000) (hrl : r.length ≤ 1000000) (hnb : v.ownBlock ≠ some b)
    (hend : place l (r[0]'hr0).1 = l.length) :
    Calls Tryd.prog 55 #[.pointer (some ⟨c, j, none⟩), vr] w fun e w' => e = .returned (.tuple #[]) ∧ ∃ v' w1, Row w1 64 2 v' (l.length + r.length) (ents (l ++ r)) ∧ Grew w w1 v v' ∧ w' = w1.setCell ⟨c, j, none⟩ v' := by
  have cv : w.cell? ⟨c, j, none⟩ = some v := by rw [hc.cell, hj]
  have cn : w.cell? ⟨b, o, none⟩ = some (.string (tx r[0].1)) := by have := hr.nm 0 hr0; simpa using this
  have hv := hr.val
  have had := hr.adr hr0
  subst had
  subst hv
  obtain ⟨dv, kv, hvv, -⟩ := h.shape
  subst hvv
  have PL := Lib.hid (fun w' (he : Ext w w') => (place_any (.slice dv l.length kv) l (tx r[0].1) w' ((Tr.of_row h).ext he) hs hl))
  rw [tx_list, hend] at PL
  have IN := Lib.hid (fun w' (he : Ext w w') => insert_end (.slice dv l.length kv) _ l r w' (h.ext he) (hr.ext he) hr0 hl hrl)
  have AT := Lib.hid (fun w' (he : Ext w w') v' w1 (g : Grew w' w1 (.slice dv l.length kv) v') => g.chg.at (hc.ext he) hoc)
  have CJ := Lib.hid hj
  have GE := Lib.hid (fun w' (he : Ext w w') v' w1 (g : Grew w' w1 (.slice dv l.length kv) v') => (⟨(Chg.of_ext he).trans g.chg fun _ _ x => x, by rcases g.own with e | ⟨q, e1, e2⟩; exact Or.inl e; exact Or.inr ⟨q, e1, Nat.le_trans he.size e2⟩⟩ : Grew w w1 (.slice dv l.length kv) v'))
  have hE : Ext w w.drew := Ext.drew w
  clear hc hj h hr hs hend hoc hnb
  generalize tx r[0].1 = nm at *
  obtain ⟨X, hX⟩ : ∃ X, X = ents (l ++ r) := ⟨_, rfl⟩
  rw [← hX] at IN ⊢
  clear hX
  have m0 : (0 : Int) < (r.length : Int) := by omega
  generalize r.length = m at *
  generalize l.length = n at *
  go_enter Tryd.func55, Tryd.ntmps55
  go_upto_region 0 with fail
  refine wp_region_any (by kernel_rfl) ?_
  change wpAny _ _ _ _ _ _ _ (World.drew _)
  refine take_at 0 (some 4) (.pointer (some ⟨c, j, none⟩)) rfl rfl (by kernel_rfl) (by kernel_rfl) (by kernel_rfl) (fun _ _ _ h => h) rfl (fun _ => by go_simp) ?_
  simp only [Act.put, List.setIfInBounds_toArray, List.set_cons_zero, List.set_cons_succ]
  refine take_at 1 (some 5) (.pointer (some ⟨c, j, none⟩)) rfl rfl (by kernel_rfl) (by kernel_rfl) (by kernel_rfl) (fun _ _ _ h => h) rfl (fun _ => by go_simp) ?_
  simp only [Act.put, List.setIfInBounds_toArray, List.set_cons_zero, List.set_cons_succ]
  refine take_at 2 (some 6) (.pointer (some ⟨c, j, none⟩)) rfl rfl (by kernel_rfl) (by kernel_rfl) (by kernel_rfl) (fun _ _ _ h => h) rfl (fun _ => by go_simp) ?_
  simp only [Act.put, List.setIfInBounds_toArray, List.set_cons_zero, List.set_cons_succ]
  refine take_at 4 (some 8) (.pointer (some ⟨c, j, none⟩)) rfl rfl (by kernel_rfl) (by kernel_rfl) (by kernel_rfl) (fun _ _ _ h => h) rfl (fun _ => by go_simp) ?_
  simp only [Act.put, List.setIfInBounds_toArray, List.set_cons_zero, List.set_cons_succ]
  refine take_at 5 (some 9) (.pointer (some ⟨c, j, none⟩)) rfl rfl (by kernel_rfl) (by kernel_rfl) (by kernel_rfl) (fun _ _ _ h => h) rfl (fun _ => by go_simp) ?_
  simp only [Act.put, List.setIfInBounds_toArray, List.set_cons_zero, List.set_cons_succ]
  refine take_at 7 (some 11) (.slice (some ⟨b, o, none⟩) m cap) rfl rfl (by kernel_rfl) (by kernel_rfl) (by kernel_rfl) (fun _ _ _ h => h) rfl (fun _ => by go_simp) ?_
  simp only [Act.put, List.setIfInBounds_toArray, List.set_cons_zero, List.set_cons_succ]
  refine take_at 8 (some 12) (.pointer (some ⟨b, o, none⟩)) rfl rfl (by kernel_rfl) (by kernel_rfl) (by kernel_rfl) (fun _ _ _ h => h) rfl (fun _ => by go_simp) ?_
  simp only [Act.put, List.setIfInBounds_toArray, List.set_cons_zero, List.set_cons_succ]
  refine take_at 9 (some 13) (.pointer (some ⟨b, o, none⟩)) rfl rfl (by kernel_rfl) (by kernel_rfl) (by kernel_rfl) (fun _ _ _ h => h) rfl (fun _ => by go_simp) ?_
  simp only [Act.put, List.setIfInBounds_toArray, List.set_cons_zero, List.set_cons_succ]
  refine take_at 12 (some 16) (.slice (some ⟨b, o, none⟩) m cap) rfl rfl (by kernel_rfl) (by kernel_rfl) (by kernel_rfl) (fun _ _ _ h => h) rfl (fun _ => by go_simp) ?_
  simp only [Act.put, List.setIfInBounds_toArray, List.set_cons_zero, List.set_cons_succ]
  refine next_three 3 6 10 rfl rfl rfl (by kernel_rfl) rfl rfl rfl (fun K hK => ?_) (fun K hK => ?_) (fun K hK => ?_)
  · refine runL (some 7) rfl (.slice dv n kv) (by have := hE.cell cv; go_simp) ?_
    refine hK _ _ ?_
    clear hK K
    simp only [Act.put, List.setIfInBounds_toArray, List.set_cons_zero, List.set_cons_succ]
    refine next_two 6 10 rfl rfl (by kernel_rfl) rfl rfl (fun K hK => ?_) (fun K hK => ?_)
    · refine runL (some 10) rfl (.slice dv n kv) (by have := hE.cell cv; go_simp) ?_
      refine hK _ _ ?_
      clear hK K
      simp only [Act.put, List.setIfInBounds_toArray, List.set_cons_zero, List.set_cons_succ]
      refine next_one 10 rfl (by kernel_rfl) rfl (fun K hK => ?_)
      refine runL (some 14) rfl (.string nm) (by have := hE.cell cn; go_simp) ?_
      refine hK _ _ ?_
      clear hK K
      simp only [Act.put, List.setIfInBounds_toArray, List.set_cons_zero, List.set_cons_succ]
      refine next_one 11 rfl (by kernel_rfl) rfl (fun K hK => ?_)
      refine callS (some 15) rfl 51 #[.slice dv n kv, .string nm] (by go_simp) (fun v' w' => v' = .int .i64 n ∧ Ext w w') ((PL.out _ hE).mono fun e w' he => ⟨_, he.1, rfl, hE.trans he.2⟩) ?_
      rintro v3 w3 ⟨rfl, hE⟩
      refine hK _ _ ?_
      clear hK K
      simp only [Act.put, List.setIfInBounds_toArray, List.set_cons_zero, List.set_cons_succ]
      refine next_one 13 rfl (by kernel_rfl) rfl (fun K hK => ?_)
      refine callS (some 17) rfl 72 #[.slice dv n kv, .int .i64 n, .slice (some ⟨b, o, none⟩) m cap] (by go_simp) (fun v' w' => Row w' 64 2 v' (n + m) X ∧ Grew _ w' (.slice dv n kv) v') ((IN.out _ hE).mono fun e w' he => he) ?_
      rintro v4 w4 ⟨r4, g4⟩
      refine hK _ _ ?_
      clear hK K
      simp only [Act.put, List.setIfInBounds_toArray, List.set_cons_zero, List.set_cons_succ]
      have at4 := AT.out _ hE _ _ g4
      have c4 := at4.cell j
      rw [CJ.out] at c4
      have f4 := at4.frozen j
      have G4 := Lib.hid (GE.out _ hE _ _ g4)
      have R4 := Lib.hid r4
      obtain ⟨d4, k4, hv4, -⟩ := r4.shape
      subst hv4
      clear r4 g4 at4
      refine take_at 14 (some 18) (.pointer (some ⟨c, j, none⟩)) rfl rfl (by kernel_rfl) (by kernel_rfl) (by kernel_rfl) (fun _ _ _ h => h) rfl (fun _ => by go_simp) ?_
      simp only [Act.put, List.setIfInBounds_toArray, List.set_cons_zero, List.set_cons_succ]
      refine next_one 15 rfl (by kernel_rfl) rfl (fun K hK => ?_)
      refine runN rfl (w4.setCell ⟨c, j, none⟩ (.slice d4 (n + m) k4)) (by go_simp) ?_
      refine hK _ _ ?_
      clear hK K
      refine wpAny_done (by kernel_rfl) ?_ _
      go_wp2
      go_end0
      exact ⟨rfl, _, _, R4.out, G4.out, rfl⟩
    · refine runL (some 14) rfl (.string nm) (by have := hE.cell cn; go_simp) ?_
      refine hK _ _ ?_
      clear hK K
      simp only [Act.put, List.setIfInBounds_toArray, List.set_cons_zero, List.set_cons_succ]
      refine next_one 6 rfl (by kernel_rfl) rfl (fun K hK => ?_)
      refine runL (some 10) rfl (.slice dv n kv) (by have := hE.cell cv; go_simp) ?_
      refine hK _ _ ?_
      clear hK K
      simp only [Act.put, List.setIfInBounds_toArray, List.set_cons_zero, List.set_cons_succ]
      refine next_one 11 rfl (by kernel_rfl) rfl (fun K hK => ?_)
      refine callS (some 15) rfl 51 #[.slice dv n kv, .string nm] (by go_simp) (fun v' w' => v' = .int .i64 n ∧ Ext w w') ((PL.out _ hE).mono fun e w' he => ⟨_, he.1, rfl, hE.trans he.2⟩) ?_
      rintro v3 w3 ⟨rfl, hE⟩
      refine hK _ _ ?_
      clear hK K
      simp only [Act.put, List.setIfInBounds_toArray, List.set_cons_zero, List.set_cons_succ]
      refine next_one 13 rfl (by kernel_rfl) rfl (fun K hK => ?_)
      refine callS (some 17) rfl 72 #[.slice dv n kv, .int .i64 n, .slice (some ⟨b, o, none⟩) m cap] (by go_simp) (fun v' w' => Row w' 64 2 v' (n + m) X ∧ Grew _ w' (.slice dv n kv) v') ((IN.out _ hE).mono fun e w' he => he) ?_
      rintro v4 w4 ⟨r4, g4⟩
      refine hK _ _ ?_
      clear hK K
      simp only [Act.put, List.setIfInBounds_toArray, List.set_cons_zero, List.set_cons_succ]
      have at4 := AT.out _ hE _ _ g4
      have c4 := at4.cell j
      rw [CJ.out] at c4
      have f4 := at4.frozen j
      have G4 := Lib.hid (GE.out _ hE _ _ g4)
      have R4 := Lib.hid r4
      obtain ⟨d4, k4, hv4, -⟩ := r4.shape
      subst hv4
      clear r4 g4 at4
      refine take_at 14 (some 18) (.pointer (some ⟨c, j, none⟩)) rfl rfl (by kernel_rfl) (by kernel_rfl) (by kernel_rfl) (fun _ _ _ h => h) rfl (fun _ => by go_simp) ?_
      simp only [Act.put, List.setIfInBounds_toArray, List.set_cons_zero, List.set_cons_succ]
      refine next_one 15 rfl (by kernel_rfl) rfl (fun K hK => ?_)
      refine runN rfl (w4.setCell ⟨c, j, none⟩ (.slice d4 (n + m) k4)) (by go_simp) ?_
      refine hK _ _ ?_
      clear hK K
      refine wpAny_done (by kernel_rfl) ?_ _
      go_wp2
      go_end0
      exact ⟨rfl, _, _, R4.out, G4.out, rfl⟩
  · refine runL (some 10) rfl (.slice dv n kv) (by have := hE.cell cv; go_simp) ?_
    refine hK _ _ ?_
    clear hK K
    simp only [Act.put, List.setIfInBounds_toArray, List.set_cons_zero, List.set_cons_succ]
    refine next_two 3 10 rfl rfl (by kernel_rfl) rfl rfl (fun K hK => ?_) (fun K hK => ?_)
    · refine runL (some 7) rfl (.slice dv n kv) (by have := hE.cell cv; go_simp) ?_
      refine hK _ _ ?_
      clear hK K
      simp only [Act.put, List.setIfInBounds_toArray, List.set_cons_zero, List.set_cons_succ]
      refine next_one 10 rfl (by kernel_rfl) rfl (fun K hK => ?_)
      refine runL (some 14) rfl (.string nm) (by have := hE.cell cn; go_simp) ?_
      refine hK _ _ ?_
      clear hK K
      simp only [Act.put, List.setIfInBounds_toArray, List.set_cons_zero, List.set_cons_succ]
      refine next_one 11 rfl (by kernel_rfl) rfl (fun K hK => ?_)
      refine callS (some 15) rfl 51 #[.slice dv n kv, .string nm] (by go_simp) (fun v' w' => v' = .int .i64 n ∧ Ext w w') ((PL.out _ hE).mono fun e w' he => ⟨_, he.1, rfl, hE.trans he.2⟩) ?_
      rintro v3 w3 ⟨rfl, hE⟩
      refine hK _ _ ?_
      clear hK K
      simp only [Act.put, List.setIfInBounds_toArray, List.set_cons_zero, List.set_cons_succ]
      refine next_one 13 rfl (by kernel_rfl) rfl (fun K hK => ?_)
      refine callS (some 17) rfl 72 #[.slice dv n kv, .int .i64 n, .slice (some ⟨b, o, none⟩) m cap] (by go_simp) (fun v' w' => Row w' 64 2 v' (n + m) X ∧ Grew _ w' (.slice dv n kv) v') ((IN.out _ hE).mono fun e w' he => he) ?_
      rintro v4 w4 ⟨r4, g4⟩
      refine hK _ _ ?_
      clear hK K
      simp only [Act.put, List.setIfInBounds_toArray, List.set_cons_zero, List.set_cons_succ]
      have at4 := AT.out _ hE _ _ g4
      have c4 := at4.cell j
      rw [CJ.out] at c4
      have f4 := at4.frozen j
      have G4 := Lib.hid (GE.out _ hE _ _ g4)
      have R4 := Lib.hid r4
      obtain ⟨d4, k4, hv4, -⟩ := r4.shape
      subst hv4
      clear r4 g4 at4
      refine take_at 14 (some 18) (.pointer (some ⟨c, j, none⟩)) rfl rfl (by kernel_rfl) (by kernel_rfl) (by kernel_rfl) (fun _ _ _ h => h) rfl (fun _ => by go_simp) ?_
      simp only [Act.put, List.setIfInBounds_toArray, List.set_cons_zero, List.set_cons_succ]
      refine next_one 15 rfl (by kernel_rfl) rfl (fun K hK => ?_)
      refine runN rfl (w4.setCell ⟨c, j, none⟩ (.slice d4 (n + m) k4)) (by go_simp) ?_
      refine hK _ _ ?_
      clear hK K
      refine wpAny_done (by kernel_rfl) ?_ _
      go_wp2
      go_end0
      exact ⟨rfl, _, _, R4.out, G4.out, rfl⟩
    · refine runL (some 14) rfl (.string nm) (by have := hE.cell cn; go_simp) ?_
      refine hK _ _ ?_
      clear hK K
      simp only [Act.put, List.setIfInBounds_toArray, List.set_cons_zero, List.set_cons_succ]
      refine next_two 3 11 rfl rfl (by kernel_rfl) rfl rfl (fun K hK => ?_) (fun K hK => ?_)
      · refine runL (some 7) rfl (.slice dv n kv) (by have := hE.cell cv; go_simp) ?_
        refine hK _ _ ?_
        clear hK K
        simp only [Act.put, List.setIfInBounds_toArray, List.set_cons_zero, List.set_cons_succ]
        refine next_one 11 rfl (by kernel_rfl) rfl (fun K hK => ?_)
        refine callS (some 15) rfl 51 #[.slice dv n kv, .string nm] (by go_simp) (fun v' w' => v' = .int .i64 n ∧ Ext w w') ((PL.out _ hE).mono fun e w' he => ⟨_, he.1, rfl, hE.trans he.2⟩) ?_
        rintro v3 w3 ⟨rfl, hE⟩
        refine hK _ _ ?_
        clear hK K
        simp only [Act.put, List.setIfInBounds_toArray, List.set_cons_zero, List.set_cons_succ]
        refine next_one 13 rfl (by kernel_rfl) rfl (fun K hK => ?_)
        refine callS (some 17) rfl 72 #[.slice dv n kv, .int .i64 n, .slice (some ⟨b, o, none⟩) m cap] (by go_simp) (fun v' w' => Row w' 64 2 v' (n + m) X ∧ Grew _ w' (.slice dv n kv) v') ((IN.out _ hE).mono fun e w' he => he) ?_
        rintro v4 w4 ⟨r4, g4⟩
        refine hK _ _ ?_
        clear hK K
        simp only [Act.put, List.setIfInBounds_toArray, List.set_cons_zero, List.set_cons_succ]
        have at4 := AT.out _ hE _ _ g4
        have c4 := at4.cell j
        rw [CJ.out] at c4
        have f4 := at4.frozen j
        have G4 := Lib.hid (GE.out _ hE _ _ g4)
        have R4 := Lib.hid r4
        obtain ⟨d4, k4, hv4, -⟩ := r4.shape
        subst hv4
        clear r4 g4 at4
        refine take_at 14 (some 18) (.pointer (some ⟨c, j, none⟩)) rfl rfl (by kernel_rfl) (by kernel_rfl) (by kernel_rfl) (fun _ _ _ h => h) rfl (fun _ => by go_simp) ?_
        simp only [Act.put, List.setIfInBounds_toArray, List.set_cons_zero, List.set_cons_succ]
        refine next_one 15 rfl (by kernel_rfl) rfl (fun K hK => ?_)
        refine runN rfl (w4.setCell ⟨c, j, none⟩ (.slice d4 (n + m) k4)) (by go_simp) ?_
        refine hK _ _ ?_
        clear hK K
        refine wpAny_done (by kernel_rfl) ?_ _
        go_wp2
        go_end0
        exact ⟨rfl, _, _, R4.out, G4.out, rfl⟩
      · refine callS (some 15) rfl 51 #[.slice dv n kv, .string nm] (by go_simp) (fun v' w' => v' = .int .i64 n ∧ Ext w w') ((PL.out _ hE).mono fun e w' he => ⟨_, he.1, rfl, hE.trans he.2⟩) ?_
        rintro v3 w3 ⟨rfl, hE⟩
        refine hK _ _ ?_
        clear hK K
        simp only [Act.put, List.setIfInBounds_toArray, List.set_cons_zero, List.set_cons_succ]
        refine next_one 3 rfl (by kernel_rfl) rfl (fun K hK => ?_)
        refine runL (some 7) rfl (.slice dv n kv) (by have := hE.cell cv; go_simp) ?_
        refine hK _ _ ?_
        clear hK K
        simp only [Act.put, List.setIfInBounds_toArray, List.set_cons_zero, List.set_cons_succ]
        refine next_one 13 rfl (by kernel_rfl) rfl (fun K hK => ?_)
        refine callS (some 17) rfl 72 #[.slice dv n kv, .int .i64 n, .slice (some ⟨b, o, none⟩) m cap] (by go_simp) (fun v' w' => Row w' 64 2 v' (n + m) X ∧ Grew _ w' (.slice dv n kv) v') ((IN.out _ hE).mono fun e w' he => he) ?_
        rintro v4 w4 ⟨r4, g4⟩
        refine hK _ _ ?_
        clear hK K
        simp only [Act.put, List.setIfInBounds_toArray, List.set_cons_zero, List.set_cons_succ]
        have at4 := AT.out _ hE _ _ g4
        have c4 := at4.cell j
        rw [CJ.out] at c4
        have f4 := at4.frozen j
        have G4 := Lib.hid (GE.out _ hE _ _ g4)
        have R4 := Lib.hid r4
        obtain ⟨d4, k4, hv4, -⟩ := r4.shape
        subst hv4
        clear r4 g4 at4
        refine take_at 14 (some 18) (.pointer (some ⟨c, j, none⟩)) rfl rfl (by kernel_rfl) (by kernel_rfl) (by kernel_rfl) (fun _ _ _ h => h) rfl (fun _ => by go_simp) ?_
        simp only [Act.put, List.setIfInBounds_toArray, List.set_cons_zero, List.set_cons_succ]
        refine next_one 15 rfl (by kernel_rfl) rfl (fun K hK => ?_)
        refine runN rfl (w4.setCell ⟨c, j, none⟩ (.slice d4 (n + m) k4)) (by go_simp) ?_
        refine hK _ _ ?_
        clear hK K
        refine wpAny_done (by kernel_rfl) ?_ _
        go_wp2
        go_end0
        exact ⟨rfl, _, _, R4.out, G4.out, rfl⟩
  · refine runL (some 14) rfl (.string nm) (by have := hE.cell cn; go_simp) ?_
    refine hK _ _ ?_
    clear hK K
    simp only [Act.put, List.setIfInBounds_toArray, List.set_cons_zero, List.set_cons_succ]
    refine next_two 3 6 rfl rfl (by kernel_rfl) rfl rfl (fun K hK => ?_) (fun K hK => ?_)
    · refine runL (some 7) rfl (.slice dv n kv) (by have := hE.cell cv; go_simp) ?_
      refine hK _ _ ?_
      clear hK K
      simp only [Act.put, List.setIfInBounds_toArray, List.set_cons_zero, List.set_cons_succ]
      refine next_one 6 rfl (by kernel_rfl) rfl (fun K hK => ?_)
      refine runL (some 10) rfl (.slice dv n kv) (by have := hE.cell cv; go_simp) ?_
      refine hK _ _ ?_
      clear hK K
      simp only [Act.put, List.setIfInBounds_toArray, List.set_cons_zero, List.set_cons_succ]
      refine next_one 11 rfl (by kernel_rfl) rfl (fun K hK => ?_)
      refine callS (some 15) rfl 51 #[.slice dv n kv, .string nm] (by go_simp) (fun v' w' => v' = .int .i64 n ∧ Ext w w') ((PL.out _ hE).mono fun e w' he => ⟨_, he.1, rfl, hE.trans he.2⟩) ?_
      rintro v3 w3 ⟨rfl, hE⟩
      refine hK _ _ ?_
      clear hK K
      simp only [Act.put, List.setIfInBounds_toArray, List.set_cons_zero, List.set_cons_succ]
      refine next_one 13 rfl (by kernel_rfl) rfl (fun K hK => ?_)
      refine callS (some 17) rfl 72 #[.slice dv n kv, .int .i64 n, .slice (some ⟨b, o, none⟩) m cap] (by go_simp) (fun v' w' => Row w' 64 2 v' (n + m) X ∧ Grew _ w' (.slice dv n kv) v') ((IN.out _ hE).mono fun e w' he => he) ?_
      rintro v4 w4 ⟨r4, g4⟩
      refine hK _ _ ?_
      clear hK K
      simp only [Act.put, List.setIfInBounds_toArray, List.set_cons_zero, List.set_cons_succ]
      have at4 := AT.out _ hE _ _ g4
      have c4 := at4.cell j
      rw [CJ.out] at c4
      have f4 := at4.frozen j
      have G4 := Lib.hid (GE.out _ hE _ _ g4)
      have R4 := Lib.hid r4
      obtain ⟨d4, k4, hv4, -⟩ := r4.shape
      subst hv4
      clear r4 g4 at4
      refine take_at 14 (some 18) (.pointer (some ⟨c, j, none⟩)) rfl rfl (by kernel_rfl) (by kernel_rfl) (by kernel_rfl) (fun _ _ _ h => h) rfl (fun _ => by go_simp) ?_
      simp only [Act.put, List.setIfInBounds_toArray, List.set_cons_zero, List.set_cons_succ]
      refine next_one 15 rfl (by kernel_rfl) rfl (fun K hK => ?_)
      refine runN rfl (w4.setCell ⟨c, j, none⟩ (.slice d4 (n + m) k4)) (by go_simp) ?_
      refine hK _ _ ?_
      clear hK K
      refine wpAny_done (by kernel_rfl) ?_ _
      go_wp2
      go_end0
      exact ⟨rfl, _, _, R4.out, G4.out, rfl⟩
    · refine runL (some 10) rfl (.slice dv n kv) (by have := hE.cell cv; go_simp) ?_
      refine hK _ _ ?_
      clear hK K
      simp only [Act.put, List.setIfInBounds_toArray, List.set_cons_zero, List.set_cons_succ]
      refine next_two 3 11 rfl rfl (by kernel_rfl) rfl rfl (fun K hK => ?_) (fun K hK => ?_)
      · refine runL (some 7) rfl (.slice dv n kv) (by have := hE.cell cv; go_simp) ?_
        refine hK _ _ ?_
        clear hK K
        simp only [Act.put, List.setIfInBounds_toArray, List.set_cons_zero, List.set_cons_succ]
        refine next_one 11 rfl (by kernel_rfl) rfl (fun K hK => ?_)
        refine callS (some 15) rfl 51 #[.slice dv n kv, .string nm] (by go_simp) (fun v' w' => v' = .int .i64 n ∧ Ext w w') ((PL.out _ hE).mono fun e w' he => ⟨_, he.1, rfl, hE.trans he.2⟩) ?_
        rintro v3 w3 ⟨rfl, hE⟩
        refine hK _ _ ?_
        clear hK K
        simp only [Act.put, List.setIfInBounds_toArray, List.set_cons_zero, List.set_cons_succ]
        refine next_one 13 rfl (by kernel_rfl) rfl (fun K hK => ?_)
        refine callS (some 17) rfl 72 #[.slice dv n kv, .int .i64 n, .slice (some ⟨b, o, none⟩) m cap] (by go_simp) (fun v' w' => Row w' 64 2 v' (n + m) X ∧ Grew _ w' (.slice dv n kv) v') ((IN.out _ hE).mono fun e w' he => he) ?_
        rintro v4 w4 ⟨r4, g4⟩
        refine hK _ _ ?_
        clear hK K
        simp only [Act.put, List.setIfInBounds_toArray, List.set_cons_zero, List.set_cons_succ]
        have at4 := AT.out _ hE _ _ g4
        have c4 := at4.cell j
        rw [CJ.out] at c4
        have f4 := at4.frozen j
        have G4 := Lib.hid (GE.out _ hE _ _ g4)
        have R4 := Lib.hid r4
        obtain ⟨d4, k4, hv4, -⟩ := r4.shape
        subst hv4
        clear r4 g4 at4
        refine take_at 14 (some 18) (.pointer (some ⟨c, j, none⟩)) rfl rfl (by kernel_rfl) (by kernel_rfl) (by kernel_rfl) (fun _ _ _ h => h) rfl (fun _ => by go_simp) ?_
        simp only [Act.put, List.setIfInBounds_toArray, List.set_cons_zero, List.set_cons_succ]
        refine next_one 15 rfl (by kernel_rfl) rfl (fun K hK => ?_)
        refine runN rfl (w4.setCell ⟨c, j, none⟩ (.slice d4 (n + m) k4)) (by go_simp) ?_
        refine hK _ _ ?_
        clear hK K
        refine wpAny_done (by kernel_rfl) ?_ _
        go_wp2
        go_end0
        exact ⟨rfl, _, _, R4.out, G4.out, rfl⟩
      · refine callS (some 15) rfl 51 #[.slice dv n kv, .string nm] (by go_simp) (fun v' w' => v' = .int .i64 n ∧ Ext w w') ((PL.out _ hE).mono fun e w' he => ⟨_, he.1, rfl, hE.trans he.2⟩) ?_
        rintro v3 w3 ⟨rfl, hE⟩
        refine hK _ _ ?_
        clear hK K
        simp only [Act.put, List.setIfInBounds_toArray, List.set_cons_zero, List.set_cons_succ]
        refine next_one 3 rfl (by kernel_rfl) rfl (fun K hK => ?_)
        refine runL (some 7) rfl (.slice dv n kv) (by have := hE.cell cv; go_simp) ?_
        refine hK _ _ ?_
        clear hK K
        simp only [Act.put, List.setIfInBounds_toArray, List.set_cons_zero, List.set_cons_succ]
        refine next_one 13 rfl (by kernel_rfl) rfl (fun K hK => ?_)
        refine callS (some 17) rfl 72 #[.slice dv n kv, .int .i64 n, .slice (some ⟨b, o, none⟩) m cap] (by go_simp) (fun v' w' => Row w' 64 2 v' (n + m) X ∧ Grew _ w' (.slice dv n kv) v') ((IN.out _ hE).mono fun e w' he => he) ?_
        rintro v4 w4 ⟨r4, g4⟩
        refine hK _ _ ?_
        clear hK K
        simp only [Act.put, List.setIfInBounds_toArray, List.set_cons_zero, List.set_cons_succ]
        have at4 := AT.out _ hE _ _ g4
        have c4 := at4.cell j
        rw [CJ.out] at c4
        have f4 := at4.frozen j
        have G4 := Lib.hid (GE.out _ hE _ _ g4)
        have R4 := Lib.hid r4
        obtain ⟨d4, k4, hv4, -⟩ := r4.shape
        subst hv4
        clear r4 g4 at4
        refine take_at 14 (some 18) (.pointer (some ⟨c, j, none⟩)) rfl rfl (by kernel_rfl) (by kernel_rfl) (by kernel_rfl) (fun _ _ _ h => h) rfl (fun _ => by go_simp) ?_
        simp only [Act.put, List.setIfInBounds_toArray, List.set_cons_zero, List.set_cons_succ]
        refine next_one 15 rfl (by kernel_rfl) rfl (fun K hK => ?_)
        refine runN rfl (w4.setCell ⟨c, j, none⟩ (.slice d4 (n + m) k4)) (by go_simp) ?_
        refine hK _ _ ?_
        clear hK K
        refine wpAny_done (by kernel_rfl) ?_ _
        go_wp2
        go_end0
        exact ⟨rfl, _, _, R4.out, G4.out, rfl⟩
end Go.Proofs.YtbneedmfpldpfaaDoor
