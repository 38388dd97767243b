/- Insert where there is no room. A name put wherever it goes: Insert, put, apply of one act that makes a name. A name is made wherever it goes: change, add. -/
import Derived.Test.YtbneedmfpldpfaaGreatDoorGeM
import Derived.Test.YtbneedmfpldpfaaGreatDoorSfM
set_option linter.unusedSimpArgs false
set_option linter.unusedVariables false
namespace Go.Proofs.YtbneedmfpldpfaaGreatDoor
open Go.RowKit Go.Pth

/-- append of zeros where there is no room: all new. -/
theorem run_append_zeros_new {P : Program} (w : World) (t tn ty e : TypeId) (kn : IntKind) (i : TypeInfo) (z : Value) (ht : P.underlying t = some (.slice e)) (htn : P.underlying tn = some (.int kn)) (hi : P.info? e = some i) (hz : i.zero = some z) (hzs : z.cells.size = i.size) (hsz : 0 < i.size)
    (g n cap : Nat) (xs : List Value) (hown : Row w e i.size (.slice (some ⟨g, 0, none⟩) n cap) n xs) (m : Nat) (h0 : 0 < m) (hroom : ¬ n + m ≤ cap) (h63 : n + m ≤ maxLen) (hbytes : (n + m) * i.bytes ≤ 140737488355328) :
    ∃ cap' w', (Builtin.append_ #[t, tn] ty #[.slice (some ⟨g, 0, none⟩) n cap, .int .i64 m]).run P w = .ok (.slice (some ⟨w.heap.size, 0, none⟩) (n + m) cap') w' ∧ Row w' e i.size (.slice (some ⟨w.heap.size, 0, none⟩) (n + m) cap') (n + m) (xs ++ (Builtin.zeroCells z.cells m).toList) ∧ Ext w w' := by
  have hsmall : ((n + m : Nat) : Int) ≤ 9223372036854775807 := by simp only [maxLen] at h63; omega
  have hw : IntKind.i64.wrap (m : Int) = m := by rw [IntKind.wrap_i64]; omega
  have hneg : ¬ ((m : Int) < 0) := by omega
  have hb1 : m * i.bytes ≤ 140737488355328 := Nat.le_trans (Nat.mul_le_mul_right _ (by omega)) hbytes
  have h48i : ¬ (281474976710656 < (m : Int) * (i.bytes : Int)) := by rw [← Int.natCast_mul]; omega
  have hm0 : m ≠ 0 := by omega
  have hns : ¬ (m * i.size = 0) := Nat.mul_ne_zero hm0 (by omega)
  have hnl : (Builtin.zeroCells z.cells m).toList.length = m * i.size := by rw [Array.length_toList, size_zeroCells, hzs]
  have h63' : ¬ (9223372036854775807 < ((n : Int) + (m : Int))) := by omega
  have hfit := growslice_fits (need := n + m) (old := cap) (bytes := i.bytes) (by omega) hbytes
  have h48' : ¬ (281474976710656 < Builtin.nextslicecap (n + m) cap * i.bytes) := by omega
  have holds : ∀ j u, xs[j]? = some u → w.cell? ((⟨g, 0, none⟩ : Addr).add j) = some u := hown.cells (g := g) rfl
  have hold := run_firstCells_some (P := P) w.drew i.size n ⟨g, 0, none⟩ n cap xs hown.1 (by simpa using holds)
  have hrow := row_grown (w := w) (e := e) (i := i) (old := cap) hzs (n := n) (m := m) (xs := xs) hown.1 hnl (by omega)
  refine ⟨_, _, ?_, hrow, ?_⟩
  · simp [Builtin.append_, run_underlying ht, run_underlying htn, sizeOf, typeInfo, zeroValue, hi, hz, asInt, asIntOf, hw, hns, hneg, h48i, hroom, h63', h48', Question.forced, hold, newRow, grownCap]
    have e1 : (xs ++ (Builtin.zeroCells z.cells m).toList).toArray = xs.toArray ++ Builtin.zeroCells z.cells m := by simp
    rw [e1, Array.append_assoc]
  · exact (Ext.drew w).trans (Ext.alloc _ _)

set_option maxRecDepth 100000 in
set_option maxHeartbeats 8000000 in
/-- Insert ahead of what there is, without room. -/
theorem insert_grow (g cap i b capr : Nat) (l r : List Nm) (w : World) (h : Row w 78 2 (.slice (some ⟨g, 0, none⟩) l.length cap) l.length (ents l)) (hr : Row w 78 2 (.slice (some ⟨b, 0, none⟩) r.length capr) r.length (ents r)) (hi : i < l.length) (hr0 : 0 < r.length) (hroom : ¬ l.length + r.length ≤ cap) (hl : l.length ≤ 1000000) (hrl : r.length ≤ 1000000) :
    Calls Tryz.prog 81 #[.slice (some ⟨g, 0, none⟩) l.length cap, .int .i64 i, .slice (some ⟨b, 0, none⟩) r.length capr] w (InsPost w (l.length + r.length) (.slice (some ⟨g, 0, none⟩) l.length cap) (ents (l.take i ++ r ++ l.drop i))) := by
  obtain ⟨ii, hi1, hi2, hi3, hi4⟩ := info_of info64
  obtain ⟨cur, hat, hn, hcm, hcs, hxs⟩ := Row.at' h
  obtain ⟨cub, hatb, hnb, hcmb, hcsb, hxsb⟩ := Row.at' hr
  simp only [maxLen] at hcm hcmb
  have hpre : Row w 78 ii.size (.slice (some ⟨g, 0, none⟩) i cap) i (ents (l.take i)) := by
    rw [hi3]
    refine ⟨by rw [ents_len, List.length_take]; omega, .inr ⟨g, cap, cur, rfl, Nat.zero_le _, hat, by omega, by simp only [maxLen]; omega, hcs, ?_⟩⟩
    rw [← ents_take, ← hxs, List.take_take, Nat.min_eq_left (by omega)]
  obtain ⟨n, hnn⟩ : ∃ n, n = l.length := ⟨_, rfl⟩
  obtain ⟨m, hmm⟩ : ∃ m, m = r.length := ⟨_, rfl⟩
  rw [← hnn] at hi hroom hl hn hxs h ⊢
  rw [← hmm] at hr0 hroom hrl hnb hxsb hr ⊢
  have AZ := fun ty => run_append_zeros_new (P := Tryz.prog) w 54 3 ty 78 .i64 ii _ Tryz.underlying54 Tryz.underlying3 hi1 hi2 (by rw [hi3]; rfl) (by rw [hi3]; omega) g i cap _ hpre (n + m - i) (by omega) (by omega) (by simp only [maxLen]; omega) (by rw [hi4]; omega)
  obtain ⟨cap', W1, hap, hrow, hext⟩ := AZ 54
  rw [hi3] at hrow
  rw [show i + (n + m - i) = n + m by omega] at hap hrow
  obtain ⟨cur1, hat1, hn1, hcm1, hcs1, hxs1⟩ := Row.at' hrow
  simp only [maxLen] at hcm1
  obtain ⟨H, hH⟩ : ∃ H, H = w.heap.size := ⟨_, rfl⟩
  rw [← hH] at hap hat1 hrow
  have hgH : g ≠ H := fun e => by have := hat.lt; omega
  have hbH : b ≠ H := fun e => by have := hatb.lt; omega
  have HAP := Lib.hid hap
  have ag1 := hat.ext hext
  have ab1 := hatb.ext hext
  obtain ⟨D, hD⟩ : ∃ D, D = ents (l.drop i) := ⟨_, rfl⟩
  have hDl : D.length = (n - i) * 2 := by rw [hD, ents_len, List.length_drop, hnn]
  obtain ⟨R, hR⟩ : ∃ R, R = ents r := ⟨_, rfl⟩
  have hRl : R.length = m * 2 := by rw [hR, ents_len, hmm]
  have hcp1 : ∀ ty dc, (Builtin.copy_ #[54, 53] ty #[.slice (some ⟨H, i * 2, none⟩) (n + m - i) dc, .slice (some ⟨b, 0, none⟩) m capr]).run Tryz.prog W1 = .ok (goInt (Nat.min m (n + m - i))) (W1.setCells H (i * 2) R) := fun ty dc =>
    run_copy_wide (P := Tryz.prog) W1 54 53 ty 78 2 H (i * 2) (n + m - i) dc ⟨b, 0, none⟩ m capr R Tryz.underlying54 sz64 (by rw [hRl]; congr 1; simp only [Nat.min_def]; split <;> omega)
      (fun t u hu => by
        have ht := (List.getElem?_eq_some_iff.1 hu).1
        rw [Addr.add_lit, Nat.zero_add, ab1.cell, ← hu, hR, ← hxsb, List.getElem?_take_of_lt (by omega), Array.getElem?_toList])
      (fun t ht => by rw [hat1.cell, Array.getElem?_eq_getElem (by omega)]; rfl) (fun t ht => hat1.frozen _) (by rw [hR]; exact ents_one _)
  obtain ⟨W2, hW2⟩ : ∃ W2, W2 = W1.setCells H (i * 2) R := ⟨_, rfl⟩
  have hat2 := At.sets R (i * 2) W1 cur1 hat1 (by omega)
  have cc2 := Chg.sets H R (i * 2) W1
  rw [← hW2] at hat2 hcp1 cc2
  have ag2 := cc2.at ag1 hgH
  obtain ⟨C2, hC2⟩ : ∃ C2, C2 = (cur1.toList.take (i * 2) ++ R ++ cur1.toList.drop (i * 2 + R.length)).toArray := ⟨_, rfl⟩
  rw [← hC2] at hat2
  have hC2s : C2.size = cap' * 2 := by
    rw [hC2]; simp only [List.size_toArray, List.length_append, List.length_take, List.length_drop, Array.length_toList]; omega
  have hcp2 : ∀ ty dc sc, (Builtin.copy_ #[54, 54] ty #[.slice (some ⟨H, (i + m) * 2, none⟩) (n + m - (i + m)) dc, .slice (some ⟨g, i * 2, none⟩) (n - i) sc]).run Tryz.prog W2.drew = .ok (goInt (Nat.min (n - i) (n + m - (i + m)))) (W2.drew.setCells H ((i + m) * 2) D) := fun ty dc sc =>
    run_copy_wide (P := Tryz.prog) W2.drew 54 54 ty 78 2 H ((i + m) * 2) (n + m - (i + m)) dc ⟨g, i * 2, none⟩ (n - i) sc D Tryz.underlying54 sz64 (by rw [hDl]; congr 1; simp only [Nat.min_def]; split <;> omega)
      (fun t u hu => by
        have ht := (List.getElem?_eq_some_iff.1 hu).1
        rw [Addr.add_lit]
        show W2.cell? _ = _
        rw [ag2.cell, ← hu, hD, ← ents_drop, ← hxs, List.getElem?_drop, List.getElem?_take_of_lt (by omega), Array.getElem?_toList])
      (fun t ht => by show (W2.cell? _).isSome = true; rw [hat2.cell, Array.getElem?_eq_getElem (by omega)]; rfl) (fun t ht => (at_drew hat2).frozen _) (by rw [hD]; exact ents_one _)
  have hat3 := At.sets D ((i + m) * 2) W2.drew C2 (at_drew hat2) (by omega)
  have cc3 : Chg (fun i => i = H) W1 (W2.drew.setCells H ((i + m) * 2) D) := (cc2.trans (Chg.of_ext (Ext.drew W2)) (fun _ _ h => h)).trans (Chg.sets H D ((i + m) * 2) _) (fun _ _ h => h)
  have r3 : Row (W2.drew.setCells H ((i + m) * 2) D) 78 2 (.slice (some ⟨H, 0, none⟩) (n + m) cap') (n + m) (ents (l.take i ++ r ++ l.drop i)) := by
    have hlt : (l.take i).length = i := by rw [List.length_take]; omega
    refine ⟨by rw [ents_len]; simp only [List.length_append, List.length_drop, hlt]; omega, .inr ⟨H, cap', _, rfl, Nat.zero_le _, hat3, hn1, by simp only [maxLen]; omega, ?_, ?_⟩⟩
    · simp only [List.size_toArray, List.length_append, List.length_take, List.length_drop, Array.length_toList]; omega
    · have e0 : cur1.toList.take (i * 2) = ents (l.take i) := by
        have := congrArg (List.take (i * 2)) hxs1
        rw [List.take_take, Nat.min_eq_left (by omega), List.take_left' (by rw [ents_len, hlt])] at this
        exact this
      have e1 : C2.toList.take ((i + m) * 2) = ents (l.take i) ++ R := by
        rw [hC2]
        show List.take _ (List.take (i * 2) cur1.toList ++ R ++ _) = _
        rw [e0]
        refine List.take_left' ?_
        rw [List.length_append, ents_len, hlt]; omega
      show List.take ((n + m) * 2) (List.take ((i + m) * 2) C2.toList ++ D ++ List.drop ((i + m) * 2 + D.length) C2.toList) = _
      rw [e1, hR, hD, ← ents_app, ← ents_app]
      refine List.take_left' ?_
      rw [ents_len]; simp only [List.length_append, List.length_drop, hlt]; omega
  have gr : Grew w (W2.drew.setCells H ((i + m) * 2) D) (.slice (some ⟨g, 0, none⟩) n cap) (.slice (some ⟨H, 0, none⟩) (n + m) cap') :=
    ⟨(Chg.of_ext hext).trans cc3 (fun j hj e => by omega), Or.inr ⟨H, rfl, by omega⟩⟩
  have FIN := Lib.hid (⟨r3, gr⟩ : _ ∧ _)
  clear h hr hat hatb hxs hxsb hcs hcsb hD hDl hR hRl hW2 hat1 hC2 hC2s hat2 cc2 r3 hnn hmm gr cc3 hat3 ag1 ag2 ab1 hrow hxs1 hcs1 hap AZ hpre hi1 hi2 hi3 hi4 hext hH hgH hbH
  generalize l.take i ++ r ++ l.drop i = X at *
  have hz1 : ¬ ((m : Int) = 0) := by omega
  have hz2 : ¬ ((i : Int) = (n : Int)) := by omega
  have hz3 : (i : Int) ≤ (n : Int) := by omega
  have hw1 : IntKind.i64.wrap ((i : Int) + (m : Int)) = (i : Int) + (m : Int) := by rw [IntKind.wrap_i64]; omega
  have hw2 : IntKind.i64.wrap ((n : Int) + (m : Int)) = (n : Int) + (m : Int) := by rw [IntKind.wrap_i64]; omega
  have hw3 : IntKind.i64.wrap ((n : Int) + (m : Int) - (i : Int)) = ((n + m - i : Nat) : Int) := by rw [IntKind.wrap_i64]; omega
  have hb1 : (0 : Int) ≤ (i : Int) + (m : Int) := by omega
  have hin : i ≤ n := by omega
  have htn : ((i : Int) + (m : Int)).toNat = i + m := by omega
  have htn2 : ((n : Int) + (m : Int)).toNat = n + m := by omega
  have hb0 : (0 : Int) ≤ (n : Int) + (m : Int) := by omega
  have hb3 : (i : Int) ≤ (n : Int) + (m : Int) := by omega
  have hb4 : ¬ (cap = i) := by omega
  have hb5 : (cap : Int) < (n : Int) + (m : Int) := by omega
  have hb7 : (i : Int) + (m : Int) ≤ (n : Int) + (m : Int) := by omega
  have hb8 : (i : Int) ≤ (cap : Int) := by omega
  have hb9 : ¬ (cap' = i) := by omega
  have hb10 : ¬ (cap' = i + m) := by omega
  have hb11 : (n : Int) + (m : Int) ≤ (cap' : Int) := by omega
  go_enter Tryz.func81, Tryz.ntmps81
  go_wp2_with (at_builtin; refine Lib.wpList_append_run _ rfl _ _ _ _ rfl _ _ rfl rfl _ _ (HAP.out) ?_)
  go_wp2
  go_still_tail 8, (by kernel_rfl)
  change wpList _ _ _ _ _ W2.drew
  go_wp2
  go_ret
  exact ⟨_, rfl, FIN.out.1, FIN.out.2⟩
end Go.Proofs.YtbneedmfpldpfaaGreatDoor

set_option linter.unusedSimpArgs false
set_option linter.unusedVariables false
namespace Go.Proofs.YtbneedmfpldpfaaGreatDoor
open Go.RowKit Go.Pth

theorem insert_any (v : Value) (k b capr : Nat) (l r : List Nm) (w : World) (h : Row w 78 2 v l.length (ents l)) (hr : Row w 78 2 (.slice (some ⟨b, 0, none⟩) r.length capr) r.length (ents r)) (hbg : v.ownBlock ≠ some b) (hk : k ≤ l.length) (hr0 : 0 < r.length) (hl : l.length ≤ 1000000) (hrl : r.length ≤ 1000000) :
    Calls Tryz.prog 81 #[v, .int .i64 k, .slice (some ⟨b, 0, none⟩) r.length capr] w (InsPost w (l.length + r.length) v (ents (l.take k ++ r ++ l.drop k))) := by
  rcases Nat.lt_or_ge k l.length with hlt | hge
  · obtain ⟨g, cap, rfl⟩ : ∃ g cap, v = .slice (some ⟨g, 0, none⟩) l.length cap := by
      rcases h.2 with ⟨_, h2⟩ | ⟨g, cap, cur, hv, _⟩
      · omega
      · exact ⟨g, cap, hv⟩
    have hb : b ≠ g := fun e => hbg (by rw [e]; rfl)
    by_cases hroom : l.length + r.length ≤ cap
    · exact insert_back g cap k b capr l r w h hr hb hk hr0 hroom hl hrl
    · exact insert_grow g cap k b capr l r w h hr hlt hr0 hroom hl hrl
  · obtain rfl : k = l.length := by omega
    rw [List.take_of_length_le (Nat.le_refl _), List.drop_of_length_le (Nat.le_refl _), List.append_nil]
    exact insert_end _ _ l r w h (Row.trr hr) hr0 hl hrl
/-- A name among others. -/
def insN (l : List Nm) (p : B) (a : Nat) : List Nm := l.take (place l p) ++ [(p, a)] ++ l.drop (place l p)

set_option maxRecDepth 100000 in
set_option maxHeartbeats 8000000 in
theorem apply_put (c j : Nat) (cs : Array Value) (tc : TypeId) (v : Value) (l : List Nm) (p : B) (a : Nat) (ab ao acap : Nat) (w : World) (hc : At w c cs tc) (hj : cs[j]? = some v) (h : Row w 78 2 v l.length (ents l)) (hoc : v.ownBlock ≠ some c) (hs : Srt l) (hl : l.length ≤ 1000000)
    (c0 : w.cell? ⟨ab, ao, none⟩ = some (.string ⟨#[]⟩)) (c1 : w.cell? ⟨ab, ao + 1, none⟩ = some (.string (tx p))) (c2 : w.cell? ⟨ab, ao + 2, none⟩ = some (ptr a)) :
    Calls Tryz.prog 26 #[.pointer (some ⟨c, j, none⟩), .slice (some ⟨ab, ao, none⟩) 1 acap] w fun e w' => e = .returned (.tuple #[]) ∧ ∃ v' w1, Row w1 78 2 v' (l.length + 1) (ents (insN l p a)) ∧ Grew w w1 v v' ∧ w' = w1.setCell ⟨c, j, none⟩ v' := by
  obtain ⟨W1, hW1⟩ : ∃ W1, W1 = w.alloc (.cells #[.string ⟨#[]⟩, .string (tx p), ptr a] 95) := ⟨_, rfl⟩
  obtain ⟨W2, hW2⟩ : ∃ W2, W2 = W1.alloc (.cells #[.string (tx p), ptr a] 78) := ⟨_, rfl⟩
  have e1 : Ext w W1 := by rw [hW1]; exact Ext.alloc _ _
  have e2 : Ext W1 W2 := by rw [hW2]; exact Ext.alloc _ _
  have s1 : W1.heap.size = w.heap.size + 1 := by rw [hW1]; exact size_alloc _ _
  have hat : At W2 (w.heap.size + 1) #[.string (tx p), ptr a] 78 := by rw [hW2, ← s1]; exact At.new _ _ _
  have rw1 : Row W2 78 2 (.slice (some ⟨w.heap.size + 1, 0, none⟩) [(p, a)].length 1) [(p, a)].length (ents [(p, a)]) :=
    ⟨by simp [ents_len], .inr ⟨w.heap.size + 1, 1, _, rfl, Nat.zero_le _, hat, by simp, by simp [maxLen], rfl, rfl⟩⟩
  have ee := e1.trans e2
  have PU := put_gen c j (place l p) (l.length + 1) (ents (insN l p a)) cs tc v _ l [(p, a)] W2 (hc.ext ee) hj (h.ext ee) hoc (Row.trr rw1) (by simp) hs hl (by simp) (fun w' e' => insert_any v (place l p) (w.heap.size + 1) 1 l [(p, a)] w' ((h.ext ee).ext e') (rw1.ext e') (fun hb => by have := h.lt _ hb; omega) (place_le l p) (by simp) hl (by simp))
  have PU2 : Calls Tryz.prog 57 #[.pointer (some ⟨c, j, none⟩), .slice (some ⟨w.heap.size + 1, 0, none⟩) 1 1] W2 fun e w' => e = .returned (.tuple #[]) ∧ ∃ v' w1, Row w1 78 2 v' (l.length + 1) (ents (insN l p a)) ∧ Grew w w1 v v' ∧ w' = w1.setCell ⟨c, j, none⟩ v' :=
    PU.mono fun e w' ⟨h1, v', w1, h2, g, h3⟩ => ⟨h1, v', w1, h2, ⟨(Chg.of_ext ee).trans g.chg fun _ _ x => x, by rcases g.own with e | ⟨q, e1, e2⟩; exact Or.inl e; exact Or.inr ⟨q, e1, Nat.le_trans ee.size e2⟩⟩, h3⟩
  have HP := Lib.hid PU2
  rw [hW1] at hW2
  clear PU PU2 rw1 hat s1 e1 e2 ee hc hj h hoc hs hl hW1
  unfold ptr at *
  have HW := Lib.hid hW2
  go_enter Tryz.func26, Tryz.ntmps26
  go_wp2
  go_loopw [8] (fun s8 wr => (s8 = .int .i64 0 ∧ w = wr) ∨ (s8 = .int .i64 1 ∧ ∃ v' w1, Row w1 78 2 v' (l.length + 1) (ents (insN l p a)) ∧ Grew w w1 v v' ∧ wr = w1.setCell ⟨c, j, none⟩ v')) (fun s8 _ => 1 - (intOf s8).toNat)
  case atStart => exact Or.inl ⟨rfl, rfl⟩
  case round =>
    rcases hrel with ⟨rfl, rfl⟩ | ⟨rfl, hh⟩
    · go_wp2_with (go_at_call 57; rw [← hW2]; refine (HP.out).mono ?_; rintro e w' ⟨rfl, hfin⟩)
      exact ⟨Or.inr ⟨rfl, hfin⟩, by simp [intOf]⟩
    · have HH := Lib.hid hh
      clear hh
      go_wp2
      go_end0
      exact ⟨rfl, HH.out⟩
end Go.Proofs.YtbneedmfpldpfaaGreatDoor

set_option linter.unusedSimpArgs false
set_option linter.unusedVariables false
namespace Go.Proofs.YtbneedmfpldpfaaGreatDoor
open Go.RowKit Go.Pth

theorem insN_len (l : List Nm) (p : B) (a : Nat) : (insN l p a).length = l.length + 1 := by
  have := place_le l p
  unfold insN
  simp only [List.length_append, List.length_take, List.length_drop, List.length_cons, List.length_nil]; omega
theorem insN_mem {l : List Nm} {p : B} {a : Nat} {x : Nm} (h : x ∈ insN l p a) : x ∈ l ∨ x = (p, a) := by
  unfold insN at h
  rcases List.mem_append.1 h with h | h
  · rcases List.mem_append.1 h with h | h
    · exact Or.inl (List.mem_of_mem_take h)
    · exact Or.inr (List.mem_singleton.1 h)
  · exact Or.inl (List.mem_of_mem_drop h)
theorem look_apart {l : List Nm} {p : B} (hs : Srt l) (hn : look l p = none) (j : Nat) (hj : j < l.length) : l[j].1 ≠ p := by
  intro e
  rcases Nat.lt_trichotomy j (place l p) with h | h | h
  · have := place_before l p j h hj
    rw [e, less_irr] at this; cases this
  · subst h
    unfold look at hn
    rw [dif_pos hj, if_pos e] at hn; cases hn
  · have h1 := place_at l p (by omega)
    have h2 := (List.pairwise_iff_getElem.1 hs) (place l p) j (by omega) hj h
    rw [e, h1] at h2; cases h2
theorem Srt.ins {l : List Nm} {p : B} {a : Nat} (hs : Srt l) (hn : look l p = none) : Srt (insN l p a) := by
  have hk := place_le l p
  have hd : l.take (place l p) ++ l.drop (place l p) = l := List.take_append_drop _ _
  have hs2 : Srt (l.take (place l p) ++ l.drop (place l p)) := by rw [hd]; exact hs
  unfold insN Srt at *
  rw [List.pairwise_append] at hs2
  rw [List.pairwise_append, List.pairwise_append]
  have below : ∀ x ∈ l.take (place l p), less x.1 p = true := by
    intro x hx
    obtain ⟨j, hj, rfl⟩ := List.mem_iff_getElem.1 hx
    rw [List.getElem_take]
    rw [List.length_take] at hj
    exact place_before l p j (by omega) (by omega)
  have above : ∀ x ∈ l.drop (place l p), less p x.1 = true := by
    intro x hx
    obtain ⟨j, hj, rfl⟩ := List.mem_iff_getElem.1 hx
    rw [List.getElem_drop]
    rw [List.length_drop] at hj
    have h1 := place_after l p hs (place l p + j) (by omega) (by omega)
    have h2 := less_tri _ _ (look_apart hs hn (place l p + j) (by omega))
    rw [h1] at h2
    simpa using h2
  refine ⟨⟨hs2.1, List.pairwise_singleton _ _, fun x hx y hy => ?_⟩, hs2.2.1, fun x hx y hy => ?_⟩
  · rw [List.mem_singleton.1 hy]; exact below x hx
  · rcases List.mem_append.1 hx with hx | hx
    · exact hs2.2.2 x hx y hy
    · rw [List.mem_singleton.1 hx]; exact above y hy
theorem takes_none {l : List Nm} {K : Nat → Int} {p : B} (h : takes l K p = 0) : look l p = none := by
  unfold takes at h
  cases e : look l p with
  | none => rfl
  | some q => rw [e] at h; cases h

set_option maxRecDepth 100000 in
set_option maxHeartbeats 8000000 in
theorem change_put (b : Nat) (S : SV) (V : SW) (L : Nat → Option Role) (p : B) (a : Nat) (w : World) (h : Rep w b S V L) (hn : S.names.length ≤ 100000) (hac : S.acts.length ≤ 100000) (hnone : look S.names p = none) (ha : a ∈ S.ids) :
    Calls Tryz.prog 52 #[ptr b, .agg #[.string ⟨#[]⟩, .string (tx p), ptr a]] w fun e w' => e = .returned (.tuple #[]) ∧ ∃ V' L', Rep w' b { S with names := insN S.names p a, acts := S.acts ++ [⟨[], p, some a⟩] } V' L' ∧ StTo w w' L L' := by
  obtain ⟨W1, hW1⟩ : ∃ W1, W1 = w.alloc (.cells #[.string ⟨#[]⟩, .string (tx p), ptr a] 95) := ⟨_, rfl⟩
  have e1 : Ext w W1.drew := by rw [hW1]; exact (Ext.alloc _ _).trans (Ext.drew _)
  have hat1 : At W1 w.heap.size #[.string ⟨#[]⟩, .string (tx p), ptr a] 95 := by rw [hW1]; exact At.new _ _ _
  obtain ⟨W2, hW2⟩ : ∃ W2, W2 = W1.drew.alloc (.cells #[.string ⟨#[]⟩, .string (tx p), ptr a] 95) := ⟨_, rfl⟩
  have s1 : W1.heap.size = w.heap.size + 1 := by rw [hW1]; exact size_alloc _ _
  have e2 : Ext W1 W2 := by rw [hW2]; exact (Ext.drew _).trans (Ext.alloc _ _)
  have e12 : Ext w W2 := by refine Ext.trans ?_ e2; rw [hW1]; exact Ext.alloc _ _
  have hat2 : At W2 (w.heap.size + 1) #[.string ⟨#[]⟩, .string (tx p), ptr a] 95 := by rw [hW2, ← s1]; exact At.new _ _ _
  have h2 := h.ext e12
  have AP := apply_put b 2 (scells S V) 57 V.n S.names p a (w.heap.size + 1) 0 1 W2 h2.cell rfl h2.nm (fun e => by have := h.ln b e; rw [h.lb] at this; cases this) h.sn (by omega) (by rw [hat2.cell]; rfl) (by rw [hat2.cell]; rfl) (by rw [hat2.cell]; rfl)
  have AP2 : Calls Tryz.prog 26 #[.pointer (some ⟨b, 2, none⟩), .slice (some ⟨w.heap.size + 1, 0, none⟩) 1 1] W2 fun e w' => e = .returned (.tuple #[]) ∧ ∃ V' L', Rep w' b { S with names := insN S.names p a } V' L' ∧ StTo w w' L L' ∧ w'.cell? ⟨w.heap.size, 0, none⟩ = some (.string ⟨#[]⟩) ∧ w'.cell? ⟨w.heap.size, 1, none⟩ = some (.string (tx p)) ∧ w'.cell? ⟨w.heap.size, 2, none⟩ = some (ptr a) :=
    AP.mono fun e w' ⟨q1, v', w1, q2, q3, q4⟩ => by
      have r := h2.setNames (l' := insN S.names p a) (by rw [insN_len]; exact q2) q3 (Srt.ins h.sn hnone) (fun x hx => by
        rcases insN_mem hx with hx | hx
        · exact h.rn x hx
        · rw [hx]; exact ha)
      have hL : ¬ L w.heap.size ≠ none := fun e => by have := h.lt _ e; omega
      have hc := r.2.chg.at (hat1.ext e2) hL
      subst q4
      exact ⟨q1, _, _, r.1, (StTo.of_ext e12).trans r.2, by rw [hc.cell]; rfl, by rw [hc.cell]; rfl, by rw [hc.cell]; rfl⟩
  have HP := Lib.hid AP2
  have C0 : W1.drew.cell? ⟨w.heap.size, 0, none⟩ = some (.string ⟨#[]⟩) := by rw [show W1.drew.cell? ⟨w.heap.size, 0, none⟩ = W1.cell? ⟨w.heap.size, 0, none⟩ from rfl, hat1.cell]; rfl
  have C1 : W1.drew.cell? ⟨w.heap.size, 1, none⟩ = some (.string (tx p)) := by rw [show W1.drew.cell? ⟨w.heap.size, 1, none⟩ = W1.cell? ⟨w.heap.size, 1, none⟩ from rfl, hat1.cell]; rfl
  have C2 : W1.drew.cell? ⟨w.heap.size, 2, none⟩ = some (ptr a) := by rw [show W1.drew.cell? ⟨w.heap.size, 2, none⟩ = W1.cell? ⟨w.heap.size, 2, none⟩ from rfl, hat1.cell]; rfl
  have HW1 := Lib.hid hW1
  have HW2 := Lib.hid hW2
  have S1 := Lib.hid s1
  clear AP AP2 h2 hat1 hat2 e1 e2 e12 h hnone ha hn s1
  unfold ptr at *
  go_enter Tryz.func52, Tryz.ntmps52
  go_upto_region 1 with fail
  rw [← HW1.out]
  refine wp_region_any (by kernel_rfl) ?_
  change wpAny _ _ _ _ _ _ _ (World.drew _)
  refine take_at 0 (some 4) (.pointer (some ⟨b, 0, none⟩)) rfl rfl (by kernel_rfl) (by kernel_rfl) (by kernel_rfl) (fun _ _ _ h => h) rfl (fun _ => by go_simp) ?_
  simp only [Act.put, List.setIfInBounds_toArray, List.set_cons_zero, List.set_cons_succ]
  refine take_at 1 (some 5) (.pointer (some ⟨b, 0, none⟩)) rfl rfl (by kernel_rfl) (by kernel_rfl) (by kernel_rfl) (fun _ _ _ h => h) rfl (fun _ => by go_simp) ?_
  simp only [Act.put, List.setIfInBounds_toArray, List.set_cons_zero, List.set_cons_succ]
  refine take_at 2 (some 6) (.pointer (some ⟨b, 2, none⟩)) rfl rfl (by kernel_rfl) (by kernel_rfl) (by kernel_rfl) (fun _ _ _ h => h) rfl (fun _ => by go_simp) ?_
  simp only [Act.put, List.setIfInBounds_toArray, List.set_cons_zero, List.set_cons_succ]
  refine next_one 3 rfl (by kernel_rfl) rfl (fun K hK => ?_)
  refine runL (some 7) rfl (.agg #[.string ⟨#[]⟩, .string (tx p), .pointer (some ⟨a, 0, none⟩)]) (by go_simp) ?_
  refine hK _ _ ?_
  clear hK K
  simp only [Act.put, List.setIfInBounds_toArray, List.set_cons_zero, List.set_cons_succ]
  refine next_one 4 rfl (by kernel_rfl) rfl (fun K hK => ?_)
  refine runV (some 8) rfl (.slice (some ⟨w.heap.size + 1, 0, none⟩) 1 1) W2 (by have h1 := HW2.out; have h2 := S1.out; go_simp) ?_
  refine hK _ _ ?_
  clear hK K
  simp only [Act.put, List.setIfInBounds_toArray, List.set_cons_zero, List.set_cons_succ]
  refine next_one 5 rfl (by kernel_rfl) rfl (fun K hK => ?_)
  refine callS (some 9) rfl 26 #[.pointer (some ⟨b, 2, none⟩), .slice (some ⟨w.heap.size + 1, 0, none⟩) 1 1] (by go_simp) (fun v w' => v = .tuple #[] ∧ ∃ V' L', Rep w' b { S with names := insN S.names p a } V' L' ∧ StTo w w' L L' ∧ w'.cell? ⟨w.heap.size, 0, none⟩ = some (.string ⟨#[]⟩) ∧ w'.cell? ⟨w.heap.size, 1, none⟩ = some (.string (tx p)) ∧ w'.cell? ⟨w.heap.size, 2, none⟩ = some (.pointer (some ⟨a, 0, none⟩))) ((HP.out).mono fun e w' he => ⟨_, he.1, rfl, he.2⟩) ?_
  rintro v3 W3 ⟨rfl, V3, L3, r3, t3, k0, k1, k2⟩
  refine hK _ _ ?_
  clear hK K
  simp only [Act.put, List.setIfInBounds_toArray, List.set_cons_zero, List.set_cons_succ]
  refine wpAny_done (by kernel_rfl) ?_ _
  clear HP HW1 HW2 S1 C0 C1 C2 hW1 hW2 W1 W2
  have D0 : W3.drew.cell? ⟨w.heap.size, 0, none⟩ = some (.string ⟨#[]⟩) := k0
  have D1 : W3.drew.cell? ⟨w.heap.size, 1, none⟩ = some (.string (tx p)) := k1
  have D2 : W3.drew.cell? ⟨w.heap.size, 2, none⟩ = some (.pointer (some ⟨a, 0, none⟩)) := k2
  have ca : W3.drew.cell? ⟨b, 4, none⟩ = some V3.a := by rw [show W3.drew.cell? ⟨b, 4, none⟩ = W3.cell? ⟨b, 4, none⟩ from rfl, r3.c 4]; rfl
  obtain ⟨W4, hW4⟩ : ∃ W4, W4 = W3.drew.alloc (.cells #[.string ⟨#[]⟩, .string (tx p), .pointer (some ⟨a, 0, none⟩)] 95) := ⟨_, rfl⟩
  have e4 : Ext W3.drew W4 := by rw [hW4]; exact Ext.alloc _ _
  have r4 := (r3.ext (Ext.drew W3)).ext e4
  have hat4 : At W4 W3.heap.size #[.string ⟨#[]⟩, .string (tx p), .pointer (some ⟨a, 0, none⟩)] 95 := by rw [hW4]; exact At.new W3.drew _ _
  obtain ⟨i, hi1, hi2, hi3, hi4⟩ := info_of info87
  obtain ⟨v5, W5, hrun, hrow, hg⟩ := run_append_row (P := Tryz.prog) W4 55 55 55 95 i _ Tryz.underlying55 hi1 hi2 (by rw [hi3]; rfl) V3.a S.acts.length (acells S.acts) (by rw [hi3]; exact r4.ac) (.slice (some ⟨W3.heap.size, 0, none⟩) 1 1) 1 [.string ⟨#[]⟩, .string (tx p), .pointer (some ⟨a, 0, none⟩)] (by
    rw [hi3]
    refine Src.ofSlice W4 Tryz.underlying55 ⟨W3.heap.size, 0, none⟩ 1 1 _ rfl (fun q u hu => ?_) (by simp [Value.oneCell'])
    rw [Addr.add_lit, Nat.zero_add, hat4.cell, ← hu]; simp) (by simp only [maxLen]; omega) (by rw [hi4]; omega)
  rw [hi3] at hrow
  have hac2 : acells S.acts ++ [.string ⟨#[]⟩, .string (tx p), .pointer (some ⟨a, 0, none⟩)] = acells (S.acts ++ [⟨[], p, some a⟩]) := by rw [acells_app]; rfl
  rw [hac2] at hrow
  obtain ⟨d5, k5, hv5, -⟩ := hrow.shape
  subst hv5
  have FN := r4.setActs (l' := S.acts ++ [⟨[], p, some a⟩]) (by simpa using hrow) hg
  have FIN := Lib.hid (⟨_, _, FN.1, t3.trans (((StTo.of_ext (Ext.drew W3)).trans (StTo.of_ext e4)).trans FN.2)⟩ : ∃ V' L', Rep (W5.setCell ⟨b, 4, none⟩ (.slice d5 (S.acts.length + 1) k5)) b { S with names := insN S.names p a, acts := S.acts ++ [⟨[], p, some a⟩] } V' L' ∧ StTo w _ L L')
  have at5 := hg.chg.at r4.cell (fun e => by have := r4.la b e; rw [r4.lb] at this; cases this)
  have c5 := at5.cell 4
  simp only [scells] at c5
  have f5 := at5.frozen 4
  have ca4 := e4.cell ca
  have HR := Lib.hid hrun
  have E4 := Lib.hid e4
  have HW4 := Lib.hid hW4
  clear FN hrow hg at5 hrun hat4 r4 r3 t3 hi1 hi2 hi3 hi4 e4 hac2 k0 k1 k2 hW4
  generalize S.acts.length = na at *
  go_upto_region 2 with fail
  refine wp_region_any (by kernel_rfl) ?_
  change wpAny _ _ _ _ _ _ _ (World.drew _)
  refine take_at 0 (some 10) (.pointer (some ⟨b, 0, none⟩)) rfl rfl (by kernel_rfl) (by kernel_rfl) (by kernel_rfl) (fun _ _ _ h => h) rfl (fun _ => by go_simp) ?_
  simp only [Act.put, List.setIfInBounds_toArray, List.set_cons_zero, List.set_cons_succ]
  refine take_at 1 (some 11) (.pointer (some ⟨b, 0, none⟩)) rfl rfl (by kernel_rfl) (by kernel_rfl) (by kernel_rfl) (fun _ _ _ h => h) rfl (fun _ => by go_simp) ?_
  simp only [Act.put, List.setIfInBounds_toArray, List.set_cons_zero, List.set_cons_succ]
  refine take_at 2 (some 12) (.pointer (some ⟨b, 0, none⟩)) rfl rfl (by kernel_rfl) (by kernel_rfl) (by kernel_rfl) (fun _ _ _ h => h) rfl (fun _ => by go_simp) ?_
  simp only [Act.put, List.setIfInBounds_toArray, List.set_cons_zero, List.set_cons_succ]
  refine take_at 3 (some 13) (.pointer (some ⟨b, 4, none⟩)) rfl rfl (by kernel_rfl) (by kernel_rfl) (by kernel_rfl) (fun _ _ _ h => h) rfl (fun _ => by go_simp) ?_
  simp only [Act.put, List.setIfInBounds_toArray, List.set_cons_zero, List.set_cons_succ]
  refine next_two 4 5 rfl rfl (by kernel_rfl) rfl rfl (fun K hK => ?_) (fun K hK => ?_)
  · first | (refine runL (some 14) rfl V3.a (by go_simp) ?_; refine hK _ _ ?_; clear hK K; simp only [Act.put, List.setIfInBounds_toArray, List.set_cons_zero, List.set_cons_succ])
    refine next_one 5 rfl (by kernel_rfl) rfl (fun K hK => ?_)
    refine runL (some 15) rfl (.agg #[.string ⟨#[]⟩, .string (tx p), .pointer (some ⟨a, 0, none⟩)]) (by go_simp) ?_
    refine hK _ _ ?_
    clear hK K
    simp only [Act.put, List.setIfInBounds_toArray, List.set_cons_zero, List.set_cons_succ]
    refine next_one 6 rfl (by kernel_rfl) rfl (fun K hK => ?_)
    refine runV (some 16) rfl (.slice (some ⟨W3.heap.size, 0, none⟩) 1 1) W4 (by have h1 := HW4.out; go_simp) ?_
    refine hK _ _ ?_
    clear hK K
    simp only [Act.put, List.setIfInBounds_toArray, List.set_cons_zero, List.set_cons_succ]
    refine next_one 7 rfl (by kernel_rfl) rfl (fun K hK => ?_)
    refine Lib.wp_append_run _ (.tmp 14) (.tmp 16) 55 55 rfl V3.a (.slice (some ⟨W3.heap.size, 0, none⟩) 1 1) rfl rfl _ _ HR.out ?_
    refine hK _ _ ?_
    clear hK K
    simp only [Act.put, List.setIfInBounds_toArray, List.set_cons_zero, List.set_cons_succ]
    refine take_at 8 (some 18) (.pointer (some ⟨b, 0, none⟩)) rfl rfl (by kernel_rfl) (by kernel_rfl) (by kernel_rfl) (fun _ _ _ h => h) rfl (fun _ => by go_simp) ?_
    simp only [Act.put, List.setIfInBounds_toArray, List.set_cons_zero, List.set_cons_succ]
    refine take_at 9 (some 19) (.pointer (some ⟨b, 4, none⟩)) rfl rfl (by kernel_rfl) (by kernel_rfl) (by kernel_rfl) (fun _ _ _ h => h) rfl (fun _ => by go_simp) ?_
    simp only [Act.put, List.setIfInBounds_toArray, List.set_cons_zero, List.set_cons_succ]
    refine next_one 10 rfl (by kernel_rfl) rfl (fun K hK => ?_)
    refine runN rfl (W5.setCell ⟨b, 4, none⟩ (.slice d5 (na + 1) k5)) (by go_simp) ?_
    refine hK _ _ ?_
    clear hK K
    refine wpAny_done (by kernel_rfl) ?_ _
    go_wp2
    go_end0
    exact ⟨rfl, FIN.out⟩
  · refine runL (some 15) rfl (.agg #[.string ⟨#[]⟩, .string (tx p), .pointer (some ⟨a, 0, none⟩)]) (by go_simp) ?_
    refine hK _ _ ?_
    clear hK K
    simp only [Act.put, List.setIfInBounds_toArray, List.set_cons_zero, List.set_cons_succ]
    refine next_two 4 6 rfl rfl (by kernel_rfl) rfl rfl (fun K hK => ?_) (fun K hK => ?_)
    · first | (refine runL (some 14) rfl V3.a (by go_simp) ?_; refine hK _ _ ?_; clear hK K; simp only [Act.put, List.setIfInBounds_toArray, List.set_cons_zero, List.set_cons_succ])
      refine next_one 6 rfl (by kernel_rfl) rfl (fun K hK => ?_)
      refine runV (some 16) rfl (.slice (some ⟨W3.heap.size, 0, none⟩) 1 1) W4 (by have h1 := HW4.out; go_simp) ?_
      refine hK _ _ ?_
      clear hK K
      simp only [Act.put, List.setIfInBounds_toArray, List.set_cons_zero, List.set_cons_succ]
      refine next_one 7 rfl (by kernel_rfl) rfl (fun K hK => ?_)
      refine Lib.wp_append_run _ (.tmp 14) (.tmp 16) 55 55 rfl V3.a (.slice (some ⟨W3.heap.size, 0, none⟩) 1 1) rfl rfl _ _ HR.out ?_
      refine hK _ _ ?_
      clear hK K
      simp only [Act.put, List.setIfInBounds_toArray, List.set_cons_zero, List.set_cons_succ]
      refine take_at 8 (some 18) (.pointer (some ⟨b, 0, none⟩)) rfl rfl (by kernel_rfl) (by kernel_rfl) (by kernel_rfl) (fun _ _ _ h => h) rfl (fun _ => by go_simp) ?_
      simp only [Act.put, List.setIfInBounds_toArray, List.set_cons_zero, List.set_cons_succ]
      refine take_at 9 (some 19) (.pointer (some ⟨b, 4, none⟩)) rfl rfl (by kernel_rfl) (by kernel_rfl) (by kernel_rfl) (fun _ _ _ h => h) rfl (fun _ => by go_simp) ?_
      simp only [Act.put, List.setIfInBounds_toArray, List.set_cons_zero, List.set_cons_succ]
      refine next_one 10 rfl (by kernel_rfl) rfl (fun K hK => ?_)
      refine runN rfl (W5.setCell ⟨b, 4, none⟩ (.slice d5 (na + 1) k5)) (by go_simp) ?_
      refine hK _ _ ?_
      clear hK K
      refine wpAny_done (by kernel_rfl) ?_ _
      go_wp2
      go_end0
      exact ⟨rfl, FIN.out⟩
    · refine runV (some 16) rfl (.slice (some ⟨W3.heap.size, 0, none⟩) 1 1) W4 (by have h1 := HW4.out; go_simp) ?_
      refine hK _ _ ?_
      clear hK K
      simp only [Act.put, List.setIfInBounds_toArray, List.set_cons_zero, List.set_cons_succ]
      refine next_one 4 rfl (by kernel_rfl) rfl (fun K hK => ?_)
      first | (refine runL (some 14) rfl V3.a (by go_simp) ?_; refine hK _ _ ?_; clear hK K; simp only [Act.put, List.setIfInBounds_toArray, List.set_cons_zero, List.set_cons_succ])
      refine next_one 7 rfl (by kernel_rfl) rfl (fun K hK => ?_)
      refine Lib.wp_append_run _ (.tmp 14) (.tmp 16) 55 55 rfl V3.a (.slice (some ⟨W3.heap.size, 0, none⟩) 1 1) rfl rfl _ _ HR.out ?_
      refine hK _ _ ?_
      clear hK K
      simp only [Act.put, List.setIfInBounds_toArray, List.set_cons_zero, List.set_cons_succ]
      refine take_at 8 (some 18) (.pointer (some ⟨b, 0, none⟩)) rfl rfl (by kernel_rfl) (by kernel_rfl) (by kernel_rfl) (fun _ _ _ h => h) rfl (fun _ => by go_simp) ?_
      simp only [Act.put, List.setIfInBounds_toArray, List.set_cons_zero, List.set_cons_succ]
      refine take_at 9 (some 19) (.pointer (some ⟨b, 4, none⟩)) rfl rfl (by kernel_rfl) (by kernel_rfl) (by kernel_rfl) (fun _ _ _ h => h) rfl (fun _ => by go_simp) ?_
      simp only [Act.put, List.setIfInBounds_toArray, List.set_cons_zero, List.set_cons_succ]
      refine next_one 10 rfl (by kernel_rfl) rfl (fun K hK => ?_)
      refine runN rfl (W5.setCell ⟨b, 4, none⟩ (.slice d5 (na + 1) k5)) (by go_simp) ?_
      refine hK _ _ ?_
      clear hK K
      refine wpAny_done (by kernel_rfl) ?_ _
      go_wp2
      go_end0
      exact ⟨rfl, FIN.out⟩
/-- A name made wherever it goes. -/
def SV.madeP (S : SV) (a : Nat) (p : B) (k : Int) : SV :=
  { S with clock := S.clock + 1, ids := a :: S.ids, nd := upd S.nd a (newN k (S.clock + 1)), names := insN S.names p a, acts := S.acts ++ [⟨[], p, some a⟩] }

set_option maxRecDepth 100000 in
set_option maxHeartbeats 8000000 in
theorem add_put (b : Nat) (S : SV) (V : SW) (L : Nat → Option Role) (p : ByteArray) (k : Int) (w : World) (h : Rep w b S V L) (hf : S.Fit) (hb : S.begE [p.toList] = 0) (ht : takes S.names (kinds S) p.toList = 0) :
    Calls Tryz.prog 19 #[ptr b, .string p, .int .i64 k] w fun e w' => e = .returned (.int .i64 0) ∧ ∃ a V' L', a ∉ S.ids ∧ Rep w' b (S.beg.madeP a p.toList k) V' L' ∧ StTo w w' L L' := by
  have BG := Lib.hid (begin_one b S V L p w h hf)
  rw [hb] at BG
  have bs := beg_same S
  have TK := Lib.hid (fun w' (r : Rep w' b S.beg V L) => takes_any V.n S.beg.names (kinds S.beg) p w' (Tr.of_row r.nm) r.sn (by rw [bs.1]; have := hf.names; omega) r.kindc)
  rw [show takes S.beg.names (kinds S.beg) p.toList = 0 by unfold kinds; rw [bs.1, bs.2.1]; exact ht] at TK
  have hck : 0 ≤ S.beg.clock ∧ S.beg.clock ≤ 1000000 := by rw [bs.2.2.2.1]; have := hf.clock; omega
  have MK := Lib.hid (fun w' (r : Rep w' b S.beg V L) => mk_node b S.beg V L k w' r hck)
  have CH := Lib.hid (fun (w' : World) (a : Nat) (V' : SW) (L' : Nat → Option Role) (S' : SV) (r : Rep w' b S' V' L') (h1 : S'.names = S.names) (h2 : S'.acts = S.acts) (h3 : a ∈ S'.ids) => change_put b S' V' L' p.toList a w' r (by rw [h1]; have := hf.names; omega) (by rw [h2]; have := hf.acts; omega) (by rw [h1]; exact takes_none ht) h3)
  have NI := Lib.hid (fun (w' : World) (r : Rep w' b S.beg V L) => (fun e => by have := (r.nd w'.heap.size (by rw [bs.2.2.1]; exact e)).1.cells.lt; omega : w'.heap.size ∉ S.ids))
  have BS := Lib.hid bs
  clear h hf hb ht bs hck
  rw [list_tx] at CH
  unfold ptr at *
  go_enter Tryz.func19, Tryz.ntmps19
  go_wp2_with fail
  refine (BG.out).mono ?_
  rintro e w1 ⟨rfl, r1, t1⟩
  have c2 := r1.c 2
  simp only [scells] at c2
  have R1 := Lib.hid r1
  clear r1
  go_wp2_with fail
  refine (TK.out _ R1.out).mono ?_
  rintro e w2 ⟨rfl, hE⟩
  have R2 := Lib.hid (R1.out.ext hE)
  have T2 := Lib.hid (t1.trans (StTo.of_ext hE))
  clear R1 t1 c2
  go_wp2_with fail
  refine (MK.out _ R2.out).mono ?_
  rintro e w3 ⟨rfl, V3, L3, r3, t3⟩
  have R3 := Lib.hid r3
  have T3 := Lib.hid (T2.out.trans t3)
  clear r3 t3
  go_wp2_with fail
  refine (CH.out w3 w2.heap.size V3 L3 _ R3.out BS.out.1 BS.out.2.2.2.2.1 List.mem_cons_self).mono ?_
  rintro e w4 ⟨rfl, V4, L4, r4, t4⟩
  have R4 := Lib.hid r4
  have T4 := Lib.hid (T3.out.trans t4)
  clear r4 t4
  go_wp2
  go_ret
  refine ⟨rfl, w2.heap.size, V4, L4, NI.out _ R2.out, ?_, T4.out⟩
  exact R4.out
end Go.Proofs.YtbneedmfpldpfaaGreatDoor
