/- Contracts of slices.Delete, and of slices.Insert where there is room. -/
import Derived.Test.YtbneedmfpldpfaaDoorGc
import Derived.StillTailTactics
set_option linter.unusedSimpArgs false
namespace Go.Proofs.YtbneedmfpldpfaaDoor
open Go.RowKit Go.Pth

theorem Row.at' {w : World} {e : TypeId} {K g cap n : Nat} {xs : List Value} (h : Row w e K (.slice (some ⟨g, 0, none⟩) n cap) n xs) : ∃ cur, At w g cur e ∧ n ≤ cap ∧ cap ≤ maxLen ∧ cur.size = cap * K ∧ cur.toList.take (n * K) = xs := by
  rcases h.2 with ⟨h1, h2⟩ | ⟨g', cap', cur, hv, hb, hg, hn, hc, hcs, hxs⟩
  · cases h1
  · injection hv with h1 h3 h4
    injection h1 with h1
    injection h1 with h1
    subst h1 h4
    exact ⟨cur, hg, hn, hc, hcs, hxs⟩
theorem at_drew {w : World} {b : Nat} {c : Array Value} {t : TypeId} (h : At w b c t) : At w.drew b c t := h
/-- What lies behind a row's end is no part of it. -/
theorem Row.behind {w : World} {e : TypeId} {K g cap n : Nat} {xs : List Value} (h : Row w e K (.slice (some ⟨g, 0, none⟩) n cap) n xs) (o : Nat) (vs : List Value) (ho : n * K ≤ o) (hfit : o + vs.length ≤ cap * K) :
    Row (w.setCells g o vs) e K (.slice (some ⟨g, 0, none⟩) n cap) n xs := by
  obtain ⟨cur, hat, hn, hc, hcs, hxs⟩ := Row.at' h
  refine ⟨h.1, .inr ⟨g, cap, _, rfl, Nat.zero_le _, At.sets vs o w cur hat (by omega), hn, hc, ?_, ?_⟩⟩
  · simp only [List.size_toArray, List.length_append, List.length_take, List.length_drop, Array.length_toList]; omega
  · rw [List.append_assoc, List.take_append_of_le_length (by rw [List.length_take, Array.length_toList]; omega), List.take_take, Nat.min_eq_left ho, hxs]
theorem ents_take (l : List Nm) (i : Nat) : (ents l).take (i * 2) = ents (l.take i) := by
  induction l generalizing i with
  | nil => simp [ents]
  | cons a r ih =>
    cases i with
    | zero => simp [ents]
    | succ i =>
      have := ih i
      simp only [ents, List.flatMap_cons, List.take_succ_cons] at this ⊢
      rw [show (i + 1) * 2 = i * 2 + 1 + 1 by omega]
      simpa [ents] using this
theorem ents_drop (l : List Nm) (i : Nat) : (ents l).drop (i * 2) = ents (l.drop i) := by
  induction l generalizing i with
  | nil => simp [ents]
  | cons a r ih =>
    cases i with
    | zero => simp [ents]
    | succ i =>
      have := ih i
      simp only [ents, List.flatMap_cons, List.drop_succ_cons] at this ⊢
      rw [show (i + 1) * 2 = i * 2 + 1 + 1 by omega]
      simpa [ents] using this
def DelPost (w : World) (g q cap : Nat) (l : List Nm) (e : Ending) (w' : World) : Prop := e = .returned (.slice (some ⟨g, 0, none⟩) q cap) ∧ Row w' 64 2 (.slice (some ⟨g, 0, none⟩) q cap) q (ents l) ∧ Chg (fun i => i = g) w w'
theorem sz64 : (Tryd.prog.info? 64).map (·.size) = some 2 := by kernel_rfl

set_option maxRecDepth 100000 in
set_option maxHeartbeats 8000000 in
theorem delete_any (g cap i j : Nat) (l : List Nm) (w : World) (h : Row w 64 2 (.slice (some ⟨g, 0, none⟩) l.length cap) l.length (ents l)) (hij : i < j) (hj : j ≤ l.length) (hjc : j < cap) :
    Calls Tryd.prog 73 #[.slice (some ⟨g, 0, none⟩) l.length cap, .int .i64 i, .int .i64 j] w (DelPost w g (i + (l.length - j)) cap (l.take i ++ l.drop j)) := by
  obtain ⟨cur, hat, hn, hcm, hcs, hxs⟩ := Row.at' h
  simp only [maxLen] at hcm
  obtain ⟨ii, hi1, hi2, hi3, hi4⟩ := info_of info64
  obtain ⟨N, hN⟩ : ∃ N, N = ents (l.drop j) := ⟨_, rfl⟩
  have hNl : N.length = (l.length - j) * 2 := by rw [hN, ents_len, List.length_drop]
  obtain ⟨q, hq⟩ : ∃ q, q = i + (l.length - j) := ⟨_, rfl⟩
  have hsrc : Src Tryd.prog ii.size 60 (.slice (some ⟨g, j * 2, none⟩) (l.length - j) (cap - j)) (l.length - j) N w.drew := by
    rw [hi3]
    refine Src.ofSlice w.drew Tryd.underlying60 ⟨g, j * 2, none⟩ (l.length - j) (cap - j) N hNl (fun t u hu => ?_) (by rw [hN]; exact ents_one _)
    have ht := (List.getElem?_eq_some_iff.1 hu).1
    rw [Addr.add_lit]
    show w.cell? _ = _
    rw [hat.cell, ← hu, hN, ← ents_drop, ← hxs, List.getElem?_drop, List.getElem?_take_of_lt (by omega), Array.getElem?_toList]
  have hap := fun ty => run_append_room_src (P := Tryd.prog) (w := w.drew) 60 60 ty 64 ii Tryd.underlying60 hi1 g 0 i cap _ (l.length - j) N hsrc (by omega) (fun t ht => by show (w.cell? _).isSome = true; rw [hat.cell, hi3, Array.getElem?_eq_getElem (by omega)]; rfl) (fun t ht => (at_drew hat).frozen _)
  rw [hi3, Nat.zero_add, ← hq] at hap
  have r1 : Row (w.drew.setCells g (0 + i * 2) N) 64 2 (.slice (some ⟨g, 0, none⟩) (i + (l.length - j)) cap) (i + (l.length - j)) (ents (l.take i) ++ N) :=
    row_in (by rw [ents_len, List.length_take]; omega) hNl (at_drew hat) (by omega) (by simp only [maxLen]; omega) hcs (by rw [← ents_take, ← hxs, List.take_take, Nat.min_eq_left (by omega)])
  rw [Nat.zero_add, ← hq, hN, ← ents_app, ← hN] at r1
  obtain ⟨Z, hZ⟩ : ∃ Z, Z = (Builtin.zeroCells (Value.agg #[.string ByteArray.empty, .pointer none]).cells (l.length - q)).toList := ⟨_, rfl⟩
  have hZl : Z.length = (l.length - q) * 2 := by rw [hZ, Array.length_toList, size_zeroCells]; rfl
  have hone : ∀ u ∈ (Value.agg #[.string ByteArray.empty, .pointer none]).cells.toList, u.oneCell' = true := by decide
  have hZ1 : ∀ v ∈ Z, v.oneCell' = true := by
    intro u hu
    rw [hZ] at hu
    have : u ∈ Builtin.zeroCells (Value.agg #[.string ByteArray.empty, .pointer none]).cells (l.length - q) := by simpa using hu
    obtain ⟨t, ht, rfl⟩ := Array.mem_iff_getElem.1 this
    simp only [Builtin.zeroCells]
    exact hone _ (by
      have : t % (Value.agg #[.string ByteArray.empty, .pointer none]).cells.size < (Value.agg #[.string ByteArray.empty, .pointer none]).cells.size := Nat.mod_lt _ (by decide)
      simp [this])
  obtain ⟨W1, hW1⟩ : ∃ W1, W1 = w.drew.setCells g (i * 2) N := ⟨_, rfl⟩
  rw [← hW1] at hap r1
  obtain ⟨cur1, hat1, hn1, hcm1, hcs1, hxs1⟩ := Row.at' r1
  have hcl : ∀ ty c, (Builtin.clear_ #[60] ty #[.slice (some ⟨g, q * 2, none⟩) (l.length - q) c]).run Tryd.prog W1 = .ok (.tuple #[]) (W1.setCells g (q * 2) Z) := fun ty c =>
    run_clear_wide (P := Tryd.prog) W1 60 64 ty (.agg #[.string ByteArray.empty, .pointer none]) Tryd.underlying60 (fun _ => by kernel_rfl) g (q * 2) (l.length - q) c (by omega) Z hZ.symm hZ1 (fun t ht => by rw [hat1.cell, Array.getElem?_eq_getElem (by omega)]; rfl) (fun t ht => hat1.frozen _)
  have r2 := Row.behind r1 (q * 2) Z (Nat.le_refl _) (by omega)
  have c2 : Chg (fun i => i = g) w (W1.setCells g (q * 2) Z) := by
    rw [hW1]
    exact ((Chg.of_ext (Ext.drew w)).trans (Chg.sets g N (i * 2) _) (fun _ _ h => h)).trans (Chg.sets g Z _ _) (fun _ _ h => h)
  rw [← hq]
  have FIN := Lib.hid (⟨r2, c2⟩ : _ ∧ _)
  have HAP := Lib.hid hap
  clear hap
  have f1 : q < l.length := by omega
  clear hat hxs hsrc hi1 hi2 hi3 hi4 hN hNl hq r1 hZ hZl hZ1 hW1 hat1 hcs1 hxs1 hn1 hcm1 r2 c2 h hcs
  generalize l.take i ++ l.drop j = X at *
  generalize l.length = n at *
  have k0 : (i : Int) ≤ (j : Int) := by omega
  have k1 : (j : Int) ≤ (n : Int) := by omega
  have k2 : (n : Int) ≤ (cap : Int) := by omega
  have k3 : ¬ (n = i) := by omega
  have k4 : ¬ (cap = j) := by omega
  have k5 : (i : Int) ≤ (cap : Int) := by omega
  have k6 : (q : Int) ≤ (n : Int) := by omega
  have k7 : ¬ (cap = q) := by omega
  have k8 : ¬ (i = j) := by omega
  go_enter Tryd.func73, Tryd.ntmps73
  go_wp2
  go_still_tail 6, (by kernel_rfl)
  change wpList _ _ _ _ _ w.drew
  go_wp2_with (at_builtin; refine Lib.wpList_append_run _ rfl _ _ _ _ rfl _ _ rfl rfl _ _ (HAP.out _) ?_)
  go_ret
  exact ⟨rfl, FIN.out.1, FIN.out.2⟩
set_option maxRecDepth 100000 in
set_option maxHeartbeats 8000000 in
/-- Insert ahead of what there is, with room. -/
theorem insert_room (g cap i b capr : Nat) (l r : List Nm) (w : World) (h : Row w 64 2 (.slice (some ⟨g, 0, none⟩) l.length cap) l.length (ents l)) (hr : Row w 64 2 (.slice (some ⟨b, 0, none⟩) r.length capr) r.length (ents r)) (hbg : b ≠ g) (hi : i < l.length) (hr0 : 0 < r.length) (hroom : l.length + r.length ≤ cap) (hl : l.length ≤ 1000000) (hrl : r.length ≤ 1000000) :
    Calls Tryd.prog 72 #[.slice (some ⟨g, 0, none⟩) l.length cap, .int .i64 i, .slice (some ⟨b, 0, none⟩) r.length capr] w (DelPost w g (l.length + r.length) cap (l.take i ++ r ++ l.drop i)) := by
  obtain ⟨cur, hat, hn, hcm, hcs, hxs⟩ := Row.at' h
  obtain ⟨cub, hatb, hnb, hcmb, hcsb, hxsb⟩ := Row.at' hr
  simp only [maxLen] at hcm hcmb
  obtain ⟨n, hnn⟩ : ∃ n, n = l.length := ⟨_, rfl⟩
  obtain ⟨m, hmm⟩ : ∃ m, m = r.length := ⟨_, rfl⟩
  rw [← hnn] at hi hroom hl hn hxs h ⊢
  rw [← hmm] at hr0 hroom hrl hnb hxsb hr ⊢
  obtain ⟨D, hD⟩ : ∃ D, D = ents (l.drop i) := ⟨_, rfl⟩
  have hDl : D.length = (n - i) * 2 := by rw [hD, ents_len, List.length_drop, hnn]
  obtain ⟨R, hR⟩ : ∃ R, R = ents r := ⟨_, rfl⟩
  have hRl : R.length = m * 2 := by rw [hR, ents_len, hmm]
  have hov : ∀ lb cb, (callFunc 81 #[.slice (some ⟨b, 0, none⟩) m capr, .slice (some ⟨g, (i + m) * 2, none⟩) lb cb]).run Tryd.prog w = .ok (.value (.bool false)) w := fun lb cb => by
    rw [run_callFunc_extern Tryd.func81 (by kernel_rfl) (by kernel_rfl) (by kernel_rfl) (e := Extern.SlicesOverlaps.overlaps #[59, 59] #[4]) (by kernel_rfl),
      Lib.run_overlaps_apart w 59 4 64 Tryd.underlying59 2 (fun _ => by kernel_rfl) ⟨b, 0, none⟩ ⟨g, (i + m) * 2, none⟩ m capr lb cb hbg 64 64 cub.size cur.size (by unfold At at hatb; simp [World.shape?, hatb]) (by unfold At at hat; simp [World.shape?, hat]) (by rw [hcs]; omega) (hatb.frozen _) (hatb.frozen _)]
    rfl
  have hcp1 : ∀ ty dc sc, (Builtin.copy_ #[60, 60] ty #[.slice (some ⟨g, (i + m) * 2, none⟩) (n + m - (i + m)) dc, .slice (some ⟨g, i * 2, none⟩) (n + m - i) sc]).run Tryd.prog w.drew = .ok (goInt (Nat.min (n + m - i) (n + m - (i + m)))) (w.drew.setCells g ((i + m) * 2) D) := fun ty dc sc =>
    run_copy_wide (P := Tryd.prog) w.drew 60 60 ty 64 2 g ((i + m) * 2) (n + m - (i + m)) dc ⟨g, i * 2, none⟩ (n + m - i) sc D Tryd.underlying60 sz64 (by rw [hDl]; congr 1; simp only [Nat.min_def]; split <;> omega)
      (fun t u hu => by
        have ht := (List.getElem?_eq_some_iff.1 hu).1
        rw [Addr.add_lit]
        show w.cell? _ = _
        rw [hat.cell, ← hu, hD, ← ents_drop, ← hxs, List.getElem?_drop, List.getElem?_take_of_lt (by omega), Array.getElem?_toList])
      (fun t ht => by show (w.cell? _).isSome = true; rw [hat.cell, Array.getElem?_eq_getElem (by omega)]; rfl) (fun t ht => (at_drew hat).frozen _) (by rw [hD]; exact ents_one _)
  obtain ⟨W1, hW1⟩ : ∃ W1, W1 = w.drew.setCells g ((i + m) * 2) D := ⟨_, rfl⟩
  have hat1 := At.sets D ((i + m) * 2) w.drew cur (at_drew hat) (by omega)
  have c1 := (Chg.of_ext (X := fun i => i = g) (Ext.drew w)).trans (Chg.sets g D ((i + m) * 2) _) (fun _ _ h => h)
  have hatb1 := c1.at hatb hbg
  rw [← hW1] at hat1 hcp1 c1 hatb1
  obtain ⟨C1, hC1⟩ : ∃ C1, C1 = (cur.toList.take ((i + m) * 2) ++ D ++ cur.toList.drop ((i + m) * 2 + D.length)).toArray := ⟨_, rfl⟩
  rw [← hC1] at hat1
  have hC1s : C1.size = cap * 2 := by
    rw [hC1]; simp only [List.size_toArray, List.length_append, List.length_take, List.length_drop, Array.length_toList]; omega
  have hcp2 : ∀ ty dc, (Builtin.copy_ #[60, 59] ty #[.slice (some ⟨g, i * 2, none⟩) (n + m - i) dc, .slice (some ⟨b, 0, none⟩) m capr]).run Tryd.prog W1 = .ok (goInt (Nat.min m (n + m - i))) (W1.setCells g (i * 2) R) := fun ty dc =>
    run_copy_wide (P := Tryd.prog) W1 60 59 ty 64 2 g (i * 2) (n + m - i) dc ⟨b, 0, none⟩ m capr R Tryd.underlying60 sz64 (by rw [hRl]; congr 1; simp only [Nat.min_def]; split <;> omega)
      (fun t u hu => by
        have ht := (List.getElem?_eq_some_iff.1 hu).1
        rw [Addr.add_lit, Nat.zero_add, hatb1.cell, ← hu, hR, ← hxsb, List.getElem?_take_of_lt (by omega), Array.getElem?_toList])
      (fun t ht => by rw [hat1.cell, Array.getElem?_eq_getElem (by omega)]; rfl) (fun t ht => hat1.frozen _) (by rw [hR]; exact ents_one _)
  have hat2 := At.sets R (i * 2) W1 C1 hat1 (by omega)
  have c2 := c1.trans (Chg.sets g R (i * 2) _) (fun _ _ h => h)
  have r2 : Row (W1.setCells g (i * 2) R) 64 2 (.slice (some ⟨g, 0, none⟩) (n + m) cap) (n + m) (ents (l.take i ++ r ++ l.drop i)) := by
    have hlt : (l.take i).length = i := by rw [List.length_take]; omega
    refine ⟨by rw [ents_len]; simp only [List.length_append, List.length_drop, hlt]; omega, .inr ⟨g, cap, _, rfl, Nat.zero_le _, hat2, hroom, by simp only [maxLen]; omega, ?_, ?_⟩⟩
    · simp only [List.size_toArray, List.length_append, List.length_take, List.length_drop, Array.length_toList]; omega
    · have e1 : C1.toList.take (i * 2) = ents (l.take i) := by
        rw [hC1, List.append_assoc]
        show List.take (i * 2) (List.take ((i + m) * 2) cur.toList ++ _) = _
        rw [List.take_append_of_le_length (by rw [List.length_take, Array.length_toList]; omega), List.take_take, Nat.min_eq_left (by omega), ← ents_take, ← hxs, List.take_take, Nat.min_eq_left (by omega)]
      have e2 : C1.toList.drop (i * 2 + R.length) = D ++ cur.toList.drop ((i + m) * 2 + D.length) := by
        rw [hC1, List.append_assoc]
        show List.drop _ (List.take ((i + m) * 2) cur.toList ++ _) = _
        refine List.drop_left' ?_
        rw [List.length_take, Array.length_toList]; omega
      show List.take ((n + m) * 2) (List.take (i * 2) C1.toList ++ R ++ List.drop (i * 2 + R.length) C1.toList) = _
      rw [e1, e2, ← List.append_assoc, hR, hD, ← ents_app, ← ents_app]
      refine List.take_left' ?_
      rw [ents_len]; simp only [List.length_append, List.length_drop, hlt]; omega
  have FIN := Lib.hid (⟨r2, c2⟩ : _ ∧ _)
  have HOV := Lib.hid hov
  clear h hr hat hatb hxs hxsb hcs hcsb hD hDl hR hRl hov hW1 hat1 c1 hatb1 hC1 hC1s hat2 c2 r2 hnn hmm
  generalize l.take i ++ r ++ l.drop i = X at *
  have hz1 : ¬ ((m : Int) = 0) := by omega
  have hz2 : ¬ ((i : Int) = (n : Int)) := by omega
  have hz3 : (i : Int) ≤ (n : Int) := by omega
  have hw1 : IntKind.i64.wrap ((i : Int) + (m : Int)) = (i : Int) + (m : Int) := by rw [IntKind.wrap_i64]; omega
  have hw2 : IntKind.i64.wrap ((n : Int) + (m : Int)) = (n : Int) + (m : Int) := by rw [IntKind.wrap_i64]; omega
  have hb1 : (0 : Int) ≤ (i : Int) + (m : Int) := by omega
  have hin : i ≤ n := by omega
  have htn : ((i : Int) + (m : Int)).toNat = i + m := by omega
  have htn2 : ((n : Int) + (m : Int)).toNat = n + m := by omega
  have hb0 : (0 : Int) ≤ (n : Int) + (m : Int) := by omega
  have hb2 : ¬ (cap = i + m) := by omega
  have hb3 : (i : Int) ≤ (n : Int) + (m : Int) := by omega
  have hb4 : ¬ (cap = i) := by omega
  have hb5 : ¬ ((cap : Int) < (n : Int) + (m : Int)) := by omega
  have hb6 : (n : Int) + (m : Int) ≤ (cap : Int) := by omega
  have hb7 : (i : Int) + (m : Int) ≤ (n : Int) + (m : Int) := by omega
  go_enter Tryd.func72, Tryd.ntmps72
  go_wp2_with (simp only [HOV.out])
  go_still_tail 8, (by kernel_rfl)
  change wpList _ _ _ _ _ w.drew
  go_wp2
  go_ret
  exact ⟨rfl, FIN.out.1, FIN.out.2⟩
end Go.Proofs.YtbneedmfpldpfaaDoor
