/- copy and clear where an element takes several cells. No conditions: lemmas. Contracts of run, and of Clone of names that lie within others. Contract of moved. Contracts of slices.Delete, and of slices.Insert where there is room. Delete to the end of all. -/
import Derived.Test.YtnhokjnmpdiokaaGreatDoorVHM
import Derived.Laws.IdiomCopy
import Derived.StillTailTactics
namespace Go.Proofs.YtnhokjnmpdiokaaGreatDoor.V
open Go.RowKit Go.Pth
section
variable {P : Program}
theorem run_copy_wide (w : World) (dT sT ty elem : TypeId) (K : Nat) (b o dLen dCap : Nat) (a : Addr) (sLen sCap : Nat) (cs : List Value)
    (hu : P.underlying dT = some (.slice elem)) (hs : (P.info? elem).map (·.size) = some K) (hn : cs.length = Nat.min sLen dLen * K)
    (hsrc : ∀ j v, cs[j]? = some v → w.cell? (a.add j) = some v) (hc : ∀ j, j < cs.length → (w.cell? ⟨b, o + j, none⟩).isSome = true) (hf : ∀ j, j < cs.length → w.frozen? ⟨b, o + j, none⟩ = false) (h1 : ∀ v ∈ cs, v.oneCell' = true) :
    (Builtin.copy_ #[dT, sT] ty #[.slice (some ⟨b, o, none⟩) dLen dCap, .slice (some a) sLen sCap]).run P w = .ok (goInt (Nat.min sLen dLen)) (w.setCells b o cs) := by
  have hl := run_loadCells_list (P := P) w a cs hsrc
  have hst := run_storeCells_cells (P := P) b o cs 0 w (by simpa using hc) (by simpa using hf) h1
  cases hq : P.info? elem with
  | none => simp [hq] at hs
  | some i =>
    have hi : i.size = K := by simpa [hq] using hs
    simp [Builtin.copy_, run_underlying hu, Builtin.lenOf, Builtin.firstCells, sizeOf, typeInfo, hq, hi, ← hn, hl, hst]
theorem run_clear_wide (w : World) (t e ty : TypeId) (z : Value) (ht : P.underlying t = some (.slice e)) (hv : ∀ w, (zeroValue e).run P w = .ok z w) (b o n c : Nat) (hn : 0 < n) (cs : List Value) (hcs : (Builtin.zeroCells z.cells n).toList = cs) (h1 : ∀ v ∈ cs, v.oneCell' = true)
    (hc : ∀ j, j < cs.length → (w.cell? ⟨b, o + j, none⟩).isSome = true) (hf : ∀ j, j < cs.length → w.frozen? ⟨b, o + j, none⟩ = false) :
    (Builtin.clear_ #[t] ty #[.slice (some ⟨b, o, none⟩) n c]).run P w = .ok (.tuple #[]) (w.setCells b o cs) := by
  have hst := run_storeCells_cells (P := P) b o cs 0 w (by simpa using hc) (by simpa using hf) h1
  simp only [Nat.add_zero] at hst
  obtain ⟨m, rfl⟩ : ∃ m, n = m + 1 := ⟨n - 1, by omega⟩
  simp [Builtin.clear_, run_underlying ht, hv, hcs, hst]
end
end Go.Proofs.YtnhokjnmpdiokaaGreatDoor.V

set_option linter.unusedSimpArgs false
namespace Go.Proofs.YtnhokjnmpdiokaaGreatDoor.V
open Go.RowKit Go.Pth

def runF (p : B) (e : Nm) : Bool := (e.1 == p) || under e.1 p
def rung (l : List Nm) (p : B) : List Nm := (l.drop (place l p)).takeWhile (runF p)
theorem rung_le (l : List Nm) (p : B) : place l p + (rung l p).length ≤ l.length := by
  have h1 := place_le l p
  have h2 := (List.takeWhile_sublist (runF p) (l := l.drop (place l p))).length_le
  rw [List.length_drop] at h2
  unfold rung
  omega
theorem rung_get (l : List Nm) (p : B) (j : Nat) (h : j < (rung l p).length) : (rung l p)[j]? = l[place l p + j]? := by
  have := (List.takeWhile_prefix (runF p) (l := l.drop (place l p)))
  obtain ⟨t, ht⟩ := this
  have e : (l.drop (place l p))[j]? = (rung l p)[j]? := by
    conv => lhs; rw [← ht]
    exact List.getElem?_append_left h
  rw [← e, List.getElem?_drop]
theorem rung_in (l : List Nm) (p : B) (j : Nat) (h : j < (rung l p).length) (x : Nm) (hx : l[place l p + j]? = some x) : runF p x = true := by
  have h1 := rung_get l p j h
  rw [hx] at h1
  exact List.all_eq_true.1 (List.all_takeWhile (p := runF p) (l := l.drop (place l p))) x (List.mem_of_getElem? h1)
theorem takeWhile_end {α : Type} (f : α → Bool) : ∀ (l : List α) (x : α), l[(l.takeWhile f).length]? = some x → f x = false
  | [], x, h => by simp at h
  | a :: l, x, h => by
    cases hf : f a with
    | false =>
      have e : (a :: l).takeWhile f = [] := by simp [List.takeWhile, hf]
      rw [e] at h
      simp at h
      rw [← h]; exact hf
    | true =>
      have e : (a :: l).takeWhile f = a :: l.takeWhile f := by simp [List.takeWhile, hf]
      rw [e, List.length_cons, List.getElem?_cons_succ] at h
      exact takeWhile_end f l x h
theorem rung_out (l : List Nm) (p : B) (x : Nm) (hx : l[place l p + (rung l p).length]? = some x) : runF p x = false := by
  refine takeWhile_end (runF p) (l.drop (place l p)) x ?_
  rw [List.getElem?_drop]; exact hx
theorem under_acc (a b : ByteArray) {w0 w : World} (h : Ext w0 w) : Calls Tryz.prog 139 #[.string a, .string b] w fun e w' => e = .returned (.bool (under a.toList b.toList)) ∧ Ext w0 w' :=
  (under_any a b w).mono fun _ _ ⟨x, y⟩ => ⟨x, h.trans y⟩
theorem trr_nil (w : World) (ad : Option Addr) (c b o : Nat) : TrR w (.slice ad 0 c) [] ad c b o := ⟨rfl, fun h => by simp at h, fun j h => by simp at h, fun j h => by simp at h⟩
def RunPost (w : World) (b : Nat) (R : List Nm) (e : Ending) (w' : World) : Prop := ∃ v' ad' cap' o', e = .returned v' ∧ Ext w w' ∧ TrR w' v' R ad' cap' b o'
def InvRu (w : World) (P n : Nat) (i : Value) (wr : World) : Prop := ∃ t : Nat, t ≤ n ∧ i = .int .i64 ((P + t : Nat) : Int) ∧ Ext w wr

set_option maxRecDepth 100000 in
set_option maxHeartbeats 8000000 in
theorem run_any (v : Value) (l : List Nm) (p : ByteArray) (ad : Option Addr) (cap b o : Nat) (w : World) (ht : TrR w v l ad cap b o) (hcap : l.length ≤ cap) (hcm : cap ≤ maxLen) (hnil : ad = none → cap = 0) (hpl : ∀ A, ad = some A → A = ⟨b, o, none⟩) (hs : Srt l) (hlen : l.length ≤ 1000000) :
    Calls Tryz.prog 120 #[v, .string p] w (RunPost w b (rung l p.toList)) := by
  have HP := Lib.hid (place_any v l p w ⟨_, _, _, _, ht⟩ hs hlen)
  have hle := rung_le l p.toList
  obtain ⟨R, hR⟩ : ∃ R, R = rung l p.toList := ⟨_, rfl⟩
  obtain ⟨K, hK⟩ : ∃ K, K = place l p.toList := ⟨_, rfl⟩
  have hget : ∀ j, j < R.length → R[j]? = l[K + j]? := fun j hj => by rw [hR, hK]; exact rung_get l _ j (by rw [← hR]; exact hj)
  have hin : ∀ j, j < R.length → ∀ x, l[K + j]? = some x → runF p.toList x = true := fun j hj x hx => rung_in l _ j (by rw [← hR]; exact hj) x (by rw [← hK]; exact hx)
  have hout : ∀ x, l[K + R.length]? = some x → runF p.toList x = false := fun x hx => rung_out l _ x (by rw [← hK, ← hR]; exact hx)
  rw [← hR, ← hK] at hle
  rw [← hK] at HP
  rw [← hR]
  have HG := Lib.hid hget; have HI := Lib.hid hin; have HO := Lib.hid hout
  have HT := Lib.hid ht
  have hv := ht.val
  subst hv
  obtain ⟨L, hL⟩ : ∃ L, L = l.length := ⟨_, rfl⟩
  have HL := Lib.hid hL
  obtain ⟨n, hn⟩ : ∃ n, n = R.length := ⟨_, rfl⟩
  have HN := Lib.hid hn
  simp only [maxLen] at hcm
  rw [← hL] at hcap hlen hle HP HT ⊢
  rw [← hn] at hle
  clear ht hget hin hout hR hK hs hL hn
  go_enter Tryz.func120, Tryz.ntmps120
  go_wp2_with fail
  refine (HP.out).mono ?_
  rintro e w1 ⟨rfl, e1⟩
  clear HP
  go_wp2
  go_loopw [6] (fun i wr => InvRu w K n i wr) (fun i _ => K + n + 1 - (intOf i).toNat)
  case atStart => exact ⟨0, by omega, rfl, e1⟩
  case round =>
    obtain ⟨t, htn, rfl, he⟩ := hrel
    by_cases hlt : K + t < L
    · have i0 : (0 : Int) ≤ ((K + t : Nat) : Int) := by omega
      have i1 : ((K + t : Nat) : Int) < (L : Int) := by omega
      have i2 : (K : Int) + (t : Int) < (L : Int) := by omega
      have hKl : K + t < l.length := by rw [← HL.out]; exact hlt
      have had := HT.out.adr (by rw [← HL.out]; omega)
      have c1 := he.cell (HT.out.nm (K + t) hKl)
      have hx : l[K + t]? = some l[K + t] := List.getElem?_eq_getElem hKl
      have hF : t < n → runF p.toList l[K + t] = true := fun h => HI.out t (by rw [← HN.out]; exact h) _ hx
      have hF2 : t = n → runF p.toList l[K + t] = false := fun h => HO.out _ (by rw [← HN.out, ← h]; exact hx)
      subst had
      generalize l[K + t] = x at *
      obtain ⟨xp, xn⟩ := x
      simp only at c1
      unfold runF at hF hF2
      simp only at hF hF2
      have HF := Lib.hid hF; have HF2 := Lib.hid hF2
      have HE := Lib.hid he
      clear hF hF2 hx hKl he
      cases hq : (xp == p.toList) with
      | true =>
        have htt : t < n := by
          rcases Nat.lt_or_ge t n with h | h
          · exact h
          · have := HF2.out (by omega); rw [hq] at this; simp at this
        have tb : ((tx xp).toList == p.toList) = true := by rw [tx_list]; exact hq
        clear hq
        go_wp2
        exact ⟨⟨t + 1, by omega, by go_num, HE.out⟩, by simp [intOf]; omega⟩
      | false =>
        have tb : ((tx xp).toList == p.toList) = false := by rw [tx_list]; exact hq
        cases hu : under xp p.toList with
        | true =>
          have htt : t < n := by
            rcases Nat.lt_or_ge t n with h | h
            · exact h
            · have := HF2.out (by omega); rw [hq, hu] at this; simp at this
          have hE := HE.out
          have UA := Lib.hid (under_acc (tx xp) p hE)
          rw [tx_list, hu] at UA
          clear hq hu hE
          go_wp2_with fail
          refine (UA.out).mono ?_
          rintro e w' ⟨rfl, hE⟩
          go_wp2
          exact ⟨⟨t + 1, by omega, by go_num, hE⟩, by simp [intOf]; omega⟩
        | false =>
          have htt : t = n := by
            rcases Nat.lt_or_ge t n with h | h
            · have := HF.out h; rw [hq, hu] at this; simp at this
            · omega
          have hE := HE.out
          have UA := Lib.hid (under_acc (tx xp) p hE)
          rw [tx_list, hu] at UA
          have HTT := Lib.hid htt
          clear hq hu hE htt
          go_wp2_with fail
          refine (UA.out).mono ?_
          rintro e w' ⟨rfl, hE⟩
          have htt := HTT.out
          clear HTT
          subst htt
          have FIN : ∀ ad' cap', (0 < t → ad' = some ⟨b, o + K * 2, none⟩) → TrR w' (.slice ad' t cap') R ad' cap' b (o + K * 2) := fun ad' cap' hh => by
            refine ⟨by rw [← HN.out], fun h => hh (by rw [HN.out]; exact h), fun j hj => ?_, fun j hj => ?_⟩
            · have hjl : K + j < l.length := by have := HL.out; have := HN.out; omega
              have g := HG.out j hj
              rw [List.getElem?_eq_getElem hj, List.getElem?_eq_getElem hjl] at g
              injection g with g
              have c := hE.cell (HT.out.nm (K + j) hjl)
              rw [g, ← c]
              congr 2
              omega
            · have hjl : K + j < l.length := by have := HL.out; have := HN.out; omega
              have g := HG.out j hj
              rw [List.getElem?_eq_getElem hj, List.getElem?_eq_getElem hjl] at g
              injection g with g
              have c := hE.cell (HT.out.nd (K + j) hjl)
              rw [g, ← c]
              congr 2
              omega
          have HFin := Lib.hid FIN
          clear FIN
          have s0 : (0 : Int) ≤ (K : Int) := by omega
          have s1 : (K : Int) ≤ (K : Int) + (t : Int) := by omega
          have s2 : (K : Int) + (t : Int) ≤ (cap : Int) := by omega
          have s3 : ¬ (cap = K) := by omega
          go_wp2
          go_ret
          refine ⟨_, some ⟨b, o + K * 2, none⟩, cap - K, o + K * 2, rfl, hE, ?_⟩
          show TrR w' (.slice (some ⟨b, o + K * 2, none⟩) (K + t - K) (cap - K)) R _ _ b _
          rw [Nat.add_sub_cancel_left]
          exact HFin.out _ _ (fun _ => rfl)
    · have htt : t = n := by omega
      subst htt
      have FIN : ∀ ad' cap', (0 < t → ad' = some ⟨b, o + K * 2, none⟩) → TrR wr (.slice ad' t cap') R ad' cap' b (o + K * 2) := fun ad' cap' hh => by
        refine ⟨by rw [← HN.out], fun h => hh (by rw [HN.out]; exact h), fun j hj => ?_, fun j hj => ?_⟩
        · have hjl : K + j < l.length := by have := HL.out; have := HN.out; omega
          have g := HG.out j hj
          rw [List.getElem?_eq_getElem hj, List.getElem?_eq_getElem hjl] at g
          injection g with g
          have c := he.cell (HT.out.nm (K + j) hjl)
          rw [g, ← c]
          congr 2
          omega
        · have hjl : K + j < l.length := by have := HL.out; have := HN.out; omega
          have g := HG.out j hj
          rw [List.getElem?_eq_getElem hj, List.getElem?_eq_getElem hjl] at g
          injection g with g
          have c := he.cell (HT.out.nd (K + j) hjl)
          rw [g, ← c]
          congr 2
          omega
      have HFin := Lib.hid FIN
      clear FIN
      have i2 : ¬ ((K : Int) + (t : Int) < (L : Int)) := by omega
      have i3 : ¬ (((K + t : Nat) : Int) < (L : Int)) := by omega
      have s0 : (0 : Int) ≤ (K : Int) := by omega
      have s1 : (K : Int) ≤ (K : Int) + (t : Int) := by omega
      have s2 : (K : Int) + (t : Int) ≤ (cap : Int) := by omega
      have HE := Lib.hid he
      clear he
      cases hadd : ad with
      | none =>
        have hL0 : L = 0 := by
          rcases Nat.eq_zero_or_pos L with h | h
          · exact h
          · have := HT.out.adr (by rw [← HL.out]; exact h); rw [hadd] at this; cases this
        have hc0 := hnil hadd
        have hK0 : K = 0 := by omega
        have ht0 : t = 0 := by omega
        subst hadd
        subst hc0
        subst hL0
        subst hK0
        subst ht0
        clear hnil HT
        go_wp2
        go_ret
        have hRn : R = [] := List.length_eq_zero_iff.1 HN.out.symm
        refine ⟨_, none, 0, 0, rfl, HE.out, ?_⟩
        rw [hRn]
        exact trr_nil _ _ _ _ _
      | some A =>
        subst hadd
        by_cases hk : cap = K
        · have ht0 : t = 0 := by omega
          subst ht0
          subst hk
          clear hnil HT
          have hA := hpl A rfl
          subst hA
          clear hpl
          go_wp2
          go_ret
          have hRn : R = [] := List.length_eq_zero_iff.1 HN.out.symm
          refine ⟨_, some ⟨b, o, none⟩, 0, 0, rfl, HE.out, ?_⟩
          rw [hRn]
          exact trr_nil _ _ _ _ _
        · have hA := hpl A rfl
          subst hA
          clear hpl hnil HT
          go_wp2
          go_ret
          refine ⟨_, some ⟨b, o + K * 2, none⟩, cap - K, o + K * 2, rfl, HE.out, ?_⟩
          exact HFin.out _ _ (fun _ => rfl)

set_option maxRecDepth 100000 in
set_option maxHeartbeats 4000000 in
theorem clonetr_any (v : Value) (l : List Nm) (w : World) (h : Tr w v l) (h0 : 0 < l.length) (hl : l.length ≤ 1000000) :
    Calls Tryz.prog 149 #[v] w fun e w' => ∃ v', e = .returned v' ∧ Row w' 79 2 v' l.length (ents l) ∧ Ext w w' ∧ ∀ q, v'.ownBlock = some q → w.heap.size ≤ q := by
  obtain ⟨ad, cap, b, o, h⟩ := h
  obtain ⟨i, hi1, hi2, hi3, hi4⟩ := info_of info64
  obtain ⟨v', w', h1, h2, h3⟩ := run_append_row (P := Tryz.prog) (w.alloc (.cells #[] 79)) 75 75 75 79 i _ Tryz.underlying75 hi1 hi2 (by rw [hi3]; rfl) (.slice (some ⟨w.heap.size, 0, none⟩) 0 0) 0 [] (by rw [hi3]; exact empty_row _ _ _) v l.length (ents l) (by rw [hi3]; exact (h.ext (Ext.alloc _ _)).src h0 Tryz.underlying75) (by simp only [maxLen]; omega) (by rw [hi4]; omega)
  rw [hi3, Nat.zero_add, List.nil_append] at h2
  have f := Lib.hid (fresh2 h3)
  have H1 := Lib.hid h1
  have H2 := Lib.hid h2
  have hv := h.val
  have hadr := h.adr h0
  subst hadr
  subst hv
  clear h h1 h2 h3 hi1 hi2 hi3 hi4
  generalize ents l = X at *
  generalize l.length = n at *
  have q := fun w => Lib.run_eql_slice_nil (P := Tryz.prog) w 75 79 (some ⟨b, o, none⟩) n cap 0 0 Tryz.underlying75
  go_enter Tryz.func149, Tryz.ntmps149
  go_wp2_with (at_builtin; refine Lib.wpList_append_run _ rfl _ _ _ _ rfl _ _ rfl rfl _ _ H1.out ?_)
  go_ret
  exact ⟨_, rfl, H2.out, f.out.1, f.out.2⟩
end Go.Proofs.YtnhokjnmpdiokaaGreatDoor.V

set_option linter.unusedSimpArgs false
namespace Go.Proofs.YtnhokjnmpdiokaaGreatDoor.V
open Go.RowKit Go.Pth

def mvd (l : List Nm) (f t : B) : List Nm := l.map fun e => (t ++ e.1.drop f.length, e.2)
theorem mvd_len (l : List Nm) (f t : B) : (mvd l f t).length = l.length := by simp [mvd]
def mvK (l : List Nm) (f t : B) (k : Nat) : List Nm := mvd (l.take k) f t ++ l.drop k
theorem mvK_len (l : List Nm) (f t : B) (k : Nat) : (mvK l f t k).length = l.length := by simp [mvK, mvd]; omega
theorem mvK_at (l : List Nm) (f t : B) (k : Nat) (h : k < l.length) : (mvK l f t k)[k]? = some l[k] := by
  unfold mvK
  have hl : (mvd (l.take k) f t).length = k := by simp [mvd]; omega
  rw [List.getElem?_append_right (by omega), hl, Nat.sub_self, List.getElem?_drop, Nat.add_zero, List.getElem?_eq_getElem h]
theorem mvK_set (l : List Nm) (f t : B) (k : Nat) (h : k < l.length) : (mvK l f t k).set k (t ++ l[k].1.drop f.length, l[k].2) = mvK l f t (k + 1) := by
  unfold mvK
  have hl : (mvd (l.take k) f t).length = k := by simp [mvd]; omega
  rw [List.set_append_right _ _ (by omega), hl, Nat.sub_self, List.drop_eq_getElem_cons h, List.set_cons_zero, List.take_succ_eq_append_getElem h]
  unfold mvd
  rw [List.map_append, List.append_assoc]
  rfl
theorem ents_set (m : List Nm) (k : Nat) (p : B) (h : k < m.length) : (ents m).set (k * 2) (.string (tx p)) = ents (m.set k (p, m[k].2)) := by
  induction m generalizing k with
  | nil => simp at h
  | cons x r ih =>
    cases k with
    | zero => simp [ents]
    | succ k =>
      have := ih k (by simpa using h)
      simp only [ents, List.flatMap_cons] at this ⊢
      rw [show (k + 1) * 2 = k * 2 + 1 + 1 by omega]
      simpa [ents] using this
theorem Row.set1 {w : World} {e : TypeId} {K g cap n : Nat} {xs : List Value} (h : Row w e K (.slice (some ⟨g, 0, none⟩) n cap) n xs) (q : Nat) (u : Value) :
    Row (w.setCell ⟨g, q, none⟩ u) e K (.slice (some ⟨g, 0, none⟩) n cap) n (xs.set q u) := by
  rcases h.2 with ⟨h1, h2⟩ | ⟨g', cap', cur, hv, hb, hg, hn, hc, hcs, hxs⟩
  · cases h1
  · injection hv with h1 h3 h4
    injection h1 with h1
    injection h1 with h1
    subst h1 h4
    have hat : At w g cur e := hg
    refine ⟨by rw [List.length_set]; exact h.1, .inr ⟨g, cap, _, rfl, hb, hat.set q u, hn, hc, by simpa using hcs, ?_⟩⟩
    rw [← hxs, Array.toList_setIfInBounds, List.take_set]
theorem Row.cellK {w : World} {e : TypeId} {K g cap n : Nat} {xs : List Value} (h : Row w e K (.slice (some ⟨g, 0, none⟩) n cap) n xs) (q : Nat) (hq : q < n * K) : w.cell? ⟨g, q, none⟩ = xs[q]? ∧ w.frozen? ⟨g, q, none⟩ = false := by
  rcases h.2 with ⟨h1, h2⟩ | ⟨g', cap', cur, hv, hb, hg, hn, hc, hcs, hxs⟩
  · cases h1
  · injection hv with h1 h3 h4
    injection h1 with h1
    injection h1 with h1
    subst h1
    have hat : At w g cur e := hg
    exact ⟨by rw [hat.cell, ← hxs, List.getElem?_take_of_lt hq, Array.getElem?_toList], hat.frozen q⟩
theorem Row.ownK {w : World} {e : TypeId} {K : Nat} {v : Value} {n : Nat} {xs : List Value} (h : Row w e K v n xs) (hn : 0 < n) : ∃ g cap, v = .slice (some ⟨g, 0, none⟩) n cap ∧ n ≤ cap ∧ cap ≤ maxLen := by
  rcases h.2 with ⟨_, h2⟩ | ⟨g, cap, cur, hv, _, _, h1, h2, _⟩
  · omega
  · exact ⟨g, cap, hv, h1, h2⟩

def InvMv (w : World) (l : List Nm) (f t : B) (g n cap : Nat) (i : Value) (wr : World) : Prop :=
  ∃ k : Nat, k ≤ n ∧ i = .int .i64 k ∧ Ext w wr ∧ Row wr 79 2 (.slice (some ⟨g, 0, none⟩) n cap) n (ents (mvK l f t k))
def MvPost (w : World) (m : List Nm) (e : Ending) (w' : World) : Prop := ∃ v', e = .returned v' ∧ Row w' 79 2 v' m.length (ents m) ∧ Ext w w' ∧ ∀ q, v'.ownBlock = some q → w.heap.size ≤ q

set_option maxRecDepth 100000 in
set_option maxHeartbeats 8000000 in
theorem moved_any (v : Value) (l : List Nm) (f t : ByteArray) (w : World) (h : Tr w v l) (h0 : 0 < l.length) (hl : l.length ≤ 1000000) (hpre : ∀ e ∈ l, f.size ≤ e.1.length ∧ e.1.length ≤ 1000000) (ht : t.size ≤ 1000000) :
    Calls Tryz.prog 136 #[v, .string f, .string t] w (MvPost w (mvd l f.toList t.toList)) := by
  have CL := Lib.hid (clonetr_any v l w h h0 hl)
  have HPre := Lib.hid hpre
  clear h hpre
  obtain ⟨n, hn⟩ : ∃ n, n = l.length := ⟨_, rfl⟩
  have HN := Lib.hid hn
  rw [← hn] at h0 hl CL
  clear hn
  go_enter Tryz.func136, Tryz.ntmps136
  go_wp2_with fail
  refine (CL.out).mono ?_
  rintro e w1 ⟨v1, rfl, r1, e1, f1⟩
  obtain ⟨g, cap, hv1, hc1, hc2⟩ := Row.ownK r1 h0
  subst hv1
  have hg := f1 g rfl
  simp only [maxLen] at hc2
  have I0 : InvMv w l f.toList t.toList g n cap (.int .i64 0) w1 := ⟨0, by omega, rfl, e1, by simpa [mvK, mvd] using r1⟩
  clear CL r1 e1 f1
  go_wp2
  go_loopw [13] (fun i wr => InvMv w l f.toList t.toList g n cap i wr) (fun i _ => n - (intOf i).toNat)
  case atStart => exact I0
  case round =>
    obtain ⟨k, hk, rfl, he, hr⟩ := hrel
    by_cases hlt : k < n
    · have hkl : k < l.length := by rw [← HN.out]; exact hlt
      have hml : (mvK l f.toList t.toList k).length = n := by rw [mvK_len, ← HN.out]
      have hat := mvK_at l f.toList t.toList k hkl
      have hkm : k < (mvK l f.toList t.toList k).length := by rw [hml]; exact hlt
      have hge : (mvK l f.toList t.toList k)[k] = l[k] := by
        rw [List.getElem?_eq_getElem hkm] at hat
        injection hat
      have eg := ents_get _ k hkm
      rw [hge] at eg
      have c1 := (Row.cellK hr (k * 2) (by omega))
      have c2 := (Row.cellK hr (k * 2 + 1) (by omega))
      rw [eg.1] at c1
      rw [eg.2] at c2
      obtain ⟨hp, hpb⟩ := HPre.out l[k] (List.getElem_mem hkl)
      have hset := ents_set (mvK l f.toList t.toList k) k (t.toList ++ l[k].1.drop f.toList.length) hkm
      rw [hge, mvK_set l f.toList t.toList k hkl] at hset
      obtain ⟨W1, hW1⟩ : ∃ W1, W1 = wr.alloc (.cells #[.string (tx l[k].1), ptr l[k].2] 79) := ⟨_, rfl⟩
      have e2 : Ext wr W1 := by rw [hW1]; exact Ext.alloc _ _
      have r2 := hr.ext e2
      have r3 := Row.set1 r2 (k * 2) (.string (tx (t.toList ++ l[k].1.drop f.toList.length)))
      rw [hset] at r3
      have hcx : W1.cell? ⟨wr.heap.size, 0, none⟩ = some (.string (tx l[k].1)) := by rw [hW1, (At.new wr #[.string (tx l[k].1), ptr l[k].2] 79).cell]; rfl
      have c4 := Row.cellK r2 (k * 2) (by omega)
      rw [eg.1] at c4
      have e3 : Ext w (W1.setCell ⟨g, k * 2, none⟩ (.string (tx (t.toList ++ l[k].1.drop f.toList.length)))) := ((Chg.of_ext (X := fun _ => False) (he.trans e2)).trans (Chg.setCell W1 g (k * 2) _) (fun i hi e => by omega)).ext
      have R3 := Lib.hid r3
      have E3 := Lib.hid e3
      have hfs : f.toList.length = f.size := by rw [← tx_size, list_tx]
      rw [hfs] at R3 E3
      have hcut : t ++ (tx l[k].1).extract f.size (tx l[k].1).size = tx (t.toList ++ l[k].1.drop f.size) := by
        rw [← list_tx (t ++ (tx l[k].1).extract f.size (tx l[k].1).size), tx_app, tx_cut, tx_list, tx_size, List.take_of_length_le (by rw [List.length_drop]; omega)]
      have hsz : (tx l[k].1).size = l[k].1.length := tx_size _
      have HCut := Lib.hid hcut
      obtain ⟨c1a, c1b⟩ := c1
      obtain ⟨c2a, c2b⟩ := c2
      obtain ⟨c4a, c4b⟩ := c4
      clear hset r3 e3 hfs hcut eg hge hkm hat hml r2 hr e2 he I0
      unfold ptr at *
      generalize l[k].1 = xp at *
      generalize l[k].2 = xn at *
      have i0 : (0 : Int) ≤ (k : Int) := by omega
      have i1 : (k : Int) < (n : Int) := by omega
      have i2 : (f.size : Int) ≤ (xp.length : Int) := by omega
      have i3 : ¬ 9223372036854775807 < t.size + (xp.length - f.size) := by omega
      rw [hsz] at HCut
      subst hW1
      go_wp2
      case roundEnd =>
        refine ⟨⟨k + 1, by omega, by norm_cast, ?_, ?_⟩, by show n - ((k : Int) + 1).toNat < n - ((k : Int)).toNat; omega⟩
        · rw [HCut.out]; exact E3.out
        · rw [HCut.out]; exact R3.out
    · obtain rfl : k = n := by omega
      have hfin : mvK l f.toList t.toList k = mvd l f.toList t.toList := by
        unfold mvK
        rw [List.take_of_length_le (by rw [← HN.out]; omega), List.drop_of_length_le (by rw [← HN.out]; omega), List.append_nil]
      rw [hfin] at hr
      have HR := Lib.hid hr
      have HE := Lib.hid he
      clear hr he hfin I0
      go_wp2
      go_ret
      exact ⟨_, rfl, by rw [mvd_len, ← HN.out]; exact HR.out, HE.out, fun q hq => by injection hq with hq; rw [← hq]; exact hg⟩
end Go.Proofs.YtnhokjnmpdiokaaGreatDoor.V

set_option linter.unusedSimpArgs false
namespace Go.Proofs.YtnhokjnmpdiokaaGreatDoor.V
open Go.RowKit Go.Pth

theorem Row.at' {w : World} {e : TypeId} {K g cap n : Nat} {xs : List Value} (h : Row w e K (.slice (some ⟨g, 0, none⟩) n cap) n xs) : ∃ cur, At w g cur e ∧ n ≤ cap ∧ cap ≤ maxLen ∧ cur.size = cap * K ∧ cur.toList.take (n * K) = xs := by
  rcases h.2 with ⟨h1, h2⟩ | ⟨g', cap', cur, hv, hb, hg, hn, hc, hcs, hxs⟩
  · cases h1
  · injection hv with h1 h3 h4
    injection h1 with h1
    injection h1 with h1
    subst h1 h4
    exact ⟨cur, hg, hn, hc, hcs, hxs⟩
theorem at_drew {w : World} {b : Nat} {c : Array Value} {t : TypeId} (h : At w b c t) : At w.drew b c t := h
theorem Row.behind {w : World} {e : TypeId} {K g cap n : Nat} {xs : List Value} (h : Row w e K (.slice (some ⟨g, 0, none⟩) n cap) n xs) (o : Nat) (vs : List Value) (ho : n * K ≤ o) (hfit : o + vs.length ≤ cap * K) :
    Row (w.setCells g o vs) e K (.slice (some ⟨g, 0, none⟩) n cap) n xs := by
  obtain ⟨cur, hat, hn, hc, hcs, hxs⟩ := Row.at' h
  refine ⟨h.1, .inr ⟨g, cap, _, rfl, Nat.zero_le _, At.sets vs o w cur hat (by omega), hn, hc, ?_, ?_⟩⟩
  · simp only [List.size_toArray, List.length_append, List.length_take, List.length_drop, Array.length_toList]; omega
  · rw [List.append_assoc, List.take_append_of_le_length (by rw [List.length_take, Array.length_toList]; omega), List.take_take, Nat.min_eq_left ho, hxs]
theorem ents_take (l : List Nm) (i : Nat) : (ents l).take (i * 2) = ents (l.take i) := by
  induction l generalizing i with
  | nil => simp [ents]
  | cons a r ih =>
    cases i with
    | zero => simp [ents]
    | succ i =>
      have := ih i
      simp only [ents, List.flatMap_cons, List.take_succ_cons] at this ⊢
      rw [show (i + 1) * 2 = i * 2 + 1 + 1 by omega]
      simpa [ents] using this
theorem ents_drop (l : List Nm) (i : Nat) : (ents l).drop (i * 2) = ents (l.drop i) := by
  induction l generalizing i with
  | nil => simp [ents]
  | cons a r ih =>
    cases i with
    | zero => simp [ents]
    | succ i =>
      have := ih i
      simp only [ents, List.flatMap_cons, List.drop_succ_cons] at this ⊢
      rw [show (i + 1) * 2 = i * 2 + 1 + 1 by omega]
      simpa [ents] using this
def DelPost (w : World) (g q cap : Nat) (l : List Nm) (e : Ending) (w' : World) : Prop := e = .returned (.slice (some ⟨g, 0, none⟩) q cap) ∧ Row w' 79 2 (.slice (some ⟨g, 0, none⟩) q cap) q (ents l) ∧ Chg (fun i => i = g) w w'
theorem sz64 : (Tryz.prog.info? 79).map (·.size) = some 2 := by kernel_rfl

set_option maxRecDepth 100000 in
set_option maxHeartbeats 8000000 in
theorem delete_any (g cap i j : Nat) (l : List Nm) (w : World) (h : Row w 79 2 (.slice (some ⟨g, 0, none⟩) l.length cap) l.length (ents l)) (hij : i < j) (hj : j ≤ l.length) (hjc : j < cap) :
    Calls Tryz.prog 150 #[.slice (some ⟨g, 0, none⟩) l.length cap, .int .i64 i, .int .i64 j] w (DelPost w g (i + (l.length - j)) cap (l.take i ++ l.drop j)) := by
  obtain ⟨cur, hat, hn, hcm, hcs, hxs⟩ := Row.at' h
  simp only [maxLen] at hcm
  obtain ⟨ii, hi1, hi2, hi3, hi4⟩ := info_of info64
  obtain ⟨N, hN⟩ : ∃ N, N = ents (l.drop j) := ⟨_, rfl⟩
  have hNl : N.length = (l.length - j) * 2 := by rw [hN, ents_len, List.length_drop]
  obtain ⟨q, hq⟩ : ∃ q, q = i + (l.length - j) := ⟨_, rfl⟩
  have hsrc : Src Tryz.prog ii.size 75 (.slice (some ⟨g, j * 2, none⟩) (l.length - j) (cap - j)) (l.length - j) N w.drew := by
    rw [hi3]
    refine Src.ofSlice w.drew Tryz.underlying75 ⟨g, j * 2, none⟩ (l.length - j) (cap - j) N hNl (fun t u hu => ?_) (by rw [hN]; exact ents_one _)
    have ht := (List.getElem?_eq_some_iff.1 hu).1
    rw [Addr.add_lit]
    show w.cell? _ = _
    rw [hat.cell, ← hu, hN, ← ents_drop, ← hxs, List.getElem?_drop, List.getElem?_take_of_lt (by omega), Array.getElem?_toList]
  have hap := fun ty => run_append_room_src (P := Tryz.prog) (w := w.drew) 75 75 ty 79 ii Tryz.underlying75 hi1 g 0 i cap _ (l.length - j) N hsrc (by omega) (fun t ht => by show (w.cell? _).isSome = true; rw [hat.cell, hi3, Array.getElem?_eq_getElem (by omega)]; rfl) (fun t ht => (at_drew hat).frozen _)
  rw [hi3, Nat.zero_add, ← hq] at hap
  have r1 : Row (w.drew.setCells g (0 + i * 2) N) 79 2 (.slice (some ⟨g, 0, none⟩) (i + (l.length - j)) cap) (i + (l.length - j)) (ents (l.take i) ++ N) :=
    row_in (by rw [ents_len, List.length_take]; omega) hNl (at_drew hat) (by omega) (by simp only [maxLen]; omega) hcs (by rw [← ents_take, ← hxs, List.take_take, Nat.min_eq_left (by omega)])
  rw [Nat.zero_add, ← hq, hN, ← ents_app, ← hN] at r1
  obtain ⟨Z, hZ⟩ : ∃ Z, Z = (Builtin.zeroCells (Value.agg #[.string ByteArray.empty, .pointer none]).cells (l.length - q)).toList := ⟨_, rfl⟩
  have hZl : Z.length = (l.length - q) * 2 := by rw [hZ, Array.length_toList, size_zeroCells]; rfl
  have hone : ∀ u ∈ (Value.agg #[.string ByteArray.empty, .pointer none]).cells.toList, u.oneCell' = true := by decide
  have hZ1 : ∀ v ∈ Z, v.oneCell' = true := by
    intro u hu
    rw [hZ] at hu
    have : u ∈ Builtin.zeroCells (Value.agg #[.string ByteArray.empty, .pointer none]).cells (l.length - q) := by simpa using hu
    obtain ⟨t, ht, rfl⟩ := Array.mem_iff_getElem.1 this
    simp only [Builtin.zeroCells]
    exact hone _ (by
      have : t % (Value.agg #[.string ByteArray.empty, .pointer none]).cells.size < (Value.agg #[.string ByteArray.empty, .pointer none]).cells.size := Nat.mod_lt _ (by decide)
      simp [this])
  obtain ⟨W1, hW1⟩ : ∃ W1, W1 = w.drew.setCells g (i * 2) N := ⟨_, rfl⟩
  rw [← hW1] at hap r1
  obtain ⟨cur1, hat1, hn1, hcm1, hcs1, hxs1⟩ := Row.at' r1
  have hcl : ∀ ty c, (Builtin.clear_ #[75] ty #[.slice (some ⟨g, q * 2, none⟩) (l.length - q) c]).run Tryz.prog W1 = .ok (.tuple #[]) (W1.setCells g (q * 2) Z) := fun ty c =>
    run_clear_wide (P := Tryz.prog) W1 75 79 ty (.agg #[.string ByteArray.empty, .pointer none]) Tryz.underlying75 (fun _ => by kernel_rfl) g (q * 2) (l.length - q) c (by omega) Z hZ.symm hZ1 (fun t ht => by rw [hat1.cell, Array.getElem?_eq_getElem (by omega)]; rfl) (fun t ht => hat1.frozen _)
  have r2 := Row.behind r1 (q * 2) Z (Nat.le_refl _) (by omega)
  have c2 : Chg (fun i => i = g) w (W1.setCells g (q * 2) Z) := by
    rw [hW1]
    exact ((Chg.of_ext (Ext.drew w)).trans (Chg.sets g N (i * 2) _) (fun _ _ h => h)).trans (Chg.sets g Z _ _) (fun _ _ h => h)
  rw [← hq]
  have FIN := Lib.hid (⟨r2, c2⟩ : _ ∧ _)
  have HAP := Lib.hid hap
  clear hap
  have f1 : q < l.length := by omega
  clear hat hxs hsrc hi1 hi2 hi3 hi4 hN hNl hq r1 hZ hZl hZ1 hW1 hat1 hcs1 hxs1 hn1 hcm1 r2 c2 h hcs
  generalize l.take i ++ l.drop j = X at *
  generalize l.length = n at *
  have k0 : (i : Int) ≤ (j : Int) := by omega
  have k1 : (j : Int) ≤ (n : Int) := by omega
  have k2 : (n : Int) ≤ (cap : Int) := by omega
  have k3 : ¬ (n = i) := by omega
  have k4 : ¬ (cap = j) := by omega
  have k5 : (i : Int) ≤ (cap : Int) := by omega
  have k6 : (q : Int) ≤ (n : Int) := by omega
  have k7 : ¬ (cap = q) := by omega
  have k8 : ¬ (i = j) := by omega
  go_enter Tryz.func150, Tryz.ntmps150
  go_wp2
  go_still_tail 6, (by kernel_rfl)
  change wpList _ _ _ _ _ w.drew
  go_wp2_with (at_builtin; refine Lib.wpList_append_run _ rfl _ _ _ _ rfl _ _ rfl rfl _ _ (HAP.out _) ?_)
  go_ret
  exact ⟨rfl, FIN.out.1, FIN.out.2⟩
set_option maxRecDepth 100000 in
set_option maxHeartbeats 8000000 in
theorem insert_room (g cap i b capr : Nat) (l r : List Nm) (w : World) (h : Row w 79 2 (.slice (some ⟨g, 0, none⟩) l.length cap) l.length (ents l)) (hr : Row w 79 2 (.slice (some ⟨b, 0, none⟩) r.length capr) r.length (ents r)) (hbg : b ≠ g) (hi : i < l.length) (hr0 : 0 < r.length) (hroom : l.length + r.length ≤ cap) (hl : l.length ≤ 1000000) (hrl : r.length ≤ 1000000) :
    Calls Tryz.prog 148 #[.slice (some ⟨g, 0, none⟩) l.length cap, .int .i64 i, .slice (some ⟨b, 0, none⟩) r.length capr] w (DelPost w g (l.length + r.length) cap (l.take i ++ r ++ l.drop i)) := by
  obtain ⟨cur, hat, hn, hcm, hcs, hxs⟩ := Row.at' h
  obtain ⟨cub, hatb, hnb, hcmb, hcsb, hxsb⟩ := Row.at' hr
  simp only [maxLen] at hcm hcmb
  obtain ⟨n, hnn⟩ : ∃ n, n = l.length := ⟨_, rfl⟩
  obtain ⟨m, hmm⟩ : ∃ m, m = r.length := ⟨_, rfl⟩
  rw [← hnn] at hi hroom hl hn hxs h ⊢
  rw [← hmm] at hr0 hroom hrl hnb hxsb hr ⊢
  obtain ⟨D, hD⟩ : ∃ D, D = ents (l.drop i) := ⟨_, rfl⟩
  have hDl : D.length = (n - i) * 2 := by rw [hD, ents_len, List.length_drop, hnn]
  obtain ⟨R, hR⟩ : ∃ R, R = ents r := ⟨_, rfl⟩
  have hRl : R.length = m * 2 := by rw [hR, ents_len, hmm]
  have hov : ∀ lb cb, (callFunc 159 #[.slice (some ⟨b, 0, none⟩) m capr, .slice (some ⟨g, (i + m) * 2, none⟩) lb cb]).run Tryz.prog w = .ok (.value (.bool false)) w := fun lb cb => by
    rw [run_callFunc_extern Tryz.func159 (by kernel_rfl) (by kernel_rfl) (by kernel_rfl) (e := Extern.SlicesOverlaps.overlaps #[74, 74] #[4]) (by kernel_rfl),
      Lib.run_overlaps_apart w 74 4 79 Tryz.underlying74 2 (fun _ => by kernel_rfl) ⟨b, 0, none⟩ ⟨g, (i + m) * 2, none⟩ m capr lb cb hbg 79 79 cub.size cur.size (by unfold At at hatb; simp [World.shape?, hatb]) (by unfold At at hat; simp [World.shape?, hat]) (by rw [hcs]; omega) (hatb.frozen _) (hatb.frozen _)]
    rfl
  have hcp1 : ∀ ty dc sc, (Builtin.copy_ #[75, 75] ty #[.slice (some ⟨g, (i + m) * 2, none⟩) (n + m - (i + m)) dc, .slice (some ⟨g, i * 2, none⟩) (n + m - i) sc]).run Tryz.prog w.drew = .ok (goInt (Nat.min (n + m - i) (n + m - (i + m)))) (w.drew.setCells g ((i + m) * 2) D) := fun ty dc sc =>
    run_copy_wide (P := Tryz.prog) w.drew 75 75 ty 79 2 g ((i + m) * 2) (n + m - (i + m)) dc ⟨g, i * 2, none⟩ (n + m - i) sc D Tryz.underlying75 sz64 (by rw [hDl]; congr 1; simp only [Nat.min_def]; split <;> omega)
      (fun t u hu => by
        have ht := (List.getElem?_eq_some_iff.1 hu).1
        rw [Addr.add_lit]
        show w.cell? _ = _
        rw [hat.cell, ← hu, hD, ← ents_drop, ← hxs, List.getElem?_drop, List.getElem?_take_of_lt (by omega), Array.getElem?_toList])
      (fun t ht => by show (w.cell? _).isSome = true; rw [hat.cell, Array.getElem?_eq_getElem (by omega)]; rfl) (fun t ht => (at_drew hat).frozen _) (by rw [hD]; exact ents_one _)
  obtain ⟨W1, hW1⟩ : ∃ W1, W1 = w.drew.setCells g ((i + m) * 2) D := ⟨_, rfl⟩
  have hat1 := At.sets D ((i + m) * 2) w.drew cur (at_drew hat) (by omega)
  have c1 := (Chg.of_ext (X := fun i => i = g) (Ext.drew w)).trans (Chg.sets g D ((i + m) * 2) _) (fun _ _ h => h)
  have hatb1 := c1.at hatb hbg
  rw [← hW1] at hat1 hcp1 c1 hatb1
  obtain ⟨C1, hC1⟩ : ∃ C1, C1 = (cur.toList.take ((i + m) * 2) ++ D ++ cur.toList.drop ((i + m) * 2 + D.length)).toArray := ⟨_, rfl⟩
  rw [← hC1] at hat1
  have hC1s : C1.size = cap * 2 := by
    rw [hC1]; simp only [List.size_toArray, List.length_append, List.length_take, List.length_drop, Array.length_toList]; omega
  have hcp2 : ∀ ty dc, (Builtin.copy_ #[75, 74] ty #[.slice (some ⟨g, i * 2, none⟩) (n + m - i) dc, .slice (some ⟨b, 0, none⟩) m capr]).run Tryz.prog W1 = .ok (goInt (Nat.min m (n + m - i))) (W1.setCells g (i * 2) R) := fun ty dc =>
    run_copy_wide (P := Tryz.prog) W1 75 74 ty 79 2 g (i * 2) (n + m - i) dc ⟨b, 0, none⟩ m capr R Tryz.underlying75 sz64 (by rw [hRl]; congr 1; simp only [Nat.min_def]; split <;> omega)
      (fun t u hu => by
        have ht := (List.getElem?_eq_some_iff.1 hu).1
        rw [Addr.add_lit, Nat.zero_add, hatb1.cell, ← hu, hR, ← hxsb, List.getElem?_take_of_lt (by omega), Array.getElem?_toList])
      (fun t ht => by rw [hat1.cell, Array.getElem?_eq_getElem (by omega)]; rfl) (fun t ht => hat1.frozen _) (by rw [hR]; exact ents_one _)
  have hat2 := At.sets R (i * 2) W1 C1 hat1 (by omega)
  have c2 := c1.trans (Chg.sets g R (i * 2) _) (fun _ _ h => h)
  have r2 : Row (W1.setCells g (i * 2) R) 79 2 (.slice (some ⟨g, 0, none⟩) (n + m) cap) (n + m) (ents (l.take i ++ r ++ l.drop i)) := by
    have hlt : (l.take i).length = i := by rw [List.length_take]; omega
    refine ⟨by rw [ents_len]; simp only [List.length_append, List.length_drop, hlt]; omega, .inr ⟨g, cap, _, rfl, Nat.zero_le _, hat2, hroom, by simp only [maxLen]; omega, ?_, ?_⟩⟩
    · simp only [List.size_toArray, List.length_append, List.length_take, List.length_drop, Array.length_toList]; omega
    · have e1 : C1.toList.take (i * 2) = ents (l.take i) := by
        rw [hC1, List.append_assoc]
        show List.take (i * 2) (List.take ((i + m) * 2) cur.toList ++ _) = _
        rw [List.take_append_of_le_length (by rw [List.length_take, Array.length_toList]; omega), List.take_take, Nat.min_eq_left (by omega), ← ents_take, ← hxs, List.take_take, Nat.min_eq_left (by omega)]
      have e2 : C1.toList.drop (i * 2 + R.length) = D ++ cur.toList.drop ((i + m) * 2 + D.length) := by
        rw [hC1, List.append_assoc]
        show List.drop _ (List.take ((i + m) * 2) cur.toList ++ _) = _
        refine List.drop_left' ?_
        rw [List.length_take, Array.length_toList]; omega
      show List.take ((n + m) * 2) (List.take (i * 2) C1.toList ++ R ++ List.drop (i * 2 + R.length) C1.toList) = _
      rw [e1, e2, ← List.append_assoc, hR, hD, ← ents_app, ← ents_app]
      refine List.take_left' ?_
      rw [ents_len]; simp only [List.length_append, List.length_drop, hlt]; omega
  have FIN := Lib.hid (⟨r2, c2⟩ : _ ∧ _)
  have HOV := Lib.hid hov
  clear h hr hat hatb hxs hxsb hcs hcsb hD hDl hR hRl hov hW1 hat1 c1 hatb1 hC1 hC1s hat2 c2 r2 hnn hmm
  generalize l.take i ++ r ++ l.drop i = X at *
  have hz1 : ¬ ((m : Int) = 0) := by omega
  have hz2 : ¬ ((i : Int) = (n : Int)) := by omega
  have hz3 : (i : Int) ≤ (n : Int) := by omega
  have hw1 : IntKind.i64.wrap ((i : Int) + (m : Int)) = (i : Int) + (m : Int) := by rw [IntKind.wrap_i64]; omega
  have hw2 : IntKind.i64.wrap ((n : Int) + (m : Int)) = (n : Int) + (m : Int) := by rw [IntKind.wrap_i64]; omega
  have hb1 : (0 : Int) ≤ (i : Int) + (m : Int) := by omega
  have hin : i ≤ n := by omega
  have htn : ((i : Int) + (m : Int)).toNat = i + m := by omega
  have htn2 : ((n : Int) + (m : Int)).toNat = n + m := by omega
  have hb0 : (0 : Int) ≤ (n : Int) + (m : Int) := by omega
  have hb2 : ¬ (cap = i + m) := by omega
  have hb3 : (i : Int) ≤ (n : Int) + (m : Int) := by omega
  have hb4 : ¬ (cap = i) := by omega
  have hb5 : ¬ ((cap : Int) < (n : Int) + (m : Int)) := by omega
  have hb6 : (n : Int) + (m : Int) ≤ (cap : Int) := by omega
  have hb7 : (i : Int) + (m : Int) ≤ (n : Int) + (m : Int) := by omega
  go_enter Tryz.func148, Tryz.ntmps148
  go_wp2_with (simp only [HOV.out])
  go_still_tail 8, (by kernel_rfl)
  change wpList _ _ _ _ _ w.drew
  go_wp2
  go_ret
  exact ⟨rfl, FIN.out.1, FIN.out.2⟩
end Go.Proofs.YtnhokjnmpdiokaaGreatDoor.V

set_option linter.unusedSimpArgs false
set_option linter.unusedVariables false
namespace Go.Proofs.YtnhokjnmpdiokaaGreatDoor.V
open Go.RowKit Go.Pth

set_option maxRecDepth 100000 in
set_option maxHeartbeats 8000000 in
theorem delete_last (g cap i j : Nat) (l : List Nm) (w : World) (h : Row w 79 2 (.slice (some ⟨g, 0, none⟩) l.length cap) l.length (ents l)) (hij : i < j) (hj : j ≤ l.length) (hjc : j = cap) :
    Calls Tryz.prog 150 #[.slice (some ⟨g, 0, none⟩) l.length cap, .int .i64 i, .int .i64 j] w (DelPost w g (i + (l.length - j)) cap (l.take i ++ l.drop j)) := by
  obtain ⟨cur, hat, hn, hcm, hcs, hxs⟩ := Row.at' h
  simp only [maxLen] at hcm
  obtain ⟨ii, hi1, hi2, hi3, hi4⟩ := info_of info64
  obtain ⟨N, hN⟩ : ∃ N, N = ents (l.drop j) := ⟨_, rfl⟩
  have hNl : N.length = (l.length - j) * 2 := by rw [hN, ents_len, List.length_drop]
  obtain ⟨q, hq⟩ : ∃ q, q = i + (l.length - j) := ⟨_, rfl⟩
  have hlj : l.length - j = 0 := by omega
  have hN0 : N = [] := List.eq_nil_of_length_eq_zero (by omega)
  have hsrc : Src Tryz.prog ii.size 75 (.slice (some ⟨g, 0, none⟩) 0 0) (l.length - j) N w.drew := by
    rw [hi3, hlj, hN0]
    exact Src.ofSlice w.drew Tryz.underlying75 ⟨g, 0, none⟩ 0 0 [] rfl (fun t u hu => by simp at hu) (by simp)
  have hap := fun ty => run_append_room_src (P := Tryz.prog) (w := w.drew) 75 75 ty 79 ii Tryz.underlying75 hi1 g 0 i cap _ (l.length - j) N hsrc (by omega) (fun t ht => by show (w.cell? _).isSome = true; rw [hat.cell, hi3, Array.getElem?_eq_getElem (by omega)]; rfl) (fun t ht => (at_drew hat).frozen _)
  rw [hi3, Nat.zero_add, ← hq] at hap
  have r1 : Row (w.drew.setCells g (0 + i * 2) N) 79 2 (.slice (some ⟨g, 0, none⟩) (i + (l.length - j)) cap) (i + (l.length - j)) (ents (l.take i) ++ N) :=
    row_in (by rw [ents_len, List.length_take]; omega) hNl (at_drew hat) (by omega) (by simp only [maxLen]; omega) hcs (by rw [← ents_take, ← hxs, List.take_take, Nat.min_eq_left (by omega)])
  rw [Nat.zero_add, ← hq, hN, ← ents_app, ← hN] at r1
  obtain ⟨Z, hZ⟩ : ∃ Z, Z = (Builtin.zeroCells (Value.agg #[.string ByteArray.empty, .pointer none]).cells (l.length - q)).toList := ⟨_, rfl⟩
  have hZl : Z.length = (l.length - q) * 2 := by rw [hZ, Array.length_toList, size_zeroCells]; rfl
  have hone : ∀ u ∈ (Value.agg #[.string ByteArray.empty, .pointer none]).cells.toList, u.oneCell' = true := by decide
  have hZ1 : ∀ v ∈ Z, v.oneCell' = true := by
    intro u hu
    rw [hZ] at hu
    have : u ∈ Builtin.zeroCells (Value.agg #[.string ByteArray.empty, .pointer none]).cells (l.length - q) := by simpa using hu
    obtain ⟨t, ht, rfl⟩ := Array.mem_iff_getElem.1 this
    simp only [Builtin.zeroCells]
    exact hone _ (by
      have : t % (Value.agg #[.string ByteArray.empty, .pointer none]).cells.size < (Value.agg #[.string ByteArray.empty, .pointer none]).cells.size := Nat.mod_lt _ (by decide)
      simp [this])
  obtain ⟨W1, hW1⟩ : ∃ W1, W1 = w.drew.setCells g (i * 2) N := ⟨_, rfl⟩
  rw [← hW1] at hap r1
  obtain ⟨cur1, hat1, hn1, hcm1, hcs1, hxs1⟩ := Row.at' r1
  have hcl : ∀ ty c, (Builtin.clear_ #[75] ty #[.slice (some ⟨g, q * 2, none⟩) (l.length - q) c]).run Tryz.prog W1 = .ok (.tuple #[]) (W1.setCells g (q * 2) Z) := fun ty c =>
    run_clear_wide (P := Tryz.prog) W1 75 79 ty (.agg #[.string ByteArray.empty, .pointer none]) Tryz.underlying75 (fun _ => by kernel_rfl) g (q * 2) (l.length - q) c (by omega) Z hZ.symm hZ1 (fun t ht => by rw [hat1.cell, Array.getElem?_eq_getElem (by omega)]; rfl) (fun t ht => hat1.frozen _)
  have r2 := Row.behind r1 (q * 2) Z (Nat.le_refl _) (by omega)
  have c2 : Chg (fun i => i = g) w (W1.setCells g (q * 2) Z) := by
    rw [hW1]
    exact ((Chg.of_ext (Ext.drew w)).trans (Chg.sets g N (i * 2) _) (fun _ _ h => h)).trans (Chg.sets g Z _ _) (fun _ _ h => h)
  rw [← hq]
  have FIN := Lib.hid (⟨r2, c2⟩ : _ ∧ _)
  have HAP := Lib.hid hap
  clear hap
  have f1 : q < l.length := by omega
  clear hat hxs hsrc hi1 hi2 hi3 hi4 hN hNl hq r1 hZ hZl hZ1 hW1 hlj hN0 hat1 hcs1 hxs1 hn1 hcm1 r2 c2 h hcs
  generalize l.take i ++ l.drop j = X at *
  generalize l.length = n at *
  have k0 : (i : Int) ≤ (j : Int) := by omega
  have k1 : (j : Int) ≤ (n : Int) := by omega
  have k2 : (n : Int) ≤ (cap : Int) := by omega
  have k3 : ¬ (n = i) := by omega
  have k5 : (i : Int) ≤ (cap : Int) := by omega
  have k6 : (q : Int) ≤ (n : Int) := by omega
  have k7 : ¬ (cap = q) := by omega
  have k8 : ¬ (i = j) := by omega
  have kn : n = cap := by omega
  subst kn
  have kj : j = n := hjc
  subst kj
  clear k1 k2 hjc hj hij
  clear hn
  go_enter Tryz.func150, Tryz.ntmps150
  go_wp2
  go_still_tail 6, (by kernel_rfl)
  change wpList _ _ _ _ _ w.drew
  go_wp2_with (at_builtin; refine Lib.wpList_append_run _ rfl _ _ _ _ rfl _ _ rfl rfl _ _ (HAP.out _) ?_)
  go_ret
  exact ⟨rfl, FIN.out.1, FIN.out.2⟩
end Go.Proofs.YtnhokjnmpdiokaaGreatDoor.V
