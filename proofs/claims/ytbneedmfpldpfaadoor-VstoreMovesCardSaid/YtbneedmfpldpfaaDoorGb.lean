/- Contracts of run, and of Clone of names that lie within others. -/
import Derived.Test.YtbneedmfpldpfaaDoorGa
set_option linter.unusedSimpArgs false
namespace Go.Proofs.YtbneedmfpldpfaaDoor
open Go.RowKit Go.Pth

/-- A name, or one under it. -/
def runF (p : B) (e : Nm) : Bool := (e.1 == p) || under e.1 p
def rung (l : List Nm) (p : B) : List Nm := (l.drop (place l p)).takeWhile (runF p)
theorem rung_le (l : List Nm) (p : B) : place l p + (rung l p).length ≤ l.length := by
  have h1 := place_le l p
  have h2 := (List.takeWhile_sublist (runF p) (l := l.drop (place l p))).length_le
  rw [List.length_drop] at h2
  unfold rung
  omega
theorem rung_get (l : List Nm) (p : B) (j : Nat) (h : j < (rung l p).length) : (rung l p)[j]? = l[place l p + j]? := by
  have := (List.takeWhile_prefix (runF p) (l := l.drop (place l p)))
  obtain ⟨t, ht⟩ := this
  have e : (l.drop (place l p))[j]? = (rung l p)[j]? := by
    conv => lhs; rw [← ht]
    exact List.getElem?_append_left h
  rw [← e, List.getElem?_drop]
theorem rung_in (l : List Nm) (p : B) (j : Nat) (h : j < (rung l p).length) (x : Nm) (hx : l[place l p + j]? = some x) : runF p x = true := by
  have h1 := rung_get l p j h
  rw [hx] at h1
  exact List.all_eq_true.1 (List.all_takeWhile (p := runF p) (l := l.drop (place l p))) x (List.mem_of_getElem? h1)
theorem takeWhile_end {α : Type} (f : α → Bool) : ∀ (l : List α) (x : α), l[(l.takeWhile f).length]? = some x → f x = false
  | [], x, h => by simp at h
  | a :: l, x, h => by
    cases hf : f a with
    | false =>
      have e : (a :: l).takeWhile f = [] := by simp [List.takeWhile, hf]
      rw [e] at h
      simp at h
      rw [← h]; exact hf
    | true =>
      have e : (a :: l).takeWhile f = a :: l.takeWhile f := by simp [List.takeWhile, hf]
      rw [e, List.length_cons, List.getElem?_cons_succ] at h
      exact takeWhile_end f l x h
theorem rung_out (l : List Nm) (p : B) (x : Nm) (hx : l[place l p + (rung l p).length]? = some x) : runF p x = false := by
  refine takeWhile_end (runF p) (l.drop (place l p)) x ?_
  rw [List.getElem?_drop]; exact hx
theorem under_acc (a b : ByteArray) {w0 w : World} (h : Ext w0 w) : Calls Tryd.prog 41 #[.string a, .string b] w fun e w' => e = .returned (.bool (under a.toList b.toList)) ∧ Ext w0 w' :=
  (under_any a b w).mono fun _ _ ⟨x, y⟩ => ⟨x, h.trans y⟩
theorem trr_nil (w : World) (ad : Option Addr) (c b o : Nat) : TrR w (.slice ad 0 c) [] ad c b o := ⟨rfl, fun h => by simp at h, fun j h => by simp at h, fun j h => by simp at h⟩
/-- A run: names that lie within others. -/
def RunPost (w : World) (b : Nat) (R : List Nm) (e : Ending) (w' : World) : Prop := ∃ v' ad' cap' o', e = .returned v' ∧ Ext w w' ∧ TrR w' v' R ad' cap' b o'
def InvRu (w : World) (P n : Nat) (i : Value) (wr : World) : Prop := ∃ t : Nat, t ≤ n ∧ i = .int .i64 ((P + t : Nat) : Int) ∧ Ext w wr

set_option maxRecDepth 100000 in
set_option maxHeartbeats 8000000 in
theorem run_any (v : Value) (l : List Nm) (p : ByteArray) (ad : Option Addr) (cap b o : Nat) (w : World) (ht : TrR w v l ad cap b o) (hcap : l.length ≤ cap) (hcm : cap ≤ maxLen) (hnil : ad = none → cap = 0) (hpl : ∀ A, ad = some A → A = ⟨b, o, none⟩) (hs : Srt l) (hlen : l.length ≤ 1000000) :
    Calls Tryd.prog 40 #[v, .string p] w (RunPost w b (rung l p.toList)) := by
  have HP := Lib.hid (place_any v l p w ⟨_, _, _, _, ht⟩ hs hlen)
  have hle := rung_le l p.toList
  obtain ⟨R, hR⟩ : ∃ R, R = rung l p.toList := ⟨_, rfl⟩
  obtain ⟨K, hK⟩ : ∃ K, K = place l p.toList := ⟨_, rfl⟩
  have hget : ∀ j, j < R.length → R[j]? = l[K + j]? := fun j hj => by rw [hR, hK]; exact rung_get l _ j (by rw [← hR]; exact hj)
  have hin : ∀ j, j < R.length → ∀ x, l[K + j]? = some x → runF p.toList x = true := fun j hj x hx => rung_in l _ j (by rw [← hR]; exact hj) x (by rw [← hK]; exact hx)
  have hout : ∀ x, l[K + R.length]? = some x → runF p.toList x = false := fun x hx => rung_out l _ x (by rw [← hK, ← hR]; exact hx)
  rw [← hR, ← hK] at hle
  rw [← hK] at HP
  rw [← hR]
  have HG := Lib.hid hget; have HI := Lib.hid hin; have HO := Lib.hid hout
  have HT := Lib.hid ht
  have hv := ht.val
  subst hv
  obtain ⟨L, hL⟩ : ∃ L, L = l.length := ⟨_, rfl⟩
  have HL := Lib.hid hL
  obtain ⟨n, hn⟩ : ∃ n, n = R.length := ⟨_, rfl⟩
  have HN := Lib.hid hn
  simp only [maxLen] at hcm
  rw [← hL] at hcap hlen hle HP HT ⊢
  rw [← hn] at hle
  clear ht hget hin hout hR hK hs hL hn
  go_enter Tryd.func40, Tryd.ntmps40
  go_wp2_with fail
  refine (HP.out).mono ?_
  rintro e w1 ⟨rfl, e1⟩
  clear HP
  go_wp2
  go_loopw [6] (fun i wr => InvRu w K n i wr) (fun i _ => K + n + 1 - (intOf i).toNat)
  case atStart => exact ⟨0, by omega, rfl, e1⟩
  case round =>
    obtain ⟨t, htn, rfl, he⟩ := hrel
    by_cases hlt : K + t < L
    · have i0 : (0 : Int) ≤ ((K + t : Nat) : Int) := by omega
      have i1 : ((K + t : Nat) : Int) < (L : Int) := by omega
      have i2 : (K : Int) + (t : Int) < (L : Int) := by omega
      have hKl : K + t < l.length := by rw [← HL.out]; exact hlt
      have had := HT.out.adr (by rw [← HL.out]; omega)
      have c1 := he.cell (HT.out.nm (K + t) hKl)
      have hx : l[K + t]? = some l[K + t] := List.getElem?_eq_getElem hKl
      have hF : t < n → runF p.toList l[K + t] = true := fun h => HI.out t (by rw [← HN.out]; exact h) _ hx
      have hF2 : t = n → runF p.toList l[K + t] = false := fun h => HO.out _ (by rw [← HN.out, ← h]; exact hx)
      subst had
      generalize l[K + t] = x at *
      obtain ⟨xp, xn⟩ := x
      simp only at c1
      unfold runF at hF hF2
      simp only at hF hF2
      have HF := Lib.hid hF; have HF2 := Lib.hid hF2
      have HE := Lib.hid he
      clear hF hF2 hx hKl he
      cases hq : (xp == p.toList) with
      | true =>
        have htt : t < n := by
          rcases Nat.lt_or_ge t n with h | h
          · exact h
          · have := HF2.out (by omega); rw [hq] at this; simp at this
        have tb : ((tx xp).toList == p.toList) = true := by rw [tx_list]; exact hq
        clear hq
        go_wp2
        exact ⟨⟨t + 1, by omega, by go_num, HE.out⟩, by simp [intOf]; omega⟩
      | false =>
        have tb : ((tx xp).toList == p.toList) = false := by rw [tx_list]; exact hq
        cases hu : under xp p.toList with
        | true =>
          have htt : t < n := by
            rcases Nat.lt_or_ge t n with h | h
            · exact h
            · have := HF2.out (by omega); rw [hq, hu] at this; simp at this
          have hE := HE.out
          have UA := Lib.hid (under_acc (tx xp) p hE)
          rw [tx_list, hu] at UA
          clear hq hu hE
          go_wp2_with fail
          refine (UA.out).mono ?_
          rintro e w' ⟨rfl, hE⟩
          go_wp2
          exact ⟨⟨t + 1, by omega, by go_num, hE⟩, by simp [intOf]; omega⟩
        | false =>
          have htt : t = n := by
            rcases Nat.lt_or_ge t n with h | h
            · have := HF.out h; rw [hq, hu] at this; simp at this
            · omega
          have hE := HE.out
          have UA := Lib.hid (under_acc (tx xp) p hE)
          rw [tx_list, hu] at UA
          have HTT := Lib.hid htt
          clear hq hu hE htt
          go_wp2_with fail
          refine (UA.out).mono ?_
          rintro e w' ⟨rfl, hE⟩
          have htt := HTT.out
          clear HTT
          subst htt
          have FIN : ∀ ad' cap', (0 < t → ad' = some ⟨b, o + K * 2, none⟩) → TrR w' (.slice ad' t cap') R ad' cap' b (o + K * 2) := fun ad' cap' hh => by
            refine ⟨by rw [← HN.out], fun h => hh (by rw [HN.out]; exact h), fun j hj => ?_, fun j hj => ?_⟩
            · have hjl : K + j < l.length := by have := HL.out; have := HN.out; omega
              have g := HG.out j hj
              rw [List.getElem?_eq_getElem hj, List.getElem?_eq_getElem hjl] at g
              injection g with g
              have c := hE.cell (HT.out.nm (K + j) hjl)
              rw [g, ← c]
              congr 2
              omega
            · have hjl : K + j < l.length := by have := HL.out; have := HN.out; omega
              have g := HG.out j hj
              rw [List.getElem?_eq_getElem hj, List.getElem?_eq_getElem hjl] at g
              injection g with g
              have c := hE.cell (HT.out.nd (K + j) hjl)
              rw [g, ← c]
              congr 2
              omega
          have HFin := Lib.hid FIN
          clear FIN
          have s0 : (0 : Int) ≤ (K : Int) := by omega
          have s1 : (K : Int) ≤ (K : Int) + (t : Int) := by omega
          have s2 : (K : Int) + (t : Int) ≤ (cap : Int) := by omega
          have s3 : ¬ (cap = K) := by omega
          go_wp2
          go_ret
          refine ⟨_, some ⟨b, o + K * 2, none⟩, cap - K, o + K * 2, rfl, hE, ?_⟩
          show TrR w' (.slice (some ⟨b, o + K * 2, none⟩) (K + t - K) (cap - K)) R _ _ b _
          rw [Nat.add_sub_cancel_left]
          exact HFin.out _ _ (fun _ => rfl)
    · have htt : t = n := by omega
      subst htt
      have FIN : ∀ ad' cap', (0 < t → ad' = some ⟨b, o + K * 2, none⟩) → TrR wr (.slice ad' t cap') R ad' cap' b (o + K * 2) := fun ad' cap' hh => by
        refine ⟨by rw [← HN.out], fun h => hh (by rw [HN.out]; exact h), fun j hj => ?_, fun j hj => ?_⟩
        · have hjl : K + j < l.length := by have := HL.out; have := HN.out; omega
          have g := HG.out j hj
          rw [List.getElem?_eq_getElem hj, List.getElem?_eq_getElem hjl] at g
          injection g with g
          have c := he.cell (HT.out.nm (K + j) hjl)
          rw [g, ← c]
          congr 2
          omega
        · have hjl : K + j < l.length := by have := HL.out; have := HN.out; omega
          have g := HG.out j hj
          rw [List.getElem?_eq_getElem hj, List.getElem?_eq_getElem hjl] at g
          injection g with g
          have c := he.cell (HT.out.nd (K + j) hjl)
          rw [g, ← c]
          congr 2
          omega
      have HFin := Lib.hid FIN
      clear FIN
      have i2 : ¬ ((K : Int) + (t : Int) < (L : Int)) := by omega
      have i3 : ¬ (((K + t : Nat) : Int) < (L : Int)) := by omega
      have s0 : (0 : Int) ≤ (K : Int) := by omega
      have s1 : (K : Int) ≤ (K : Int) + (t : Int) := by omega
      have s2 : (K : Int) + (t : Int) ≤ (cap : Int) := by omega
      have HE := Lib.hid he
      clear he
      cases hadd : ad with
      | none =>
        have hL0 : L = 0 := by
          rcases Nat.eq_zero_or_pos L with h | h
          · exact h
          · have := HT.out.adr (by rw [← HL.out]; exact h); rw [hadd] at this; cases this
        have hc0 := hnil hadd
        have hK0 : K = 0 := by omega
        have ht0 : t = 0 := by omega
        subst hadd
        subst hc0
        subst hL0
        subst hK0
        subst ht0
        clear hnil HT
        go_wp2
        go_ret
        have hRn : R = [] := List.length_eq_zero_iff.1 HN.out.symm
        refine ⟨_, none, 0, 0, rfl, HE.out, ?_⟩
        rw [hRn]
        exact trr_nil _ _ _ _ _
      | some A =>
        subst hadd
        by_cases hk : cap = K
        · have ht0 : t = 0 := by omega
          subst ht0
          subst hk
          clear hnil HT
          have hA := hpl A rfl
          subst hA
          clear hpl
          go_wp2
          go_ret
          have hRn : R = [] := List.length_eq_zero_iff.1 HN.out.symm
          refine ⟨_, some ⟨b, o, none⟩, 0, 0, rfl, HE.out, ?_⟩
          rw [hRn]
          exact trr_nil _ _ _ _ _
        · have hA := hpl A rfl
          subst hA
          clear hpl hnil HT
          go_wp2
          go_ret
          refine ⟨_, some ⟨b, o + K * 2, none⟩, cap - K, o + K * 2, rfl, HE.out, ?_⟩
          exact HFin.out _ _ (fun _ => rfl)

set_option maxRecDepth 100000 in
set_option maxHeartbeats 4000000 in
/-- Clone of names wherever they lie. -/
theorem clonetr_any (v : Value) (l : List Nm) (w : World) (h : Tr w v l) (h0 : 0 < l.length) (hl : l.length ≤ 1000000) :
    Calls Tryd.prog 38 #[v] w fun e w' => ∃ v', e = .returned v' ∧ Row w' 64 2 v' l.length (ents l) ∧ Ext w w' ∧ ∀ q, v'.ownBlock = some q → w.heap.size ≤ q := by
  obtain ⟨ad, cap, b, o, h⟩ := h
  obtain ⟨i, hi1, hi2, hi3, hi4⟩ := info_of info64
  obtain ⟨v', w', h1, h2, h3⟩ := run_append_row (P := Tryd.prog) (w.alloc (.cells #[] 64)) 60 60 60 64 i _ Tryd.underlying60 hi1 hi2 (by rw [hi3]; rfl) (.slice (some ⟨w.heap.size, 0, none⟩) 0 0) 0 [] (by rw [hi3]; exact empty_row _ _ _) v l.length (ents l) (by rw [hi3]; exact (h.ext (Ext.alloc _ _)).src h0 Tryd.underlying60) (by simp only [maxLen]; omega) (by rw [hi4]; omega)
  rw [hi3, Nat.zero_add, List.nil_append] at h2
  have f := Lib.hid (fresh2 h3)
  have H1 := Lib.hid h1
  have H2 := Lib.hid h2
  have hv := h.val
  have hadr := h.adr h0
  subst hadr
  subst hv
  clear h h1 h2 h3 hi1 hi2 hi3 hi4
  generalize ents l = X at *
  generalize l.length = n at *
  have q := fun w => Lib.run_eql_slice_nil (P := Tryd.prog) w 60 64 (some ⟨b, o, none⟩) n cap 0 0 Tryd.underlying60
  go_enter Tryd.func38, Tryd.ntmps38
  go_wp2_with (at_builtin; refine Lib.wpList_append_run _ rfl _ _ _ _ rfl _ _ rfl rfl _ _ H1.out ?_)
  go_ret
  exact ⟨_, rfl, H2.out, f.out.1, f.out.2⟩
end Go.Proofs.YtbneedmfpldpfaaDoor
