/- Contracts of find, takes, there. -/
import Derived.Test.YtbneedmfpldpfaaDoorTb
namespace Go.Proofs.YtbneedmfpldpfaaDoor
open Go.RowKit Go.Pth

/-- What stands at a name. -/
def look (l : List Nm) (a : B) : Option Nat := if h : place l a < l.length then (if l[place l a].1 = a then some l[place l a].2 else none) else none
def optr : Option Nat → Value
  | none => .pointer none
  | some n => ptr n
theorem retv {a b : Value} (h : a = b) : Ending.returned a = Ending.returned b := by rw [h]
set_option maxRecDepth 100000 in
set_option maxHeartbeats 4000000 in
theorem find_any (v : Value) (l : List Nm) (at_ : ByteArray) (w : World) (ht : Tr w v l) (hs : Srt l) (hlen : l.length ≤ 1000000) :
    Calls Tryd.prog 27 #[v, .string at_] w fun e w' => e = .returned (optr (look l at_.toList)) ∧ Ext w w' := by
  have HP := Lib.hid (place_any v l at_ w ht hs hlen)
  have hle := place_le l at_.toList
  have HK := Lib.hid (show look l at_.toList = if h : place l at_.toList < l.length then (if l[place l at_.toList].1 = at_.toList then some l[place l at_.toList].2 else none) else none from rfl)
  obtain ⟨ad, cap, b, o, ht⟩ := ht
  generalize hR : look l at_.toList = R at *
  clear hR
  obtain ⟨K, hK⟩ : ∃ K, K = place l at_.toList := ⟨_, rfl⟩
  by_cases hlt : K < l.length
  · rw [← hK] at hle HP
    have hadr := ht.adr (by omega)
    have c1 := Lib.hid (ht.nm K hlt)
    have c2 := Lib.hid (ht.nd K hlt)
    have hv := ht.val
    subst hadr hv
    have HR : Hid (R = if l[K].1 = at_.toList then some l[K].2 else none) := Lib.hid (by rw [HK.out, dif_pos (by omega)]; subst hK; rfl)
    clear HK ht hs
    generalize l[K].1 = p at *
    generalize l[K].2 = n at *
    generalize l.length = L at *
    clear hK
    have i0 : (0 : Int) ≤ (K : Int) := by omega
    have i1 : (K : Int) < (L : Int) := by omega
    have q0 : (K == L) = false := by simp; omega
    have q1 : ((K : Int) == (L : Int)) = false := by simp; omega
    cases hb : (p == at_.toList) with
    | true =>
      have tb : ((tx p).toList == at_.toList) = true := by rw [tx_list]; exact hb
      rw [if_pos (eq_of_beq hb)] at HR
      clear hb
      go_enter Tryd.func27, Tryd.ntmps27
      go_wp2_with (go_at_call 51; refine (HP.out).mono ?_; rintro e w' ⟨rfl, hE⟩; have d1 := hE.cell c1.out; have d2 := hE.cell c2.out)
      go_ret
      exact ⟨retv (by rw [HR.out]; rfl), hE⟩
    | false =>
      have tb : ((tx p).toList == at_.toList) = false := by rw [tx_list]; exact hb
      rw [if_neg (by simpa using hb)] at HR
      clear hb
      go_enter Tryd.func27, Tryd.ntmps27
      go_wp2_with (go_at_call 51; refine (HP.out).mono ?_; rintro e w' ⟨rfl, hE⟩; have d1 := hE.cell c1.out; have d2 := hE.cell c2.out)
      go_ret
      exact ⟨retv (by rw [HR.out]; rfl), hE⟩
  · have hKL : K = l.length := by omega
    have HR : Hid (R = none) := Lib.hid (by rw [HK.out, dif_neg (by omega)])
    have hv := ht.val
    rw [← hK] at HP
    subst hv
    rw [← hKL] at HP ⊢
    clear HK ht hs hlt hle hKL hK hlen
    go_enter Tryd.func27, Tryd.ntmps27
    go_wp2_with (go_at_call 51; refine (HP.out).mono ?_; rintro e w' ⟨rfl, hE⟩)
    go_ret
    exact ⟨retv (by rw [HR.out]; rfl), hE⟩

theorem find_acc (v : Value) (l : List Nm) (at_ : ByteArray) {w0 w : World} (h : Ext w0 w) (ht : Tr w0 v l) (hs : Srt l) (hlen : l.length ≤ 1000000) :
    Calls Tryd.prog 27 #[v, .string at_] w fun e w' => e = .returned (optr (look l at_.toList)) ∧ Ext w0 w' :=
  (find_any v l at_ w (ht.ext h) hs hlen).mono fun _ _ ⟨x, y⟩ => ⟨x, h.trans y⟩
theorem parent_acc (a : ByteArray) {w0 w : World} (h : Ext w0 w) : Calls Tryd.prog 61 #[.string a] w fun e w' => e = .returned (.string (tx (parent a.toList))) ∧ Ext w0 w' :=
  (parent_any a w).mono fun _ _ ⟨x, y⟩ => ⟨x, h.trans y⟩

/-- May a new name stand there? -/
def takes (l : List Nm) (K : Nat → Int) (a : B) : Int :=
  match look l a with
  | some _ => 6
  | none => if parent a = [] then 0 else match look l (parent a) with
    | none => 5
    | some n => if K n = 2 then 0 else 8
theorem look_mem (l : List Nm) (a : B) (n : Nat) (h : look l a = some n) : (a, n) ∈ l := by
  unfold look at h
  split at h
  · rename_i hp
    split at h
    · rename_i he
      injection h with h
      have := List.getElem_mem hp
      have e : l[place l a] = (a, n) := Prod.ext he h
      rw [e] at this; exact this
    · cases h
  · cases h
theorem emp_tx (p : B) : (tx p).toList.isEmpty = decide (p = []) := by rw [tx_list]; cases p <;> rfl
set_option maxRecDepth 100000 in
set_option maxHeartbeats 4000000 in
theorem takes_any (v : Value) (l : List Nm) (K : Nat → Int) (at_ : ByteArray) (w : World) (ht : Tr w v l) (hs : Srt l) (hlen : l.length ≤ 1000000) (hk : ∀ p ∈ l, w.cell? ⟨p.2, 0, none⟩ = some (.int .i64 (K p.2))) :
    Calls Tryd.prog 42 #[v, .string at_] w fun e w' => e = .returned (.int .i64 (takes l K at_.toList)) ∧ Ext w w' := by
  have hE := Ext.refl w
  obtain ⟨up, hup⟩ : ∃ up, up = tx (parent at_.toList) := ⟨_, rfl⟩
  have hup2 : up.toList = parent at_.toList := by rw [hup, tx_list]
  have te : up.toList.isEmpty = decide (parent at_.toList = []) := by rw [hup]; exact emp_tx _
  have HF := Lib.hid (fun (a : ByteArray) (w' : World) (h : Ext w w') => find_acc v l a h ht hs hlen)
  have HP := Lib.hid (fun (w' : World) (h : Ext w w') => parent_acc at_ h)
  rw [← hup] at HP
  have hfe : takes l K at_.toList = match look l at_.toList with
    | some _ => 6
    | none => if parent at_.toList = [] then 0 else match look l up.toList with
      | none => 5
      | some n => if K n = 2 then 0 else 8 := by rw [hup2]; rfl
  cases h1 : look l at_.toList with
  | some n =>
    rw [h1] at hfe
    have FE := Lib.hid hfe
    clear hfe hk ht hs te hup hup2
    go_enter Tryd.func42, Tryd.ntmps42
    go_wp2_with (go_at_call 27; refine (HF.out _ _ hE).mono ?_; rintro e w' ⟨rfl, hE⟩; rw [h1]; simp only [optr, ptr])
    go_ret
    exact ⟨retv (by rw [FE.out] <;> rfl), hE⟩
  | none =>
    rw [h1] at hfe
    by_cases h2 : parent at_.toList = []
    · rw [decide_eq_true h2] at te
      simp only [h2, if_true] at hfe
      have FE := Lib.hid hfe
      clear hfe hk ht hs h2 hup hup2
      go_enter Tryd.func42, Tryd.ntmps42
      go_wp2_with (first | (go_at_call 27; refine (HF.out _ _ hE).mono ?_; rintro e w' ⟨rfl, hE⟩; rw [h1]; simp only [optr]) | (go_at_call 61; refine (HP.out _ hE).mono ?_; rintro e w' ⟨rfl, hE⟩))
      go_ret
      exact ⟨retv (by rw [FE.out] <;> rfl), hE⟩
    · rw [decide_eq_false h2] at te
      simp only [if_neg h2] at hfe
      cases h3 : look l up.toList with
      | none =>
        simp only [h3] at hfe
        have FE := Lib.hid hfe
        clear hfe hk ht hs h2 hup hup2
        go_enter Tryd.func42, Tryd.ntmps42
        go_wp2_with (first | (go_at_call 27; refine (HF.out _ _ hE).mono ?_; rintro e w' ⟨rfl, hE⟩; first | (rw [h1]; simp only [optr]) | (rw [h3]; simp only [optr])) | (go_at_call 61; refine (HP.out _ hE).mono ?_; rintro e w' ⟨rfl, hE⟩))
        go_ret
        exact ⟨retv (by rw [FE.out] <;> rfl), hE⟩
      | some n =>
        simp only [h3] at hfe
        have hc := Lib.hid (hk _ (look_mem _ _ _ h3))
        generalize K n = kk at *
        by_cases h4 : kk = 2
        · subst h4
          rw [if_pos rfl] at hfe
          have FE := Lib.hid hfe
          clear hfe hk ht hs h2 hup hup2
          go_enter Tryd.func42, Tryd.ntmps42
          go_wp2_with (first | (go_at_call 27; refine (HF.out _ _ hE).mono ?_; rintro e w' ⟨rfl, hE⟩; first | (rw [h1]; simp only [optr]) | (rw [h3]; simp only [optr, ptr]; have d1 := hE.cell hc.out)) | (go_at_call 61; refine (HP.out _ hE).mono ?_; rintro e w' ⟨rfl, hE⟩))
          go_ret
          exact ⟨retv (by rw [FE.out] <;> rfl), hE⟩
        · have h5 : (kk == 2) = false := by simpa using h4
          rw [if_neg h4] at hfe
          have FE := Lib.hid hfe
          clear hfe hk ht hs h2 hup hup2 h4
          go_enter Tryd.func42, Tryd.ntmps42
          go_wp2_with (first | (go_at_call 27; refine (HF.out _ _ hE).mono ?_; rintro e w' ⟨rfl, hE⟩; first | (rw [h1]; simp only [optr]) | (rw [h3]; simp only [optr, ptr]; have d1 := hE.cell hc.out)) | (go_at_call 61; refine (HP.out _ hE).mono ?_; rintro e w' ⟨rfl, hE⟩))
          go_ret
          exact ⟨retv (by rw [FE.out] <;> rfl), hE⟩
end Go.Proofs.YtbneedmfpldpfaaDoor
