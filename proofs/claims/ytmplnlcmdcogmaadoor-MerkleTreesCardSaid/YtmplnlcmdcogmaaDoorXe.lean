/- The walk of the law MerkleTrees. -/
import Derived.Test.YtmplnlcmdcogmaaDoorXb
import Derived.Test.YtmplnlcmdcogmaaDoorXd
import Derived.Test.YtmplnlcmdcogmaaDoorWn
namespace Go.Proofs.YtmplnlcmdcogmaaDoor
open Go.RowKit Go.Sha
set_option linter.unusedSimpArgs false

theorem srcs_below {w w' : World} {v : Value} {ps : List (Value × List Int)} (h : Srcs w v ps) (hb : Ext w w') : Srcs w' v ps := by
  obtain ⟨ad, cap, pb, po, h1, h2, h3⟩ := h
  refine ⟨ad, cap, pb, po, h1, h2, fun j x hx => ?_⟩
  obtain ⟨hc, hs⟩ := h3 j x hx
  exact ⟨by rw [Below.cell (p := ⟨pb, po + j, none⟩) hb (World.block_lt_of_cell? w _ hc)]; exact hc, hs.of_below hb hb.size⟩
theorem tot_mem (ps : List (Value × List Int)) (x : Value × List Int) (hx : x ∈ ps) : x.2.length + 1 ≤ tot ps := by
  induction ps with
  | nil => simp at hx
  | cons y r ih =>
    have e : tot (y :: r) = y.2.length + 1 + tot r := by simp [tot]
    rcases List.mem_cons.1 hx with rfl | hx
    · omega
    · have := ih hx; omega
theorem tot_len (ps : List (Value × List Int)) : ps.length ≤ tot ps := by have := flat_tot ps; omega

/-- What Prove tells, and its error. -/
def pfT (ls : List (List Int)) (k : Int) : List (List Int) := if 0 ≤ k ∧ k < ls.length then proveL ls k.toNat else []
def erT (ls : List (List Int)) (k : Int) : Int := if 0 ≤ k ∧ k < ls.length then 0 else 1
theorem prove_T (v : Value) (ls : List (List Int)) (k : Int) (w : World) (hK : KAt w) (hs : LR w v ls w.heap.size) (hl : ls.length ≤ 1000000) (hb : ∀ m ∈ ls, m.length ≤ 1900) : Calls Tryd.prog 22 #[v, .int .i64 k] w (PPost w (pfT ls k) (erT ls k)) := by
  unfold pfT erT
  by_cases h : 0 ≤ k ∧ k < ls.length
  · rw [if_pos h, if_pos h]
    obtain ⟨q, rfl⟩ := Int.eq_ofNat_of_zero_le h.1
    exact prove_some v ls q w hK hs (by omega) hl (fun m hm => Nat.le_trans (hb m hm) (by omega))
  · rw [if_neg h, if_neg h]
    exact prove_none v ls k w hs (by omega)
theorem rprove_T (v : Value) (ls : List (List Int)) (k : Int) (w : World) (hs : LR w v ls w.heap.size) (hl : ls.length ≤ 1000000) (hb : ∀ m ∈ ls, m.length ≤ 1900) : Calls Tryd.prog 23 #[v, .int .i64 k] w (PPost w (pfT ls k) (erT ls k)) := by
  unfold pfT erT
  by_cases h : 0 ≤ k ∧ k < ls.length
  · rw [if_pos h, if_pos h]
    obtain ⟨q, rfl⟩ := Int.eq_ofNat_of_zero_le h.1
    exact rprove_some v ls q w hs (by omega) hl hb
  · rw [if_neg h, if_neg h]
    exact rprove_none v ls k w hs (by omega)
theorem proveL_bd : ∀ (n : Nat) (ls : List (List Int)) (k : Nat), ls.length ≤ n → (proveL ls k).length ≤ n
  | n, ls, k, h => by
    by_cases h1 : ls.length ≤ 1
    · rw [proveL_small ls k h1]; simp
    · rw [proveL_great ls k h1]
      have hu := upL_length ls
      obtain ⟨n', rfl⟩ : ∃ n', n = n' + 1 := ⟨n - 1, by omega⟩
      have ih := proveL_bd n' (upL ls) (k / 2) (by omega)
      split <;> simp <;> omega
theorem pfT_bd (ls : List (List Int)) (k : Int) : (pfT ls k).length ≤ ls.length := by
  unfold pfT
  split
  · exact proveL_bd _ ls _ (Nat.le_refl _)
  · simp
theorem diffL_bd (a b : List (List Int)) (n : Nat) : (diffL a b n).length ≤ n := by
  unfold diffL
  rw [List.length_map]
  exact Nat.le_trans (List.length_filter_le _ _) (by simp)
/-- Whether a proof holds, for whatever numbers. -/
def verT (root leaf : List Int) (k n : Int) (pf : List (List Int)) : Bool := if 0 ≤ k ∧ k < n then verL root leaf k.toNat n.toNat pf else false
theorem verify_T (vr vl vp : Value) (root leaf : List Int) (pf : List (List Int)) (k n : Int) (w : World) (hK : KAt w) (hr : Src w vr root w.heap.size) (hl : Src w vl leaf w.heap.size) (hp : LR w vp pf w.heap.size) (hn : n < 9223372036854775808) (hll : leaf.length ≤ 1900) (hpl : pf.length ≤ 1000000) (hb : ∀ m ∈ pf, m.length ≤ 1900) :
    Calls Tryd.prog 27 #[vr, vl, .int .i64 k, .int .i64 n, vp] w fun e w' => e = .returned (.bool (verT root leaf k n pf)) ∧ Ext w w' := by
  unfold verT
  by_cases h : 0 ≤ k ∧ k < n
  · rw [if_pos h]
    obtain ⟨q, rfl⟩ := Int.eq_ofNat_of_zero_le h.1
    obtain ⟨N, rfl⟩ := Int.eq_ofNat_of_zero_le (show 0 ≤ n by omega)
    exact verify_some vr vl vp root leaf pf q N w hK hr hl hp (by omega) (by omega) hll hpl hb
  · rw [if_neg h]
    exact verify_none vr vl vp k n w (by omega)
theorem rverify_T (vr vl vp : Value) (root leaf : List Int) (pf : List (List Int)) (k n : Int) (w : World) (hr : Src w vr root w.heap.size) (hl : Src w vl leaf w.heap.size) (hp : LR w vp pf w.heap.size) (hn : n < 9223372036854775808) (hll : leaf.length ≤ 1900) (hpl : pf.length ≤ 1000000) (hb : ∀ m ∈ pf, m.length ≤ 1900) :
    Calls Tryd.prog 28 #[vr, vl, .int .i64 k, .int .i64 n, vp] w fun e w' => e = .returned (.bool (verT root leaf k n pf)) ∧ Ext w w' := by
  unfold verT
  by_cases h : 0 ≤ k ∧ k < n
  · rw [if_pos h]
    obtain ⟨q, rfl⟩ := Int.eq_ofNat_of_zero_le h.1
    obtain ⟨N, rfl⟩ := Int.eq_ofNat_of_zero_le (show 0 ≤ n by omega)
    exact rverify_some vr vl vp root leaf pf q N w hr hl hp (by omega) (by omega) hll hpl hb
  · rw [if_neg h]
    exact rverify_none vr vl vp k n w (by omega)
/-- A list of slices that came in, of some thousand bytes. -/
structure Arg (w : World) (v : Value) (ps : List (Value × List Int)) : Prop where
  s : Srcs w v ps
  l : ps.length ≤ 9223372036854775807
  b : ∀ x ∈ ps, x.2.length ≤ 9223372036854775807
theorem Arg.ext {w w' : World} {v : Value} {ps : List (Value × List Int)} (h : Arg w v ps) (he : Ext w w') : Arg w' v ps := ⟨srcs_below h.s he, h.l, h.b⟩
theorem Arg.lr {w : World} {v : Value} {ps : List (Value × List Int)} (h : Arg w v ps) : LR w v (ps.map (·.2)) w.heap.size := LR.of_srcs h.s
theorem Arg.bytes {w : World} {v : Value} {ps : List (Value × List Int)} (h : Arg w v ps) : Calls Tryd.prog 21 #[v, .int .i64 1000] w (BytesPost w ps) := abytes_any v ps w h.s h.l h.b
theorem tot_bd (ps : List (Value × List Int)) (h : tot ps ≤ 1000) : ∀ m ∈ ps.map (·.2), m.length ≤ 1900 := by
  intro m hm
  obtain ⟨x, hx, rfl⟩ := List.mem_map.1 hm
  have := tot_mem ps x hx
  omega

set_option maxHeartbeats 8000000 in
set_option maxRecDepth 100000 in
theorem trees_any (va vb vp vr : Value) (qa qb qp : List (Value × List Int)) (root : List Int) (k n : Int) (w : World) (hK : KAt w) (aA : Arg w va qa) (aB : Arg w vb qb) (aP : Arg w vp qp) (hr : Src w vr root w.heap.size) (hn : n < 9223372036854775808) :
    Calls Tryd.prog 4 #[va, vb, .int .i64 k, .int .i64 n, vr, vp] w fun e w' => e = .returned (.bool true) ∧ Below w.heap.size w w' := by
  obtain ⟨ada, capa, eva⟩ := aA.lr.len
  obtain ⟨adb, capb, evb⟩ := aB.lr.len
  obtain ⟨adp, capp, evp⟩ := aP.lr.len
  obtain ⟨adr, capr, evr⟩ := hr.len
  subst eva evb evp evr
  obtain ⟨a, ha⟩ : ∃ a, a = qa.map (·.2) := ⟨_, rfl⟩
  obtain ⟨b, hb⟩ : ∃ b, b = qb.map (·.2) := ⟨_, rfl⟩
  obtain ⟨pf, hp⟩ : ∃ pf, pf = qp.map (·.2) := ⟨_, rfl⟩
  have hal : a.length = qa.length := by rw [ha, List.length_map]
  have hbl : b.length = qb.length := by rw [hb, List.length_map]
  have hpl : pf.length = qp.length := by rw [hp, List.length_map]
  rw [← ha] at aA ⊢
  rw [← hb] at aB ⊢
  rw [← hp] at aP ⊢
  have Ha := Lib.hid ha; clear ha
  have Hb := Lib.hid hb; clear hb
  have Hp := Lib.hid hp; clear hp
  have Hal := Lib.hid hal; clear hal
  have Hbl := Lib.hid hbl; clear hbl
  have Hpl := Lib.hid hpl; clear hpl
  go_enter Tryd.func4, Tryd.ntmps4
  go_wp2_with fail
  refine aA.bytes.mono ?_
  rintro e w1 ⟨n1, hn1, rfl, x1⟩
  have k1 := hK.below x1 hK.lt
  rcases hn1 with ⟨hT1, hn1⟩ | ⟨hT1, hn1⟩
  case inr =>
    have d1 : decide ((1000 : Int) < n1) = true := by simpa using hn1
    go_wp2_with fail
    refine (awake_any w1 k1).mono ?_
    rintro e w2 ⟨rfl, b2⟩
    go_wp2
    go_ret
    exact ⟨rfl, Ext.trans x1 b2⟩
  have d1 : decide ((1000 : Int) < n1) = false := by simp; omega
  have f1 : ¬ ((1000 : Int) < n1) := by omega
  clear hn1
  go_wp2_with fail
  refine (aB.ext x1).bytes.mono ?_
  rintro e w2 ⟨n2, hn2, rfl, x2⟩
  replace x2 := Ext.trans x1 x2
  have k2 := hK.below x2 hK.lt
  rcases hn2 with ⟨hT2, hn2⟩ | ⟨hT2, hn2⟩
  case inr =>
    have d2 : decide ((1000 : Int) < n2) = true := by simpa using hn2
    go_wp2_with fail
    refine (awake_any w2 k2).mono ?_
    rintro e w3 ⟨rfl, b2⟩
    go_wp2
    go_ret
    exact ⟨rfl, Ext.trans x2 b2⟩
  have d2 : decide ((1000 : Int) < n2) = false := by simp; omega
  have f2 : ¬ ((1000 : Int) < n2) := by omega
  clear hn2 x1 k1
  go_wp2_with fail
  refine (aP.ext x2).bytes.mono ?_
  rintro e w3 ⟨n3, hn3, rfl, x3⟩
  replace x3 := Ext.trans x2 x3
  have k3 := hK.below x3 hK.lt
  rcases hn3 with ⟨hT3, hn3⟩ | ⟨hT3, hn3⟩
  case inr =>
    have d3 : decide ((1000 : Int) < n3) = true := by simpa using hn3
    go_wp2_with fail
    refine (awake_any w3 k3).mono ?_
    rintro e w4 ⟨rfl, b2⟩
    go_wp2
    go_ret
    exact ⟨rfl, Ext.trans x3 b2⟩
  have d3 : decide ((1000 : Int) < n3) = false := by simp; omega
  have f3 : ¬ ((1000 : Int) < n3) := by omega
  clear hn3 x2 k2
  by_cases hr1 : 100 < root.length
  · have d4 : decide ((100 : Int) < (root.length : Int)) = true := by simp; omega
    go_wp2_with fail
    refine (awake_any w3 k3).mono ?_
    rintro e w4 ⟨rfl, b2⟩
    go_wp2
    go_ret
    exact ⟨rfl, Ext.trans x3 b2⟩
  have d4 : decide ((100 : Int) < (root.length : Int)) = false := by simp; omega
  have f4 : ¬ ((100 : Int) < (root.length : Int)) := by omega
  by_cases ha1 : 60 < a.length
  · have d5 : decide ((60 : Int) < (a.length : Int)) = true := by simp; omega
    go_wp2_with fail
    refine (awake_any w3 k3).mono ?_
    rintro e w4 ⟨rfl, b2⟩
    go_wp2
    go_ret
    exact ⟨rfl, Ext.trans x3 b2⟩
  · have d5 : decide ((60 : Int) < (a.length : Int)) = false := by simp; omega
    have f5 : ¬ ((60 : Int) < (a.length : Int)) := by omega
    have hbA := tot_bd qa hT1
    have hbP := tot_bd qp hT3
    rw [← Ha.out] at hbA
    rw [← Hp.out] at hbP
    have hbl : b.length ≤ 1000 := by have := tot_len qb; rw [Hbl.out]; omega
    have hpl : pf.length ≤ 1000 := by have := tot_len qp; rw [Hpl.out]; omega
    have lA := (aA.ext x3).lr
    have lB := (aB.ext x3).lr
    have lP := (aP.ext x3).lr
    rw [← Ha.out] at lA
    rw [← Hb.out] at lB
    rw [← Hp.out] at lP
    have sR := hr.now x3
    have k0 := k3
    have x0 : Ext w w3 := x3
    have HbA := Lib.hid hbA; clear hbA
    have HbP := Lib.hid hbP; clear hbP
    have HpL := Lib.hid (pfT_bd a k)
    have HdL := Lib.hid (diffL_bd a b (max a.length b.length))
    clear aA aB aP hr hT1 hT2 hT3 k3 x3 Ha Hb Hp Hal Hbl Hpl hK
    go_wp2_with fail
    refine (prove_T _ a k w3 k0 lA (by omega) HbA.out).mono ?_
    rintro e w4 ⟨vp1, rfl, x2, pP⟩
    replace k0 := k0.below x2 k0.lt
    replace lA := lA.now x2
    replace lB := lB.now x2
    replace lP := lP.now x2
    replace sR := sR.now x2
    replace x0 := x0.trans x2
    clear x2
    go_wp2_with fail
    refine (rprove_T _ a k w4 lA (by omega) HbA.out).mono ?_
    rintro e w5 ⟨vq1, rfl, x2, pQ⟩
    replace k0 := k0.below x2 k0.lt
    replace lA := lA.now x2
    replace lB := lB.now x2
    replace lP := lP.now x2
    replace sR := sR.now x2
    replace pP := pP.now x2
    replace x0 := x0.trans x2
    clear x2
    go_wp2
    refine wp_region_held (S := Ext w5.drew) (by kernel_rfl) ?_
    change wpAnyH _ _ _ _ _ _ _ _ w5.drew
    have xd : Ext w5 w5.drew := Below.drew (Below.refl _ _)
    replace k0 := k0.below xd k0.lt
    replace lA := lA.now xd
    replace lB := lB.now xd
    replace lP := lP.now xd
    replace sR := sR.now xd
    replace pP := pP.now xd
    replace pQ := pQ.now xd
    replace x0 := x0.trans xd
    clear xd
    generalize w5.drew = W0 at *
    refine takeH 0 (some 53) (Value.slice ada a.length capa) rfl rfl (by kernel_rfl) (by kernel_rfl) (by kernel_rfl) (fun _ _ _ h => h) rfl (fun w' hw' => by go_simp) ?_
    simp only [Act.put, List.setIfInBounds_toArray, List.set_cons_zero, List.set_cons_succ]
    refine takeH 3 (some 56) (Value.slice ada a.length capa) rfl rfl (by kernel_rfl) (by kernel_rfl) (by kernel_rfl) (fun _ _ _ h => h) rfl (fun w' hw' => by go_simp) ?_
    simp only [Act.put, List.setIfInBounds_toArray, List.set_cons_zero, List.set_cons_succ]
    refine nextH 1 rfl (by kernel_rfl) rfl (callH (some 54) rfl 17 #[Value.slice ada a.length capa] (by go_simp) (fun v w' => OwnB w' W0.heap.size v (rootL a)) (root_any _ a W0 k0 lA (by omega) (fun x hx => Nat.le_trans (HbA.out x hx) (by omega))) ?_)
    rintro v3 W1 x2 o3
    simp only [Act.put, List.setIfInBounds_toArray, List.set_cons_zero, List.set_cons_succ]
    replace k0 := k0.below x2 k0.lt
    replace lA := lA.now x2
    replace lB := lB.now x2
    replace lP := lP.now x2
    replace sR := sR.now x2
    replace pP := pP.now x2
    replace pQ := pQ.now x2
    replace x0 := x0.trans x2
    clear x2
    have s3 := o3.srcs W1.heap.size (Or.inr (Nat.le_refl _))
    clear o3
    refine takeH 2 (some 55) (.string (strOfNums (rootL a))) rfl rfl (by kernel_rfl) (by kernel_rfl) (by kernel_rfl) (fun _ _ _ h => h) rfl (fun w' hw' => by have cc := conv22 (s3.ext hw'); go_simp) ?_
    simp only [Act.put, List.setIfInBounds_toArray, List.set_cons_zero, List.set_cons_succ]
    clear s3
    refine nextH 4 rfl (by kernel_rfl) rfl (callH (some 57) rfl 18 #[Value.slice ada a.length capa] (by go_simp) (fun v w' => Src w' v (rootL a) w'.heap.size) (rroot_any _ a W1 lA (by omega) (fun x hx => Nat.le_trans (HbA.out x hx) (by omega))) ?_)
    rintro v4 W2 x2 s4
    simp only [Act.put, List.setIfInBounds_toArray, List.set_cons_zero, List.set_cons_succ]
    replace k0 := k0.below x2 k0.lt
    replace lA := lA.now x2
    replace lB := lB.now x2
    replace lP := lP.now x2
    replace sR := sR.now x2
    replace pP := pP.now x2
    replace pQ := pQ.now x2
    replace x0 := x0.trans x2
    clear x2
    refine takeH 5 (some 58) (.string (strOfNums (rootL a))) rfl rfl (by kernel_rfl) (by kernel_rfl) (by kernel_rfl) (fun _ _ _ h => h) rfl (fun w' hw' => by have cc := conv22 (s4.ext hw'); go_simp) ?_
    simp only [Act.put, List.setIfInBounds_toArray, List.set_cons_zero, List.set_cons_succ]
    clear s4
    refine takeH 6 (some 59) (.bool false) rfl rfl (by kernel_rfl) (by kernel_rfl) (by kernel_rfl) (fun _ _ _ h => h) rfl (fun w' hw' => by go_simp) ?_
    simp only [Act.put, List.setIfInBounds_toArray, List.set_cons_zero, List.set_cons_succ]
    refine takeH 7 (some 60) (.bool false) rfl rfl (by kernel_rfl) (by kernel_rfl) (by kernel_rfl) (fun _ _ _ h => h) rfl (fun w' hw' => by go_simp) ?_
    simp only [Act.put, List.setIfInBounds_toArray, List.set_cons_zero, List.set_cons_succ]
    refine takeH 8 (some 61) (vp1) rfl rfl (by kernel_rfl) (by kernel_rfl) (by kernel_rfl) (fun _ _ _ h => h) rfl (fun w' hw' => by go_simp) ?_
    simp only [Act.put, List.setIfInBounds_toArray, List.set_cons_zero, List.set_cons_succ]
    refine takeH 9 (some 62) (vq1) rfl rfl (by kernel_rfl) (by kernel_rfl) (by kernel_rfl) (fun _ _ _ h => h) rfl (fun w' hw' => by go_simp) ?_
    simp only [Act.put, List.setIfInBounds_toArray, List.set_cons_zero, List.set_cons_succ]
    refine nextH 10 rfl (by kernel_rfl) rfl (callH (some 63) rfl 12 #[vp1, vq1] (by go_simp) (fun v w' => v = .bool true) ((lists_any _ _ (pfT a k) W2 pP pQ (by have := HpL.out; omega)).mono fun _ _ he => by obtain ⟨rfl, he⟩ := he; exact ⟨_, rfl, he, rfl⟩) ?_)
    rintro v W3 x2 rfl
    simp only [Act.put, List.setIfInBounds_toArray, List.set_cons_zero, List.set_cons_succ]
    replace k0 := k0.below x2 k0.lt
    replace lA := lA.now x2
    replace lB := lB.now x2
    replace lP := lP.now x2
    replace sR := sR.now x2
    replace pP := pP.now x2
    replace pQ := pQ.now x2
    replace x0 := x0.trans x2
    clear x2
    refine takeH 11 (some 64) (.bool false) rfl rfl (by kernel_rfl) (by kernel_rfl) (by kernel_rfl) (fun _ _ _ h => h) rfl (fun w' hw' => by go_simp) ?_
    simp only [Act.put, List.setIfInBounds_toArray, List.set_cons_zero, List.set_cons_succ]
    refine takeH 12 (some 65) (.bool false) rfl rfl (by kernel_rfl) (by kernel_rfl) (by kernel_rfl) (fun _ _ _ h => h) rfl (fun w' hw' => by go_simp) ?_
    simp only [Act.put, List.setIfInBounds_toArray, List.set_cons_zero, List.set_cons_succ]
    refine takeH 13 (some 66) (.bool false) rfl rfl (by kernel_rfl) (by kernel_rfl) (by kernel_rfl) (fun _ _ _ h => h) rfl (fun w' hw' => by go_simp) ?_
    simp only [Act.put, List.setIfInBounds_toArray, List.set_cons_zero, List.set_cons_succ]
    refine takeH 14 (some 67) (.int .i64 (erT a k)) rfl rfl (by kernel_rfl) (by kernel_rfl) (by kernel_rfl) (fun _ _ _ h => h) rfl (fun w' hw' => by go_simp) ?_
    simp only [Act.put, List.setIfInBounds_toArray, List.set_cons_zero, List.set_cons_succ]
    refine takeH 15 (some 68) (.int .i64 (erT a k)) rfl rfl (by kernel_rfl) (by kernel_rfl) (by kernel_rfl) (fun _ _ _ h => h) rfl (fun w' hw' => by go_simp) ?_
    simp only [Act.put, List.setIfInBounds_toArray, List.set_cons_zero, List.set_cons_succ]
    refine takeH 16 (some 69) (.bool false) rfl rfl (by kernel_rfl) (by kernel_rfl) (by kernel_rfl) (fun _ _ _ h => h) rfl (fun w' hw' => by go_simp) ?_
    simp only [Act.put, List.setIfInBounds_toArray, List.set_cons_zero, List.set_cons_succ]
    refine takeH 17 (some 70) (.bool false) rfl rfl (by kernel_rfl) (by kernel_rfl) (by kernel_rfl) (fun _ _ _ h => h) rfl (fun w' hw' => by go_simp) ?_
    simp only [Act.put, List.setIfInBounds_toArray, List.set_cons_zero, List.set_cons_succ]
    refine takeH 18 (some 71) (.bool false) rfl rfl (by kernel_rfl) (by kernel_rfl) (by kernel_rfl) (fun _ _ _ h => h) rfl (fun w' hw' => by go_simp) ?_
    simp only [Act.put, List.setIfInBounds_toArray, List.set_cons_zero, List.set_cons_succ]
    refine takeH 19 (some 72) (Value.slice ada a.length capa) rfl rfl (by kernel_rfl) (by kernel_rfl) (by kernel_rfl) (fun _ _ _ h => h) rfl (fun w' hw' => by go_simp) ?_
    simp only [Act.put, List.setIfInBounds_toArray, List.set_cons_zero, List.set_cons_succ]
    refine takeH 20 (some 73) (Value.slice adb b.length capb) rfl rfl (by kernel_rfl) (by kernel_rfl) (by kernel_rfl) (fun _ _ _ h => h) rfl (fun w' hw' => by go_simp) ?_
    simp only [Act.put, List.setIfInBounds_toArray, List.set_cons_zero, List.set_cons_succ]
    refine takeH 22 (some 75) (Value.slice ada a.length capa) rfl rfl (by kernel_rfl) (by kernel_rfl) (by kernel_rfl) (fun _ _ _ h => h) rfl (fun w' hw' => by go_simp) ?_
    simp only [Act.put, List.setIfInBounds_toArray, List.set_cons_zero, List.set_cons_succ]
    refine takeH 23 (some 76) (Value.slice adb b.length capb) rfl rfl (by kernel_rfl) (by kernel_rfl) (by kernel_rfl) (fun _ _ _ h => h) rfl (fun w' hw' => by go_simp) ?_
    simp only [Act.put, List.setIfInBounds_toArray, List.set_cons_zero, List.set_cons_succ]
    refine nextH 21 rfl (by kernel_rfl) rfl (callH (some 74) rfl 25 #[Value.slice ada a.length capa, Value.slice adb b.length capb] (by go_simp) (fun v w' => IR w' v (diffL a b (max a.length b.length))) (differ_any _ _ a b W3 lA lB (by omega) (by omega)) ?_)
    rintro vd W4 x2 dD
    simp only [Act.put, List.setIfInBounds_toArray, List.set_cons_zero, List.set_cons_succ]
    replace k0 := k0.below x2 k0.lt
    replace lA := lA.now x2
    replace lB := lB.now x2
    replace lP := lP.now x2
    replace sR := sR.now x2
    replace pP := pP.now x2
    replace pQ := pQ.now x2
    replace x0 := x0.trans x2
    clear x2
    refine nextH 24 rfl (by kernel_rfl) rfl (callH (some 77) rfl 26 #[Value.slice ada a.length capa, Value.slice adb b.length capb] (by go_simp) (fun v w' => IR w' v (diffL a b (max a.length b.length))) (rdiffer_any _ _ a b W4 lA lB (by omega) (by omega)) ?_)
    rintro ve W5 x2 dE
    simp only [Act.put, List.setIfInBounds_toArray, List.set_cons_zero, List.set_cons_succ]
    replace k0 := k0.below x2 k0.lt
    replace lA := lA.now x2
    replace lB := lB.now x2
    replace lP := lP.now x2
    replace sR := sR.now x2
    replace pP := pP.now x2
    replace pQ := pQ.now x2
    replace x0 := x0.trans x2
    replace dD := ir_ext dD x2
    clear x2
    refine nextH 25 rfl (by kernel_rfl) rfl (callH (some 78) rfl 24 #[vd, ve] (by go_simp) (fun v w' => v = .bool true) ((ints_any _ _ _ W5 dD dE (by have := HdL.out; omega)).mono fun _ _ he => by obtain ⟨rfl, he⟩ := he; exact ⟨_, rfl, he, rfl⟩) ?_)
    rintro v W6 x2 rfl
    simp only [Act.put, List.setIfInBounds_toArray, List.set_cons_zero, List.set_cons_succ]
    replace k0 := k0.below x2 k0.lt
    replace lA := lA.now x2
    replace lB := lB.now x2
    replace lP := lP.now x2
    replace sR := sR.now x2
    replace pP := pP.now x2
    replace pQ := pQ.now x2
    replace x0 := x0.trans x2
    clear x2
    refine takeH 26 (some 79) (.bool false) rfl rfl (by kernel_rfl) (by kernel_rfl) (by kernel_rfl) (fun _ _ _ h => h) rfl (fun w' hw' => by go_simp) ?_
    simp only [Act.put, List.setIfInBounds_toArray, List.set_cons_zero, List.set_cons_succ]
    refine takeH 27 (some 80) (.bool false) rfl rfl (by kernel_rfl) (by kernel_rfl) (by kernel_rfl) (fun _ _ _ h => h) rfl (fun w' hw' => by go_simp) ?_
    simp only [Act.put, List.setIfInBounds_toArray, List.set_cons_zero, List.set_cons_succ]
    refine wpAnyH_done (by kernel_rfl) ?_ _
    clear pP pQ dD dE
    generalize W6 = u0 at *
    go_wp2_with fail
    refine (verify_T _ _ _ root root pf k n u0 k0 sR sR lP hn (by omega) (by omega) HbP.out).mono ?_
    rintro e u1 ⟨rfl, y1⟩
    replace k0 := k0.below y1 k0.lt
    replace lA := lA.now y1
    replace lP := lP.now y1
    replace sR := sR.now y1
    replace x0 := x0.trans y1
    obtain ⟨R1, hR1⟩ : ∃ R1, R1 = verT root root k n pf := ⟨_, rfl⟩
    rw [← hR1]
    have HR1 := Lib.hid hR1
    clear y1 hR1
    go_wp2_with fail
    refine (rverify_T _ _ _ root root pf k n u1 sR sR lP hn (by omega) (by omega) HbP.out).mono ?_
    rintro e u2 ⟨rfl, y1⟩
    rw [← HR1.out]
    replace k0 := k0.below y1 k0.lt
    replace lA := lA.now y1
    replace lP := lP.now y1
    replace sR := sR.now y1
    replace x0 := x0.trans y1
    have tR : (R1 == R1) = true := by simp
    clear y1
    go_wp2_with fail
    refine (rroot_any _ a u2 lA (by omega) (fun x hx => Nat.le_trans (HbA.out x hx) (by omega))).mono ?_
    rintro e u3 ⟨v5, rfl, y1, s5⟩
    replace k0 := k0.below y1 k0.lt
    replace lA := lA.now y1
    replace lP := lP.now y1
    replace sR := sR.now y1
    replace x0 := x0.trans y1
    clear y1
    go_wp2_with fail
    refine (verify_T _ _ _ (rootL a) root pf k a.length u3 k0 s5 sR lP (by omega) (by omega) (by omega) HbP.out).mono ?_
    rintro e u4 ⟨rfl, y1⟩
    replace k0 := k0.below y1 k0.lt
    replace lA := lA.now y1
    replace lP := lP.now y1
    replace sR := sR.now y1
    replace x0 := x0.trans y1
    obtain ⟨R2, hR2⟩ : ∃ R2, R2 = verT (rootL a) root k a.length pf := ⟨_, rfl⟩
    rw [← hR2]
    have HR2 := Lib.hid hR2
    clear y1 hR2 s5
    go_wp2_with fail
    refine (rroot_any _ a u4 lA (by omega) (fun x hx => Nat.le_trans (HbA.out x hx) (by omega))).mono ?_
    rintro e u5 ⟨v6, rfl, y1, s6⟩
    replace k0 := k0.below y1 k0.lt
    replace lA := lA.now y1
    replace lP := lP.now y1
    replace sR := sR.now y1
    replace x0 := x0.trans y1
    clear y1
    go_wp2_with fail
    refine (rverify_T _ _ _ (rootL a) root pf k a.length u5 s6 sR lP (by omega) (by omega) (by omega) HbP.out).mono ?_
    rintro e u6 ⟨rfl, y1⟩
    rw [← HR2.out]
    replace k0 := k0.below y1 k0.lt
    replace x0 := x0.trans y1
    have tR2 : (R2 == R2) = true := by simp
    clear y1 lA lP sR s6
    go_wp2_with fail
    refine (awake_any u6 k0).mono ?_
    rintro e u7 ⟨rfl, y1⟩
    replace x0 := x0.trans y1
    go_wp2
    go_ret
    exact ⟨rfl, x0⟩
end Go.Proofs.YtmplnlcmdcogmaaDoor
