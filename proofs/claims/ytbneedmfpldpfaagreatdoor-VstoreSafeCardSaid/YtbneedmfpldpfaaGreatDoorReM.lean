/- linnetref5's with, apply, names and Make where nothing stands: that they return, and make memory of their own. The contracts of the document's own Under and Less. The document's own store in memory, whatever it holds. No conditions: definitions and lemmas. Contracts of the document's own store, whatever it holds: find, above, act, stamp. -/
import Derived.Test.YtbneedmfpldpfaaGreatDoorRaM
import Derived.Test.YtbneedmfpldpfaaGreatDoorShM
import Derived.BigQuiet
import Derived.Test.YtbneedmfpldpfaaGreatDoorWaM
namespace Go.Proofs.YtbneedmfpldpfaaGreatDoor
open Go.RowKit Go.Pth
set_option linter.unusedSimpArgs false
set_option linter.unusedVariables false

/-- In a region that draws: one of two comes up. -/
theorem nextR2 {P : Program} {md : Region.Mode} {ops : Array Oper} {Q : Exit → Act → World → Prop} {S : World → Prop} (i j : Nat) {oi oj : Oper} {fuel : Nat} {listed : Array Bool} {a : Act} {w : World} (hi : ops[i]? = some oi) (hj : ops[j]? = some oj)
    (hr : Region.ready md ops listed = [i, j]) (hwi : Region.wanted oi (yielded ops a.tmps) = true) (hwj : Region.wanted oj (yielded ops a.tmps) = true)
    (h1 : oi.wp P a w (fun a' w' => S w' ∧ wpAnyH P md ops Q S fuel (listed.setIfInBounds i true) a' w') Q)
    (h2 : oj.wp P a w (fun a' w' => S w' ∧ wpAnyH P md ops Q S fuel (listed.setIfInBounds j true) a' w') Q) : wpAnyH P md ops Q S (fuel + 1) listed a w := by
  refine wpAnyH_all hr (by simp) fun k hk => ?_
  have hk : k = i ∨ k = j := by simpa using hk
  rcases hk with rfl | rfl
  · refine wpOp_step hi fun K hK => ?_
    rw [if_pos hwi]
    exact Oper.wp_mono (fun a' w' h' => hK a' w' h') h1
  · refine wpOp_step hj fun K hK => ?_
    rw [if_pos hwj]
    exact Oper.wp_mono (fun a' w' h' => hK a' w' h') h2
theorem makeR {P : Program} {op : Oper} {a : Act} {w w1 : World} {K : Act → World → Prop} {Q : Exit → Act → World → Prop} (d : Option Tmp) (hd : op.dst = d) (v : Value)
    (hx : (execOp a.eval op).run P w = .ok (.value v) w1) (h : K (a.put d v) w1) : op.wp P a w K Q := by
  subst hd
  unfold Oper.wp
  rw [hx]
  exact h

theorem appR {P : Program} {w : World} {o : Oper} {a : Act} {K : Act → World → Prop} {Q : Exit → Act → World → Prop} (d : Option Tmp) (hd : o.dst = d) (s x : Operand) (t tn : TypeId)
    (ho : o.op = .call { callee := .builtin .append, args := #[s, x], argTypes := #[t, tn] }) (vs vx : Value) (hs : a.eval s = vs) (hx : a.eval x = vx)
    (v' : Value) (w' : World) (hr : (Builtin.append_ #[t, tn] o.type #[vs, vx]).run P w = .ok v' w') (h : K (a.put d v') w') : o.wp P a w K Q := by
  subst hd
  exact Lib.wp_append_run w s x t tn ho vs vx hs hx v' w' hr h

theorem info113 : (Tryz.prog.info? 111).map (fun i => (i.zero, i.size, i.bytes)) = some (some (.agg #[.string ByteArray.empty, .int .i64 0]), 2, 24) := by kernel_rfl
theorem info100 : (Tryz.prog.info? 109).map (fun i => (i.zero, i.size, i.bytes)) = some (some (.agg #[.int .i64 0, .string ByteArray.empty, .string ByteArray.empty, .int .i64 0]), 4, 48) := by kernel_rfl
theorem info97 : (Tryz.prog.info? 106).map (fun i => (i.zero, i.size, i.bytes)) = some (some (.agg #[.int .i64 0, .int .i64 0, .int .u64 0, .slice none 0 0, .slice none 0 0, .slice none 0 0]), 6, 96) := by kernel_rfl
end Go.Proofs.YtbneedmfpldpfaaGreatDoor

set_option linter.unusedSimpArgs false
set_option linter.unusedVariables false
namespace Go.Proofs.YtbneedmfpldpfaaGreatDoor
open Go.RowKit Go.Pth

theorem prefix_take (s d : B) : (s.take (d.length + 1) == d ++ [47]) = (d ++ [47]).isPrefixOf s := by
  rw [Bool.eq_iff_iff, beq_iff_eq, List.isPrefixOf_iff_prefix, List.prefix_iff_eq_take]
  simp only [List.length_append, List.length_cons, List.length_nil]
  exact eq_comm
theorem prefix_short (s d : B) (h : ¬ d.length < s.length) : (d ++ [47]).isPrefixOf s = false := by
  cases e : (d ++ [47]).isPrefixOf s with
  | false => rfl
  | true =>
    have := (List.isPrefixOf_iff_prefix.1 e).length_le
    simp at this; omega
set_option maxHeartbeats 1000000 in
theorem runder_any (s d : ByteArray) (w : World) : Calls Tryz.prog 71 #[.string s, .string d] w fun e w' => e = .returned (.bool (under s.toList d.toList)) ∧ Ext w w' := by
  have R := Lib.hid (show under s.toList d.toList = (valid s.toList && (d.toList == [] || (valid d.toList && (d.toList ++ [47]).isPrefixOf s.toList))) from rfl)
  have hss := Lib.hid (size_list s)
  have hsd := Lib.hid (size_list d)
  go_enter Tryz.func71, Tryz.ntmps71
  go_wp2_with fail
  refine (rvalid_any s w).mono ?_
  rintro e w1 ⟨rfl, e1⟩
  cases hv : valid s.toList with
  | false =>
    rw [hv] at R
    go_wp2
    go_ret
    exact ⟨retb R.out.symm, e1⟩
  | true =>
    rw [hv] at R
    have hls := valid_len hv
    rw [← hss.out] at hls
    cases hd : d.toList == [] with
    | true =>
      rw [hd] at R
      go_wp2
      go_ret
      exact ⟨retb R.out.symm, e1⟩
    | false =>
      rw [hd] at R
      go_wp2_with fail
      refine (rvalid_any d w1).mono ?_
      rintro e w2 ⟨rfl, e2⟩
      cases hw : valid d.toList with
      | false =>
        rw [hw] at R
        go_wp2
        go_ret
        exact ⟨retb R.out.symm, e1.trans e2⟩
      | true =>
        rw [hw] at R
        have hld := valid_len hw
        rw [← hsd.out] at hld
        by_cases hlt : d.size < s.size
        · have t1 : (d.size : Int) < (s.size : Int) := by omega
          have t2 : (0 : Int) ≤ (d.size : Int) + 1 := by omega
          have t3 : (d.size : Int) + 1 ≤ (s.size : Int) := by omega
          have t4 : ((d.size : Int) + 1).toNat = d.size + 1 := by omega
          have t5 : ¬ (9223372036854775807 < d.size + 1) := by omega
          have E := Lib.hid (show ((s.extract 0 (d.size + 1)).toList == (d ++ ⟨#[47]⟩).toList) = (d.toList ++ [47]).isPrefixOf s.toList by
            rw [tx_cut, tx_app, show (⟨#[47]⟩ : ByteArray).toList = [47] from ByteArray.toList_mk [47], ← prefix_take, hsd.out]
            simp)
          go_wp2
          go_ret
          refine ⟨retb ?_, e1.trans e2⟩
          rw [R.out, ← E.out]; rfl
        · have t1 : decide (d.size < s.size) = false := decide_eq_false hlt
          have t2 : decide ((d.size : Int) < (s.size : Int)) = false := decide_eq_false (by omega)
          have E := Lib.hid (prefix_short s.toList d.toList (by rw [← hss.out, ← hsd.out]; exact hlt))
          rw [E.out] at R
          clear hlt
          go_wp2
          go_ret
          exact ⟨retb R.out.symm, e1.trans e2⟩
def InvLx (x y : List B) (w : World) (i : Value) (wr : World) : Prop := ∃ k : Nat, k ≤ com x y ∧ i = .int .i64 k ∧ Ext w wr
theorem ltP_min (x y : List B) (k : Nat) (h : k ≤ com x y) (hk : k = x.length ∨ k = y.length) : ltP x y = decide (x.length < y.length) := by
  have hc := com_le x y
  have hn : com x y = k := by omega
  have he := ltP_end x y (com x y) rfl
  by_cases h1 : com x y = y.length
  · rw [he.1 h1]
    exact (decide_eq_false (by omega)).symm
  · rw [he.2 h1 (by omega)]
    exact (decide_eq_true (by omega)).symm
set_option maxHeartbeats 4000000 in
theorem rless_any (a b : ByteArray) (w : World) : Calls Tryz.prog 103 #[.string a, .string b] w fun e w' => e = .returned (.bool (less a.toList b.toList)) ∧ Ext w w' := by
  have hsa := Lib.hid (size_list a)
  have hsb := Lib.hid (size_list b)
  go_enter Tryz.func103, Tryz.ntmps103
  go_wp2_with fail
  refine (rvalid_any a w).mono ?_
  rintro e w1 ⟨rfl, e1⟩
  go_wp2_with fail
  refine (rvalid_any b w1).mono ?_
  rintro e w2 ⟨rfl, e2⟩
  have R := Lib.hid (show less a.toList b.toList = if valid a.toList != valid b.toList then valid a.toList else if valid a.toList then ltP (cut a.toList) (cut b.toList) else ltB a.toList b.toList from rfl)
  have q := bytesLess_ltB a.toList b.toList
  have E2 := Lib.hid (e1.trans e2)
  clear e1 e2
  cases ha : valid a.toList with
  | false =>
    rw [ha] at R
    cases hb : valid b.toList with
    | false =>
      rw [hb] at R
      go_wp2_with fail
      refine (rvalid_any a w2).mono ?_
      rintro e w3 ⟨rfl, e3⟩
      rw [ha]
      go_wp2
      go_ret
      exact ⟨retb R.out.symm, E2.out.trans e3⟩
    | true =>
      rw [hb] at R
      go_wp2_with fail
      refine (rvalid_any a w2).mono ?_
      rintro e w3 ⟨rfl, e3⟩
      rw [ha]
      go_wp2
      go_ret
      exact ⟨retb R.out.symm, E2.out.trans e3⟩
  | true =>
    rw [ha] at R
    have la := valid_len ha
    rw [← hsa.out] at la
    cases hb : valid b.toList with
    | false =>
      rw [hb] at R
      go_wp2_with fail
      refine (rvalid_any a w2).mono ?_
      rintro e w3 ⟨rfl, e3⟩
      rw [ha]
      go_wp2
      go_ret
      exact ⟨retb R.out.symm, E2.out.trans e3⟩
    | true =>
      rw [hb] at R
      have lb := valid_len hb
      rw [← hsb.out] at lb
      have RR := Lib.hid (show less a.toList b.toList = ltP (cut a.toList) (cut b.toList) from R.out)
      go_wp2_with fail
      refine (rvalid_any a w2).mono ?_
      rintro e w3 ⟨rfl, e3⟩
      rw [ha]
      go_wp2_with fail
      refine (rparts_any a la w3).mono ?_
      rintro e w4 ⟨va, rfl, ta, e4⟩
      have TA := Lib.hid ta; clear ta
      go_wp2_with fail
      refine (rparts_any b lb w4).mono ?_
      rintro e w5 ⟨vb, rfl, tb, e5⟩
      have TA2 := TA.out.ext e5
      have E5 := Lib.hid (((E2.out.trans e3).trans e4).trans e5)
      have l1 := cut_len a.toList
      have l2 := cut_len b.toList
      rw [← hsa.out] at l1
      rw [← hsb.out] at l2
      clear TA e3 e4 e5 E2 R
      obtain ⟨ada, capa, ba, rfl, xa, xc⟩ := TA2
      obtain ⟨adb, capb, bb, rfl, ya, yc⟩ := tb
      generalize cut a.toList = x at *
      generalize cut b.toList = y at *
      have PM := Lib.hid (ltP_min x y)
      have PA := Lib.hid (ltP_at x y)
      have CS := Lib.hid (com_step x y)
      have cle := Lib.hid (com_le x y)
      obtain ⟨L, hL⟩ : ∃ L, L = x.length := ⟨_, rfl⟩
      obtain ⟨M, hM⟩ : ∃ M, M = y.length := ⟨_, rfl⟩
      have HL := Lib.hid hL; have HM := Lib.hid hM
      rw [← hL] at xa xc l1 PM PA cle ⊢
      rw [← hM] at ya yc l2 PM PA cle ⊢
      have XA := Lib.hid xa; have XC := Lib.hid xc; have YA := Lib.hid ya; have YC := Lib.hid yc
      have l61 : L ≤ 61 := by omega
      have m61 : M ≤ 61 := by omega
      clear xa xc ya yc hL hM l1 l2 la lb q
      go_wp2
      go_loopw [7] (fun i wr => InvLx x y w5 i wr) (fun i _ => L - (intOf i).toNat)
      case atStart => exact ⟨0, by omega, rfl, Ext.refl _⟩
      case round =>
        obtain ⟨k, hk, rfl, he⟩ := hrel
        have Hk := Lib.hid hk
        have hkl : k ≤ L := by have := cle.out; omega
        have hkm : k ≤ M := by have := cle.out; omega
        have HE := Lib.hid he
        clear hk
        by_cases hlt : k < L
        · have t1 : (k : Int) < (L : Int) := by omega
          have i0 : (0 : Int) ≤ (k : Int) := by omega
          by_cases hmt : k < M
          · have t2 : (k : Int) < (M : Int) := by omega
            have e1 := XA.out (by omega)
            subst e1
            have e2 := YA.out (by omega)
            subst e2
            have c1 := he.cell (XC.out k hlt)
            have c2 := he.cell (YC.out k hmt)
            have gx : x[k]? = some (x[k]?.getD []) := by rw [List.getElem?_eq_getElem (by rw [← HL.out]; exact hlt)]; rfl
            have gy : y[k]? = some (y[k]?.getD []) := by rw [List.getElem?_eq_getElem (by rw [← HM.out]; exact hmt)]; rfl
            have GX := Lib.hid gx; have GY := Lib.hid gy
            have q := tx_beq (x[k]?.getD []) (y[k]?.getD [])
            have q2 := Lib.hid (tx_less (x[k]?.getD []) (y[k]?.getD []))
            clear gx gy he
            cases hq : (x[k]?.getD []) == (y[k]?.getD []) with
            | true =>
              have HC := Lib.hid ((CS.out k Hk.out).2 ⟨_, GX.out, by rw [eq_of_beq hq]; exact GY.out⟩)
              rw [hq] at q
              clear hq GX GY PA PM CS
              generalize tx (x[k]?.getD []) = zx at *
              generalize tx (y[k]?.getD []) = zy at *
              go_wp2_with fail
              go_quiet (fail)
              go_wp2
              refine ⟨⟨k + 1, HC.out, rfl, HE.out.trans ?_⟩, by simp [intOf]; omega⟩
              first | exact Ext.refl _ | exact Ext.drew _ | exact Ext.drewN _ _
            | false =>
              have hc : com x y = k := by
                have : ¬ k < com x y := fun h => by
                  obtain ⟨z, h1, h2⟩ := (CS.out k Hk.out).1 h
                  rw [h1, h2] at hq
                  simp at hq
                have := Hk.out
                omega
              have HR := Lib.hid (PA.out k hc.symm (by omega) (by omega))
              rw [hq] at q
              rw [← q2.out] at HR
              clear hq GX GY PA PM CS hc q2
              generalize tx (x[k]?.getD []) = zx at *
              generalize tx (y[k]?.getD []) = zy at *
              go_wp2_with fail
              go_quiet (fail)
              go_wp2_with fail
              go_quiet (fail)
              go_wp2
              go_ret
              refine ⟨retb ?_, (E5.out.trans HE.out).trans ?_⟩
              · rw [RR.out, HR.out]
              · first | exact Ext.refl _ | exact Ext.drew _ | exact Ext.drewN _ _ | exact (Ext.drewN _ _).trans (Ext.drewN _ _) | exact (Ext.drew _).trans (Ext.drew _)
          · have t2 : decide (k < M) = false := decide_eq_false hmt
            have t3 : decide ((k : Int) < (M : Int)) = false := decide_eq_false (by omega)
            have HR := Lib.hid (PM.out k Hk.out (Or.inr (by omega)))
            clear hmt PA PM CS
            go_wp2
            go_ret
            refine ⟨retb ?_, E5.out.trans he⟩
            rw [RR.out, HR.out]
        · have t2 : decide (k < L) = false := decide_eq_false hlt
          have t3 : decide ((k : Int) < (L : Int)) = false := decide_eq_false (by omega)
          have HR := Lib.hid (PM.out k Hk.out (Or.inl (by omega)))
          clear hlt PA PM CS
          go_wp2
          go_ret
          refine ⟨retb ?_, E5.out.trans he⟩
          rw [RR.out, HR.out]
end Go.Proofs.YtbneedmfpldpfaaGreatDoor

set_option linter.unusedSimpArgs false
set_option linter.unusedVariables false
namespace Go.Proofs.YtbneedmfpldpfaaGreatDoor
open Go.RowKit Go.Pth

theorem flat_get {α : Type} (g : α → List Value) (k : Nat) (hk : ∀ x, (g x).length = k) : ∀ (l : List α) (j c : Nat) (x : α), l[j]? = some x → c < k → (l.flatMap g)[j * k + c]? = (g x)[c]?
  | [], j, c, x, h, _ => by simp at h
  | y :: r, 0, c, x, h, hc => by
    simp at h; subst h
    rw [List.flatMap_cons, Nat.zero_mul, Nat.zero_add, List.getElem?_append_left (by rw [hk]; exact hc)]
  | y :: r, j + 1, c, x, h, hc => by
    have := flat_get g k hk r j c x (by simpa using h) hc
    rw [List.flatMap_cons, List.getElem?_append_right (by rw [hk, Nat.add_mul]; omega), hk, ← this]
    congr 1
    rw [Nat.add_mul]; omega
theorem flat_take {α : Type} (g : α → List Value) (k : Nat) (hk : ∀ x, (g x).length = k) : ∀ (l : List α) (j : Nat), (l.flatMap g).take (j * k) = (l.take j).flatMap g
  | [], j => by simp
  | y :: r, 0 => by simp
  | y :: r, j + 1 => by
    have := flat_take g k hk r j
    rw [List.flatMap_cons, List.take_succ_cons, List.flatMap_cons, ← this, List.take_append, List.take_of_length_le (by rw [hk, Nat.add_mul]; omega), hk]
    congr 2
    rw [Nat.add_mul]; omega
theorem flat_drop {α : Type} (g : α → List Value) (k : Nat) (hk : ∀ x, (g x).length = k) : ∀ (l : List α) (j : Nat), (l.flatMap g).drop (j * k) = (l.drop j).flatMap g
  | [], j => by simp
  | y :: r, 0 => by simp
  | y :: r, j + 1 => by
    have := flat_drop g k hk r j
    rw [List.flatMap_cons, List.drop_succ_cons, ← this, List.drop_append, List.drop_of_length_le (by rw [hk, Nat.add_mul]; omega), hk, List.nil_append]
    congr 1
    rw [Nat.add_mul]; omega
/-- A file of the document's store. -/
structure RF where
  kind : Int
  mt : Int
  st : Int
  b : Value
  s : Value
  d : Value
  n : Nat
  m : Nat
def rfc (f : RF) : List Value := [.int .i64 f.kind, .int .i64 f.mt, .int .u64 f.st, f.b, f.s, f.d]
def rfs (l : List RF) : List Value := l.flatMap rfc
def rnc (p : Nm) : List Value := [.string (tx p.1), .int .i64 p.2]
def rns (l : List Nm) : List Value := l.flatMap rnc
theorem rfc_len (f : RF) : (rfc f).length = 6 := rfl
theorem rnc_len (p : Nm) : (rnc p).length = 2 := rfl
theorem rns_one (l : List Nm) : ∀ u ∈ rns l, u.oneCell' = true := by
  intro u hu
  obtain ⟨p, _, hp⟩ := List.mem_flatMap.1 hu
  simp only [rnc, List.mem_cons, List.not_mem_nil, or_false] at hp
  rcases hp with rfl | rfl <;> rfl
structure RFIn (w : World) (F : Nat → Prop) (f : RF) : Prop where
  b : ∃ l : List Int, l.length = f.n ∧ Row w 5 1 f.b f.n (bts l)
  s : ∃ l : List Int, l.length = f.n ∧ Row w 5 1 f.s f.n (bts l)
  d : ∃ l : List Bool, l.length = f.m ∧ Row w 4 1 f.d f.m (bls l)
  nm : secs f.n ≤ f.m
  nl : f.n ≤ 65536
  ml : f.m ≤ 5000
  fb : ∀ i, f.b.ownBlock = some i → F i
  fs : ∀ i, f.s.ownBlock = some i → F i
  fd : ∀ i, f.d.ownBlock = some i → F i
theorem RFIn.keep {w w' : World} {F : Nat → Prop} {f : RF} (h : RFIn w F f) (hb : ∀ i, F i → w'.heap[i]? = w.heap[i]?) : RFIn w' F f := by
  obtain ⟨⟨l1, a1, r1⟩, ⟨l2, a2, r2⟩, ⟨l3, a3, r3⟩, c1, c2, c3, c4, c5, c6⟩ := h
  exact ⟨⟨l1, a1, r1.keep fun i hi => hb i (c4 i hi)⟩, ⟨l2, a2, r2.keep fun i hi => hb i (c5 i hi)⟩, ⟨l3, a3, r3.keep fun i hi => hb i (c6 i hi)⟩, c1, c2, c3, c4, c5, c6⟩
theorem RFIn.mono {w : World} {F G : Nat → Prop} {f : RF} (h : RFIn w F f) (hf : ∀ i, F i → G i) : RFIn w G f :=
  ⟨h.b, h.s, h.d, h.nm, h.nl, h.ml, fun i hi => hf i (h.fb i hi), fun i hi => hf i (h.fs i hi), fun i hi => hf i (h.fd i hi)⟩
theorem row_slice {w : World} {e : TypeId} {k : Nat} {v : Value} {n : Nat} {xs : List Value} (h : Row w e k v n xs) : v.oneCell' = true := by
  obtain ⟨ad, cap, rfl, _⟩ := h.shape
  rfl
theorem rfs_one {w : World} {F : Nat → Prop} {l : List RF} (h : ∀ f ∈ l, RFIn w F f) : ∀ u ∈ rfs l, u.oneCell' = true := by
  intro u hu
  obtain ⟨p, hm, hp⟩ := List.mem_flatMap.1 hu
  have hf := h p hm
  obtain ⟨_, _, r1⟩ := hf.b
  obtain ⟨_, _, r2⟩ := hf.s
  obtain ⟨_, _, r3⟩ := hf.d
  simp only [rfc, List.mem_cons, List.not_mem_nil, or_false] at hp
  rcases hp with rfl | rfl | rfl | rfl | rfl | rfl
  · rfl
  · rfl
  · rfl
  · exact row_slice r1
  · exact row_slice r2
  · exact row_slice r3
structure RV where
  last : Int
  fs : Value
  nw : Value
  sf : Value
  ac : Value
  asked : Int
  files : List RF
  names : List Nm
  acts : Nat
  av : List Value
def rsc (R : RV) : Array Value := #[.int .i64 1048576, .int .u64 R.last, R.fs, R.nw, R.sf, R.ac, .int .i64 (-1), .bool false, .int .i64 R.asked]
/-- The document's store in memory: it lies in the block g, its rows lie in F; nothing is more than k. -/
structure RRep (w : World) (g : Nat) (R : RV) (F : Nat → Prop) (k : Nat) : Prop where
  cell : At w g (rsc R) 62
  fr : Row w 106 6 R.fs R.files.length (rfs R.files)
  nr : Row w 111 2 R.nw R.names.length (rns R.names)
  ar : Row w 109 4 R.ac R.acts R.av
  a1 : ∀ u ∈ R.av, u.oneCell' = true
  s1 : R.sf.oneCell' = true
  ff : ∀ f ∈ R.files, RFIn w F f
  rn : ∀ p ∈ R.names, p.2 < R.files.length
  rv : ∀ p ∈ R.names, valid p.1 = true
  gf : ∀ i, R.fs.ownBlock = some i → F i
  gn : ∀ i, R.nw.ownBlock = some i → F i
  ga : ∀ i, R.ac.ownBlock = some i → F i
  lt : ∀ i, F i → i < w.heap.size
  ng : ¬ F g
  lf : R.files.length ≤ k
  ln : R.names.length ≤ k
  la : R.acts ≤ k
  lc : 0 ≤ R.last ∧ R.last ≤ k
  lk : 0 ≤ R.asked ∧ R.asked ≤ k
theorem RRep.keep {w w' : World} {g : Nat} {R : RV} {F : Nat → Prop} {k : Nat} (h : RRep w g R F k) (hg : w'.heap[g]? = w.heap[g]?) (hb : ∀ i, F i → w'.heap[i]? = w.heap[i]?) (hs : w.heap.size ≤ w'.heap.size) : RRep w' g R F k :=
  ⟨h.cell.keep hg, h.fr.keep fun i hi => hb i (h.gf i hi), h.nr.keep fun i hi => hb i (h.gn i hi), h.ar.keep fun i hi => hb i (h.ga i hi), h.a1, h.s1, fun f hf => (h.ff f hf).keep hb, h.rn, h.rv, h.gf, h.gn, h.ga, fun i hi => Nat.lt_of_lt_of_le (h.lt i hi) hs, h.ng, h.lf, h.ln, h.la, h.lc, h.lk⟩
theorem RRep.ext {w w' : World} {g : Nat} {R : RV} {F : Nat → Prop} {k : Nat} (h : RRep w g R F k) (e : Ext w w') : RRep w' g R F k :=
  h.keep (e.block g h.cell.lt) (fun i hi => e.block i (h.lt i hi)) e.size
theorem RRep.up {w : World} {g : Nat} {R : RV} {F : Nat → Prop} {k k' : Nat} (h : RRep w g R F k) (hk : k ≤ k') : RRep w g R F k' :=
  ⟨h.cell, h.fr, h.nr, h.ar, h.a1, h.s1, h.ff, h.rn, h.rv, h.gf, h.gn, h.ga, h.lt, h.ng, Nat.le_trans h.lf hk, Nat.le_trans h.ln hk, Nat.le_trans h.la hk, ⟨h.lc.1, by have := h.lc.2; omega⟩, ⟨h.lk.1, by have := h.lk.2; omega⟩⟩
/-- What lies apart from the store's own block stays. -/
theorem RRep.apart {w w' : World} {g : Nat} {R : RV} {F : Nat → Prop} {k : Nat} (h : RRep w g R F k) (c : Chg (fun i => i = g) w w') : ∀ i, F i → w'.heap[i]? = w.heap[i]? :=
  fun i hi => c.block i (h.lt i hi) fun e => h.ng (e ▸ hi)
/-- What a call of the document's store leaves. -/
def RPost (w : World) (g : Nat) (F : Nat → Prop) (k : Nat) (w' : World) : Prop := ∃ R' F', RRep w' g R' F' k ∧ Chg (fun i => i = g) w w' ∧ ∀ i, F' i → F i ∨ w.heap.size ≤ i
theorem RPost.of {w w' : World} {g : Nat} {R : RV} {F : Nat → Prop} {k : Nat} (h : RRep w' g R F k) (c : Chg (fun i => i = g) w w') : RPost w g F k w' := ⟨R, F, h, c, fun _ h => Or.inl h⟩
theorem RPost.trans {w w1 w2 : World} {g : Nat} {F : Nat → Prop} {k : Nat} (c : Chg (fun i => i = g) w w1) (h : RPost w1 g F k w2) : RPost w g F k w2 := by
  obtain ⟨R, G, r, c2, l⟩ := h
  exact ⟨R, G, r, c.trans c2 (fun _ _ h => h), fun i hi => (l i hi).imp id fun q => Nat.le_trans c.size q⟩
theorem RPost.ext {w w' w2 : World} {g : Nat} {F : Nat → Prop} {k : Nat} (h : RPost w g F k w') (e : Ext w' w2) : RPost w g F k w2 := by
  obtain ⟨R, G, r, c2, l⟩ := h
  exact ⟨R, G, r.ext e, c2.trans (Chg.of_ext e) (fun _ _ h => h), l⟩
/-- New numbers of the store. -/
theorem RRep.nums {w : World} {g : Nat} {R : RV} {F : Nat → Prop} {k : Nat} (h : RRep w g R F k) (j : Nat) (v : Value) (c a : Int) (hj : (rsc R).setIfInBounds j v = rsc { R with last := c, asked := a }) (hc : 0 ≤ c ∧ c ≤ k) (ha : 0 ≤ a ∧ a ≤ k) : RRep (w.setCell ⟨g, j, none⟩ v) g { R with last := c, asked := a } F k := by
  have sc := Chg.setCell w g j v
  have hb := h.apart sc
  refine ⟨?_, h.fr.keep fun i hi => hb i (h.gf i hi), h.nr.keep fun i hi => hb i (h.gn i hi), h.ar.keep fun i hi => hb i (h.ga i hi), h.a1, h.s1, fun f hf => (h.ff f hf).keep hb, h.rn, h.rv, h.gf, h.gn, h.ga, fun i hi => by rw [size_setCell]; exact h.lt i hi, h.ng, h.lf, h.ln, h.la, hc, ha⟩
  rw [← hj]
  exact h.cell.set j v
theorem RRep.c {w : World} {g : Nat} {R : RV} {F : Nat → Prop} {k : Nat} (h : RRep w g R F k) (j : Nat) : w.cell? ⟨g, j, none⟩ = (rsc R)[j]? := h.cell.cell j
theorem RRep.fz {w : World} {g : Nat} {R : RV} {F : Nat → Prop} {k : Nat} (h : RRep w g R F k) (j : Nat) : w.frozen? ⟨g, j, none⟩ = false := h.cell.frozen j
/-- A copy of a row, with more behind it: of its own. -/
theorem row_copy {t e : TypeId} (ty : TypeId) {k : Nat} {z : Value} {bytes : Nat} (ht : Tryz.prog.underlying t = some (.slice e)) (hinf : (Tryz.prog.info? e).map (fun i => (i.zero, i.size, i.bytes)) = some (some z, k, bytes)) (hzs : z.cells.size = k) {w : World} {v0 v : Value} {n0 n : Nat} {xs0 xs : List Value} (h0 : Row w e k v0 n0 xs0) (h : Src Tryz.prog k t v n xs w) (hn : n0 + n ≤ 1000000) (hb : bytes ≤ 1000) :
    ∃ v' w', (Builtin.append_ #[t, t] ty #[v0, v]).run Tryz.prog w = .ok v' w' ∧ Row w' e k v' (n0 + n) (xs0 ++ xs) ∧ Grew w w' v0 v' := by
  obtain ⟨i, hi1, hi2, hi3, hi4⟩ := info_of hinf
  have := run_append_row (P := Tryz.prog) w t t ty e i z ht hi1 hi2 (by rw [hi3]; exact hzs) v0 n0 xs0 (by rw [hi3]; exact h0) v n xs (by rw [hi3]; exact h) (by simp only [maxLen]; omega) (by rw [hi4]; have : (n0 + n) * bytes ≤ 1000000 * 1000 := Nat.mul_le_mul hn hb; omega)
  rw [hi3] at this
  exact this
/-- What grew out of a row that is new is new. -/
theorem Grew.fresh {w0 w w' : World} {v v' : Value} (g : Grew w w' v v') (e : Ext w0 w) (h : ∀ i, v.ownBlock = some i → w0.heap.size ≤ i) : Ext w0 w' ∧ ∀ i, v'.ownBlock = some i → w0.heap.size ≤ i := by
  refine ⟨?_, fun i hi => ?_⟩
  · have := (Chg.of_ext (X := fun _ => False) e).trans g.chg (fun i hi q => by have := h i q; omega)
    exact this.ext
  · rcases g.own with q | ⟨j, q1, q2⟩
    · rw [q] at hi; exact h i hi
    · rw [q1] at hi; injection hi with hi; have := e.size; omega
/-- A front of a row, and its back, to be read. -/
theorem row_front {w : World} {e : TypeId} {k : Nat} {ad : Option Addr} {n cap : Nat} {xs : List Value} (h : Row w e k (.slice ad n cap) n xs) (h1 : ∀ u ∈ xs, u.oneCell' = true) {tx e' : TypeId} (hk : Tryz.prog.underlying tx = some (.slice e')) (j c : Nat) (hj : j ≤ n) : Src Tryz.prog k tx (.slice ad j c) j (xs.take (j * k)) w := by
  rcases h.2 with ⟨h2, rfl⟩ | ⟨g, cap', cur, h2, _, _⟩
  · injection h2 with h2 _ _
    subst h2
    obtain rfl : j = 0 := by omega
    simp only [Nat.zero_mul, List.take_zero]
    exact Src.ofNil w hk c
  · injection h2 with h2 _ _
    subst h2
    refine Src.ofSlice w hk ⟨g, 0, none⟩ j c _ (by rw [List.length_take, h.1, Nat.min_eq_left (Nat.mul_le_mul_right _ hj)]) (fun q u hu => ?_) (fun u hu => h1 u (List.mem_of_mem_take hu))
    have hq : q < j * k := by
      have := (List.getElem?_eq_some_iff.1 hu).1
      rw [List.length_take] at this; omega
    rw [List.getElem?_take_of_lt hq] at hu
    exact World.ownsRow.cells h rfl q u hu
theorem row_back {w : World} {e : TypeId} {k : Nat} {g n cap : Nat} {xs : List Value} (h : Row w e k (.slice (some ⟨g, 0, none⟩) n cap) n xs) (h1 : ∀ u ∈ xs, u.oneCell' = true) {tx e' : TypeId} (hk : Tryz.prog.underlying tx = some (.slice e')) (j c : Nat) (hj : j ≤ n) : Src Tryz.prog k tx (.slice (some ⟨g, j * k, none⟩) (n - j) c) (n - j) (xs.drop (j * k)) w := by
  refine Src.ofSlice w hk ⟨g, j * k, none⟩ (n - j) c _ (by rw [List.length_drop, h.1, Nat.sub_mul]) (fun q u hu => ?_) (fun u hu => h1 u (List.mem_of_mem_drop hu))
  rw [List.getElem?_drop] at hu
  have := World.ownsRow.cells h rfl (j * k + q) u hu
  rw [Addr.add_lit, Nat.zero_add] at this
  rw [Addr.add_lit]
  exact this
end Go.Proofs.YtbneedmfpldpfaaGreatDoor

set_option linter.unusedSimpArgs false
set_option linter.unusedVariables false
namespace Go.Proofs.YtbneedmfpldpfaaGreatDoor
open Go.RowKit Go.Pth

/-- The document's names in memory, to be read. -/
structure RNs (w : World) (v : Value) (l : List Nm) (ad : Option Addr) (cap b o : Nat) : Prop where
  val : v = .slice ad l.length cap
  adr : 0 < l.length → ad = some ⟨b, o, none⟩
  nm : ∀ j (h : j < l.length), w.cell? ⟨b, o + j * 2, none⟩ = some (.string (tx l[j].1))
  nf : ∀ j (h : j < l.length), w.cell? ⟨b, o + j * 2 + 1, none⟩ = some (.int .i64 l[j].2)
theorem RNs.of_row {w : World} {v : Value} {l : List Nm} (h : Row w 111 2 v l.length (rns l)) : ∃ ad cap b o, RNs w v l ad cap b o := by
  obtain ⟨_, ⟨rfl, h0⟩ | ⟨g, cap, cur, rfl, _, hg, hn, _, _, hx⟩⟩ := h
  · have : l = [] := List.length_eq_zero_iff.1 h0
    subst this
    exact ⟨none, 0, 0, 0, rfl, fun h => by simp at h, fun j hj => by simp at hj, fun j hj => by simp at hj⟩
  · have hat : At w g cur 111 := hg
    have key : ∀ q, q < l.length * 2 → w.cell? ⟨g, q, none⟩ = (rns l)[q]? := fun q hq => by
      rw [hat.cell, ← hx, List.getElem?_take_of_lt hq, Array.getElem?_toList]
    refine ⟨_, cap, g, 0, rfl, fun _ => rfl, fun j hj => ?_, fun j hj => ?_⟩
    · rw [Nat.zero_add, key _ (by omega)]
      have := flat_get rnc 2 rnc_len l j 0 l[j] (List.getElem?_eq_getElem hj) (by omega)
      rw [Nat.add_zero] at this
      exact this
    · rw [Nat.zero_add, key _ (by omega)]
      exact flat_get rnc 2 rnc_len l j 1 l[j] (List.getElem?_eq_getElem hj) (by omega)
theorem RNs.ext {w w' : World} {v : Value} {l : List Nm} {ad : Option Addr} {cap b o : Nat} (h : RNs w v l ad cap b o) (he : Ext w w') : RNs w' v l ad cap b o :=
  ⟨h.val, h.adr, fun j hj => he.cell (h.nm j hj), fun j hj => he.cell (h.nf j hj)⟩
/-- The document's files in memory, to be read. -/
structure RFs (w : World) (v : Value) (l : List RF) (ad : Option Addr) (cap b o : Nat) : Prop where
  val : v = .slice ad l.length cap
  adr : 0 < l.length → ad = some ⟨b, o, none⟩
  cl : ∀ j (h : j < l.length) c, c < 6 → w.cell? ⟨b, o + j * 6 + c, none⟩ = (rfc l[j])[c]?
theorem RFs.of_row {w : World} {v : Value} {l : List RF} (h : Row w 106 6 v l.length (rfs l)) : ∃ ad cap b o, RFs w v l ad cap b o := by
  obtain ⟨_, ⟨rfl, h0⟩ | ⟨g, cap, cur, rfl, _, hg, hn, _, _, hx⟩⟩ := h
  · have : l = [] := List.length_eq_zero_iff.1 h0
    subst this
    exact ⟨none, 0, 0, 0, rfl, fun h => by simp at h, fun j hj => by simp at hj⟩
  · have hat : At w g cur 106 := hg
    have key : ∀ q, q < l.length * 6 → w.cell? ⟨g, q, none⟩ = (rfs l)[q]? := fun q hq => by
      rw [hat.cell, ← hx, List.getElem?_take_of_lt hq, Array.getElem?_toList]
    refine ⟨_, cap, g, 0, rfl, fun _ => rfl, fun j hj c hc => ?_⟩
    rw [Nat.zero_add, key _ (by omega)]
    exact flat_get rfc 6 rfc_len l j c l[j] (List.getElem?_eq_getElem hj) hc
theorem RFs.ext {w w' : World} {v : Value} {l : List RF} {ad : Option Addr} {cap b o : Nat} (h : RFs w v l ad cap b o) (he : Ext w w') : RFs w' v l ad cap b o :=
  ⟨h.val, h.adr, fun j hj c hc => by
    have h1 := h.cl j hj c hc
    obtain ⟨x, hx⟩ : ∃ x, (rfc l[j])[c]? = some x := ⟨_, List.getElem?_eq_getElem (by rw [rfc_len l[j]]; exact hc)⟩
    rw [hx] at h1 ⊢
    exact he.cell h1⟩
theorem RFs.k0 {w : World} {v : Value} {l : List RF} {ad : Option Addr} {cap b o : Nat} (h : RFs w v l ad cap b o) (j : Nat) (hj : j < l.length) : w.cell? ⟨b, o + j * 6, none⟩ = some (.int .i64 l[j].kind) := by
  have := h.cl j hj 0 (by omega)
  rw [Nat.add_zero] at this
  exact this

def InvFi (n : Nat) (w : World) (s5 : Value) (wr : World) : Prop := ∃ j : Nat, j ≤ n ∧ s5 = .int .i64 j ∧ w = wr
set_option maxRecDepth 100000 in
set_option maxHeartbeats 4000000 in
theorem rfind_any (l : List Nm) (v : Value) (ad : Option Addr) (cap b o : Nat) (p : ByteArray) (w : World) (h : RNs w v l ad cap b o) (hl : l.length ≤ 100000) :
    Calls Tryz.prog 62 #[v, .string p] w fun e w' => ∃ r : Int, e = .returned (.int .i64 r) ∧ w = w' ∧ (r = -1 ∨ ∃ j : Nat, r = j ∧ j < l.length) := by
  obtain ⟨rfl, hadr, hnm, -⟩ := h
  have CM : Hid (∀ j, j < l.length → ∃ z, w.cell? ⟨b, o + j * 2, none⟩ = some (.string z)) := Lib.hid fun j hj => ⟨_, hnm j hj⟩
  have HA := Lib.hid hadr
  clear hnm hadr
  generalize l.length = n at *
  go_enter Tryz.func62, Tryz.ntmps62
  go_wp2
  go_loopw [5] (fun s5 wr => InvFi n w s5 wr) (fun s5 _ => n - (intOf s5).toNat)
  case atStart => exact ⟨0, by omega, rfl, rfl⟩
  case round =>
    obtain ⟨j, hj, rfl, rfl⟩ := hrel
    by_cases hlt : j < n
    · have i0 : (0 : Int) ≤ (j : Int) := by omega
      have i1 : (j : Int) < (n : Int) := by omega
      obtain ⟨z, c⟩ := CM.out j hlt
      have ha := HA.out (by omega)
      subst ha
      cases hq : z.toList == p.toList with
      | true =>
        go_wp2
        go_ret
        exact ⟨_, rfl, rfl, Or.inr ⟨j, rfl, hlt⟩⟩
      | false =>
        go_wp2
        exact ⟨⟨j + 1, by omega, rfl, rfl⟩, by simp [intOf]; omega⟩
    · obtain rfl : j = n := by omega
      clear hlt
      go_wp2
      go_ret
      exact ⟨_, rfl, rfl, Or.inl rfl⟩

set_option maxRecDepth 100000 in
set_option maxHeartbeats 4000000 in
theorem rabove_any (g : Nat) (R : RV) (F : Nat → Prop) (k : Nat) (p : ByteArray) (w : World) (h : RRep w g R F k) (hk : k ≤ 1000) :
    Calls Tryz.prog 63 #[ptr g, .string p] w fun e w' => (∃ n : Int, e = .returned (.int .i64 n)) ∧ Ext w w' := by
  have PA := Lib.hid (rparent_any p w)
  obtain ⟨ad, cap, b, o, hn⟩ := RNs.of_row h.nr
  obtain ⟨fd, fcap, fb, fo, hf⟩ := RFs.of_row h.fr
  have hln := h.ln
  have hlf := h.lf
  have FI := Lib.hid (fun (u : ByteArray) w' (e : Ext w w') => rfind_any R.names R.nw ad cap b o u w' (hn.ext e) (by omega))
  have C2 := Lib.hid (fun w' (e : Ext w w') => e.cell (show w.cell? ⟨g, 2, none⟩ = some R.fs from h.c 2))
  have C3 := Lib.hid (fun w' (e : Ext w w') => e.cell (show w.cell? ⟨g, 3, none⟩ = some R.nw from h.c 3))
  have CF := Lib.hid (fun w' (e : Ext w w') j (hj : j < R.names.length) => (⟨e.cell (hn.nf j hj), h.rn _ (List.getElem_mem hj)⟩ : _ ∧ _))
  have CK := Lib.hid (fun w' (e : Ext w w') j (hj : j < R.files.length) => e.cell (hf.k0 j hj))
  have hv := hn.val
  have hw := hf.val
  have had := hn.adr
  have hfa := hf.adr
  have CF2 : Hid (∀ w', Ext w w' → ∀ j, j < R.names.length → ∃ q : Nat, w'.cell? ⟨b, o + j * 2 + 1, none⟩ = some (.int .i64 q) ∧ q < R.files.length) := Lib.hid fun w' e j hj => ⟨_, CF.out w' e j hj⟩
  have CK2 : Hid (∀ w', Ext w w' → ∀ j, j < R.files.length → ∃ q : Int, w'.cell? ⟨fb, fo + j * 6, none⟩ = some (.int .i64 q)) := Lib.hid fun w' e j hj => ⟨_, CK.out w' e j hj⟩
  clear CF CK
  rw [hv] at C3 FI
  rw [hw] at C2
  clear hv hw hn hf h
  have HAD := Lib.hid had
  have HFA := Lib.hid hfa
  clear had hfa
  generalize R.names.length = n at *
  generalize R.files.length = m at *
  unfold ptr
  go_enter Tryz.func63, Tryz.ntmps63
  go_wp2_with fail
  refine (PA.out).mono ?_
  rintro e w1 ⟨rfl, e1⟩
  clear PA
  generalize tx (parent p.toList) = u at *
  cases hu : u.toList.isEmpty with
  | true =>
    go_wp2
    go_ret
    exact ⟨⟨_, rfl⟩, e1⟩
  | false =>
    have c3 := C3.out w1 e1
    go_wp2_with fail
    refine (FI.out u w1 e1).mono ?_
    rintro e w' ⟨r, rfl, rfl, hr⟩
    rcases hr with rfl | ⟨j, rfl, hj⟩
    · go_wp2
      go_ret
      exact ⟨⟨_, rfl⟩, e1⟩
    · have i0 : (0 : Int) ≤ (j : Int) := by omega
      have i1 : (j : Int) < (n : Int) := by omega
      have i2 : ¬ ((j : Int) < 0) := by omega
      have c2 := C2.out w1 e1
      obtain ⟨q, cq, hq⟩ := CF2.out w1 e1 j hj
      obtain ⟨kd, ck⟩ := CK2.out w1 e1 q hq
      have a1 := HAD.out (by omega)
      have a2 := HFA.out (by omega)
      subst a1 a2
      have j0 : (0 : Int) ≤ (q : Int) := by omega
      have j1 : (q : Int) < (m : Int) := by omega
      have E1 := Lib.hid e1
      clear e1
      cases hkd : kd != 2 with
      | true =>
        go_wp2_with fail
        go_quiet (fail)
        go_wp2
        go_ret
        refine ⟨⟨_, rfl⟩, E1.out.trans ?_⟩
        first | exact Ext.refl _ | exact Ext.drew _ | exact Ext.drewN _ _
      | false =>
        go_wp2_with fail
        go_quiet (fail)
        go_wp2
        go_ret
        refine ⟨⟨_, rfl⟩, E1.out.trans ?_⟩
        first | exact Ext.refl _ | exact Ext.drew _ | exact Ext.drewN _ _

set_option maxRecDepth 100000 in
set_option maxHeartbeats 4000000 in
theorem rstamp_all (g : Nat) (R : RV) (F : Nat → Prop) (k : Nat) (w : World) (h : RRep w g R F k) (hk : k ≤ 1000) :
    Calls Tryz.prog 64 #[ptr g] w fun e w' => e = .returned (.int .u64 (R.last + 1)) ∧ RRep w' g { R with last := R.last + 1 } F (k + 1) ∧ Chg (fun i => i = g) w w' := by
  have c1 := h.c 1
  have z1 := h.fz 1
  have hc := h.lc
  have hw : IntKind.u64.wrap (R.last + 1) = R.last + 1 := by rw [IntKind.wrap_u64]; omega
  have a2 := (h.cell.set 1 (.int .u64 (R.last + 1))).cell 1
  have FN := Lib.hid (And.intro ((h.up (Nat.le_succ k)).nums 1 (.int .u64 (R.last + 1)) (R.last + 1) R.asked rfl (by omega) (by have := h.lk; omega)) (Chg.setCell w g 1 (.int .u64 (R.last + 1))))
  unfold rsc at c1 a2
  clear h
  unfold ptr
  go_enter Tryz.func64, Tryz.ntmps64
  go_wp2
  go_ret
  exact ⟨rfl, FN.out⟩

def InvRd (w : World) (ps : List B) (s5 : Value) (wr : World) : Prop := ∃ j : Nat, j ≤ ps.length ∧ s5 = .int .i64 j ∧ (∀ i, i < j → valid (ps[i]?.getD []) = true) ∧ Ext w wr
set_option maxRecDepth 100000 in
set_option maxHeartbeats 4000000 in
theorem ract_any (g : Nat) (R : RV) (F : Nat → Prop) (k : Nat) (v : Value) (ps : List B) (w : World) (h : RRep w g R F k) (hk : k ≤ 1000) (ht : Txt w v ps) (hps : ps.length ≤ 2) (hb : ∀ ad n c, v = .slice (some ad) n c → ¬ ad.block = g) :
    Calls Tryz.prog 61 #[ptr g, v] w fun e w' => ∃ n : Int, e = .returned (.int .i64 n) ∧ (n = 0 → ∀ p ∈ ps, valid p = true) ∧ RRep w' g { R with asked := R.asked + 1 } F (k + 1) ∧ Chg (fun i => i = g) w w' := by
  obtain ⟨ad, cap, tb, rfl, hta, htc⟩ := ht
  have c8 := h.c 8
  have z8 := h.fz 8
  have ho := h.lk
  have hw : IntKind.i64.wrap (R.asked + 1) = R.asked + 1 := by rw [IntKind.wrap_i64]; omega
  have a2 := h.cell.set 8 (.int .i64 (R.asked + 1))
  have d6 := a2.cell 6
  have d7 := a2.cell 7
  have FN := And.intro ((h.up (Nat.le_succ k)).nums 8 (.int .i64 (R.asked + 1)) R.last (R.asked + 1) rfl (by have := h.lc; omega) (by omega)) (Chg.setCell w g 8 (.int .i64 (R.asked + 1)))
  unfold rsc at c8 d6 d7
  have sc := Chg.setCell w g 8 (.int .i64 (R.asked + 1))
  obtain ⟨W, hW⟩ : ∃ W, W = w.setCell ⟨g, 8, none⟩ (.int .i64 (R.asked + 1)) := ⟨_, rfl⟩
  rw [← hW] at a2 d6 d7 FN sc
  have tcell : Hid (∀ j, j < ps.length → W.cell? ⟨tb, j, none⟩ = some (.string (tx (ps[j]?.getD [])))) := Lib.hid (fun j hj => sc.cell (htc j hj) (hb ⟨tb, 0, none⟩ _ _ (by rw [hta (by omega)])))
  have HW := Lib.hid hW.symm
  have FN := Lib.hid FN
  have HTA := Lib.hid hta
  have VA := Lib.hid (fun (q : B) W' (he : Ext W W') => ((rvalid_any (tx q) W').mono fun _ _ (h : _ ∧ _) => (⟨h.1, he.trans h.2⟩ : _ ∧ _)))
  simp only [tx_list] at VA
  have HP : Hid (∀ p ∈ ps, ∃ i : Nat, i < ps.length ∧ p = ps[i]?.getD []) := Lib.hid (fun p hp => by
    obtain ⟨i, hi, rfl⟩ := List.mem_iff_getElem.1 hp
    exact ⟨i, hi, by rw [List.getElem?_eq_getElem hi]; rfl⟩)
  clear h a2 hW sc hta htc hb
  obtain ⟨n, hn⟩ : ∃ n, n = ps.length := ⟨_, rfl⟩
  rw [← hn] at tcell HTA hps HP ⊢
  have HN := Lib.hid hn
  clear hn
  unfold ptr
  go_enter Tryz.func61, Tryz.ntmps61
  go_upto_region 2 with fail
  rw [HW.out]
  go_wp2
  go_loopw [5] (fun s5 wr => InvRd W ps s5 wr) (fun s5 _ => n - (intOf s5).toNat)
  case atStart => exact ⟨0, by omega, rfl, fun i hi => by omega, Ext.refl _⟩
  case round =>
    obtain ⟨j, hj, rfl, hall, he⟩ := hrel
    rw [← HN.out] at hj
    have HALL := Lib.hid hall
    have HE := Lib.hid he
    clear hall
    by_cases hlt : j < n
    · have i0 : (0 : Int) ≤ (j : Int) := by omega
      have i1 : (j : Int) < (n : Int) := by omega
      have ct := he.cell (tcell.out j hlt)
      have ha := HTA.out (by omega)
      subst ha
      clear he
      cases hv : valid (ps[j]?.getD []) with
      | true =>
        have HV := Lib.hid hv
        have VB := Lib.hid (VA.out (ps[j]?.getD []) _ HE.out)
        rw [hv] at VB
        clear hv
        generalize hz : tx (ps[j]?.getD []) = z at *
        clear hz
        go_wp2_with fail
        refine (VB.out).mono ?_
        rintro e w1 ⟨rfl, e1⟩
        go_wp2
        refine ⟨⟨j + 1, by rw [← HN.out]; omega, rfl, fun i hi => ?_, e1⟩, by simp [intOf]; omega⟩
        by_cases e : i = j
        · subst e; exact HV.out
        · exact HALL.out i (by omega)
      | false =>
        have VB := Lib.hid (VA.out (ps[j]?.getD []) _ HE.out)
        rw [hv] at VB
        clear hv
        generalize hz : tx (ps[j]?.getD []) = z at *
        clear hz
        go_wp2_with fail
        refine (VB.out).mono ?_
        rintro e w1 ⟨rfl, e1⟩
        go_wp2
        go_ret
        exact ⟨_, rfl, fun h => by simp at h, FN.out.1.ext e1, FN.out.2.trans (Chg.of_ext e1) (fun _ _ h => h)⟩
    · obtain rfl : j = n := by omega
      clear hlt he
      go_wp2
      go_ret
      refine ⟨_, rfl, fun _ p hp => ?_, FN.out.1.ext HE.out, FN.out.2.trans (Chg.of_ext HE.out) (fun _ _ h => h)⟩
      obtain ⟨i, hi, rfl⟩ := HP.out p hp
      exact HALL.out i hi
end Go.Proofs.YtbneedmfpldpfaaGreatDoor
