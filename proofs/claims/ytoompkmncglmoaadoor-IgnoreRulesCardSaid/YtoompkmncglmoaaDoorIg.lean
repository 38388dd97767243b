/- The contracts of ruleOf, mayBe and matches; what is used in regions that draw. -/
import Derived.Test.YtoompkmncglmoaaDoorIe
import Derived.Test.YtoompkmncglmoaaDoorWc
import Derived.Deep.CutRange
namespace Go.Proofs.YtoompkmncglmoaaDoor
open Go.RowKit Go.Pth

section
variable {P : Program} {ops : Array Oper} {Q : Exit → Act → World → Prop} {md : Region.Mode} {S : World → Prop}
/-- In a region that draws: an operation that yields the same in all worlds of S is taken first. -/
theorem takeS (i : Nat) (d : Option Tmp) (v : Value) {oi : Oper} {fuel : Nat} {listed : Array Bool} {a : Act} {w : World} (hi : ops[i]? = some oi) (hd : oi.dst = d)
    (hs : Region.noSelect ops = true) (hf : Region.free md ops listed i = true) (hr : (Region.ready md ops listed).contains i = true)
    (hQ : ∀ c a w, Q (.panic c) (a.put d v) w → Q (.panic c) a w) (hw : Region.wanted oi (yielded ops a.tmps) = true) (hS : S w) (hy : ∀ w', S w' → (execOp a.eval oi).run P w' = .ok (.value v) w')
    (h : wpAnyH P md ops Q S fuel (listed.setIfInBounds i true) (a.put d v) w) : wpAnyH P md ops Q S (fuel + 1) listed a w := by
  subst hd
  exact wpAnyH_take hi hs hf hr hQ (Or.inl ⟨hw, hy⟩) hS h
/-- Just one may come up. -/
theorem nextS (i : Nat) {oi : Oper} {fuel : Nat} {listed : Array Bool} {a : Act} {w : World} (hi : ops[i]? = some oi)
    (hr : Region.ready md ops listed = [i]) (hw : Region.wanted oi (yielded ops a.tmps) = true)
    (h : oi.wp P a w (fun a' w' => S w' ∧ wpAnyH P md ops Q S fuel (listed.setIfInBounds i true) a' w') Q) : wpAnyH P md ops Q S (fuel + 1) listed a w := by
  refine wpAnyH_all hr (by simp) fun j hj => ?_
  have hj : j = i := by simpa using hj
  subst hj
  refine wpOp_step hi fun K hK => ?_
  rw [if_pos hw]
  exact Oper.wp_mono (fun a' w' h' => hK a' w' h') h
/-- One of two comes up. -/
theorem nextR2 (i j : Nat) {oi oj : Oper} {fuel : Nat} {listed : Array Bool} {a : Act} {w : World} (hi : ops[i]? = some oi) (hj : ops[j]? = some oj)
    (hr : Region.ready md ops listed = [i, j]) (hwi : Region.wanted oi (yielded ops a.tmps) = true) (hwj : Region.wanted oj (yielded ops a.tmps) = true)
    (h1 : oi.wp P a w (fun a' w' => S w' ∧ wpAnyH P md ops Q S fuel (listed.setIfInBounds i true) a' w') Q)
    (h2 : oj.wp P a w (fun a' w' => S w' ∧ wpAnyH P md ops Q S fuel (listed.setIfInBounds j true) a' w') Q) : wpAnyH P md ops Q S (fuel + 1) listed a w := by
  refine wpAnyH_all hr (by simp) fun k hk => ?_
  have hk : k = i ∨ k = j := by simpa using hk
  rcases hk with rfl | rfl
  · refine wpOp_step hi fun K hK => ?_
    rw [if_pos hwi]
    exact Oper.wp_mono (fun a' w' h' => hK a' w' h') h1
  · refine wpOp_step hj fun K hK => ?_
    rw [if_pos hwj]
    exact Oper.wp_mono (fun a' w' h' => hK a' w' h') h2
end
/-- A call, whatever it makes. -/
theorem callS {P : Program} {op : Oper} {a : Act} {w : World} {K : Act → World → Prop} {Q : Exit → Act → World → Prop} (d : Option Tmp) (hd : op.dst = d) (f : FuncId) (args : Array Value)
    (hx : (execOp a.eval op).run P w = .ok (.enter f args) w) (R : Value → World → Prop) (hc : Calls P f args w fun e w' => ∃ v, e = .returned v ∧ R v w')
    (h : ∀ v w', R v w' → K (a.put d v) w') : op.wp P a w K Q := by
  subst hd
  unfold Oper.wp
  rw [hx]
  exact hc.mono fun e w' he => by obtain ⟨v, rfl, hr⟩ := he; exact h v w' hr
theorem makeR {P : Program} {op : Oper} {a : Act} {w w1 : World} {K : Act → World → Prop} {Q : Exit → Act → World → Prop} (d : Option Tmp) (hd : op.dst = d) (v : Value)
    (hx : (execOp a.eval op).run P w = .ok (.value v) w1) (h : K (a.put d v) w1) : op.wp P a w K Q := by
  subst hd
  unfold Oper.wp
  rw [hx]
  exact h
theorem appR {P : Program} {w : World} {o : Oper} {a : Act} {K : Act → World → Prop} {Q : Exit → Act → World → Prop} (d : Option Tmp) (hd : o.dst = d) (s x : Operand) (t tn : TypeId)
    (ho : o.op = .call { callee := .builtin .append, args := #[s, x], argTypes := #[t, tn] }) (vs vx : Value) (hs : a.eval s = vs) (hx : a.eval x = vx)
    (v' : Value) (w' : World) (hr : (Builtin.append_ #[t, tn] o.type #[vs, vx]).run P w = .ok v' w') (h : K (a.put d v') w') : o.wp P a w K Q := by
  subst hd
  exact Lib.wp_append_run w s x t tn ho vs vx hs hx v' w' hr h
theorem storeR {P : Program} {op : Oper} {a : Act} {w w1 : World} {K : Act → World → Prop} {Q : Exit → Act → World → Prop}
    (hx : (execOp a.eval op).run P w = .ok .skip w1) (h : K (a.put op.dst undef) w1) : op.wp P a w K Q := by
  unfold Oper.wp
  rw [hx]
  exact h

set_option maxHeartbeats 1000000 in
theorem name_any (s : ByteArray) (w : World) : Calls Tryd.prog 49 #[.string s] w fun e w' => e = .returned (.string (tx (name s.toList))) ∧ Ext w w' := by
  go_enter Tryd.func49, Tryd.ntmps49
  go_wp2_with fail
  refine (cutLast_any s w).mono ?_
  rintro e w1 ⟨rfl, e1⟩
  go_wp2
  go_ret
  exact ⟨rfl, e1⟩

theorem results_row {P : Program} {fn : Func} {p : Tmp} {ty : TypeId} (h : fn.results = #[.cell p ty]) (tmps : Array Value) (w : World) (g : Nat) (t : TypeId) (cs : Array Value) {d : TypeDesc} (hp : tmps.getD p undef = .pointer (some ⟨g, 0, none⟩)) (hg : At w g cs t)
    (hu : P.underlying ty = some d) (hd : (match d with | .struct _ | .array _ _ => true | _ => false) = true) (hi : (P.info? ty).map (·.size) = some cs.size) :
    (results fn tmps).run P w = .ok (.agg cs) w := results_cell_row h tmps w g t cs (0, 0) d hp hg hu hd hi
theorem info_rule : (Tryd.prog.info? 55).map (fun i => (i.zero, i.size, i.bytes)) = some (some (.agg #[.string ByteArray.empty, .string ByteArray.empty, .bool false, .bool false, .bool false]), 5, 40) := by kernel_rfl
theorem sz_rule : (Tryd.prog.info? 55).map (·.size) = some 5 := by kernel_rfl
/-- a rule, as a value. -/
def rval (r : RL) : Value := .agg #[.string (tx r.line), .string (tx r.pat), .bool r.nt, .bool r.dr, .bool r.wh]

theorem has_byte (c : UInt8) : ∀ l : B, l.contains c = decide (0 ≤ Lib.indexByte l c)
  | [] => by simp [Lib.indexByte]
  | x :: r => by
    have ih := has_byte c r
    have hg := Lib.indexByte_ge r c
    unfold Lib.indexByte
    rw [List.contains_cons]
    by_cases h : x = c
    · subst h; simp
    have h1 : (c == x) = false := by simpa using fun e => h e.symm
    have h2 : (x == c) = false := by simpa using h
    rw [h1, Bool.false_or, ih, h2, if_neg (by simp)]
    by_cases h3 : Lib.indexByte r c = -1
    · rw [h3]; rfl
    · have h4 : (Lib.indexByte r c == -1) = false := by simpa using h3
      rw [h4, if_neg (by simp), Bool.eq_iff_iff, decide_eq_true_eq, decide_eq_true_eq]
      omega

set_option maxHeartbeats 1000000 in
theorem ruleOf_any (s : ByteArray) (hs : s.size ≤ 1000000) (w : World) : Calls Tryd.prog 25 #[.string s] w fun e w' => e = .returned (rval (mkR s.toList)) ∧ Ext w w' := by
  have hp : (Lib.trimPrefix s.toList [33]).length ≤ 1000000 := by
    have := size_list s
    unfold Lib.trimPrefix
    split
    · rw [List.length_drop]; omega
    · omega
  have C1 := Lib.hid (fun w' : World => Tryd.strings_CutPrefix s ⟨#[33]⟩ w')
  have C2 := Lib.hid (fun w' : World => Tryd.strings_CutSuffix (tx (Lib.trimPrefix s.toList [33])) ⟨#[47]⟩ w' (by rw [tx_size]; omega))
  have C3 := Lib.hid (fun w' : World => Tryd.strings_Contains_one (tx (mkR s.toList).pat) 47 w')
  rw [← ByteArray.toList_eq] at C1
  have R : Hid (rval (mkR s.toList) = .agg #[.string s, .string (tx (mkR s.toList).pat), .bool (mkR s.toList).nt, .bool (mkR s.toList).dr, .bool (mkR s.toList).wh]) := Lib.hid (by unfold rval; rw [show (mkR s.toList).line = s.toList from rfl, list_tx])
  have e1 : Hid ((⟨(Lib.trimPrefix s.toList [33]).toArray⟩ : ByteArray) = tx (Lib.trimPrefix s.toList [33])) := Lib.hid rfl
  have W : Hid ((mkR s.toList).wh = decide (0 ≤ Lib.indexByte (mkR s.toList).pat 47)) := Lib.hid (has_byte 47 _)
  have e2 : Hid ((⟨(Lib.trimSuffix (tx (Lib.trimPrefix s.toList [33])).data.toList [47]).toArray⟩ : ByteArray) = tx (mkR s.toList).pat) := Lib.hid rfl
  have e3 : Hid (Lib.hasPrefix s.toList [33] = (mkR s.toList).nt) := Lib.hid rfl
  have e4 : Hid (Lib.hasSuffix (tx (Lib.trimPrefix s.toList [33])).data.toList [47] = (mkR s.toList).dr) := Lib.hid rfl
  have E0 := Ext.alloc w (.cells #[.string ⟨#[]⟩, .string ⟨#[]⟩, .bool false, .bool false, .bool false] 55)
  clear hp hs
  go_enter Tryd.func25, Tryd.ntmps25
  go_wp2_with fail
  refine (C1.out _).mono ?_
  rintro e w1 ⟨rfl, rfl⟩
  rw [e1.out, e3.out]
  generalize (mkR s.toList).nt = nt at *
  clear C1 e1 e3
  go_wp2_with fail
  refine (C2.out _).mono ?_
  rintro e w2 ⟨rfl, rfl⟩
  rw [e2.out, e4.out]
  generalize (mkR s.toList).dr = dr at *
  clear C2 e2 e4
  go_wp2_with fail
  refine (C3.out _).mono ?_
  rintro e w3 ⟨rfl, rfl⟩
  rw [show (tx (mkR s.toList).pat).data.toList = (mkR s.toList).pat from rfl, ← W.out]
  generalize (mkR s.toList).wh = wh at *
  generalize tx (mkR s.toList).pat = pp at *
  clear C3 W
  go_wp2_with fail
  refine bodyPost_ret (results_row rfl _ _ w.heap.size 55 _ rfl (At.new w #[.string s, .string pp, .bool nt, .bool dr, .bool wh] 55) Tryd.underlying55 rfl sz_rule) rfl ?_
  exact ⟨by rw [R.out], Ext.alloc w _⟩

/-- that a pattern holds neither a blank nor a byte 10 is told. -/
def AnyOk (p : B) : Prop := ∀ w : World, Calls Tryd.prog 37 #[.string (tx p), .string ⟨#[32, 10]⟩] w fun e w' => e = .returned (.bool (Lib.containsAny p [32, 10])) ∧ Ext w w'
theorem anyOk_ascii {p : B} (h : ∀ b ∈ p, b.toNat < 128) (hl : p.length ≤ 1000000) : AnyOk p := fun w => by
  refine (Tryd.strings_ContainsAny_laid (tx p) ⟨#[32, 10]⟩ w (by rw [tx_size]; omega) (by decide) (fun j b hj => h b (List.mem_of_getElem? hj)) (fun j b hj => ?_)).mono fun e w' ⟨h1, h2⟩ => ⟨h1, h2⟩
  have : b ∈ [(32 : UInt8), 10] := List.mem_of_getElem? hj
  simp only [List.mem_cons, List.not_mem_nil, or_false] at this
  rcases this with rfl | rfl <;> decide

set_option maxHeartbeats 1000000 in
theorem mayBe_any (r : RL) (h : AnyOk r.pat) (w : World) : Calls Tryd.prog 26 #[rval r] w fun e w' => e = .returned (.bool (okR r)) ∧ Ext w w' := by
  have HH := Lib.hid h
  have hz := tx_size r.pat
  have r0 : okR r = (decide (0 < (tx r.pat).size) && decide ((tx r.pat).size ≤ 60) && !(Lib.containsAny r.pat [32, 10])) := by rw [hz]; rfl
  have R := Lib.hid r0
  have HC : Hid (∀ w : World, Calls Tryd.prog 37 #[.string (tx r.pat), .string ⟨#[32, 10]⟩] w fun e w' => e = .returned (.bool (Lib.containsAny r.pat [32, 10])) ∧ Ext w w') := Lib.hid h
  unfold rval
  clear h HH r0 hz
  generalize Lib.containsAny r.pat [32, 10] = ca at *
  generalize tx r.pat = p at *
  generalize tx r.line = l at *
  generalize r.nt = nt at *
  generalize r.dr = dr at *
  generalize r.wh = wh at *
  by_cases h0 : 0 < p.size
  · by_cases h1 : p.size ≤ 60
    · have d0 : decide ((0 : Int) < (p.size : Int)) = true := decide_eq_true (by omega)
      have d1 : decide ((p.size : Int) ≤ 60) = true := decide_eq_true (by omega)
      have R2 : Hid (okR r = !ca) := Lib.hid (by rw [R.out, decide_eq_true h0, decide_eq_true h1]; rfl)
      clear R
      go_enter Tryd.func26, Tryd.ntmps26
      go_wp2_with fail
      refine (HC.out _).mono ?_
      rintro e w1 ⟨rfl, e1⟩
      go_wp2_with fail
      go_ret
      exact ⟨retbb R2.out.symm, (Ext.alloc w _).trans e1⟩
    · have d0 : decide ((0 : Int) < (p.size : Int)) = true := decide_eq_true (by omega)
      have d1 : decide ((p.size : Int) ≤ 60) = false := decide_eq_false (by omega)
      have R2 : Hid (okR r = false) := Lib.hid (by rw [R.out, decide_eq_true h0, decide_eq_false h1]; rfl)
      clear R
      go_enter Tryd.func26, Tryd.ntmps26
      go_wp2_with fail
      go_ret
      exact ⟨retbb R2.out.symm, Ext.alloc w _⟩
  · have d0 : decide ((0 : Int) < (p.size : Int)) = false := decide_eq_false (by omega)
    have R2 : Hid (okR r = false) := Lib.hid (by rw [R.out, decide_eq_false h0]; rfl)
    clear R
    go_enter Tryd.func26, Tryd.ntmps26
    go_wp2_with fail
    go_ret
    exact ⟨retbb R2.out.symm, Ext.alloc w _⟩

set_option maxHeartbeats 1000000 in
theorem matches_any (r : RL) (s : ByteArray) (dir : Bool) (w : World) : Calls Tryd.prog 41 #[rval r, .string s, .bool dir] w fun e w' => e = .returned (.bool (hit r s.toList dir)) ∧ Ext w w' := by
  have M1 := Lib.hid (fun w' : World => match_any (tx r.pat) s w')
  have M2 := Lib.hid (fun w' : World => match_any (tx r.pat) (tx (name s.toList)) w')
  rw [tx_list] at M1
  rw [tx_list, tx_list] at M2
  have N1 := Lib.hid (fun w' : World => name_any s w')
  have r0 : hit r s.toList dir = (!(r.dr && !dir) && mB r.pat (if r.wh then s.toList else name s.toList)) := rfl
  have R := Lib.hid r0
  clear r0
  unfold rval
  have eP := tx_list r.pat
  generalize tx (name s.toList) = nm at *
  generalize tx r.pat = p at *
  clear eP
  cases hd : r.dr with
  | true =>
    cases dir with
    | false =>
      have R2 : Hid (hit r s.toList false = false) := Lib.hid (by rw [R.out, hd]; rfl)
      clear R M1 M2 N1
      go_enter Tryd.func41, Tryd.ntmps41
      go_wp2_with fail
      go_ret
      exact ⟨retbb R2.out.symm, Ext.alloc w _⟩
    | true =>
      cases hh : r.wh with
      | true =>
        have R2 : Hid (hit r s.toList true = mB r.pat s.toList) := Lib.hid (by rw [R.out, hd, hh]; rfl)
        clear R M2 N1
        go_enter Tryd.func41, Tryd.ntmps41
        go_wp2_with fail
        refine (M1.out _).mono ?_
        rintro e w1 ⟨rfl, e1⟩
        go_wp2_with fail
        go_ret
        exact ⟨retbb R2.out.symm, (Ext.alloc w _).trans e1⟩
      | false =>
        have R2 : Hid (hit r s.toList true = mB r.pat (name s.toList)) := Lib.hid (by rw [R.out, hd, hh]; rfl)
        clear R M1
        have a0 := At.new w #[.string (tx r.line), .string p, .bool r.nt, .bool true, .bool false] 55
        have E0 := Ext.alloc w (.cells #[.string (tx r.line), .string p, .bool r.nt, .bool true, .bool false] 55)
        go_enter Tryd.func41, Tryd.ntmps41
        go_upto_region 5 with fail
        generalize w.alloc (.cells #[.string (tx r.line), .string p, .bool r.nt, .bool true, .bool false] 55) = W at *
        generalize w.heap.size = g at *
        have HA := Lib.hid (fun (w' : World) (hw' : Ext W w') => (a0.ext hw').cell 1)
        have HE := Lib.hid E0
        clear a0 E0
        refine wp_region_held (S := Ext W) (by kernel_rfl) ?_
        change wpAnyH _ _ _ _ _ _ _ _ W.drew
        have S0 : Ext W W.drew := Ext.drew W
        generalize W.drew = W0 at *
        refine takeS 0 (some 21) (.pointer (some ⟨g, 1, none⟩)) rfl rfl (by kernel_rfl) (by kernel_rfl) (by kernel_rfl) (fun _ _ _ h => h) rfl S0 (fun w' hw' => by go_simp) ?_
        simp only [Act.put, List.setIfInBounds_toArray, List.set_cons_zero, List.set_cons_succ]
        refine takeS 1 (some 22) (.string p) rfl rfl (by kernel_rfl) (by kernel_rfl) (by kernel_rfl) (fun _ _ _ h => h) rfl S0 (fun w' hw' => by have c1 := HA.out w' hw'; go_simp) ?_
        simp only [Act.put, List.setIfInBounds_toArray, List.set_cons_zero, List.set_cons_succ]
        refine takeS 2 (some 23) (.string s) rfl rfl (by kernel_rfl) (by kernel_rfl) (by kernel_rfl) (fun _ _ _ h => h) rfl S0 (fun w' hw' => by go_simp) ?_
        simp only [Act.put, List.setIfInBounds_toArray, List.set_cons_zero, List.set_cons_succ]
        refine nextS 3 rfl (by kernel_rfl) rfl (callS (some 24) rfl 49 #[.string s] (by go_simp) (fun v w' => v = .string nm ∧ Ext W0 w') ((N1.out W0).mono fun e w' he => ⟨_, he.1, rfl, he.2⟩) ?_)
        rintro v W1 ⟨rfl, x1⟩
        simp only [Act.put, List.setIfInBounds_toArray, List.set_cons_zero, List.set_cons_succ]
        have S1 := S0.trans x1
        refine ⟨S1, ?_⟩
        refine nextS 4 rfl (by kernel_rfl) rfl (callS (some 25) rfl 9 #[.string p, .string nm] (by go_simp) (fun v w' => v = .bool (mB r.pat (name s.toList)) ∧ Ext W1 w') ((M2.out W1).mono fun e w' he => ⟨_, he.1, rfl, he.2⟩) ?_)
        rintro v W2 ⟨rfl, x2⟩
        simp only [Act.put, List.setIfInBounds_toArray, List.set_cons_zero, List.set_cons_succ]
        have S2 := S1.trans x2
        refine ⟨S2, ?_⟩
        refine takeS 5 (some 6) (.bool (mB r.pat (name s.toList))) rfl rfl (by kernel_rfl) (by kernel_rfl) (by kernel_rfl) (fun _ _ _ h => h) rfl S2 (fun w' hw' => by go_simp) ?_
        simp only [Act.put, List.setIfInBounds_toArray, List.set_cons_zero, List.set_cons_succ]
        refine wpAnyH_done (by kernel_rfl) ?_ _
        go_wp2_with fail
        go_ret
        exact ⟨retbb R2.out.symm, HE.out.trans S2⟩
  | false =>
    cases dir with
    | true =>
      cases hh : r.wh with
      | true =>
        have R2 : Hid (hit r s.toList true = mB r.pat s.toList) := Lib.hid (by rw [R.out, hd, hh]; rfl)
        clear R M2 N1
        go_enter Tryd.func41, Tryd.ntmps41
        go_wp2_with fail
        refine (M1.out _).mono ?_
        rintro e w1 ⟨rfl, e1⟩
        go_wp2_with fail
        go_ret
        exact ⟨retbb R2.out.symm, (Ext.alloc w _).trans e1⟩
      | false =>
        have R2 : Hid (hit r s.toList true = mB r.pat (name s.toList)) := Lib.hid (by rw [R.out, hd, hh]; rfl)
        clear R M1
        have a0 := At.new w #[.string (tx r.line), .string p, .bool r.nt, .bool false, .bool false] 55
        have E0 := Ext.alloc w (.cells #[.string (tx r.line), .string p, .bool r.nt, .bool false, .bool false] 55)
        go_enter Tryd.func41, Tryd.ntmps41
        go_upto_region 5 with fail
        generalize w.alloc (.cells #[.string (tx r.line), .string p, .bool r.nt, .bool false, .bool false] 55) = W at *
        generalize w.heap.size = g at *
        have HA := Lib.hid (fun (w' : World) (hw' : Ext W w') => (a0.ext hw').cell 1)
        have HE := Lib.hid E0
        clear a0 E0
        refine wp_region_held (S := Ext W) (by kernel_rfl) ?_
        change wpAnyH _ _ _ _ _ _ _ _ W.drew
        have S0 : Ext W W.drew := Ext.drew W
        generalize W.drew = W0 at *
        refine takeS 0 (some 21) (.pointer (some ⟨g, 1, none⟩)) rfl rfl (by kernel_rfl) (by kernel_rfl) (by kernel_rfl) (fun _ _ _ h => h) rfl S0 (fun w' hw' => by go_simp) ?_
        simp only [Act.put, List.setIfInBounds_toArray, List.set_cons_zero, List.set_cons_succ]
        refine takeS 1 (some 22) (.string p) rfl rfl (by kernel_rfl) (by kernel_rfl) (by kernel_rfl) (fun _ _ _ h => h) rfl S0 (fun w' hw' => by have c1 := HA.out w' hw'; go_simp) ?_
        simp only [Act.put, List.setIfInBounds_toArray, List.set_cons_zero, List.set_cons_succ]
        refine takeS 2 (some 23) (.string s) rfl rfl (by kernel_rfl) (by kernel_rfl) (by kernel_rfl) (fun _ _ _ h => h) rfl S0 (fun w' hw' => by go_simp) ?_
        simp only [Act.put, List.setIfInBounds_toArray, List.set_cons_zero, List.set_cons_succ]
        refine nextS 3 rfl (by kernel_rfl) rfl (callS (some 24) rfl 49 #[.string s] (by go_simp) (fun v w' => v = .string nm ∧ Ext W0 w') ((N1.out W0).mono fun e w' he => ⟨_, he.1, rfl, he.2⟩) ?_)
        rintro v W1 ⟨rfl, x1⟩
        simp only [Act.put, List.setIfInBounds_toArray, List.set_cons_zero, List.set_cons_succ]
        have S1 := S0.trans x1
        refine ⟨S1, ?_⟩
        refine nextS 4 rfl (by kernel_rfl) rfl (callS (some 25) rfl 9 #[.string p, .string nm] (by go_simp) (fun v w' => v = .bool (mB r.pat (name s.toList)) ∧ Ext W1 w') ((M2.out W1).mono fun e w' he => ⟨_, he.1, rfl, he.2⟩) ?_)
        rintro v W2 ⟨rfl, x2⟩
        simp only [Act.put, List.setIfInBounds_toArray, List.set_cons_zero, List.set_cons_succ]
        have S2 := S1.trans x2
        refine ⟨S2, ?_⟩
        refine takeS 5 (some 6) (.bool (mB r.pat (name s.toList))) rfl rfl (by kernel_rfl) (by kernel_rfl) (by kernel_rfl) (fun _ _ _ h => h) rfl S2 (fun w' hw' => by go_simp) ?_
        simp only [Act.put, List.setIfInBounds_toArray, List.set_cons_zero, List.set_cons_succ]
        refine wpAnyH_done (by kernel_rfl) ?_ _
        go_wp2_with fail
        go_ret
        exact ⟨retbb R2.out.symm, HE.out.trans S2⟩
    | false =>
      cases hh : r.wh with
      | true =>
        have R2 : Hid (hit r s.toList false = mB r.pat s.toList) := Lib.hid (by rw [R.out, hd, hh]; rfl)
        clear R M2 N1
        go_enter Tryd.func41, Tryd.ntmps41
        go_wp2_with fail
        refine (M1.out _).mono ?_
        rintro e w1 ⟨rfl, e1⟩
        go_wp2_with fail
        go_ret
        exact ⟨retbb R2.out.symm, (Ext.alloc w _).trans e1⟩
      | false =>
        have R2 : Hid (hit r s.toList false = mB r.pat (name s.toList)) := Lib.hid (by rw [R.out, hd, hh]; rfl)
        clear R M1
        have a0 := At.new w #[.string (tx r.line), .string p, .bool r.nt, .bool false, .bool false] 55
        have E0 := Ext.alloc w (.cells #[.string (tx r.line), .string p, .bool r.nt, .bool false, .bool false] 55)
        go_enter Tryd.func41, Tryd.ntmps41
        go_upto_region 5 with fail
        generalize w.alloc (.cells #[.string (tx r.line), .string p, .bool r.nt, .bool false, .bool false] 55) = W at *
        generalize w.heap.size = g at *
        have HA := Lib.hid (fun (w' : World) (hw' : Ext W w') => (a0.ext hw').cell 1)
        have HE := Lib.hid E0
        clear a0 E0
        refine wp_region_held (S := Ext W) (by kernel_rfl) ?_
        change wpAnyH _ _ _ _ _ _ _ _ W.drew
        have S0 : Ext W W.drew := Ext.drew W
        generalize W.drew = W0 at *
        refine takeS 0 (some 21) (.pointer (some ⟨g, 1, none⟩)) rfl rfl (by kernel_rfl) (by kernel_rfl) (by kernel_rfl) (fun _ _ _ h => h) rfl S0 (fun w' hw' => by go_simp) ?_
        simp only [Act.put, List.setIfInBounds_toArray, List.set_cons_zero, List.set_cons_succ]
        refine takeS 1 (some 22) (.string p) rfl rfl (by kernel_rfl) (by kernel_rfl) (by kernel_rfl) (fun _ _ _ h => h) rfl S0 (fun w' hw' => by have c1 := HA.out w' hw'; go_simp) ?_
        simp only [Act.put, List.setIfInBounds_toArray, List.set_cons_zero, List.set_cons_succ]
        refine takeS 2 (some 23) (.string s) rfl rfl (by kernel_rfl) (by kernel_rfl) (by kernel_rfl) (fun _ _ _ h => h) rfl S0 (fun w' hw' => by go_simp) ?_
        simp only [Act.put, List.setIfInBounds_toArray, List.set_cons_zero, List.set_cons_succ]
        refine nextS 3 rfl (by kernel_rfl) rfl (callS (some 24) rfl 49 #[.string s] (by go_simp) (fun v w' => v = .string nm ∧ Ext W0 w') ((N1.out W0).mono fun e w' he => ⟨_, he.1, rfl, he.2⟩) ?_)
        rintro v W1 ⟨rfl, x1⟩
        simp only [Act.put, List.setIfInBounds_toArray, List.set_cons_zero, List.set_cons_succ]
        have S1 := S0.trans x1
        refine ⟨S1, ?_⟩
        refine nextS 4 rfl (by kernel_rfl) rfl (callS (some 25) rfl 9 #[.string p, .string nm] (by go_simp) (fun v w' => v = .bool (mB r.pat (name s.toList)) ∧ Ext W1 w') ((M2.out W1).mono fun e w' he => ⟨_, he.1, rfl, he.2⟩) ?_)
        rintro v W2 ⟨rfl, x2⟩
        simp only [Act.put, List.setIfInBounds_toArray, List.set_cons_zero, List.set_cons_succ]
        have S2 := S1.trans x2
        refine ⟨S2, ?_⟩
        refine takeS 5 (some 6) (.bool (mB r.pat (name s.toList))) rfl rfl (by kernel_rfl) (by kernel_rfl) (by kernel_rfl) (fun _ _ _ h => h) rfl S2 (fun w' hw' => by go_simp) ?_
        simp only [Act.put, List.setIfInBounds_toArray, List.set_cons_zero, List.set_cons_succ]
        refine wpAnyH_done (by kernel_rfl) ?_ _
        go_wp2_with fail
        go_ret
        exact ⟨retbb R2.out.symm, HE.out.trans S2⟩
end Go.Proofs.YtoompkmncglmoaaDoor
