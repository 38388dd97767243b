/- The walk of PathBack. -/
import Derived.Test.YtibhbobdofmafaaDoorWh
import Derived.Deep.CutRange
namespace Go.Proofs.YtibhbobdofmafaaDoor
open Go.RowKit Go.Pth

section
variable {P : Program} {ops : Array Oper} {Q : Exit → Act → World → Prop} {md : Region.Mode} {S : World → Prop}
/-- In a region that draws: an operation that yields the same in all worlds of S is taken first. -/
theorem takeS (i : Nat) (d : Option Tmp) (v : Value) {oi : Oper} {fuel : Nat} {listed : Array Bool} {a : Act} {w : World} (hi : ops[i]? = some oi) (hd : oi.dst = d)
    (hs : Region.noSelect ops = true) (hf : Region.free md ops listed i = true) (hr : (Region.ready md ops listed).contains i = true)
    (hQ : ∀ c a w, Q (.panic c) (a.put d v) w → Q (.panic c) a w) (hw : Region.wanted oi (yielded ops a.tmps) = true) (hS : S w) (hy : ∀ w', S w' → (execOp a.eval oi).run P w' = .ok (.value v) w')
    (h : wpAnyH P md ops Q S fuel (listed.setIfInBounds i true) (a.put d v) w) : wpAnyH P md ops Q S (fuel + 1) listed a w := by
  subst hd
  exact wpAnyH_take hi hs hf hr hQ (Or.inl ⟨hw, hy⟩) hS h
/-- Just one may come up. -/
theorem nextS (i : Nat) {oi : Oper} {fuel : Nat} {listed : Array Bool} {a : Act} {w : World} (hi : ops[i]? = some oi)
    (hr : Region.ready md ops listed = [i]) (hw : Region.wanted oi (yielded ops a.tmps) = true)
    (h : oi.wp P a w (fun a' w' => S w' ∧ wpAnyH P md ops Q S fuel (listed.setIfInBounds i true) a' w') Q) : wpAnyH P md ops Q S (fuel + 1) listed a w := by
  refine wpAnyH_all hr (by simp) fun j hj => ?_
  have hj : j = i := by simpa using hj
  subst hj
  refine wpOp_step hi fun K hK => ?_
  rw [if_pos hw]
  exact Oper.wp_mono (fun a' w' h' => hK a' w' h') h
end
/-- A call, whatever it makes. -/
theorem callS {P : Program} {op : Oper} {a : Act} {w : World} {K : Act → World → Prop} {Q : Exit → Act → World → Prop} (d : Option Tmp) (hd : op.dst = d) (f : FuncId) (args : Array Value)
    (hx : (execOp a.eval op).run P w = .ok (.enter f args) w) (R : Value → World → Prop) (hc : Calls P f args w fun e w' => ∃ v, e = .returned v ∧ R v w')
    (h : ∀ v w', R v w' → K (a.put d v) w') : op.wp P a w K Q := by
  subst hd
  unfold Oper.wp
  rw [hx]
  exact hc.mono fun e w' he => by obtain ⟨v, rfl, hr⟩ := he; exact h v w' hr

theorem parent_acc (a : ByteArray) {w0 w : World} (h : Ext w0 w) : Calls Tryd.prog 14 #[.string a] w fun e w' => e = .returned (.string (tx (parent a.toList))) ∧ Ext w0 w' :=
  (parent_any a w).mono fun _ _ ⟨x, y⟩ => ⟨x, h.trans y⟩
theorem name_acc (a : ByteArray) {w0 w : World} (h : Ext w0 w) : Calls Tryd.prog 16 #[.string a] w fun e w' => e = .returned (.string (tx (name a.toList))) ∧ Ext w0 w' :=
  (name_any a w).mono fun _ _ ⟨x, y⟩ => ⟨x, h.trans y⟩
theorem hidden_acc (a : ByteArray) {w0 w : World} (h : Ext w0 w) : Calls Tryd.prog 12 #[.string a] w fun e w' => e = .returned (.bool (hidden a.toList)) ∧ Ext w0 w' :=
  (hidden_any a w).mono fun _ _ ⟨x, y⟩ => ⟨x, h.trans y⟩
theorem parts_acc (a : ByteArray) {w0 w : World} (h : Ext w0 w) : Calls Tryd.prog 19 #[.string a] w fun e w' => ∃ v, e = .returned v ∧ Txt w' v (parts a.toList) ∧ Ext w0 w' :=
  (parts_any a w).mono fun _ _ ⟨v, x, y, z⟩ => ⟨v, x, y, h.trans z⟩

theorem parent_len (l : B) : (parent l).length ≤ l.length := by
  unfold parent
  split
  · have := glue_len_take (cut l) ((cut l).length - 1)
    rw [← List.dropLast_eq_take, glue_cut] at this
    exact this
  · simp
theorem name_last {l : B} (h : valid l = true) : name l = (cut l)[(cut l).length - 1]?.getD [] := by
  unfold name
  rw [if_pos h, List.getLastD_eq_getLast?, List.getLast?_eq_getElem?]
theorem part_len {l : B} (h : valid l = true) (k : Nat) (hk : k < (cut l).length) : ((cut l)[k]?.getD []).length ≤ 20 := by
  rw [List.getElem?_eq_getElem hk]
  exact (okPart_len _ (valid_parts h _ (List.getElem_mem hk))).2

def InvB (w : World) (c : List B) (s i : Value) (wr : World) : Prop := ∃ k : Nat, k ≤ c.length ∧ i = .int .i64 k ∧ s = .string (tx (glue (c.take k))) ∧ Ext w wr

set_option maxHeartbeats 4000000 in
theorem back_any (a : ByteArray) (w : World) (ha : a.size ≤ 9223372036854775807) : Calls Tryd.prog 6 #[.string a] w fun e w' => e = .returned (.bool true) ∧ Ext w w' := by
  have hE := Ext.refl w
  by_cases h0 : 200 < a.size
  · have d : decide ((200 : Int) < (a.size : Int)) = true := decide_eq_true (by omega)
    go_enter Tryd.func6, Tryd.ntmps6
    go_wp2_with fail
    refine (awake_acc hE).mono ?_
    rintro e w1 ⟨rfl, hE⟩
    go_wp2
    go_ret
    exact ⟨rfl, hE⟩
  have d : decide ((200 : Int) < (a.size : Int)) = false := decide_eq_false (by omega)
  clear h0
  cases hv : valid a.toList with
  | false =>
    have p0 : tx (parent a.toList) = ⟨#[]⟩ := by unfold parent; rw [hv]; rfl
    have p1 : tx (name a.toList) = ⟨#[]⟩ := by unfold name; rw [hv]; rfl
    have p2 : hidden a.toList = false := by unfold hidden; rw [hv]; rfl
    have P3 := Lib.hid (show parts a.toList = [] by unfold parts; rw [hv]; rfl)
    go_enter Tryd.func6, Tryd.ntmps6
    go_wp2_with (first | (go_at_call 10; refine (valid_acc _ hE).mono ?_; rintro e w' ⟨rfl, hE⟩; simp only [hv]) | (go_at_call 14; refine (parent_acc _ hE).mono ?_; rintro e w' ⟨rfl, hE⟩; rw [p0]) | (go_at_call 16; refine (name_acc _ hE).mono ?_; rintro e w' ⟨rfl, hE⟩; rw [p1]) | (go_at_call 19; refine (parts_acc _ hE).mono ?_; rintro e w' ⟨v, rfl, tv, hE⟩; rw [P3.out] at tv; obtain ⟨ad, cap, b, rfl, _, _⟩ := tv) | (go_at_call 12; refine (hidden_acc _ hE).mono ?_; rintro e w' ⟨rfl, hE⟩; simp only [p2]) | (go_at_call 9; refine (awake_acc hE).mono ?_; rintro e w' ⟨rfl, hE⟩))
    go_ret
    exact ⟨rfl, hE⟩
  | true =>
    have HV := Lib.hid hv
    have hsz := size_list a
    have hl60 := valid_len hv
    have P3 := Lib.hid (show parts a.toList = cut a.toList by unfold parts; rw [hv]; rfl)
    have JB := Lib.hid (join_back hv)
    have NL := Lib.hid (name_last hv)
    have PL := parent_len a.toList
    have cn := cut_len a.toList
    have c0 : 0 < (cut a.toList).length := List.length_pos_iff.2 (cut_ne _)
    obtain ⟨L, hL⟩ : ∃ L, L = (cut a.toList).length := ⟨_, rfl⟩
    have NS : (name a.toList).length ≤ 20 := by rw [NL.out]; exact part_len hv _ (by omega)
    have HNS := Lib.hid NS
    have HPL := Lib.hid (show (parent a.toList).length ≤ 1000000 by omega)
    have H60 := Lib.hid hl60
    rw [← hL] at cn c0
    have l61 : L ≤ 61 := by omega
    have HLn := Lib.hid hL
    have ND := Lib.hid (show name a.toList = (cut a.toList)[L - 1]?.getD [] by rw [hL]; exact NL.out)
    clear hsz hl60 PL cn NS hL NL
    go_enter Tryd.func6, Tryd.ntmps6
    go_wp2_with fail
    refine (valid_acc _ hE).mono ?_
    rintro e w1 ⟨rfl, hE⟩
    rw [hv]
    go_wp2_with fail
    refine (parts_acc _ hE).mono ?_
    rintro e w2 ⟨v, rfl, tv, hE⟩
    rw [P3.out] at tv
    have TV := Lib.hid tv
    obtain ⟨ad, cap, b, rfl, h2, h3⟩ := tv
    rw [← HLn.out] at h2 h3 ⊢
    have e2 := h2 c0
    subst e2
    have cl := h3 (L - 1) (by omega)
    rw [← ND.out] at cl
    have H3 := Lib.hid h3
    have CL := Lib.hid cl
    clear h2 h3 cl
    have z0 : ((L : Int) == 0) = false := by simp; omega
    have z1 : (L == 0) = false := by simp; omega
    have i0 : (0 : Int) ≤ (L : Int) - 1 := by omega
    have i1 : (L : Int) - 1 < (L : Int) := by omega
    have i2 : ((L : Int) - 1).toNat = L - 1 := by omega
    go_upto_region 6 with fail
    refine wp_region_held (S := fun w' => Ext w2 w') (by kernel_rfl) ?_
    change wpAnyH _ _ _ _ _ _ _ _ (World.drew _)
    have hS : Ext w2 w2.drew := Ext.drew w2
    refine takeS 0 (some 37) (.slice (some ⟨b, 0, none⟩) L cap) rfl rfl (by kernel_rfl) (by kernel_rfl) (by kernel_rfl) (fun _ _ _ h => h) rfl hS (fun w' hw' => by go_simp) ?_
    simp only [Act.put, List.setIfInBounds_toArray, List.set_cons_zero, List.set_cons_succ]
    refine takeS 1 (some 38) (.int .i64 (L : Int)) rfl rfl (by kernel_rfl) (by kernel_rfl) (by kernel_rfl) (fun _ _ _ h => h) rfl hS (fun w' hw' => by go_simp) ?_
    simp only [Act.put, List.setIfInBounds_toArray, List.set_cons_zero, List.set_cons_succ]
    refine takeS 2 (some 39) (.bool false) rfl rfl (by kernel_rfl) (by kernel_rfl) (by kernel_rfl) (fun _ _ _ h => h) rfl hS (fun w' hw' => by go_simp) ?_
    simp only [Act.put, List.setIfInBounds_toArray, List.set_cons_zero, List.set_cons_succ]
    refine takeS 3 (some 40) (.bool false) rfl rfl (by kernel_rfl) (by kernel_rfl) (by kernel_rfl) (fun _ _ _ h => h) rfl hS (fun w' hw' => by go_simp) ?_
    simp only [Act.put, List.setIfInBounds_toArray, List.set_cons_zero, List.set_cons_succ]
    refine takeS 4 (some 41) (.string a) rfl rfl (by kernel_rfl) (by kernel_rfl) (by kernel_rfl) (fun _ _ _ h => h) rfl hS (fun w' hw' => by go_simp) ?_
    simp only [Act.put, List.setIfInBounds_toArray, List.set_cons_zero, List.set_cons_succ]
    refine takeS 6 (some 43) (.string a) rfl rfl (by kernel_rfl) (by kernel_rfl) (by kernel_rfl) (fun _ _ _ h => h) rfl hS (fun w' hw' => by go_simp) ?_
    simp only [Act.put, List.setIfInBounds_toArray, List.set_cons_zero, List.set_cons_succ]
    refine takeS 9 (some 46) (.string a) rfl rfl (by kernel_rfl) (by kernel_rfl) (by kernel_rfl) (fun _ _ _ h => h) rfl hS (fun w' hw' => by go_simp) ?_
    simp only [Act.put, List.setIfInBounds_toArray, List.set_cons_zero, List.set_cons_succ]
    refine nextS 5 rfl (by kernel_rfl) rfl ?_
    refine callS (some 42) rfl 14 #[.string a] (by go_simp) (fun v w' => v = .string (tx (parent a.toList)) ∧ Ext w2 w') ((parent_acc a hS).mono fun e w' he => ⟨_, he.1, rfl, he.2⟩) ?_
    rintro v3 w3 ⟨rfl, hS3⟩
    refine ⟨hS3, ?_⟩
    simp only [Act.put, List.setIfInBounds_toArray, List.set_cons_zero, List.set_cons_succ]
    refine nextS 7 rfl (by kernel_rfl) rfl ?_
    refine callS (some 44) rfl 16 #[.string a] (by go_simp) (fun v w' => v = .string (tx (name a.toList)) ∧ Ext w2 w') ((name_acc a hS3).mono fun e w' he => ⟨_, he.1, rfl, he.2⟩) ?_
    rintro v4 w4 ⟨rfl, hS4⟩
    refine ⟨hS4, ?_⟩
    simp only [Act.put, List.setIfInBounds_toArray, List.set_cons_zero, List.set_cons_succ]
    have J : tx (join (tx (parent a.toList)).toList (tx (name a.toList)).toList) = a := by rw [tx_list, tx_list, JB.out, list_tx]
    have JJ := Lib.hid J; clear J
    refine nextS 8 rfl (by kernel_rfl) rfl ?_
    refine callS (some 45) rfl 25 #[.string (tx (parent a.toList)), .string (tx (name a.toList))] (by go_simp) (fun v w' => v = .string a ∧ Ext w2 w') ((join_any _ _ (by rw [tx_size]; exact HPL.out) (by rw [tx_size]; have := HNS.out; omega) _).mono fun e w' he => ⟨_, he.1, by rw [JJ.out], hS4.trans he.2⟩) ?_
    rintro v5 w5 ⟨rfl, hS5⟩
    refine ⟨hS5, ?_⟩
    simp only [Act.put, List.setIfInBounds_toArray, List.set_cons_zero, List.set_cons_succ]
    refine takeS 10 (some 47) (.bool false) rfl rfl (by kernel_rfl) (by kernel_rfl) (by kernel_rfl) (fun _ _ _ h => h) rfl hS5 (fun w' hw' => by go_simp) ?_
    simp only [Act.put, List.setIfInBounds_toArray, List.set_cons_zero, List.set_cons_succ]
    refine takeS 11 (some 48) (.bool false) rfl rfl (by kernel_rfl) (by kernel_rfl) (by kernel_rfl) (fun _ _ _ h => h) rfl hS5 (fun w' hw' => by go_simp) ?_
    simp only [Act.put, List.setIfInBounds_toArray, List.set_cons_zero, List.set_cons_succ]
    refine takeS 12 (some 49) (.bool false) rfl rfl (by kernel_rfl) (by kernel_rfl) (by kernel_rfl) (fun _ _ _ h => h) rfl hS5 (fun w' hw' => by go_simp) ?_
    simp only [Act.put, List.setIfInBounds_toArray, List.set_cons_zero, List.set_cons_succ]
    refine takeS 13 (some 50) (.string a) rfl rfl (by kernel_rfl) (by kernel_rfl) (by kernel_rfl) (fun _ _ _ h => h) rfl hS5 (fun w' hw' => by go_simp) ?_
    simp only [Act.put, List.setIfInBounds_toArray, List.set_cons_zero, List.set_cons_succ]
    refine takeS 15 (some 52) (.slice (some ⟨b, 0, none⟩) L cap) rfl rfl (by kernel_rfl) (by kernel_rfl) (by kernel_rfl) (fun _ _ _ h => h) rfl hS5 (fun w' hw' => by go_simp) ?_
    simp only [Act.put, List.setIfInBounds_toArray, List.set_cons_zero, List.set_cons_succ]
    refine takeS 16 (some 53) (.slice (some ⟨b, 0, none⟩) L cap) rfl rfl (by kernel_rfl) (by kernel_rfl) (by kernel_rfl) (fun _ _ _ h => h) rfl hS5 (fun w' hw' => by go_simp) ?_
    simp only [Act.put, List.setIfInBounds_toArray, List.set_cons_zero, List.set_cons_succ]
    refine takeS 17 (some 54) (.int .i64 (L : Int)) rfl rfl (by kernel_rfl) (by kernel_rfl) (by kernel_rfl) (fun _ _ _ h => h) rfl hS5 (fun w' hw' => by go_simp) ?_
    simp only [Act.put, List.setIfInBounds_toArray, List.set_cons_zero, List.set_cons_succ]
    refine takeS 18 (some 55) (.int .i64 ((L : Int) - 1)) rfl rfl (by kernel_rfl) (by kernel_rfl) (by kernel_rfl) (fun _ _ _ h => h) rfl hS5 (fun w' hw' => by go_simp; rw [IntKind.wrap_i64]; omega) ?_
    simp only [Act.put, List.setIfInBounds_toArray, List.set_cons_zero, List.set_cons_succ]
    refine takeS 19 (some 56) (.pointer (some ⟨b, L - 1, none⟩)) rfl rfl (by kernel_rfl) (by kernel_rfl) (by kernel_rfl) (fun _ _ _ h => h) rfl hS5 (fun w' hw' => by go_simp; intro h; exfalso; omega) ?_
    simp only [Act.put, List.setIfInBounds_toArray, List.set_cons_zero, List.set_cons_succ]
    refine takeS 20 (some 57) (.string (tx (name a.toList))) rfl rfl (by kernel_rfl) (by kernel_rfl) (by kernel_rfl) (fun _ _ _ h => h) rfl hS5 (fun w' hw' => by have cc : World.cell? w' _ = _ := Ext.cell hw' CL.out; go_simp) ?_
    simp only [Act.put, List.setIfInBounds_toArray, List.set_cons_zero, List.set_cons_succ]
    refine nextS 14 rfl (by kernel_rfl) rfl ?_
    refine callS (some 51) rfl 16 #[.string a] (by go_simp) (fun v w' => v = .string (tx (name a.toList)) ∧ Ext w2 w') ((name_acc a hS5).mono fun e w' he => ⟨_, he.1, rfl, he.2⟩) ?_
    rintro v6 w6 ⟨rfl, hS6⟩
    refine ⟨hS6, ?_⟩
    simp only [Act.put, List.setIfInBounds_toArray, List.set_cons_zero, List.set_cons_succ]
    refine takeS 21 (some 58) (.bool false) rfl rfl (by kernel_rfl) (by kernel_rfl) (by kernel_rfl) (fun _ _ _ h => h) rfl hS6 (fun w' hw' => by go_simp) ?_
    simp only [Act.put, List.setIfInBounds_toArray, List.set_cons_zero, List.set_cons_succ]
    refine takeS 22 (some 59) (.bool false) rfl rfl (by kernel_rfl) (by kernel_rfl) (by kernel_rfl) (fun _ _ _ h => h) rfl hS6 (fun w' hw' => by go_simp) ?_
    simp only [Act.put, List.setIfInBounds_toArray, List.set_cons_zero, List.set_cons_succ]
    refine wpAnyH_done (by kernel_rfl) ?_ _
    have H6 := Lib.hid (hE.trans hS6)
    have X3 := Lib.hid (fun j (hj : j < L) => hS6.cell (H3.out j hj))
    clear CL H3 TV JJ JB ND hS hS3 hS4 hS5 hS6 hE i0 i1 i2 z0 z1
    generalize tx (parent a.toList) = zp
    generalize tx (name a.toList) = zn
    go_wp2
    go_loopw [4, 5] (fun s i wr => InvB w6 (cut a.toList) s i wr) (fun _ i _ => L - (intOf i).toNat)
    case atStart => exact ⟨0, by omega, rfl, rfl, Ext.refl _⟩
    case round =>
      obtain ⟨k, hk, rfl, rfl, he⟩ := hrel
      rw [← HLn.out] at hk
      by_cases hlt : k < L
      · have j0 : (0 : Int) ≤ (k : Int) := by omega
        have j1 : (k : Int) < (L : Int) := by omega
        have cc := he.cell (X3.out k hlt)
        have hk2 : k < (cut a.toList).length := by rw [← HLn.out]; exact hlt
        have JS := Lib.hid (join_step HV.out k hk2)
        have PN := Lib.hid (part_len HV.out k hk2)
        have GL := Lib.hid (show (glue ((cut a.toList).take k)).length ≤ 1000000 by
          have := glue_len_take (cut a.toList) k
          rw [glue_cut] at this
          have := H60.out
          omega)
        have Hlt := Lib.hid hk2
        clear hk2
        generalize hx : tx (glue ((cut a.toList).take k)) = X
        have HX := Lib.hid hx.symm; clear hx
        generalize hy : tx ((cut a.toList)[k]?.getD []) = Y at cc
        have HY := Lib.hid hy.symm; clear hy
        go_wp2_with fail
        refine (join_any X Y (by rw [HX.out, tx_size]; exact GL.out) (by rw [HY.out, tx_size]; have := PN.out; omega) _).mono ?_
        rintro e w7 ⟨rfl, e7⟩
        have hr : tx (join X.toList Y.toList) = tx (glue ((cut a.toList).take (k + 1))) := by rw [HX.out, HY.out, tx_list, tx_list, JS.out]
        have HR := Lib.hid hr; clear hr cc
        have E7 := Lib.hid (he.trans e7)
        generalize tx (join X.toList Y.toList) = Z at *
        go_wp2
        exact ⟨⟨k + 1, Hlt.out, rfl, by rw [HR.out], E7.out⟩, by simp [intOf]; omega⟩
      · obtain rfl : k = L := by omega
        clear hlt
        have fa : tx (glue ((cut a.toList).take k)) = a := by rw [HLn.out, List.take_length, glue_cut, list_tx]
        rw [fa]
        clear fa
        have u0 : under a.toList (⟨#[]⟩ : ByteArray).toList = true := by
          rw [show (⟨#[]⟩ : ByteArray).toList = [] from ByteArray.toList_mk []]
          rw [under_root]; exact HV.out
        have hE := H6.out.trans he
        clear HV H6 he X3
        go_wp2_with (first | (go_at_call 21; refine (under_acc _ _ hE).mono ?_; rintro e w' ⟨rfl, hE⟩; rw [u0]) | (go_at_call 9; refine (awake_acc hE).mono ?_; rintro e w' ⟨rfl, hE⟩))
        go_ret
        exact ⟨rfl, hE⟩
end Go.Proofs.YtibhbobdofmafaaDoor
