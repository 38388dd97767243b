/- Contract of crashed. -/
import Derived.Test.YtbneedmfpldpfaaDoorSi
import Derived.Deep.OwnRows
set_option linter.unusedSimpArgs false
namespace Go.Proofs.YtbneedmfpldpfaaDoor
open Go.RowKit Go.Pth

/-- A pick's digit. -/
def digit (pick : Int) (s : Nat) : Bool := bits .and .i64 (pick / 2 ^ (s % 30)) 1 == 1
def cstep (now : List Int) (loose : List Bool) (pick : Int) (st : List Int × Nat) (k : Nat) : List Int × Nat :=
  if loose[k]?.getD false then (if digit pick st.2 then (splice st.1 (16 * k) ((now.drop (16 * k)).take 16), st.2 + 1) else (st.1, st.2 + 1)) else st
def crun (now kept : List Int) (loose : List Bool) (pick : Int) (k : Nat) : List Int × Nat := (List.range k).foldl (cstep now loose pick) (kept, 0)
theorem crun_succ (now kept : List Int) (loose : List Bool) (pick : Int) (k : Nat) : crun now kept loose pick (k + 1) = cstep now loose pick (crun now kept loose pick k) k := by
  unfold crun; rw [List.range_succ, List.foldl_append]; rfl
theorem crun_zero (now kept : List Int) (loose : List Bool) (pick : Int) : crun now kept loose pick 0 = (kept, 0) := rfl
theorem cstep_len {now : List Int} {loose : List Bool} {pick : Int} {st : List Int × Nat} {k : Nat} (h : st.1.length = now.length) (hk : 16 * k ≤ now.length) : (cstep now loose pick st k).1.length = now.length ∧ (cstep now loose pick st k).2 ≤ st.2 + 1 := by
  unfold cstep
  split
  · split
    · refine ⟨?_, Nat.le_refl _⟩
      rw [splice_len]
      · exact h
      · simp; omega
    · exact ⟨h, Nat.le_refl _⟩
  · exact ⟨h, Nat.le_succ _⟩
theorem crun_len {now kept : List Int} {loose : List Bool} {pick : Int} (h : kept.length = now.length) (hl : loose.length = secs now.length) : ∀ k, k ≤ loose.length → (crun now kept loose pick k).1.length = now.length ∧ (crun now kept loose pick k).2 ≤ k
  | 0, _ => ⟨h, Nat.le_refl _⟩
  | k + 1, hk => by
    have ih := crun_len (pick := pick) h hl k (by omega)
    rw [crun_succ]
    have := cstep_len (loose := loose) (pick := pick) (k := k) ih.1 (by rw [hl] at hk; unfold secs at hk; omega)
    exact ⟨this.1, by omega⟩
def NV.crash (N : NV) (pick : Int) : NV :=
  ⟨N.kind, N.mt, N.stamp, (crun N.now N.kept N.loose pick N.loose.length).1, (crun N.now N.kept N.loose pick N.loose.length).1, List.replicate N.loose.length false⟩

/-- A piece of bytes copied to the same place of others. -/
theorem copy_seg {w : World} {gb kb gn kn n : Nat} {l now : List Int} (hb : Row w 5 1 (.slice (some ⟨gb, 0, none⟩) n kb) n (bts l)) (hn : Row w 5 1 (.slice (some ⟨gn, 0, none⟩) n kn) n (bts now)) (A m c1 c2 : Nat) (h : A + m ≤ n) (ty : TypeId) :
    (Builtin.copy_ #[22, 22] ty #[.slice (some ⟨gb, A, none⟩) m c1, .slice (some ⟨gn, A, none⟩) m c2]).run Tryd.prog w = .ok (.int .i64 m) (w.setCells gb A (bts ((now.drop A).take m))) := by
  have sz : (Tryd.prog.info? 5).map (·.size) = some 1 := by kernel_rfl
  have hln : now.length = n := by have := hn.1; simpa [bts_len] using this
  have hml : (bts ((now.drop A).take m)).length = m := by rw [bts_len]; simp; omega
  have := run_copy_cells (P := Tryd.prog) w 22 22 ty 5 gb A m c1 ⟨gn, A, none⟩ m c2 (bts ((now.drop A).take m)) Tryd.underlying22 sz (by rw [hml]; simp) (fun j u hu => by
      have hj := (List.getElem?_eq_some_iff.1 hu).1
      rw [hml] at hj
      rw [Addr.add_lit, (Row.cell hn (A + j) (by omega)).1, ← hu]
      simp only [bts, List.getElem?_map, List.getElem?_take_of_lt hj, List.getElem?_drop]) (fun j hj => by
      rw [hml] at hj
      have hl : l.length = n := by have := hb.1; simpa [bts_len] using this
      rw [(Row.cell hb (A + j) (by omega)).1, List.getElem?_eq_getElem (by rw [bts_len]; omega)]; rfl) (fun j hj => by rw [hml] at hj; exact (Row.cell hb (A + j) (by omega)).2) (bts_one _)
  rw [hml] at this
  exact this
/-- Either of two may come up. -/
theorem nextS2 {P : Program} {ops : Array Oper} {Q : Exit → Act → World → Prop} {md : Region.Mode} {S : World → Prop} (i j : Nat) {oi oj : Oper} {fuel : Nat} {listed : Array Bool} {a : Act} {w : World} (hi : ops[i]? = some oi) (hj : ops[j]? = some oj)
    (hr : Region.ready md ops listed = [i, j]) (hw1 : Region.wanted oi (yielded ops a.tmps) = true) (hw2 : Region.wanted oj (yielded ops a.tmps) = true)
    (h1 : oi.wp P a w (fun a' w' => S w' ∧ wpAnyH P md ops Q S fuel (listed.setIfInBounds i true) a' w') Q)
    (h2 : oj.wp P a w (fun a' w' => S w' ∧ wpAnyH P md ops Q S fuel (listed.setIfInBounds j true) a' w') Q) : wpAnyH P md ops Q S (fuel + 1) listed a w := by
  refine wpAnyH_all hr (by simp) fun k hk => ?_
  rcases List.mem_cons.1 hk with rfl | hk
  · refine wpOp_step hi fun K hK => ?_
    rw [if_pos hw1]
    exact Oper.wp_mono (fun a' w' h' => hK a' w' h') h1
  · obtain rfl : k = j := by simpa using hk
    refine wpOp_step hj fun K hK => ?_
    rw [if_pos hw2]
    exact Oper.wp_mono (fun a' w' h' => hK a' w' h') h2
theorem made_row (w : World) (n : Nat) (hn : n ≤ 1000000) : Row (w.alloc (.cells (madeCells #[.bool false] n) 4)) 4 1 (.slice (some ⟨w.heap.size, 0, none⟩) n n) n (bls (List.replicate n false)) := by
  have e : (madeCells #[Value.bool false] n).toList = List.replicate n (.bool false) := by
    apply List.ext_getElem
    · simp [madeCells]
    · intro i h1 h2
      simp [madeCells, Nat.mod_one]
  refine ⟨by simp [bls], .inr ⟨w.heap.size, n, _, rfl, Nat.zero_le _, heap_alloc_last w _, Nat.le_refl _, by simp only [maxLen]; omega, by rw [← Array.length_toList, e]; simp, by rw [e]; simp [bls]⟩⟩
/-- The new node. -/
theorem crash_fin {w wr W : World} {vb v4 : Value} {m k : Nat} {c : List Int} {nk nm ns : Int} (he : Ext w wr) (hW : Ext wr W) (rb : Row wr 5 1 vb c.length (bts c)) (hb : ∀ q, vb.ownBlock = some q → w.heap.size ≤ q)
    (r4 : Row W 5 1 v4 c.length (bts c)) (h4 : ∀ q, v4.ownBlock = some q → wr.heap.size ≤ q) (rm : Row W 4 1 (.slice (some ⟨m, 0, none⟩) k k) k (bls (List.replicate k false))) (hm : wr.heap.size ≤ m) (hne : v4.ownBlock ≠ some m) :
    ∃ V', NdIn (W.alloc (.cells #[.int .i64 nk, .int .i64 nm, .int .u64 ns, vb, v4, .slice (some ⟨m, 0, none⟩) k k] 58)) W.heap.size ⟨nk, nm, ns, c, c, List.replicate k false⟩ V' ∧
      Ext w (W.alloc (.cells #[.int .i64 nk, .int .i64 nm, .int .u64 ns, vb, v4, .slice (some ⟨m, 0, none⟩) k k] 58)) ∧ ∀ i, Foot W.heap.size V' i → w.heap.size ≤ i := by
  have E := Ext.alloc W (.cells #[.int .i64 nk, .int .i64 nm, .int .u64 ns, vb, v4, .slice (some ⟨m, 0, none⟩) k k] 58)
  have rb2 := rb.ext hW
  have ml := rm.lt m rfl
  refine ⟨⟨vb, v4, .slice (some ⟨m, 0, none⟩) k k⟩, ⟨At.new _ _ _, rb2.ext E, r4.ext E, by rw [List.length_replicate]; exact rm.ext E, fun e => by have := rb2.lt _ e; omega, fun e => by have := r4.lt _ e; omega, fun e => by have e2 : (some m : Option Nat) = some W.heap.size := e; injection e2; omega, fun g h1 h2 => by have a1 := rb.lt g h1; have a2 := h4 g h2; omega, fun g h1 h2 => by have a1 := rb.lt g h1; have e2 : (some m : Option Nat) = some g := h2; injection e2; omega, fun g h1 h2 => by injection h2 with h2; subst h2; exact hne h1⟩, (he.trans hW).trans E, fun i hi => ?_⟩
  have s1 := he.size
  have s2 := hW.size
  rcases hi with e | e | e | e
  · omega
  · exact hb i e
  · have := h4 i e; omega
  · have e2 : (some m : Option Nat) = some i := e
    injection e2; omega
/-- The loop's state: bytes of the call's own, sectors seen. -/
def InvCr (w : World) (N : NV) (pick : Int) (vb : Value) (s6 s21 : Value) (wr : World) : Prop :=
  ∃ k : Nat, k ≤ N.loose.length ∧ s21 = .int .i64 k ∧ s6 = .int .i64 (crun N.now N.kept N.loose pick k).2 ∧ Row wr 5 1 vb N.now.length (bts (crun N.now N.kept N.loose pick k).1) ∧ Ext w wr
set_option maxRecDepth 100000 in
set_option maxHeartbeats 8000000 in
theorem crashed_any (a : Nat) (N : NV) (V : Vs) (pick : Int) (w : World) (h : NdIn w a N V) (ok : N.Ok) (hp : -9223372036854775808 ≤ pick ∧ pick ≤ 9223372036854775807) :
    Calls Tryd.prog 37 #[ptr a, .int .i64 pick] w fun e w' => ∃ a' V', e = .returned (ptr a') ∧ NdIn w' a' (N.crash pick) V' ∧ Ext w w' ∧ ∀ i, Foot a' V' i → w.heap.size ≤ i := by
  have hkl := ok.kl
  have hll := ok.ll
  have hlen := ok.len
  have c4 := h.c 4
  simp only [ncells] at c4
  have CL := Lib.hid (cloneb_any V.k N.kept w h.k (by omega))
  have H := Lib.hid h
  have OK := Lib.hid ok
  have CRL := Lib.hid (fun k hk => crun_len (pick := pick) hkl hll k hk)
  obtain ⟨NN, hNN⟩ : ∃ NN, NN = N.now.length := ⟨_, rfl⟩
  have HNN := Lib.hid hNN
  have HKN := Lib.hid (show N.kept.length = NN by rw [hNN]; exact hkl)
  rw [HKN.out] at CL
  rw [← hNN] at hlen hll
  clear h ok hNN hkl
  unfold ptr
  obtain ⟨p1, p2⟩ := hp
  go_enter Tryd.func37, Tryd.ntmps37
  go_wp2
  go_step3
  go_wp2_with fail
  refine (CL.out).mono ?_
  rintro e w1 ⟨vb, rfl, rb, hE, hfr⟩
  obtain ⟨db, kb, hvb, -⟩ := rb.shape
  have RB := Lib.hid rb
  have HE := Lib.hid hE
  have HFR := Lib.hid hfr
  have c5 := hE.cell (show w.cell? ⟨a, 5, none⟩ = some V.l by rw [H.out.c 5]; rfl)
  obtain ⟨dl, kl, hvl, -⟩ := H.out.l.shape
  rw [hvl] at c5
  have HVL := Lib.hid hvl
  clear rb hE hfr CL c4
  subst hvb
  obtain ⟨NL, hNL⟩ : ∃ NL, NL = N.loose.length := ⟨_, rfl⟩
  have HNL := Lib.hid hNL
  rw [← hNL] at c5 hll
  clear hNL hvl
  have hNL2 : NL ≤ 65536 := by rw [hll]; unfold secs; omega
  clear hll
  go_wp2
  go_step3
  go_wp2
  have hst : InvCr w N pick (.slice db NN kb) (.int .i64 0) (.int .i64 0) w1 := ⟨0, Nat.zero_le _, rfl, rfl, by rw [crun_zero, ← HNN.out]; exact RB.out, HE.out⟩
  have HST := Lib.hid hst
  clear hst RB
  go_loopw [6, 21] (fun s6 s21 wr => InvCr w N pick (.slice db NN kb) s6 s21 wr) (fun _ s21 _ => NL - (intOf s21).toNat)
  case atStart => exact HST.out
  case round =>
    obtain ⟨k, hk, rfl, rfl, hrw, hex⟩ := hrel
    rw [← HNL.out] at hk
    have HRW := Lib.hid hrw
    have HEX := Lib.hid hex
    have hse := (CRL.out k (by rw [← HNL.out]; exact hk)).2
    clear hrw hex
    by_cases hlt : k < NL
    · have hkl2 : k < N.loose.length := by rw [← HNL.out]; exact hlt
      obtain ⟨gl, kl', hvl', -⟩ := Row.own H.out.l (by omega : 0 < N.loose.length)
      have rl := H.out.l
      rw [hvl'] at rl
      have cl := HEX.out.cell (show w.cell? ⟨gl, k, none⟩ = some (.bool N.loose[k]) by rw [(Row.cell rl k hkl2).1, bls, List.getElem?_map, List.getElem?_eq_getElem hkl2]; rfl)
      have hdl : dl = some ⟨gl, 0, none⟩ := by
        have := HVL.out
        rw [hvl'] at this
        injection this with h1 h2 h3
        exact h1.symm
      subst hdl
      have i0 : (0 : Int) ≤ (k : Int) := by omega
      have i1 : (k : Int) < (NL : Int) := by omega
      have st := crun_succ N.now N.kept N.loose pick k
      unfold cstep at st
      rw [List.getElem?_eq_getElem hkl2, Option.getD_some] at st
      have CL2 := Lib.hid (CRL.out (k + 1) (by omega))
      clear rl HVL HST
      generalize hcr : crun N.now N.kept N.loose pick k = cr at *
      have HCR := Lib.hid hcr
      clear hcr
      cases hb : N.loose[k] with
      | false =>
        rw [hb] at cl
        simp only [hb] at st
        have ST := Lib.hid st
        clear st
        go_wp2
        refine ⟨⟨k + 1, by rw [← HNL.out]; omega, rfl, by rw [ST.out]; rfl, by rw [ST.out]; exact HRW.out, HEX.out⟩, by simp [intOf]; omega⟩
      | true =>
        rw [hb] at cl
        simp only [hb, if_true] at st
        have ST := Lib.hid st
        clear st
        obtain ⟨se, hse2⟩ : ∃ se, se = cr.2 := ⟨_, rfl⟩
        rw [← hse2] at hse ST ⊢
        have HSE := Lib.hid hse2
        clear hse2
        have hAN : 16 * k < NN := by have := OK.out.ll; rw [← HNL.out, ← HNN.out] at this; unfold secs at this; omega
        have rb := HRW.out
        rw [← HNN.out] at rb
        obtain ⟨gb, kb', hvb', hkb1, hkb2⟩ := Row.own rb (by omega : 0 < NN)
        injection hvb' with e1 e2 e3
        subst e1 e3
        have rn0 := H.out.n
        rw [← HNN.out] at rn0
        obtain ⟨gn, kn, hvn, hkn1, hkn2⟩ := Row.own rn0 (by omega : 0 < NN)
        simp only [maxLen] at hkb2 hkn2
        have rn := rn0.ext HEX.out
        rw [hvn] at rn
        have c3 := HEX.out.cell (show w.cell? ⟨a, 3, none⟩ = some (.slice (some ⟨gn, 0, none⟩) NN kn) by rw [H.out.c 3, ← hvn]; rfl)
        clear rn0
        cases hd : digit pick se with
        | false =>
          have ST2 := ST.out
          rw [hd] at ST2
          simp only [Bool.false_eq_true, if_false] at ST2
          have ST3 := Lib.hid ST2
          unfold digit at hd
          clear ST2 ST rb rn e2
          go_wp2
          refine ⟨⟨k + 1, by rw [← HNL.out]; omega, rfl, by rw [ST3.out]; rfl, ?_, HEX.out⟩, by simp [intOf]; omega⟩
          rw [ST3.out]; exact HRW.out
        | true =>
          have ST2 := ST.out
          rw [hd] at ST2
          simp only [if_true] at ST2
          have ST3 := Lib.hid ST2
          unfold digit at hd
          obtain ⟨A, hA⟩ : ∃ A, A = 16 * k := ⟨_, rfl⟩
          obtain ⟨E, hE2⟩ : ∃ E, E = min (A + 16) NN := ⟨_, rfl⟩
          have m1 := Lib.hid (show (k : Int) * 16 = (A : Int) by omega)
          have m2 := Lib.hid (show min (((k : Int) + 1) * 16) (NN : Int) = (E : Int) by omega)
          have hAE : A < E := by omega
          have hEN : E ≤ NN := by omega
          have seg : (N.now.drop (16 * k)).take 16 = (N.now.drop A).take (E - A) := by
            rw [hA]
            by_cases hc : A + 16 ≤ NN
            · rw [show E - 16 * k = 16 by omega]
            · have hq := HNN.out; rw [List.take_of_length_le (by simp; omega), List.take_of_length_le (by simp; omega)]
          have CP := Lib.hid (fun W (hw : Ext wr W) => copy_seg (rb.ext hw) (rn.ext hw) A (E - A) (kb - A) (kn - A) (by omega) 3)
          have sl := Row.sets (rb.ext (Ext.drew wr)) A (bts ((N.now.drop A).take (E - A))) (by rw [bts_len]; have hq := HNN.out; simp; omega)
          rw [bts_splice] at sl
          have HSL := Lib.hid sl
          have HSG := Lib.hid seg
          clear seg
          have hne : gb ≠ a := fun e => by
            have h1 := H.out.cells.lt
            have h2 := HFR.out gb rfl
            omega
          have hgw := Lib.hid (HFR.out gb rfl)
          have HA2 := Lib.hid hA
          clear ST2 ST rb rn e2 sl hA hE2
          go_upto_region 8 with fail
          go_upto_region 9 with fail
          rw [m1.out, m2.out]
          have s0 : (0 : Int) ≤ (A : Int) := by omega
          have s1 : (A : Int) ≤ (E : Int) := by omega
          have s2 : (E : Int) ≤ (kb : Int) := by omega
          have s3 : (E : Int) ≤ (kn : Int) := by omega
          have s4 : ¬ kb = A := by omega
          have s5 : ¬ kn = A := by omega
          have hS : wr.drew.cell? ⟨a, 3, none⟩ = some (.slice (some ⟨gn, 0, none⟩) NN kn) := c3
          refine wp_region_held (S := fun w' => w'.cell? ⟨a, 3, none⟩ = some (.slice (some ⟨gn, 0, none⟩) NN kn)) (by kernel_rfl) ?_
          change wpAnyH _ _ _ _ _ _ _ _ (World.drew _)
          refine takeS 0 (some 44) (.slice (some ⟨gb, 0, none⟩) NN kb) rfl rfl (by kernel_rfl) (by kernel_rfl) (by kernel_rfl) (fun _ _ _ h => h) rfl hS (fun w' hw' => by go_simp) ?_
          simp only [Act.put, List.setIfInBounds_toArray, List.set_cons_zero, List.set_cons_succ]
          refine takeS 1 (some 45) (.int .i64 (A : Int)) rfl rfl (by kernel_rfl) (by kernel_rfl) (by kernel_rfl) (fun _ _ _ h => h) rfl hS (fun w' hw' => by go_simp) ?_
          simp only [Act.put, List.setIfInBounds_toArray, List.set_cons_zero, List.set_cons_succ]
          refine takeS 2 (some 46) (.int .i64 (E : Int)) rfl rfl (by kernel_rfl) (by kernel_rfl) (by kernel_rfl) (fun _ _ _ h => h) rfl hS (fun w' hw' => by go_simp) ?_
          simp only [Act.put, List.setIfInBounds_toArray, List.set_cons_zero, List.set_cons_succ]
          refine takeS 3 (some 47) (.slice (some ⟨gb, A, none⟩) (E - A) (kb - A)) rfl rfl (by kernel_rfl) (by kernel_rfl) (by kernel_rfl) (fun _ _ _ h => h) rfl hS (fun w' hw' => by go_simp) ?_
          simp only [Act.put, List.setIfInBounds_toArray, List.set_cons_zero, List.set_cons_succ]
          refine takeS 4 (some 48) (.pointer (some ⟨a, 0, none⟩)) rfl rfl (by kernel_rfl) (by kernel_rfl) (by kernel_rfl) (fun _ _ _ h => h) rfl hS (fun w' hw' => by go_simp) ?_
          simp only [Act.put, List.setIfInBounds_toArray, List.set_cons_zero, List.set_cons_succ]
          refine takeS 5 (some 49) (.pointer (some ⟨a, 0, none⟩)) rfl rfl (by kernel_rfl) (by kernel_rfl) (by kernel_rfl) (fun _ _ _ h => h) rfl hS (fun w' hw' => by go_simp) ?_
          simp only [Act.put, List.setIfInBounds_toArray, List.set_cons_zero, List.set_cons_succ]
          refine takeS 6 (some 50) (.pointer (some ⟨a, 3, none⟩)) rfl rfl (by kernel_rfl) (by kernel_rfl) (by kernel_rfl) (fun _ _ _ h => h) rfl hS (fun w' hw' => by go_simp) ?_
          simp only [Act.put, List.setIfInBounds_toArray, List.set_cons_zero, List.set_cons_succ]
          refine takeS 7 (some 51) (.slice (some ⟨gn, 0, none⟩) NN kn) rfl rfl (by kernel_rfl) (by kernel_rfl) (by kernel_rfl) (fun _ _ _ h => h) rfl hS (fun w' hw' => by go_simp) ?_
          simp only [Act.put, List.setIfInBounds_toArray, List.set_cons_zero, List.set_cons_succ]
          refine takeS 8 (some 52) (.int .i64 (A : Int)) rfl rfl (by kernel_rfl) (by kernel_rfl) (by kernel_rfl) (fun _ _ _ h => h) rfl hS (fun w' hw' => by go_simp) ?_
          simp only [Act.put, List.setIfInBounds_toArray, List.set_cons_zero, List.set_cons_succ]
          refine takeS 9 (some 53) (.int .i64 (E : Int)) rfl rfl (by kernel_rfl) (by kernel_rfl) (by kernel_rfl) (fun _ _ _ h => h) rfl hS (fun w' hw' => by go_simp) ?_
          simp only [Act.put, List.setIfInBounds_toArray, List.set_cons_zero, List.set_cons_succ]
          refine takeS 10 (some 54) (.slice (some ⟨gn, A, none⟩) (E - A) (kn - A)) rfl rfl (by kernel_rfl) (by kernel_rfl) (by kernel_rfl) (fun _ _ _ h => h) rfl hS (fun w' hw' => by go_simp) ?_
          simp only [Act.put, List.setIfInBounds_toArray, List.set_cons_zero, List.set_cons_succ]
          refine nextS 11 rfl (by kernel_rfl) rfl ?_
          have cpr := CP.out wr.drew (Ext.drew wr)
          refine runV (some 55) rfl (.int .i64 ((E - A : Nat) : Int)) (wr.drew.setCells gb A (bts ((N.now.drop A).take (E - A)))) (by go_simp) ?_
          have hchg := Chg.sets gb (bts ((N.now.drop A).take (E - A))) A wr.drew
          refine ⟨hchg.cell hS (fun e => hne e.symm), ?_⟩
          simp only [Act.put, List.setIfInBounds_toArray, List.set_cons_zero, List.set_cons_succ]
          refine wpAnyH_done (by kernel_rfl) ?_ _
          have EX2 := Lib.hid (show Ext w (wr.drew.setCells gb A (bts ((N.now.drop A).take (E - A)))) from
            (((Chg.of_ext (X := fun _ => False) (HEX.out.trans (Ext.drew wr)))).trans hchg (fun i hi e => by have := hgw.out; omega)).ext)
          clear cpr hchg CP hS cl c3
          go_wp2
          refine ⟨⟨k + 1, by rw [← HNL.out]; omega, rfl, by rw [ST3.out]; rfl, ?_, EX2.out⟩, by simp [intOf]; omega⟩
          rw [ST3.out, ← HNN.out]
          show Row _ 5 1 _ _ (bts (splice cr.1 (16 * k) _))
          rw [HSG.out, ← HA2.out]; exact HSL.out
    · obtain rfl : k = NL := by omega
      clear hlt
      have crl := CRL.out k (by rw [HNL.out]; exact Nat.le_refl _)
      have FE : Hid (N.crash pick = ⟨N.kind, N.mt, N.stamp, (crun N.now N.kept N.loose pick k).1, (crun N.now N.kept N.loose pick k).1, List.replicate k false⟩) := Lib.hid (by unfold NV.crash; rw [HNL.out])
      generalize hcr : crun N.now N.kept N.loose pick k = cr at *
      clear hcr
      have rb := HRW.out
      rw [← HNN.out] at rb
      have L1 := Lib.hid (show cr.1.length = NN by rw [HNN.out]; exact crl.1)
      have k0 := HEX.out.cell (show w.cell? ⟨a, 0, none⟩ = some (.int .i64 N.kind) by rw [H.out.c 0]; rfl)
      have k1 := HEX.out.cell (show w.cell? ⟨a, 1, none⟩ = some (.int .i64 N.mt) by rw [H.out.c 1]; rfl)
      have k2 := HEX.out.cell (show w.cell? ⟨a, 2, none⟩ = some (.int .u64 N.stamp) by rw [H.out.c 2]; rfl)
      have k5 := HEX.out.cell (show w.cell? ⟨a, 5, none⟩ = some (.slice dl k kl) by rw [H.out.c 5]; simp only [ncells]; rw [HVL.out, ← HNL.out]; rfl)
      have CB := Lib.hid (fun W (hw : Ext wr W) => cloneb_any (.slice db NN kb) cr.1 W (by rw [L1.out]; exact rb.ext hw) (by rw [L1.out]; omega))
      rw [L1.out] at CB
      have MK := Lib.hid (fun W => run_make_row' (P := Tryd.prog) 56 4 (.bool false) 1 Tryd.underlying56 info4 rfl .i64 .i64 k (by omega) (by omega) W)
      have RB2 := Lib.hid rb
      clear crl rb CRL HST hse OK
      generalize N.kind = nk at *
      generalize N.mt = nm at *
      generalize N.stamp = ns at *
      have hS : Ext wr wr.drew := Ext.drew wr
      go_upto_region 12 with fail
      refine wp_region_held (S := fun w' => Ext wr w') (by kernel_rfl) ?_
      change wpAnyH _ _ _ _ _ _ _ _ (World.drew _)
      refine takeS 0 (some 59) (.pointer (some ⟨a, 0, none⟩)) rfl rfl (by kernel_rfl) (by kernel_rfl) (by kernel_rfl) (fun _ _ _ h => h) rfl hS (fun w' hw' => by go_simp) ?_
      simp only [Act.put, List.setIfInBounds_toArray, List.set_cons_zero, List.set_cons_succ]
      refine takeS 1 (some 60) (.pointer (some ⟨a, 0, none⟩)) rfl rfl (by kernel_rfl) (by kernel_rfl) (by kernel_rfl) (fun _ _ _ h => h) rfl hS (fun w' hw' => by go_simp) ?_
      simp only [Act.put, List.setIfInBounds_toArray, List.set_cons_zero, List.set_cons_succ]
      refine takeS 2 (some 61) (.pointer (some ⟨a, 0, none⟩)) rfl rfl (by kernel_rfl) (by kernel_rfl) (by kernel_rfl) (fun _ _ _ h => h) rfl hS (fun w' hw' => by go_simp) ?_
      simp only [Act.put, List.setIfInBounds_toArray, List.set_cons_zero, List.set_cons_succ]
      refine takeS 3 (some 62) (.int .i64 nk) rfl rfl (by kernel_rfl) (by kernel_rfl) (by kernel_rfl) (fun _ _ _ h => h) rfl hS (fun w' hw' => by have := hw'.cell k0; go_simp) ?_
      simp only [Act.put, List.setIfInBounds_toArray, List.set_cons_zero, List.set_cons_succ]
      refine takeS 4 (some 63) (.pointer (some ⟨a, 0, none⟩)) rfl rfl (by kernel_rfl) (by kernel_rfl) (by kernel_rfl) (fun _ _ _ h => h) rfl hS (fun w' hw' => by go_simp) ?_
      simp only [Act.put, List.setIfInBounds_toArray, List.set_cons_zero, List.set_cons_succ]
      refine takeS 5 (some 64) (.pointer (some ⟨a, 0, none⟩)) rfl rfl (by kernel_rfl) (by kernel_rfl) (by kernel_rfl) (fun _ _ _ h => h) rfl hS (fun w' hw' => by go_simp) ?_
      simp only [Act.put, List.setIfInBounds_toArray, List.set_cons_zero, List.set_cons_succ]
      refine takeS 6 (some 65) (.pointer (some ⟨a, 1, none⟩)) rfl rfl (by kernel_rfl) (by kernel_rfl) (by kernel_rfl) (fun _ _ _ h => h) rfl hS (fun w' hw' => by go_simp) ?_
      simp only [Act.put, List.setIfInBounds_toArray, List.set_cons_zero, List.set_cons_succ]
      refine takeS 7 (some 66) (.int .i64 nm) rfl rfl (by kernel_rfl) (by kernel_rfl) (by kernel_rfl) (fun _ _ _ h => h) rfl hS (fun w' hw' => by have := hw'.cell k1; go_simp) ?_
      simp only [Act.put, List.setIfInBounds_toArray, List.set_cons_zero, List.set_cons_succ]
      refine takeS 8 (some 67) (.pointer (some ⟨a, 0, none⟩)) rfl rfl (by kernel_rfl) (by kernel_rfl) (by kernel_rfl) (fun _ _ _ h => h) rfl hS (fun w' hw' => by go_simp) ?_
      simp only [Act.put, List.setIfInBounds_toArray, List.set_cons_zero, List.set_cons_succ]
      refine takeS 9 (some 68) (.pointer (some ⟨a, 0, none⟩)) rfl rfl (by kernel_rfl) (by kernel_rfl) (by kernel_rfl) (fun _ _ _ h => h) rfl hS (fun w' hw' => by go_simp) ?_
      simp only [Act.put, List.setIfInBounds_toArray, List.set_cons_zero, List.set_cons_succ]
      refine takeS 10 (some 69) (.pointer (some ⟨a, 2, none⟩)) rfl rfl (by kernel_rfl) (by kernel_rfl) (by kernel_rfl) (fun _ _ _ h => h) rfl hS (fun w' hw' => by go_simp) ?_
      simp only [Act.put, List.setIfInBounds_toArray, List.set_cons_zero, List.set_cons_succ]
      refine takeS 11 (some 70) (.int .u64 ns) rfl rfl (by kernel_rfl) (by kernel_rfl) (by kernel_rfl) (fun _ _ _ h => h) rfl hS (fun w' hw' => by have := hw'.cell k2; go_simp) ?_
      simp only [Act.put, List.setIfInBounds_toArray, List.set_cons_zero, List.set_cons_succ]
      refine takeS 12 (some 71) (.slice db NN kb) rfl rfl (by kernel_rfl) (by kernel_rfl) (by kernel_rfl) (fun _ _ _ h => h) rfl hS (fun w' hw' => by go_simp) ?_
      simp only [Act.put, List.setIfInBounds_toArray, List.set_cons_zero, List.set_cons_succ]
      refine takeS 13 (some 72) (.slice db NN kb) rfl rfl (by kernel_rfl) (by kernel_rfl) (by kernel_rfl) (fun _ _ _ h => h) rfl hS (fun w' hw' => by go_simp) ?_
      simp only [Act.put, List.setIfInBounds_toArray, List.set_cons_zero, List.set_cons_succ]
      refine takeS 15 (some 74) (.pointer (some ⟨a, 0, none⟩)) rfl rfl (by kernel_rfl) (by kernel_rfl) (by kernel_rfl) (fun _ _ _ h => h) rfl hS (fun w' hw' => by go_simp) ?_
      simp only [Act.put, List.setIfInBounds_toArray, List.set_cons_zero, List.set_cons_succ]
      refine takeS 16 (some 75) (.pointer (some ⟨a, 0, none⟩)) rfl rfl (by kernel_rfl) (by kernel_rfl) (by kernel_rfl) (fun _ _ _ h => h) rfl hS (fun w' hw' => by go_simp) ?_
      simp only [Act.put, List.setIfInBounds_toArray, List.set_cons_zero, List.set_cons_succ]
      refine takeS 17 (some 76) (.pointer (some ⟨a, 5, none⟩)) rfl rfl (by kernel_rfl) (by kernel_rfl) (by kernel_rfl) (fun _ _ _ h => h) rfl hS (fun w' hw' => by go_simp) ?_
      simp only [Act.put, List.setIfInBounds_toArray, List.set_cons_zero, List.set_cons_succ]
      refine takeS 18 (some 77) (.slice dl k kl) rfl rfl (by kernel_rfl) (by kernel_rfl) (by kernel_rfl) (fun _ _ _ h => h) rfl hS (fun w' hw' => by have := hw'.cell k5; go_simp) ?_
      simp only [Act.put, List.setIfInBounds_toArray, List.set_cons_zero, List.set_cons_succ]
      refine takeS 19 (some 78) (.int .i64 (k : Int)) rfl rfl (by kernel_rfl) (by kernel_rfl) (by kernel_rfl) (fun _ _ _ h => h) rfl hS (fun w' hw' => by go_simp) ?_
      simp only [Act.put, List.setIfInBounds_toArray, List.set_cons_zero, List.set_cons_succ]
      refine nextS2 14 20 rfl rfl (by kernel_rfl) rfl rfl ?_ ?_
      · refine callS (some 73) rfl 58 #[.slice db NN kb] (by go_simp) (fun v' w' => Row w' 5 1 v' NN (bts cr.1) ∧ Ext wr.drew w' ∧ ∀ q, v'.ownBlock = some q → wr.heap.size ≤ q) ((CB.out _ hS).mono fun e w' ⟨v', h1, h2, h3, h4⟩ => ⟨v', h1, h2, h3, h4⟩) ?_
        rintro v4 w4 ⟨r4, e4, f4⟩
        refine ⟨hS.trans e4, ?_⟩
        simp only [Act.put, List.setIfInBounds_toArray, List.set_cons_zero, List.set_cons_succ]
        refine nextS 20 rfl (by kernel_rfl) rfl ?_
        have mk := MK.out w4
        refine runV (some 79) rfl (.slice (some ⟨w4.heap.size, 0, none⟩) k k) (w4.alloc (.cells (madeCells #[.bool false] k) 4)) (by go_simp) ?_
        have hSx : Ext wr (w4.alloc (.cells (madeCells #[.bool false] k) 4)) := (hS.trans e4).trans (Ext.alloc _ _)
        refine ⟨hSx, ?_⟩
        simp only [Act.put, List.setIfInBounds_toArray, List.set_cons_zero, List.set_cons_succ]
        obtain ⟨d4, q4, hv4, -⟩ := r4.shape
        subst hv4
        obtain ⟨V9, f1, f2, f3⟩ := crash_fin (nk := nk) (nm := nm) (ns := ns) (c := cr.1) HEX.out hSx (by rw [L1.out]; exact RB2.out) HFR.out (by rw [L1.out]; exact r4.ext (Ext.alloc _ _)) f4 (made_row w4 k (by omega)) (by have := (hS.trans e4).size; omega) (fun e => by have := r4.lt _ e; omega)
        generalize hW4 : w4.alloc (.cells (madeCells #[.bool false] k) 4) = W4 at *
        have HW4 := Lib.hid hW4
        clear hW4 mk
        generalize w4.heap.size = m4 at *
        refine takeS 21 (some 80) (.agg #[.int .i64 nk, .int .i64 nm, .int .u64 ns, .slice db NN kb, .slice d4 NN q4, .slice (some ⟨m4, 0, none⟩) k k]) rfl rfl (by kernel_rfl) (by kernel_rfl) (by kernel_rfl) (fun _ _ _ h => h) rfl hSx (fun w' hw' => by go_simp) ?_
        simp only [Act.put, List.setIfInBounds_toArray, List.set_cons_zero, List.set_cons_succ]
        refine nextS 22 rfl (by kernel_rfl) rfl ?_
        refine runV (some 81) rfl (.pointer (some ⟨W4.heap.size, 0, none⟩)) (W4.alloc (.cells #[.int .i64 nk, .int .i64 nm, .int .u64 ns, .slice db NN kb, .slice d4 NN q4, .slice (some ⟨m4, 0, none⟩) k k] 58)) (by go_simp) ?_
        refine ⟨hSx.trans (Ext.alloc _ _), ?_⟩
        simp only [Act.put, List.setIfInBounds_toArray, List.set_cons_zero, List.set_cons_succ]
        refine takeS 23 (some 4) (.pointer (some ⟨W4.heap.size, 0, none⟩)) rfl rfl (by kernel_rfl) (by kernel_rfl) (by kernel_rfl) (fun _ _ _ h => h) rfl (hSx.trans (Ext.alloc _ _)) (fun w' hw' => by go_simp) ?_
        simp only [Act.put, List.setIfInBounds_toArray, List.set_cons_zero, List.set_cons_succ]
        refine wpAnyH_done (by kernel_rfl) ?_ _
        go_wp2
        simp only [Exit.noGoto]
        go_ret
        refine ⟨W4.heap.size, V9, rfl, ?_, f2, f3⟩
        rw [FE.out]; exact f1
      · have mk := MK.out wr.drew
        refine runV (some 79) rfl (.slice (some ⟨wr.heap.size, 0, none⟩) k k) (wr.drew.alloc (.cells (madeCells #[.bool false] k) 4)) (by go_simp) ?_
        have hSx : Ext wr (wr.drew.alloc (.cells (madeCells #[.bool false] k) 4)) := hS.trans (Ext.alloc _ _)
        refine ⟨hSx, ?_⟩
        simp only [Act.put, List.setIfInBounds_toArray, List.set_cons_zero, List.set_cons_succ]
        refine nextS 14 rfl (by kernel_rfl) rfl ?_
        have mr := made_row wr.drew k (by omega)
        have sz : (wr.drew.alloc (.cells (madeCells #[.bool false] k) 4)).heap.size = wr.heap.size + 1 := size_alloc _ _
        generalize hW4 : wr.drew.alloc (.cells (madeCells #[.bool false] k) 4) = W5 at *
        clear hW4 mk
        refine callS (some 73) rfl 58 #[.slice db NN kb] (by go_simp) (fun v' w' => Row w' 5 1 v' NN (bts cr.1) ∧ Ext W5 w' ∧ ∀ q, v'.ownBlock = some q → wr.heap.size + 1 ≤ q) ((CB.out _ hSx).mono fun e w' ⟨v', h1, h2, h3, h4⟩ => ⟨v', h1, h2, h3, fun q hq => by have := h4 q hq; omega⟩) ?_
        rintro v4 W4 ⟨r4, e4, f4⟩
        have hSy := hSx.trans e4
        refine ⟨hSy, ?_⟩
        simp only [Act.put, List.setIfInBounds_toArray, List.set_cons_zero, List.set_cons_succ]
        obtain ⟨d4, q4, hv4, -⟩ := r4.shape
        subst hv4
        obtain ⟨V9, f1, f2, f3⟩ := crash_fin (nk := nk) (nm := nm) (ns := ns) (c := cr.1) HEX.out hSy (by rw [L1.out]; exact RB2.out) HFR.out (by rw [L1.out]; exact r4) (fun q hq => by have := f4 q hq; omega) (mr.ext e4) (Nat.le_refl _) (fun e => by have := f4 _ e; simp only [World.drew] at this; omega)
        clear hSx
        have hSx := hSy
        clear hSy
        refine takeS 21 (some 80) (.agg #[.int .i64 nk, .int .i64 nm, .int .u64 ns, .slice db NN kb, .slice d4 NN q4, .slice (some ⟨wr.heap.size, 0, none⟩) k k]) rfl rfl (by kernel_rfl) (by kernel_rfl) (by kernel_rfl) (fun _ _ _ h => h) rfl hSx (fun w' hw' => by go_simp) ?_
        simp only [Act.put, List.setIfInBounds_toArray, List.set_cons_zero, List.set_cons_succ]
        refine nextS 22 rfl (by kernel_rfl) rfl ?_
        refine runV (some 81) rfl (.pointer (some ⟨W4.heap.size, 0, none⟩)) (W4.alloc (.cells #[.int .i64 nk, .int .i64 nm, .int .u64 ns, .slice db NN kb, .slice d4 NN q4, .slice (some ⟨wr.heap.size, 0, none⟩) k k] 58)) (by go_simp) ?_
        refine ⟨hSx.trans (Ext.alloc _ _), ?_⟩
        simp only [Act.put, List.setIfInBounds_toArray, List.set_cons_zero, List.set_cons_succ]
        refine takeS 23 (some 4) (.pointer (some ⟨W4.heap.size, 0, none⟩)) rfl rfl (by kernel_rfl) (by kernel_rfl) (by kernel_rfl) (fun _ _ _ h => h) rfl (hSx.trans (Ext.alloc _ _)) (fun w' hw' => by go_simp) ?_
        simp only [Act.put, List.setIfInBounds_toArray, List.set_cons_zero, List.set_cons_succ]
        refine wpAnyH_done (by kernel_rfl) ?_ _
        go_wp2
        simp only [Exit.noGoto]
        go_ret
        refine ⟨W4.heap.size, V9, rfl, ?_, f2, f3⟩
        rw [FE.out]; exact f1
end Go.Proofs.YtbneedmfpldpfaaDoor
