/- Contract of crashed. Contract of Crash, whatever names are held. -/
import Derived.Test.YtbneedmfpldpfaaGreatDoorShM
import Derived.Deep.OwnRows
import Derived.Test.YtbneedmfpldpfaaGreatDoorVsM
set_option linter.unusedSimpArgs false
namespace Go.Proofs.YtbneedmfpldpfaaGreatDoor
open Go.RowKit Go.Pth

/-- A pick's digit. -/
def digit (pick : Int) (s : Nat) : Bool := bits .and .i64 (pick / 2 ^ (s % 30)) 1 == 1
def cstep (now : List Int) (loose : List Bool) (pick : Int) (st : List Int × Nat) (k : Nat) : List Int × Nat :=
  if loose[k]?.getD false then (if digit pick st.2 then (splice st.1 (16 * k) ((now.drop (16 * k)).take 16), st.2 + 1) else (st.1, st.2 + 1)) else st
def crun (now kept : List Int) (loose : List Bool) (pick : Int) (k : Nat) : List Int × Nat := (List.range k).foldl (cstep now loose pick) (kept, 0)
theorem crun_succ (now kept : List Int) (loose : List Bool) (pick : Int) (k : Nat) : crun now kept loose pick (k + 1) = cstep now loose pick (crun now kept loose pick k) k := by
  unfold crun; rw [List.range_succ, List.foldl_append]; rfl
theorem crun_zero (now kept : List Int) (loose : List Bool) (pick : Int) : crun now kept loose pick 0 = (kept, 0) := rfl
theorem cstep_len {now : List Int} {loose : List Bool} {pick : Int} {st : List Int × Nat} {k : Nat} (h : st.1.length = now.length) (hk : 16 * k ≤ now.length) : (cstep now loose pick st k).1.length = now.length ∧ (cstep now loose pick st k).2 ≤ st.2 + 1 := by
  unfold cstep
  split
  · split
    · refine ⟨?_, Nat.le_refl _⟩
      rw [splice_len]
      · exact h
      · simp; omega
    · exact ⟨h, Nat.le_refl _⟩
  · exact ⟨h, Nat.le_succ _⟩
theorem crun_len {now kept : List Int} {loose : List Bool} {pick : Int} (h : kept.length = now.length) (hl : loose.length = secs now.length) : ∀ k, k ≤ loose.length → (crun now kept loose pick k).1.length = now.length ∧ (crun now kept loose pick k).2 ≤ k
  | 0, _ => ⟨h, Nat.le_refl _⟩
  | k + 1, hk => by
    have ih := crun_len (pick := pick) h hl k (by omega)
    rw [crun_succ]
    have := cstep_len (loose := loose) (pick := pick) (k := k) ih.1 (by rw [hl] at hk; unfold secs at hk; omega)
    exact ⟨this.1, by omega⟩
def NV.crash (N : NV) (pick : Int) : NV :=
  ⟨N.kind, N.mt, N.stamp, (crun N.now N.kept N.loose pick N.loose.length).1, (crun N.now N.kept N.loose pick N.loose.length).1, List.replicate N.loose.length false⟩

/-- A piece of bytes copied to the same place of others. -/
theorem copy_seg {w : World} {gb kb gn kn n : Nat} {l now : List Int} (hb : Row w 5 1 (.slice (some ⟨gb, 0, none⟩) n kb) n (bts l)) (hn : Row w 5 1 (.slice (some ⟨gn, 0, none⟩) n kn) n (bts now)) (A m c1 c2 : Nat) (h : A + m ≤ n) (ty : TypeId) :
    (Builtin.copy_ #[22, 22] ty #[.slice (some ⟨gb, A, none⟩) m c1, .slice (some ⟨gn, A, none⟩) m c2]).run Tryz.prog w = .ok (.int .i64 m) (w.setCells gb A (bts ((now.drop A).take m))) := by
  have sz : (Tryz.prog.info? 5).map (·.size) = some 1 := by kernel_rfl
  have hln : now.length = n := by have := hn.1; simpa [bts_len] using this
  have hml : (bts ((now.drop A).take m)).length = m := by rw [bts_len]; simp; omega
  have := run_copy_cells (P := Tryz.prog) w 22 22 ty 5 gb A m c1 ⟨gn, A, none⟩ m c2 (bts ((now.drop A).take m)) Tryz.underlying22 sz (by rw [hml]; simp) (fun j u hu => by
      have hj := (List.getElem?_eq_some_iff.1 hu).1
      rw [hml] at hj
      rw [Addr.add_lit, (Row.cell hn (A + j) (by omega)).1, ← hu]
      simp only [bts, List.getElem?_map, List.getElem?_take_of_lt hj, List.getElem?_drop]) (fun j hj => by
      rw [hml] at hj
      have hl : l.length = n := by have := hb.1; simpa [bts_len] using this
      rw [(Row.cell hb (A + j) (by omega)).1, List.getElem?_eq_getElem (by rw [bts_len]; omega)]; rfl) (fun j hj => by rw [hml] at hj; exact (Row.cell hb (A + j) (by omega)).2) (bts_one _)
  rw [hml] at this
  exact this
/-- Either of two may come up. -/
theorem nextS2 {P : Program} {ops : Array Oper} {Q : Exit → Act → World → Prop} {md : Region.Mode} {S : World → Prop} (i j : Nat) {oi oj : Oper} {fuel : Nat} {listed : Array Bool} {a : Act} {w : World} (hi : ops[i]? = some oi) (hj : ops[j]? = some oj)
    (hr : Region.ready md ops listed = [i, j]) (hw1 : Region.wanted oi (yielded ops a.tmps) = true) (hw2 : Region.wanted oj (yielded ops a.tmps) = true)
    (h1 : oi.wp P a w (fun a' w' => S w' ∧ wpAnyH P md ops Q S fuel (listed.setIfInBounds i true) a' w') Q)
    (h2 : oj.wp P a w (fun a' w' => S w' ∧ wpAnyH P md ops Q S fuel (listed.setIfInBounds j true) a' w') Q) : wpAnyH P md ops Q S (fuel + 1) listed a w := by
  refine wpAnyH_all hr (by simp) fun k hk => ?_
  rcases List.mem_cons.1 hk with rfl | hk
  · refine wpOp_step hi fun K hK => ?_
    rw [if_pos hw1]
    exact Oper.wp_mono (fun a' w' h' => hK a' w' h') h1
  · obtain rfl : k = j := by simpa using hk
    refine wpOp_step hj fun K hK => ?_
    rw [if_pos hw2]
    exact Oper.wp_mono (fun a' w' h' => hK a' w' h') h2
theorem made_row (w : World) (n : Nat) (hn : n ≤ 1000000) : Row (w.alloc (.cells (madeCells #[.bool false] n) 4)) 4 1 (.slice (some ⟨w.heap.size, 0, none⟩) n n) n (bls (List.replicate n false)) := by
  have e : (madeCells #[Value.bool false] n).toList = List.replicate n (.bool false) := by
    apply List.ext_getElem
    · simp [madeCells]
    · intro i h1 h2
      simp [madeCells, Nat.mod_one]
  refine ⟨by simp [bls], .inr ⟨w.heap.size, n, _, rfl, Nat.zero_le _, heap_alloc_last w _, Nat.le_refl _, by simp only [maxLen]; omega, by rw [← Array.length_toList, e]; simp, by rw [e]; simp [bls]⟩⟩
/-- The new node. -/
theorem crash_fin {w wr W : World} {vb v4 : Value} {m k : Nat} {c : List Int} {nk nm ns : Int} (he : Ext w wr) (hW : Ext wr W) (rb : Row wr 5 1 vb c.length (bts c)) (hb : ∀ q, vb.ownBlock = some q → w.heap.size ≤ q)
    (r4 : Row W 5 1 v4 c.length (bts c)) (h4 : ∀ q, v4.ownBlock = some q → wr.heap.size ≤ q) (rm : Row W 4 1 (.slice (some ⟨m, 0, none⟩) k k) k (bls (List.replicate k false))) (hm : wr.heap.size ≤ m) (hne : v4.ownBlock ≠ some m) :
    ∃ V', NdIn (W.alloc (.cells #[.int .i64 nk, .int .i64 nm, .int .u64 ns, vb, v4, .slice (some ⟨m, 0, none⟩) k k] 71)) W.heap.size ⟨nk, nm, ns, c, c, List.replicate k false⟩ V' ∧
      Ext w (W.alloc (.cells #[.int .i64 nk, .int .i64 nm, .int .u64 ns, vb, v4, .slice (some ⟨m, 0, none⟩) k k] 71)) ∧ ∀ i, Foot W.heap.size V' i → w.heap.size ≤ i := by
  have E := Ext.alloc W (.cells #[.int .i64 nk, .int .i64 nm, .int .u64 ns, vb, v4, .slice (some ⟨m, 0, none⟩) k k] 71)
  have rb2 := rb.ext hW
  have ml := rm.lt m rfl
  refine ⟨⟨vb, v4, .slice (some ⟨m, 0, none⟩) k k⟩, ⟨At.new _ _ _, rb2.ext E, r4.ext E, by rw [List.length_replicate]; exact rm.ext E, fun e => by have := rb2.lt _ e; omega, fun e => by have := r4.lt _ e; omega, fun e => by have e2 : (some m : Option Nat) = some W.heap.size := e; injection e2; omega, fun g h1 h2 => by have a1 := rb.lt g h1; have a2 := h4 g h2; omega, fun g h1 h2 => by have a1 := rb.lt g h1; have e2 : (some m : Option Nat) = some g := h2; injection e2; omega, fun g h1 h2 => by injection h2 with h2; subst h2; exact hne h1⟩, (he.trans hW).trans E, fun i hi => ?_⟩
  have s1 := he.size
  have s2 := hW.size
  rcases hi with e | e | e | e
  · omega
  · exact hb i e
  · have := h4 i e; omega
  · have e2 : (some m : Option Nat) = some i := e
    injection e2; omega
/-- The loop's state: bytes of the call's own, sectors seen. -/
def InvCr (w : World) (N : NV) (pick : Int) (vb : Value) (s6 s21 : Value) (wr : World) : Prop :=
  ∃ k : Nat, k ≤ N.loose.length ∧ s21 = .int .i64 k ∧ s6 = .int .i64 (crun N.now N.kept N.loose pick k).2 ∧ Row wr 5 1 vb N.now.length (bts (crun N.now N.kept N.loose pick k).1) ∧ Ext w wr
set_option maxRecDepth 100000 in
set_option maxHeartbeats 8000000 in
theorem crashed_any (a : Nat) (N : NV) (V : Vs) (pick : Int) (w : World) (h : NdIn w a N V) (ok : N.Ok) (hp : -9223372036854775808 ≤ pick ∧ pick ≤ 9223372036854775807) :
    Calls Tryz.prog 49 #[ptr a, .int .i64 pick] w fun e w' => ∃ a' V', e = .returned (ptr a') ∧ NdIn w' a' (N.crash pick) V' ∧ Ext w w' ∧ ∀ i, Foot a' V' i → w.heap.size ≤ i := by
  have hkl := ok.kl
  have hll := ok.ll
  have hlen := ok.len
  have c4 := h.c 4
  simp only [ncells] at c4
  have CL := Lib.hid (cloneb_any V.k N.kept w h.k (by omega))
  have H := Lib.hid h
  have OK := Lib.hid ok
  have CRL := Lib.hid (fun k hk => crun_len (pick := pick) hkl hll k hk)
  obtain ⟨NN, hNN⟩ : ∃ NN, NN = N.now.length := ⟨_, rfl⟩
  have HNN := Lib.hid hNN
  have HKN := Lib.hid (show N.kept.length = NN by rw [hNN]; exact hkl)
  rw [HKN.out] at CL
  rw [← hNN] at hlen hll
  clear h ok hNN hkl
  unfold ptr
  obtain ⟨p1, p2⟩ := hp
  go_enter Tryz.func49, Tryz.ntmps49
  go_wp2
  go_step3
  go_wp2_with fail
  refine (CL.out).mono ?_
  rintro e w1 ⟨vb, rfl, rb, hE, hfr⟩
  obtain ⟨db, kb, hvb, -⟩ := rb.shape
  have RB := Lib.hid rb
  have HE := Lib.hid hE
  have HFR := Lib.hid hfr
  have c5 := hE.cell (show w.cell? ⟨a, 5, none⟩ = some V.l by rw [H.out.c 5]; rfl)
  obtain ⟨dl, kl, hvl, -⟩ := H.out.l.shape
  rw [hvl] at c5
  have HVL := Lib.hid hvl
  clear rb hE hfr CL c4
  subst hvb
  obtain ⟨NL, hNL⟩ : ∃ NL, NL = N.loose.length := ⟨_, rfl⟩
  have HNL := Lib.hid hNL
  rw [← hNL] at c5 hll
  clear hNL hvl
  have hNL2 : NL ≤ 65536 := by rw [hll]; unfold secs; omega
  clear hll
  go_wp2
  go_step3
  go_wp2
  have hst : InvCr w N pick (.slice db NN kb) (.int .i64 0) (.int .i64 0) w1 := ⟨0, Nat.zero_le _, rfl, rfl, by rw [crun_zero, ← HNN.out]; exact RB.out, HE.out⟩
  have HST := Lib.hid hst
  clear hst RB
  go_loopw [6, 21] (fun s6 s21 wr => InvCr w N pick (.slice db NN kb) s6 s21 wr) (fun _ s21 _ => NL - (intOf s21).toNat)
  case atStart => exact HST.out
  case round =>
    obtain ⟨k, hk, rfl, rfl, hrw, hex⟩ := hrel
    rw [← HNL.out] at hk
    have HRW := Lib.hid hrw
    have HEX := Lib.hid hex
    have hse := (CRL.out k (by rw [← HNL.out]; exact hk)).2
    clear hrw hex
    by_cases hlt : k < NL
    · have hkl2 : k < N.loose.length := by rw [← HNL.out]; exact hlt
      obtain ⟨gl, kl', hvl', -⟩ := Row.own H.out.l (by omega : 0 < N.loose.length)
      have rl := H.out.l
      rw [hvl'] at rl
      have cl := HEX.out.cell (show w.cell? ⟨gl, k, none⟩ = some (.bool N.loose[k]) by rw [(Row.cell rl k hkl2).1, bls, List.getElem?_map, List.getElem?_eq_getElem hkl2]; rfl)
      have hdl : dl = some ⟨gl, 0, none⟩ := by
        have := HVL.out
        rw [hvl'] at this
        injection this with h1 h2 h3
        exact h1.symm
      subst hdl
      have i0 : (0 : Int) ≤ (k : Int) := by omega
      have i1 : (k : Int) < (NL : Int) := by omega
      have st := crun_succ N.now N.kept N.loose pick k
      unfold cstep at st
      rw [List.getElem?_eq_getElem hkl2, Option.getD_some] at st
      have CL2 := Lib.hid (CRL.out (k + 1) (by omega))
      clear rl HVL HST
      generalize hcr : crun N.now N.kept N.loose pick k = cr at *
      have HCR := Lib.hid hcr
      clear hcr
      cases hb : N.loose[k] with
      | false =>
        rw [hb] at cl
        simp only [hb] at st
        have ST := Lib.hid st
        clear st
        go_wp2
        refine ⟨⟨k + 1, by rw [← HNL.out]; omega, rfl, by rw [ST.out]; rfl, by rw [ST.out]; exact HRW.out, HEX.out⟩, by simp [intOf]; omega⟩
      | true =>
        rw [hb] at cl
        simp only [hb, if_true] at st
        have ST := Lib.hid st
        clear st
        obtain ⟨se, hse2⟩ : ∃ se, se = cr.2 := ⟨_, rfl⟩
        rw [← hse2] at hse ST ⊢
        have HSE := Lib.hid hse2
        clear hse2
        have hAN : 16 * k < NN := by have := OK.out.ll; rw [← HNL.out, ← HNN.out] at this; unfold secs at this; omega
        have rb := HRW.out
        rw [← HNN.out] at rb
        obtain ⟨gb, kb', hvb', hkb1, hkb2⟩ := Row.own rb (by omega : 0 < NN)
        injection hvb' with e1 e2 e3
        subst e1 e3
        have rn0 := H.out.n
        rw [← HNN.out] at rn0
        obtain ⟨gn, kn, hvn, hkn1, hkn2⟩ := Row.own rn0 (by omega : 0 < NN)
        simp only [maxLen] at hkb2 hkn2
        have rn := rn0.ext HEX.out
        rw [hvn] at rn
        have c3 := HEX.out.cell (show w.cell? ⟨a, 3, none⟩ = some (.slice (some ⟨gn, 0, none⟩) NN kn) by rw [H.out.c 3, ← hvn]; rfl)
        clear rn0
        cases hd : digit pick se with
        | false =>
          have ST2 := ST.out
          rw [hd] at ST2
          simp only [Bool.false_eq_true, if_false] at ST2
          have ST3 := Lib.hid ST2
          unfold digit at hd
          clear ST2 ST rb rn e2
          go_wp2
          refine ⟨⟨k + 1, by rw [← HNL.out]; omega, rfl, by rw [ST3.out]; rfl, ?_, HEX.out⟩, by simp [intOf]; omega⟩
          rw [ST3.out]; exact HRW.out
        | true =>
          have ST2 := ST.out
          rw [hd] at ST2
          simp only [if_true] at ST2
          have ST3 := Lib.hid ST2
          unfold digit at hd
          obtain ⟨A, hA⟩ : ∃ A, A = 16 * k := ⟨_, rfl⟩
          obtain ⟨E, hE2⟩ : ∃ E, E = min (A + 16) NN := ⟨_, rfl⟩
          have m1 := Lib.hid (show (k : Int) * 16 = (A : Int) by omega)
          have m2 := Lib.hid (show min (((k : Int) + 1) * 16) (NN : Int) = (E : Int) by omega)
          have hAE : A < E := by omega
          have hEN : E ≤ NN := by omega
          have seg : (N.now.drop (16 * k)).take 16 = (N.now.drop A).take (E - A) := by
            rw [hA]
            by_cases hc : A + 16 ≤ NN
            · rw [show E - 16 * k = 16 by omega]
            · have hq := HNN.out; rw [List.take_of_length_le (by simp; omega), List.take_of_length_le (by simp; omega)]
          have CP := Lib.hid (fun W (hw : Ext wr W) => copy_seg (rb.ext hw) (rn.ext hw) A (E - A) (kb - A) (kn - A) (by omega) 3)
          have sl := Row.sets (rb.ext (Ext.drew wr)) A (bts ((N.now.drop A).take (E - A))) (by rw [bts_len]; have hq := HNN.out; simp; omega)
          rw [bts_splice] at sl
          have HSL := Lib.hid sl
          have HSG := Lib.hid seg
          clear seg
          have hne : gb ≠ a := fun e => by
            have h1 := H.out.cells.lt
            have h2 := HFR.out gb rfl
            omega
          have hgw := Lib.hid (HFR.out gb rfl)
          have HA2 := Lib.hid hA
          clear ST2 ST rb rn e2 sl hA hE2
          go_upto_region 8 with fail
          go_upto_region 9 with fail
          rw [m1.out, m2.out]
          have s0 : (0 : Int) ≤ (A : Int) := by omega
          have s1 : (A : Int) ≤ (E : Int) := by omega
          have s2 : (E : Int) ≤ (kb : Int) := by omega
          have s3 : (E : Int) ≤ (kn : Int) := by omega
          have s4 : ¬ kb = A := by omega
          have s5 : ¬ kn = A := by omega
          have hS : wr.drew.cell? ⟨a, 3, none⟩ = some (.slice (some ⟨gn, 0, none⟩) NN kn) := c3
          refine wp_region_held (S := fun w' => w'.cell? ⟨a, 3, none⟩ = some (.slice (some ⟨gn, 0, none⟩) NN kn)) (by kernel_rfl) ?_
          change wpAnyH _ _ _ _ _ _ _ _ (World.drew _)
          refine takeS 0 (some 44) (.slice (some ⟨gb, 0, none⟩) NN kb) rfl rfl (by kernel_rfl) (by kernel_rfl) (by kernel_rfl) (fun _ _ _ h => h) rfl hS (fun w' hw' => by go_simp) ?_
          simp only [Act.put, List.setIfInBounds_toArray, List.set_cons_zero, List.set_cons_succ]
          refine takeS 1 (some 45) (.int .i64 (A : Int)) rfl rfl (by kernel_rfl) (by kernel_rfl) (by kernel_rfl) (fun _ _ _ h => h) rfl hS (fun w' hw' => by go_simp) ?_
          simp only [Act.put, List.setIfInBounds_toArray, List.set_cons_zero, List.set_cons_succ]
          refine takeS 2 (some 46) (.int .i64 (E : Int)) rfl rfl (by kernel_rfl) (by kernel_rfl) (by kernel_rfl) (fun _ _ _ h => h) rfl hS (fun w' hw' => by go_simp) ?_
          simp only [Act.put, List.setIfInBounds_toArray, List.set_cons_zero, List.set_cons_succ]
          refine takeS 3 (some 47) (.slice (some ⟨gb, A, none⟩) (E - A) (kb - A)) rfl rfl (by kernel_rfl) (by kernel_rfl) (by kernel_rfl) (fun _ _ _ h => h) rfl hS (fun w' hw' => by go_simp) ?_
          simp only [Act.put, List.setIfInBounds_toArray, List.set_cons_zero, List.set_cons_succ]
          refine takeS 4 (some 48) (.pointer (some ⟨a, 0, none⟩)) rfl rfl (by kernel_rfl) (by kernel_rfl) (by kernel_rfl) (fun _ _ _ h => h) rfl hS (fun w' hw' => by go_simp) ?_
          simp only [Act.put, List.setIfInBounds_toArray, List.set_cons_zero, List.set_cons_succ]
          refine takeS 5 (some 49) (.pointer (some ⟨a, 0, none⟩)) rfl rfl (by kernel_rfl) (by kernel_rfl) (by kernel_rfl) (fun _ _ _ h => h) rfl hS (fun w' hw' => by go_simp) ?_
          simp only [Act.put, List.setIfInBounds_toArray, List.set_cons_zero, List.set_cons_succ]
          refine takeS 6 (some 50) (.pointer (some ⟨a, 3, none⟩)) rfl rfl (by kernel_rfl) (by kernel_rfl) (by kernel_rfl) (fun _ _ _ h => h) rfl hS (fun w' hw' => by go_simp) ?_
          simp only [Act.put, List.setIfInBounds_toArray, List.set_cons_zero, List.set_cons_succ]
          refine takeS 7 (some 51) (.slice (some ⟨gn, 0, none⟩) NN kn) rfl rfl (by kernel_rfl) (by kernel_rfl) (by kernel_rfl) (fun _ _ _ h => h) rfl hS (fun w' hw' => by go_simp) ?_
          simp only [Act.put, List.setIfInBounds_toArray, List.set_cons_zero, List.set_cons_succ]
          refine takeS 8 (some 52) (.int .i64 (A : Int)) rfl rfl (by kernel_rfl) (by kernel_rfl) (by kernel_rfl) (fun _ _ _ h => h) rfl hS (fun w' hw' => by go_simp) ?_
          simp only [Act.put, List.setIfInBounds_toArray, List.set_cons_zero, List.set_cons_succ]
          refine takeS 9 (some 53) (.int .i64 (E : Int)) rfl rfl (by kernel_rfl) (by kernel_rfl) (by kernel_rfl) (fun _ _ _ h => h) rfl hS (fun w' hw' => by go_simp) ?_
          simp only [Act.put, List.setIfInBounds_toArray, List.set_cons_zero, List.set_cons_succ]
          refine takeS 10 (some 54) (.slice (some ⟨gn, A, none⟩) (E - A) (kn - A)) rfl rfl (by kernel_rfl) (by kernel_rfl) (by kernel_rfl) (fun _ _ _ h => h) rfl hS (fun w' hw' => by go_simp) ?_
          simp only [Act.put, List.setIfInBounds_toArray, List.set_cons_zero, List.set_cons_succ]
          refine nextS 11 rfl (by kernel_rfl) rfl ?_
          have cpr := CP.out wr.drew (Ext.drew wr)
          refine runV (some 55) rfl (.int .i64 ((E - A : Nat) : Int)) (wr.drew.setCells gb A (bts ((N.now.drop A).take (E - A)))) (by go_simp) ?_
          have hchg := Chg.sets gb (bts ((N.now.drop A).take (E - A))) A wr.drew
          refine ⟨hchg.cell hS (fun e => hne e.symm), ?_⟩
          simp only [Act.put, List.setIfInBounds_toArray, List.set_cons_zero, List.set_cons_succ]
          refine wpAnyH_done (by kernel_rfl) ?_ _
          have EX2 := Lib.hid (show Ext w (wr.drew.setCells gb A (bts ((N.now.drop A).take (E - A)))) from
            (((Chg.of_ext (X := fun _ => False) (HEX.out.trans (Ext.drew wr)))).trans hchg (fun i hi e => by have := hgw.out; omega)).ext)
          clear cpr hchg CP hS cl c3
          go_wp2
          refine ⟨⟨k + 1, by rw [← HNL.out]; omega, rfl, by rw [ST3.out]; rfl, ?_, EX2.out⟩, by simp [intOf]; omega⟩
          rw [ST3.out, ← HNN.out]
          show Row _ 5 1 _ _ (bts (splice cr.1 (16 * k) _))
          rw [HSG.out, ← HA2.out]; exact HSL.out
    · obtain rfl : k = NL := by omega
      clear hlt
      have crl := CRL.out k (by rw [HNL.out]; exact Nat.le_refl _)
      have FE : Hid (N.crash pick = ⟨N.kind, N.mt, N.stamp, (crun N.now N.kept N.loose pick k).1, (crun N.now N.kept N.loose pick k).1, List.replicate k false⟩) := Lib.hid (by unfold NV.crash; rw [HNL.out])
      generalize hcr : crun N.now N.kept N.loose pick k = cr at *
      clear hcr
      have rb := HRW.out
      rw [← HNN.out] at rb
      have L1 := Lib.hid (show cr.1.length = NN by rw [HNN.out]; exact crl.1)
      have k0 := HEX.out.cell (show w.cell? ⟨a, 0, none⟩ = some (.int .i64 N.kind) by rw [H.out.c 0]; rfl)
      have k1 := HEX.out.cell (show w.cell? ⟨a, 1, none⟩ = some (.int .i64 N.mt) by rw [H.out.c 1]; rfl)
      have k2 := HEX.out.cell (show w.cell? ⟨a, 2, none⟩ = some (.int .u64 N.stamp) by rw [H.out.c 2]; rfl)
      have k5 := HEX.out.cell (show w.cell? ⟨a, 5, none⟩ = some (.slice dl k kl) by rw [H.out.c 5]; simp only [ncells]; rw [HVL.out, ← HNL.out]; rfl)
      have CB := Lib.hid (fun W (hw : Ext wr W) => cloneb_any (.slice db NN kb) cr.1 W (by rw [L1.out]; exact rb.ext hw) (by rw [L1.out]; omega))
      rw [L1.out] at CB
      have MK := Lib.hid (fun W => run_make_row' (P := Tryz.prog) 69 4 (.bool false) 1 Tryz.underlying69 info4 rfl .i64 .i64 k (by omega) (by omega) W)
      have RB2 := Lib.hid rb
      clear crl rb CRL HST hse OK
      generalize N.kind = nk at *
      generalize N.mt = nm at *
      generalize N.stamp = ns at *
      have hS : Ext wr wr.drew := Ext.drew wr
      go_upto_region 12 with fail
      refine wp_region_held (S := fun w' => Ext wr w') (by kernel_rfl) ?_
      change wpAnyH _ _ _ _ _ _ _ _ (World.drew _)
      refine takeS 0 (some 59) (.pointer (some ⟨a, 0, none⟩)) rfl rfl (by kernel_rfl) (by kernel_rfl) (by kernel_rfl) (fun _ _ _ h => h) rfl hS (fun w' hw' => by go_simp) ?_
      simp only [Act.put, List.setIfInBounds_toArray, List.set_cons_zero, List.set_cons_succ]
      refine takeS 1 (some 60) (.pointer (some ⟨a, 0, none⟩)) rfl rfl (by kernel_rfl) (by kernel_rfl) (by kernel_rfl) (fun _ _ _ h => h) rfl hS (fun w' hw' => by go_simp) ?_
      simp only [Act.put, List.setIfInBounds_toArray, List.set_cons_zero, List.set_cons_succ]
      refine takeS 2 (some 61) (.pointer (some ⟨a, 0, none⟩)) rfl rfl (by kernel_rfl) (by kernel_rfl) (by kernel_rfl) (fun _ _ _ h => h) rfl hS (fun w' hw' => by go_simp) ?_
      simp only [Act.put, List.setIfInBounds_toArray, List.set_cons_zero, List.set_cons_succ]
      refine takeS 3 (some 62) (.int .i64 nk) rfl rfl (by kernel_rfl) (by kernel_rfl) (by kernel_rfl) (fun _ _ _ h => h) rfl hS (fun w' hw' => by have := hw'.cell k0; go_simp) ?_
      simp only [Act.put, List.setIfInBounds_toArray, List.set_cons_zero, List.set_cons_succ]
      refine takeS 4 (some 63) (.pointer (some ⟨a, 0, none⟩)) rfl rfl (by kernel_rfl) (by kernel_rfl) (by kernel_rfl) (fun _ _ _ h => h) rfl hS (fun w' hw' => by go_simp) ?_
      simp only [Act.put, List.setIfInBounds_toArray, List.set_cons_zero, List.set_cons_succ]
      refine takeS 5 (some 64) (.pointer (some ⟨a, 0, none⟩)) rfl rfl (by kernel_rfl) (by kernel_rfl) (by kernel_rfl) (fun _ _ _ h => h) rfl hS (fun w' hw' => by go_simp) ?_
      simp only [Act.put, List.setIfInBounds_toArray, List.set_cons_zero, List.set_cons_succ]
      refine takeS 6 (some 65) (.pointer (some ⟨a, 1, none⟩)) rfl rfl (by kernel_rfl) (by kernel_rfl) (by kernel_rfl) (fun _ _ _ h => h) rfl hS (fun w' hw' => by go_simp) ?_
      simp only [Act.put, List.setIfInBounds_toArray, List.set_cons_zero, List.set_cons_succ]
      refine takeS 7 (some 66) (.int .i64 nm) rfl rfl (by kernel_rfl) (by kernel_rfl) (by kernel_rfl) (fun _ _ _ h => h) rfl hS (fun w' hw' => by have := hw'.cell k1; go_simp) ?_
      simp only [Act.put, List.setIfInBounds_toArray, List.set_cons_zero, List.set_cons_succ]
      refine takeS 8 (some 67) (.pointer (some ⟨a, 0, none⟩)) rfl rfl (by kernel_rfl) (by kernel_rfl) (by kernel_rfl) (fun _ _ _ h => h) rfl hS (fun w' hw' => by go_simp) ?_
      simp only [Act.put, List.setIfInBounds_toArray, List.set_cons_zero, List.set_cons_succ]
      refine takeS 9 (some 68) (.pointer (some ⟨a, 0, none⟩)) rfl rfl (by kernel_rfl) (by kernel_rfl) (by kernel_rfl) (fun _ _ _ h => h) rfl hS (fun w' hw' => by go_simp) ?_
      simp only [Act.put, List.setIfInBounds_toArray, List.set_cons_zero, List.set_cons_succ]
      refine takeS 10 (some 69) (.pointer (some ⟨a, 2, none⟩)) rfl rfl (by kernel_rfl) (by kernel_rfl) (by kernel_rfl) (fun _ _ _ h => h) rfl hS (fun w' hw' => by go_simp) ?_
      simp only [Act.put, List.setIfInBounds_toArray, List.set_cons_zero, List.set_cons_succ]
      refine takeS 11 (some 70) (.int .u64 ns) rfl rfl (by kernel_rfl) (by kernel_rfl) (by kernel_rfl) (fun _ _ _ h => h) rfl hS (fun w' hw' => by have := hw'.cell k2; go_simp) ?_
      simp only [Act.put, List.setIfInBounds_toArray, List.set_cons_zero, List.set_cons_succ]
      refine takeS 12 (some 71) (.slice db NN kb) rfl rfl (by kernel_rfl) (by kernel_rfl) (by kernel_rfl) (fun _ _ _ h => h) rfl hS (fun w' hw' => by go_simp) ?_
      simp only [Act.put, List.setIfInBounds_toArray, List.set_cons_zero, List.set_cons_succ]
      refine takeS 13 (some 72) (.slice db NN kb) rfl rfl (by kernel_rfl) (by kernel_rfl) (by kernel_rfl) (fun _ _ _ h => h) rfl hS (fun w' hw' => by go_simp) ?_
      simp only [Act.put, List.setIfInBounds_toArray, List.set_cons_zero, List.set_cons_succ]
      refine takeS 15 (some 74) (.pointer (some ⟨a, 0, none⟩)) rfl rfl (by kernel_rfl) (by kernel_rfl) (by kernel_rfl) (fun _ _ _ h => h) rfl hS (fun w' hw' => by go_simp) ?_
      simp only [Act.put, List.setIfInBounds_toArray, List.set_cons_zero, List.set_cons_succ]
      refine takeS 16 (some 75) (.pointer (some ⟨a, 0, none⟩)) rfl rfl (by kernel_rfl) (by kernel_rfl) (by kernel_rfl) (fun _ _ _ h => h) rfl hS (fun w' hw' => by go_simp) ?_
      simp only [Act.put, List.setIfInBounds_toArray, List.set_cons_zero, List.set_cons_succ]
      refine takeS 17 (some 76) (.pointer (some ⟨a, 5, none⟩)) rfl rfl (by kernel_rfl) (by kernel_rfl) (by kernel_rfl) (fun _ _ _ h => h) rfl hS (fun w' hw' => by go_simp) ?_
      simp only [Act.put, List.setIfInBounds_toArray, List.set_cons_zero, List.set_cons_succ]
      refine takeS 18 (some 77) (.slice dl k kl) rfl rfl (by kernel_rfl) (by kernel_rfl) (by kernel_rfl) (fun _ _ _ h => h) rfl hS (fun w' hw' => by have := hw'.cell k5; go_simp) ?_
      simp only [Act.put, List.setIfInBounds_toArray, List.set_cons_zero, List.set_cons_succ]
      refine takeS 19 (some 78) (.int .i64 (k : Int)) rfl rfl (by kernel_rfl) (by kernel_rfl) (by kernel_rfl) (fun _ _ _ h => h) rfl hS (fun w' hw' => by go_simp) ?_
      simp only [Act.put, List.setIfInBounds_toArray, List.set_cons_zero, List.set_cons_succ]
      refine nextS2 14 20 rfl rfl (by kernel_rfl) rfl rfl ?_ ?_
      · refine callS (some 73) rfl 75 #[.slice db NN kb] (by go_simp) (fun v' w' => Row w' 5 1 v' NN (bts cr.1) ∧ Ext wr.drew w' ∧ ∀ q, v'.ownBlock = some q → wr.heap.size ≤ q) ((CB.out _ hS).mono fun e w' ⟨v', h1, h2, h3, h4⟩ => ⟨v', h1, h2, h3, h4⟩) ?_
        rintro v4 w4 ⟨r4, e4, f4⟩
        refine ⟨hS.trans e4, ?_⟩
        simp only [Act.put, List.setIfInBounds_toArray, List.set_cons_zero, List.set_cons_succ]
        refine nextS 20 rfl (by kernel_rfl) rfl ?_
        have mk := MK.out w4
        refine runV (some 79) rfl (.slice (some ⟨w4.heap.size, 0, none⟩) k k) (w4.alloc (.cells (madeCells #[.bool false] k) 4)) (by go_simp) ?_
        have hSx : Ext wr (w4.alloc (.cells (madeCells #[.bool false] k) 4)) := (hS.trans e4).trans (Ext.alloc _ _)
        refine ⟨hSx, ?_⟩
        simp only [Act.put, List.setIfInBounds_toArray, List.set_cons_zero, List.set_cons_succ]
        obtain ⟨d4, q4, hv4, -⟩ := r4.shape
        subst hv4
        obtain ⟨V9, f1, f2, f3⟩ := crash_fin (nk := nk) (nm := nm) (ns := ns) (c := cr.1) HEX.out hSx (by rw [L1.out]; exact RB2.out) HFR.out (by rw [L1.out]; exact r4.ext (Ext.alloc _ _)) f4 (made_row w4 k (by omega)) (by have := (hS.trans e4).size; omega) (fun e => by have := r4.lt _ e; omega)
        generalize hW4 : w4.alloc (.cells (madeCells #[.bool false] k) 4) = W4 at *
        have HW4 := Lib.hid hW4
        clear hW4 mk
        generalize w4.heap.size = m4 at *
        refine takeS 21 (some 80) (.agg #[.int .i64 nk, .int .i64 nm, .int .u64 ns, .slice db NN kb, .slice d4 NN q4, .slice (some ⟨m4, 0, none⟩) k k]) rfl rfl (by kernel_rfl) (by kernel_rfl) (by kernel_rfl) (fun _ _ _ h => h) rfl hSx (fun w' hw' => by go_simp) ?_
        simp only [Act.put, List.setIfInBounds_toArray, List.set_cons_zero, List.set_cons_succ]
        refine nextS 22 rfl (by kernel_rfl) rfl ?_
        refine runV (some 81) rfl (.pointer (some ⟨W4.heap.size, 0, none⟩)) (W4.alloc (.cells #[.int .i64 nk, .int .i64 nm, .int .u64 ns, .slice db NN kb, .slice d4 NN q4, .slice (some ⟨m4, 0, none⟩) k k] 71)) (by go_simp) ?_
        refine ⟨hSx.trans (Ext.alloc _ _), ?_⟩
        simp only [Act.put, List.setIfInBounds_toArray, List.set_cons_zero, List.set_cons_succ]
        refine takeS 23 (some 4) (.pointer (some ⟨W4.heap.size, 0, none⟩)) rfl rfl (by kernel_rfl) (by kernel_rfl) (by kernel_rfl) (fun _ _ _ h => h) rfl (hSx.trans (Ext.alloc _ _)) (fun w' hw' => by go_simp) ?_
        simp only [Act.put, List.setIfInBounds_toArray, List.set_cons_zero, List.set_cons_succ]
        refine wpAnyH_done (by kernel_rfl) ?_ _
        go_wp2
        simp only [Exit.noGoto]
        go_ret
        refine ⟨W4.heap.size, V9, rfl, ?_, f2, f3⟩
        rw [FE.out]; exact f1
      · have mk := MK.out wr.drew
        refine runV (some 79) rfl (.slice (some ⟨wr.heap.size, 0, none⟩) k k) (wr.drew.alloc (.cells (madeCells #[.bool false] k) 4)) (by go_simp) ?_
        have hSx : Ext wr (wr.drew.alloc (.cells (madeCells #[.bool false] k) 4)) := hS.trans (Ext.alloc _ _)
        refine ⟨hSx, ?_⟩
        simp only [Act.put, List.setIfInBounds_toArray, List.set_cons_zero, List.set_cons_succ]
        refine nextS 14 rfl (by kernel_rfl) rfl ?_
        have mr := made_row wr.drew k (by omega)
        have sz : (wr.drew.alloc (.cells (madeCells #[.bool false] k) 4)).heap.size = wr.heap.size + 1 := size_alloc _ _
        generalize hW4 : wr.drew.alloc (.cells (madeCells #[.bool false] k) 4) = W5 at *
        clear hW4 mk
        refine callS (some 73) rfl 75 #[.slice db NN kb] (by go_simp) (fun v' w' => Row w' 5 1 v' NN (bts cr.1) ∧ Ext W5 w' ∧ ∀ q, v'.ownBlock = some q → wr.heap.size + 1 ≤ q) ((CB.out _ hSx).mono fun e w' ⟨v', h1, h2, h3, h4⟩ => ⟨v', h1, h2, h3, fun q hq => by have := h4 q hq; omega⟩) ?_
        rintro v4 W4 ⟨r4, e4, f4⟩
        have hSy := hSx.trans e4
        refine ⟨hSy, ?_⟩
        simp only [Act.put, List.setIfInBounds_toArray, List.set_cons_zero, List.set_cons_succ]
        obtain ⟨d4, q4, hv4, -⟩ := r4.shape
        subst hv4
        obtain ⟨V9, f1, f2, f3⟩ := crash_fin (nk := nk) (nm := nm) (ns := ns) (c := cr.1) HEX.out hSy (by rw [L1.out]; exact RB2.out) HFR.out (by rw [L1.out]; exact r4) (fun q hq => by have := f4 q hq; omega) (mr.ext e4) (Nat.le_refl _) (fun e => by have := f4 _ e; simp only [World.drew] at this; omega)
        clear hSx
        have hSx := hSy
        clear hSy
        refine takeS 21 (some 80) (.agg #[.int .i64 nk, .int .i64 nm, .int .u64 ns, .slice db NN kb, .slice d4 NN q4, .slice (some ⟨wr.heap.size, 0, none⟩) k k]) rfl rfl (by kernel_rfl) (by kernel_rfl) (by kernel_rfl) (fun _ _ _ h => h) rfl hSx (fun w' hw' => by go_simp) ?_
        simp only [Act.put, List.setIfInBounds_toArray, List.set_cons_zero, List.set_cons_succ]
        refine nextS 22 rfl (by kernel_rfl) rfl ?_
        refine runV (some 81) rfl (.pointer (some ⟨W4.heap.size, 0, none⟩)) (W4.alloc (.cells #[.int .i64 nk, .int .i64 nm, .int .u64 ns, .slice db NN kb, .slice d4 NN q4, .slice (some ⟨wr.heap.size, 0, none⟩) k k] 71)) (by go_simp) ?_
        refine ⟨hSx.trans (Ext.alloc _ _), ?_⟩
        simp only [Act.put, List.setIfInBounds_toArray, List.set_cons_zero, List.set_cons_succ]
        refine takeS 23 (some 4) (.pointer (some ⟨W4.heap.size, 0, none⟩)) rfl rfl (by kernel_rfl) (by kernel_rfl) (by kernel_rfl) (fun _ _ _ h => h) rfl (hSx.trans (Ext.alloc _ _)) (fun w' hw' => by go_simp) ?_
        simp only [Act.put, List.setIfInBounds_toArray, List.set_cons_zero, List.set_cons_succ]
        refine wpAnyH_done (by kernel_rfl) ?_ _
        go_wp2
        simp only [Exit.noGoto]
        go_ret
        refine ⟨W4.heap.size, V9, rfl, ?_, f2, f3⟩
        rw [FE.out]; exact f1
end Go.Proofs.YtbneedmfpldpfaaGreatDoor

set_option linter.unusedSimpArgs false
set_option linter.unusedVariables false
namespace Go.Proofs.YtbneedmfpldpfaaGreatDoor
open Go.RowKit Go.Pth

theorem NV.Ok.crash {N : NV} (h : N.Ok) (pick : Int) (hb : ∀ y ∈ (crun N.now N.kept N.loose pick N.loose.length).1, 0 ≤ y ∧ y < 256) : (N.crash pick).Ok := by
  have hl := crun_len (pick := pick) h.kl h.ll N.loose.length (Nat.le_refl _)
  exact ⟨rfl, by simp only [NV.crash, List.length_replicate]; rw [hl.1]; exact h.ll, by simp only [NV.crash]; rw [hl.1]; exact h.len, hb, hb⟩
theorem crun_byt {N : NV} (h : N.Ok) (pick : Int) : ∀ k, ∀ y ∈ (crun N.now N.kept N.loose pick k).1, 0 ≤ y ∧ y < 256
  | 0 => h.bk
  | k + 1 => by
    rw [crun_succ]
    unfold cstep
    split
    · split
      · exact splice_byt (crun_byt h pick k) (fun y hy => h.bn y (List.mem_of_mem_drop (List.mem_of_mem_take hy))) _
      · exact crun_byt h pick k
    · exact crun_byt h pick k
theorem crash_ok {N : NV} (h : N.Ok) (pick : Int) : (N.crash pick).Ok := h.crash pick (crun_byt h pick _)
def SV.left1 (room clock : Int) (ids : List Nat) (nd : Nat → NV) (names kept : List Nm) : SV := ⟨room, clock, names, kept, [], 0, 0, 0, ids, nd⟩
theorem new_rep (w : World) (room clock : Int) : ∃ V L, Rep (w.alloc (.cells #[.int .i64 room, .int .u64 clock, .slice none 0 0, .slice none 0 0, .slice none 0 0, .int .i64 0, .int .i64 0, .int .i64 0] 57)) w.heap.size (SV.left1 room clock [] (fun _ => newN 0 0) [] []) V L ∧ (∀ i, L i ≠ none → w.heap.size ≤ i) ∧ V.n = .slice none 0 0 ∧ V.k = .slice none 0 0 := by
  refine ⟨⟨.slice none 0 0, .slice none 0 0, .slice none 0 0, fun _ => nilV⟩, fun i => if i = w.heap.size then some .store else none, ?_, fun i hi => ?_, rfl, rfl⟩
  · refine ⟨At.new _ _ _, World.ownsRow_nil _ _ _ _, World.ownsRow_nil _ _ _ _, World.ownsRow_nil _ _ _ _, fun a ha => ?_, by simp, fun g hg => ?_, fun g hg => ?_, fun g hg => ?_, fun a ha => ?_, fun i hi => ?_, List.Pairwise.nil, List.Pairwise.nil, fun p hp => ?_, fun p hp => ?_⟩
    · cases ha
    · cases hg
    · cases hg
    · cases hg
    · cases ha
    · rw [size_alloc]
      by_cases e : i = w.heap.size
      · omega
      · simp [e] at hi
    · cases hp
    · cases hp
  · by_cases e : i = w.heap.size
    · omega
    · simp [e] at hi
set_option maxRecDepth 100000 in
set_option maxHeartbeats 4000000 in
theorem next_base (v : Value) (l : List Int) (w0 w : World) (h : IntsIn w0 v l) (he : Ext w0 w) :
    Calls Tryz.prog 46 #[v] w fun e w' => ∃ v', e = .returned (.tuple #[.int .i64 (l.headD 0), v']) ∧ IntsIn w0 v' l.tail ∧ Ext w w' := by
  obtain ⟨ad, cap, b, o, h⟩ := h
  have hv := h.val
  subst hv
  cases l with
  | nil =>
    have NI : Hid (IntsIn w0 (.slice none 0 0) []) := Lib.hid ⟨none, 0, 0, 0, rfl, by simp, fun h => by simp at h, fun j h => by simp at h⟩
    have E := Lib.hid (Ext.refl w)
    clear h he
    go_enter Tryz.func46, Tryz.ntmps46
    go_wp2
    go_ret2
    exact ⟨_, rfl, NI.out, E.out⟩
  | cons x r =>
    have had := h.adr (by simp)
    subst had
    have c0 := he.cell (h.cell 0 (by simp))
    simp only [Nat.add_zero, List.getElem_cons_zero] at c0
    obtain ⟨k1, k2⟩ := h.cap
    simp only [List.length_cons] at k1
    have NI : Hid (∀ dd : Option Addr, ∀ cc : Nat, (0 < r.length → dd = some ⟨b, o + 1, none⟩) → r.length ≤ cc → cc ≤ 9223372036854775807 → IntsIn w0 (.slice dd r.length cc) r) := Lib.hid fun dd cc h1 h2 h3 =>
      ⟨dd, cc, b, o + 1, rfl, ⟨h2, h3⟩, h1, fun j hj => by
        have := h.cell (j + 1) (by simpa using hj)
        simp only [List.getElem_cons_succ] at this
        rw [show o + 1 + j = o + (j + 1) by omega]; exact this⟩
    have E := Lib.hid (Ext.drew w)
    simp only [List.length_cons]
    clear h he
    generalize r.length = n at *
    have i0 : (0 : Int) < ((n + 1 : Nat) : Int) := by omega
    have z0 : (n + 1 == 0) = false := by simp
    have i1 : (1 : Int) ≤ (cap : Int) := by omega
    have i2 : ((n + 1 : Nat) : Int) ≤ (cap : Int) := by omega
    have i3 : (1 : Int) ≤ ((n + 1 : Nat) : Int) := by omega
    by_cases hc : cap = 1
    · have hn0 : n = 0 := by omega
      subst hc hn0
      go_enter Tryz.func46, Tryz.ntmps46
      go_wp2
      go_region
      all_goals go_wp2
      all_goals go_ret2
      all_goals exact ⟨_, rfl, NI.out _ _ (fun h => by omega) (Nat.zero_le _) (by omega), E.out⟩
    · go_enter Tryz.func46, Tryz.ntmps46
      go_wp2
      go_region
      all_goals go_wp2
      all_goals go_ret2
      all_goals exact ⟨_, rfl, NI.out _ _ (fun h => rfl) (by omega) (by omega), E.out⟩

/-- Names, each with what it stands for behind a crash. -/
def cpN (ps : List (Nm × Nat)) : List Nm := ps.map fun q => (q.1.1, q.2)
def CopS (S : SV) (nd : Nat → NV) (ps : List (Nm × Nat)) : Prop := ∀ q ∈ ps, ∃ pick : Int, nd q.2 = (S.nd q.1.2).crash pick
theorem srt_first {l m : List Nm} (h : Srt l) (e : m.map (·.1) = l.map (·.1)) : Srt m := by
  unfold Srt at *
  have h1 : (l.map (·.1)).Pairwise (fun a b => less a b = true) := by rw [List.pairwise_map]; exact h
  rw [← e, List.pairwise_map] at h1
  exact h1
theorem cpN_first (ps : List (Nm × Nat)) : (cpN ps).map (·.1) = (ps.map (·.1)).map (·.1) := by unfold cpN; simp
theorem cpN_len (ps : List (Nm × Nat)) : (cpN ps).length = ps.length := by simp [cpN]
theorem cpN_snoc (ps : List (Nm × Nat)) (p : B) (a a' : Nat) : cpN (ps ++ [((p, a), a')]) = cpN ps ++ [(p, a')] := by simp [cpN]
theorem ents_app2 (l m : List Nm) : ents (l ++ m) = ents l ++ ents m := by simp [ents]
/-- One more name is taken into a store. -/
theorem took_more {w w1 w2 w3 : World} {b a : Nat} {S : SV} {V : SW} {L : Nat → Option Role} {p : B} {N : NV} {Vn : Vs} {v' : Value} (h : Rep w b S V L) (he : Ext w w1) (hn : NdIn w1 a N Vn) (ok : N.Ok) (hf : ∀ i, Foot a Vn i → w.heap.size ≤ i) (he2 : Ext w1 w2)
    (hr : Row w3 78 2 v' (S.names ++ [(p, a)]).length (ents (S.names ++ [(p, a)]))) (g : Grew w2 w3 V.n v') (hst : Srt (S.names ++ [(p, a)])) :
    ∃ V' L', Rep (w3.setCell ⟨b, 2, none⟩ v') b { S with ids := a :: S.ids, nd := upd S.nd a N, names := S.names ++ [(p, a)] } V' L' ∧ V'.n = v' ∧ V'.k = V.k ∧ ∀ i, L' i ≠ none → L i ≠ none ∨ w.heap.size ≤ i := by
  obtain ⟨L1, r1, t1⟩ := h.more he a (hf a (Or.inl rfl)) N Vn hn ok hf
  have r2 := r1.ext he2
  have f := r2.setNames (l' := S.names ++ [(p, a)]) hr g hst (fun x hx => by
    rcases List.mem_append.1 hx with hx | hx
    · exact List.mem_cons_of_mem _ (h.rn x hx)
    · obtain rfl := List.mem_singleton.1 hx; exact List.mem_cons_self)
  refine ⟨_, _, f.1, rfl, rfl, fun i hi => ?_⟩
  rcases f.2.lab i hi with u | u
  · rcases t1.lab i u with v | v
    · exact Or.inl v
    · exact Or.inr v
  · have h1 := he.size
    have h2 := he2.size
    exact Or.inr (by omega)
theorem headD_in (xs : List Int) (h : ∀ x ∈ xs, -9223372036854775808 ≤ x ∧ x ≤ 9223372036854775807) : -9223372036854775808 ≤ xs.headD 0 ∧ xs.headD 0 ≤ 9223372036854775807 := by
  cases xs with
  | nil => simp
  | cons x r => exact h x (by simp)
/-- A crash while it goes on. -/
def InvCr2 (w w3 : World) (gg : Nat) (S : SV) (rm ck : Int) (m : List Nm) (s1 s30 : Value) (wr : World) : Prop :=
  ∃ (k : Nat) (xs : List Int) (ps : List (Nm × Nat)) (ids : List Nat) (nd : Nat → NV) (V : SW) (L : Nat → Option Role), k ≤ m.length ∧ s30 = .int .i64 k ∧ IntsIn w s1 xs ∧ (∀ x ∈ xs, -9223372036854775808 ≤ x ∧ x ≤ 9223372036854775807) ∧ m.take k = ps.map (·.1) ∧ CopS S nd ps ∧
    Rep wr gg (SV.left1 rm ck ids nd (cpN ps) []) V L ∧ ((∀ g, V.n.ownBlock = some g → w3.heap.size ≤ g) ∧ V.k = .slice none 0 0 ∧ ∀ i, L i ≠ none → gg ≤ i) ∧ Chg (fun i => i = gg) w3 wr
def CrPost2 (w : World) (S : SV) (e : Ending) (w' : World) : Prop :=
  ∃ (p : Nat) (ps : List (Nm × Nat)) (b' : Nat) (ids : List Nat) (nd : Nat → NV) (V : SW) (L : Nat → Option Role), p ≤ S.acts.length ∧ e = .returned (ptr b') ∧ Ext w w' ∧ foldN S.kept (S.acts.take p) = ps.map (·.1) ∧ CopS S nd ps ∧ Rep w' b' (SV.left1 S.room S.clock ids nd (cpN ps) (cpN ps)) V L ∧ ∀ i, L i ≠ none → w.heap.size ≤ i
/-- What the end of a round leaves. -/
theorem crash_fin2 {w3 w5 w6 : World} {gg be k : Nat} {S : SV} {rm ck : Int} {m : List Nm} {ps : List (Nm × Nat)} {ids : List Nat} {nd : Nat → NV} {V : SW} {L : Nat → Option Role} {p : B} {a a' : Nat} {x1 : Int} {V9 : Vs} {dn : Option Addr} {kn : Nat}
    (R6 : Rep w5 gg (SV.left1 rm ck ids nd (cpN ps) []) V L) (hvn : V.n = .slice dn k kn) (hpk : ps.length = k) (hkl : k ≤ 100000) (hmk : m.take k = ps.map (·.1)) (hx : m[k]? = some (p, a)) (hm : Srt m) (hcp : CopS S nd ps) (hO : (∀ g, V.n.ownBlock = some g → w3.heap.size ≤ g) ∧ V.k = .slice none 0 0 ∧ ∀ i, L i ≠ none → gg ≤ i) (hC : Chg (fun i => i = gg) w3 w5) (hok : (S.nd a).Ok)
    (hbe : be < w5.heap.size) (hL : L be = none) (n6 : NdIn w6 a' ((S.nd a).crash x1) V9) (e6 : Ext w5 w6) (f6 : ∀ i, Foot a' V9 i → w5.heap.size ≤ i) :
    ∃ d8 k8 W8, (Builtin.append_ #[54, 54] 54 #[.slice dn k kn, .slice (some ⟨w6.heap.size, 0, none⟩) 1 1]).run Tryz.prog (w6.alloc (.cells #[.string (tx p), .pointer (some ⟨a', 0, none⟩)] 78)) = .ok (.slice d8 (k + 1) k8) W8 ∧
      (∀ q u, w6.cell? ⟨be, q, none⟩ = some u → W8.cell? ⟨be, q, none⟩ = some u) ∧ Chg (fun i => i = gg) w3 (W8.setCell ⟨gg, 2, none⟩ (.slice d8 (k + 1) k8)) ∧
      (∃ V' L', Rep (W8.setCell ⟨gg, 2, none⟩ (.slice d8 (k + 1) k8)) gg (SV.left1 rm ck (a' :: ids) (upd nd a' ((S.nd a).crash x1)) (cpN (ps ++ [((p, a), a')])) []) V' L' ∧ ((∀ g, V'.n.ownBlock = some g → w3.heap.size ≤ g) ∧ V'.k = .slice none 0 0 ∧ ∀ i, L' i ≠ none → gg ≤ i)) ∧
      CopS S (upd nd a' ((S.nd a).crash x1)) (ps ++ [((p, a), a')]) ∧ W8.cell? ⟨gg, 2, none⟩ = some (.slice dn k kn) ∧ W8.frozen? ⟨gg, 2, none⟩ = false ∧ ¬ be = gg := by
  obtain ⟨ti, ti1, ti2, ti3, ti4⟩ := info_of info64
  have hlen : (cpN ps).length = k := by rw [cpN_len]; exact hpk
  have hat7 : At (w6.alloc (.cells #[.string (tx p), .pointer (some ⟨a', 0, none⟩)] 78)) w6.heap.size #[.string (tx p), .pointer (some ⟨a', 0, none⟩)] 78 := At.new _ _ _
  have e7 := Ext.alloc w6 (.cells #[.string (tx p), .pointer (some ⟨a', 0, none⟩)] 78)
  have hrn : Row (w6.alloc (.cells #[.string (tx p), .pointer (some ⟨a', 0, none⟩)] 78)) 78 2 V.n (cpN ps).length (ents (cpN ps)) := R6.nm.ext (e6.trans e7)
  rw [hlen, hvn] at hrn
  obtain ⟨v8, W8, hrun, hrow, hg8⟩ := run_append_row (P := Tryz.prog) (w6.alloc (.cells #[.string (tx p), .pointer (some ⟨a', 0, none⟩)] 78)) 54 54 54 78 ti _ Tryz.underlying54 ti1 ti2 (by rw [ti3]; rfl) (.slice dn k kn) k (ents (cpN ps)) (by rw [ti3]; exact hrn) (.slice (some ⟨w6.heap.size, 0, none⟩) 1 1) 1 (ents [(p, a')]) (by
    rw [ti3]
    refine Src.ofSlice _ Tryz.underlying54 ⟨w6.heap.size, 0, none⟩ 1 1 _ rfl (fun q u hu => ?_) (ents_one _)
    rw [Addr.add_lit, Nat.zero_add, hat7.cell, ← hu]; simp [ents, ptr]) (by simp only [maxLen]; omega) (by rw [ti4]; omega)
  rw [ti3, ← ents_app2] at hrow
  obtain ⟨d8, k8, hv8, -⟩ := hrow.shape
  subst hv8
  have hVb : V.n.ownBlock ≠ some gg := fun e => by have := R6.ln gg e; rw [R6.lb] at this; cases this
  have hVe : V.n.ownBlock ≠ some be := fun e => by have := R6.ln be e; rw [hL] at this; cases this
  have hbg : ¬ be = gg := fun e => by rw [e, R6.lb] at hL; cases hL
  have hst : Srt (cpN ps ++ [(p, a')]) := by
    refine srt_first (l := m.take (k + 1)) (hm.sub (List.take_sublist _ _)) ?_
    rw [List.take_add_one, hx, hmk, List.map_append, List.map_append, cpN_first]
    rfl
  have hlen1 : (cpN ps ++ [(p, a')]).length = k + 1 := by rw [List.length_append, hlen]; rfl
  obtain ⟨V', L', r9, hv9, hv9k, hlab⟩ := took_more (S := SV.left1 rm ck ids nd (cpN ps) []) (p := p) (v' := .slice d8 (k + 1) k8) R6 e6 n6 (crash_ok hok x1) f6 e7 (by show Row _ _ _ _ (cpN ps ++ [(p, a')]).length _; rw [hlen1]; exact hrow) (by rw [hvn]; exact hg8) hst
  have gown : ∀ g, (Value.slice d8 (k + 1) k8).ownBlock = some g → w3.heap.size ≤ g := fun g hg => by
    rcases hg8.own with e | ⟨q, e, hq⟩
    · rw [hg] at e
      exact hO.1 g (by rw [hvn]; exact e.symm)
    · rw [hg] at e
      injection e with e
      have h1 := hC.size
      have h2 := e6.size
      have h3 := e7.size
      omega
  have at8 : At W8 gg (scells (SV.left1 rm ck ids nd (cpN ps) []) V) 57 := hg8.chg.at (R6.cell.ext (e6.trans e7)) (by rw [← hvn]; exact hVb)
  refine ⟨d8, k8, W8, hrun, fun q u hu => hg8.chg.cell (e7.cell hu) (by rw [← hvn]; exact hVe), ?_, ⟨V', L', ?_, fun g hg => gown g (by rw [← hv9]; exact hg), by rw [hv9k]; exact hO.2.1, fun i hi => by
    rcases hlab i hi with u | u
    · exact hO.2.2 i u
    · have := R6.cell.lt; omega⟩, fun q hq => ?_, by rw [at8.cell]; simp [scells, hvn], at8.frozen 2, hbg⟩
  · refine ((hC.trans (Chg.of_ext (e6.trans e7)) fun _ _ q => q).trans hg8.chg fun i hi hv => ?_).trans (Chg.setCell W8 gg 2 _) fun i _ e => e
    have := hO.1 i (by rw [hvn]; exact hv)
    omega
  · rw [cpN_snoc]; exact r9
  · rcases List.mem_append.1 hq with hq | hq
    · obtain ⟨pick, hpick⟩ := hcp q hq
      refine ⟨pick, ?_⟩
      rw [upd_other _ _ _ _ (fun e => ?_)]
      · exact hpick
      · have h1 := R6.rn (q.1.1, q.2) (List.mem_map.2 ⟨q, hq, rfl⟩)
        have h2 := R6.lt q.2 (by rw [R6.ld q.2 h1 q.2 (Or.inl rfl)]; simp)
        have h3 := f6 a' (Or.inl rfl)
        omega
    · obtain rfl := List.mem_singleton.1 hq
      exact ⟨x1, upd_same _ _ _⟩

end Go.Proofs.YtbneedmfpldpfaaGreatDoor
