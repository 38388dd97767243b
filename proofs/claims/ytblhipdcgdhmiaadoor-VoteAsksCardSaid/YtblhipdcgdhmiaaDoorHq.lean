/- The contract of the document's Vote. -/
import Derived.Test.YtblhipdcgdhmiaaDoorHp
namespace Go.Proofs.YtblhipdcgdhmiaaDoor
open Go.RowKit Go.Sha
set_option linter.unusedSimpArgs false
set_option linter.unusedVariables false

def bestV : Option (Nat × Int) → Int
  | none => -1
  | some (b, _) => b
def bestG : Option (Nat × Int) → Int
  | none => 0
  | some (_, g) => g
def InvRv (w : World) (v0 v1 v2 : Value) (L : List (List Int)) (R : Option Nat) (best g i : Value) (wr : World) : Prop :=
  ∃ (j : Nat) (o : Option (Nat × Int)), j ≤ 3 ∧ i = .int .i64 j ∧ best = .int .i64 (bestV o) ∧ g = .int .i64 (bestG o) ∧ R = docV L ([0, 1, 2].drop j) o ∧ (∀ b g, o = some (b, g) → b < 3) ∧ Ext w wr ∧ At wr w.heap.size #[v0, v1, v2] 38 ∧ At wr (w.heap.size + 1) #[.int .i64 0, .slice none 0 0] 31
def InvTw (W : World) (L : List (List Int)) (j : Nat) (i : Value) (wr : World) : Prop := ∃ k : Nat, k ≤ 3 ∧ i = .int .i64 k ∧ twinF L j 0 = twinF L j k ∧ Ext W wr
def RvP (w : World) (L : List (List Int)) (R : Option Nat) (e : Ending) (w' : World) : Prop :=
  match R with
  | none => VtPost w (0, []) [] 10 e w'
  | some j => VtPost w (pgO (decP (L[j]?.getD []))) (minD L (L[j]?.getD []) 3) 0 e w'
theorem docV_step (L : List (List Int)) (j : Nat) (h : j < 3) (o : Option (Nat × Int)) : docV L ([0, 1, 2].drop j) o = (match decP (L[j]?.getD []) with
    | none => docV L ([0, 1, 2].drop (j + 1)) o
    | some p => if twinF L j 0 then some j else docV L ([0, 1, 2].drop (j + 1)) (match o with
      | none => some (j, p.1)
      | some (b, g) => if g < p.1 then some (j, p.1) else some (b, g))) := by
  match j, h with
  | 0, _ => rfl
  | 1, _ => rfl
  | 2, _ => rfl
theorem twin_step (L : List (List Int)) (j k : Nat) (h : k < 3) : twinF L j k = ((!(k == j) && eqS (L[k]?.getD []) (L[j]?.getD [])) || twinF L j (k + 1)) := by
  match k, h with
  | 0, _ => rfl
  | 1, _ => rfl
  | 2, _ => rfl
theorem twin_end (L : List (List Int)) (j : Nat) : twinF L j 3 = false := rfl

set_option maxHeartbeats 16000000 in
set_option maxRecDepth 100000 in
theorem rvote_any (v0 v1 v2 : Value) (L : List (List Int)) (w : World) (h : AR w v0 v1 v2 L) (hb : ∀ k : Nat, Byt (L[k]?.getD []) ∧ (L[k]?.getD []).length ≤ 30000) :
    Calls Tryd.prog 15 #[.agg #[v0, v1, v2]] w (RvP w L (docV L [0, 1, 2] none)) := by
  obtain ⟨R, hR⟩ : ∃ R, docV L [0, 1, 2] none = R := ⟨_, rfl⟩
  rw [hR]
  have HR := Lib.hid h
  have HB := Lib.hid hb
  have one0 : (#[.int .i64 0, .slice none 0 0] : Array Value).all (·.oneCell') = true := by simp [Value.oneCell']
  have sz0 : (Tryd.prog.info? 31).map (·.size) = some (#[.int .i64 0, .slice none 0 0] : Array Value).size := szRPage
  have e0 : Ext w ((w.alloc (.cells #[v0, v1, v2] 38)).alloc (.cells #[.int .i64 0, .slice none 0 0] 31)) := (Ext.alloc w _).trans (Ext.alloc _ _)
  have a0 : At ((w.alloc (.cells #[v0, v1, v2] 38)).alloc (.cells #[.int .i64 0, .slice none 0 0] 31)) w.heap.size #[v0, v1, v2] 38 := (At.new w _ _).alloc _
  have a1 := At.new1 w (.cells #[v0, v1, v2] 38) #[.int .i64 0, .slice none 0 0] 31
  have H0 := Lib.hid (And.intro hR.symm (And.intro e0 (And.intro a0 a1)))
  clear hR e0 a0 a1 h hb
  go_enter Tryd.func15, Tryd.ntmps15
  go_wp2
  go_loopw [5, 6, 7] (fun b g i wr => InvRv w v0 v1 v2 L R b g i wr) (fun _ _ i _ => 3 - (intOf i).toNat)
  case atStart => exact ⟨0, none, by omega, rfl, rfl, rfl, H0.out.1, (fun b g h => by cases h), H0.out.2.1, H0.out.2.2.1, H0.out.2.2.2⟩
  case round =>
    clear H0
    obtain ⟨j, o, hj, rfl, rfl, rfl, hR, ho, ex, a0, a1⟩ := hrel
    have HO := Lib.hid ho
    clear ho
    by_cases hlt : j < 3
    · have i0 : (j : Int) < 3 := by omega
      have i1 : (0 : Int) ≤ (j : Int) := by omega
      obtain ⟨xj, hxj, sj⟩ := HR.out j hlt
      rw [docV_step L j hlt o] at hR
      obtain ⟨D, hD⟩ : ∃ D, decP (L[j]?.getD []) = D := ⟨_, rfl⟩
      rw [hD] at hR
      have HRR := Lib.hid hR
      have HXJ := Lib.hid hxj
      have SJ := Lib.hid sj
      have cj : wr.cell? ⟨w.heap.size, j, none⟩ = some xj := (a0.cell j).trans hxj
      have DC := rdecode2_any xj (L[j]?.getD []) wr (sj.now ex) (HB.out j).1 (HB.out j).2
      rw [hD] at DC
      unfold DrQ at DC
      obtain ⟨kd, hkd⟩ : ∃ k : Int, (if D.isSome then 0 else 10) = k := ⟨_, rfl⟩
      rw [hkd] at DC
      have HD := Lib.hid (And.intro hD hkd)
      clear hD hkd hR hxj sj
      go_wp2_with fail
      refine DC.mono ?_
      rintro e w3 ⟨vq, rfl, e3, F3⟩
      obtain ⟨⟨gq, mq⟩, hP⟩ : ∃ P, pgO D = P := ⟨_, rfl⟩
      have HP := Lib.hid hP
      rw [hP] at F3 ⊢
      simp only at F3 ⊢
      have ex3 := ex.trans e3
      have s3 := F3 _ _ (SJ.out.now ex3)
      obtain ⟨adq, capq, evadq⟩ := s3.len
      obtain ⟨nlq, hnlq⟩ : ∃ n, n = mq.length := ⟨_, rfl⟩
      rw [← hnlq] at evadq
      clear hnlq
      subst evadq
      have HF3 := Lib.hid F3
      have a03 := at_ext a0 e3
      have a13 := at_ext a1 e3
      have lt3 := a13.lt
      clear DC s3 F3 hP cj ex a0 a1 e3
      have onew4 : (#[.int .i64 gq, .slice adq nlq capq] : Array Value).all (·.oneCell') = true := by simp [Value.oneCell']
      have szw4 : (Tryd.prog.info? 31).map (·.size) = some (#[.int .i64 gq, .slice adq nlq capq] : Array Value).size := szRPage
      have eaw4 : Ext w3 (w3.alloc (.cells #[.int .i64 0, .slice none 0 0] 31)) := Ext.alloc w3 _
      have aaw4 := At.new w3 #[.int .i64 0, .slice none 0 0] 31
      have Ew4 := ext_only' eaw4 (Only.setRow w3.heap.size _ #[.int .i64 gq, .slice adq nlq capq]) (Nat.le_refl _)
      have Aw4 : At ((w3.alloc (.cells #[.int .i64 0, .slice none 0 0] 31)).setRow w3.heap.size #[.int .i64 gq, .slice adq nlq capq]) w3.heap.size #[.int .i64 gq, .slice adq nlq capq] 31 := aaw4.row _
      go_upto_region 7 with (refine wpList_store_row rfl 31 _ _ rfl w3.heap.size _ rfl rfl 31 _ aaw4 szw4 rfl onew4 ?_)
      clear eaw4 aaw4 szw4 onew4
      generalize (w3.alloc (.cells #[.int .i64 0, .slice none 0 0] 31)).setRow w3.heap.size #[.int .i64 gq, .slice adq nlq capq] = w4 at *
      obtain ⟨gQ, hgQ⟩ : ∃ g, g = w3.heap.size := ⟨_, rfl⟩
      rw [← hgQ] at Aw4 lt3 ⊢
      clear hgQ
      have e04 := ex3.trans Ew4
      have a04 := at_ext a03 Ew4
      have a14 := at_ext a13 Ew4
      clear ex3 Ew4 a03 a13
      cases D with
      | none =>
        obtain rfl : (10 : Int) = kd := HD.out.2
        have F := Lib.hid (And.intro e04 (And.intro a04 a14))
        clear e04 a04 a14 Aw4
        go_wp2
        exact ⟨⟨j + 1, o, by omega, by go_num, rfl, rfl, HRR.out, HO.out, F.out.1, F.out.2.1, F.out.2.2⟩, by simp [intOf]; omega⟩
      | some pq =>
      obtain rfl : (0 : Int) = kd := HD.out.2
      have hpq : pq = (gq, mq) := HP.out
      subst hpq
      go_upto_region 8 with (fail)
      go_wp2
      obtain ⟨wq, rfl⟩ : ∃ V, V = wr := ⟨_, rfl⟩
      go_loopw [10] (fun i wr => InvTw w4 L j i wr) (fun i _ => 3 - (intOf i).toNat)
      case atStart => exact ⟨0, by omega, rfl, rfl, Ext.refl _⟩
      case round =>
        obtain ⟨k, hk, rfl, htw, e5⟩ := hrel
        have e05 := e04.trans e5
        have a05 := at_ext a04 e5
        have a15 := at_ext a14 e5
        have a45 := at_ext Aw4 e5
        have HE5 := Lib.hid e5
        have HTW := Lib.hid htw
        clear htw e5
        by_cases hlk : k < 3
        · have ik0 : (k : Int) < 3 := by omega
          have ik1 : (0 : Int) ≤ (k : Int) := by omega
          have hst := twin_step L j k hlk
          rw [← HTW.out] at hst
          have HST := Lib.hid hst
          clear hst
          by_cases hkj : k = j
          · subst hkj
            have t0 : ((k : Int) != (k : Int)) = false := by simp
            have F0 := Lib.hid (And.intro e05 (And.intro a05 (And.intro a15 a45)))
            clear e05 a05 a15 a45
            go_wp2
            go_quiet (fail)
            have hn : twinF L k 0 = twinF L k (k + 1) := by have := HST.out; simpa using this
            have F := Lib.hid (And.intro hn (belowN HE5.out nq))
            clear hn
            go_wp2
            exact ⟨⟨k + 1, by omega, by go_num, F.out.1, F.out.2⟩, by simp [intOf]; omega⟩
          · have t0 : ((k : Int) != (j : Int)) = true := by simp; omega
            have t0' : ((k : Int) == (j : Int)) = false := by simp; omega
            obtain ⟨xk, hxk, sk⟩ := HR.out k hlk
            obtain ⟨B, hB⟩ : ∃ B, eqS (L[k]?.getD []) (L[j]?.getD []) = B := ⟨_, rfl⟩
            have HBB := Lib.hid hB
            obtain ⟨Zk, hZk⟩ : ∃ X, L[k]?.getD [] = X := ⟨_, rfl⟩
            obtain ⟨Zj, hZj⟩ : ∃ X, L[j]?.getD [] = X := ⟨_, rfl⟩
            have ck : wr.cell? ⟨w.heap.size, k, none⟩ = some xk := (a05.cell k).trans hxk
            have cj : wr.cell? ⟨w.heap.size, j, none⟩ = some xj := (a05.cell j).trans HXJ.out
            rw [hZk] at hB sk
            rw [hZj] at hB
            have sj := SJ.out
            rw [hZj] at sj
            have k1 : ∀ n, (convert 22 9 xk).run Tryd.prog (wr.drewN n) = .ok (.string (strOfNums Zk)) (wr.drewN n) := fun n => convB (sk.ext (belowN e05 n))
            have k2 : ∀ n, (convert 22 9 xj).run Tryd.prog (wr.drewN n) = .ok (.string (strOfNums Zj)) (wr.drewN n) := fun n => convB (sj.ext (belowN e05 n))
            have hB2 : ((strOfNums Zk).toList == (strOfNums Zj).toList) = B := hB
            have F0 := Lib.hid (And.intro e05 (And.intro a05 (And.intro a15 a45)))
            have HKJ := Lib.hid hkj
            clear hxk sk sj hB hZk hZj e05 a05 a15 a45 hkj
            cases B
            · go_wp2
              go_quiet (fail)
              have hn : twinF L j 0 = twinF L j (k + 1) := by have := HST.out; rw [HBB.out] at this; simpa using this
              have F := Lib.hid (And.intro hn (belowN HE5.out nq))
              clear hn ck cj k1 k2 hB2
              go_wp2
              exact ⟨⟨k + 1, by omega, by go_num, F.out.1, F.out.2⟩, by simp [intOf]; omega⟩
            · go_wp2
              go_quiet (fail)
              have hn : twinF L j 0 = true := by have := HST.out; rw [HBB.out, show (k == j) = false from beq_eq_false_iff_ne.2 HKJ.out] at this; simpa using this
              have hRR := HRR.out
              simp only [hn, if_true] at hRR
              have HRF := Lib.hid hRR
              have ex9 : Ext w (wr.drewN nq) := belowN F0.out.1 nq
              have aA9 := at_ext F0.out.2.1 (belowN (Ext.refl wr) nq : Ext wr (wr.drewN nq))
              have aR9 := at_ext F0.out.2.2.1 (belowN (Ext.refl wr) nq : Ext wr (wr.drewN nq))
              have aP9 := at_ext F0.out.2.2.2 (belowN (Ext.refl wr) nq : Ext wr (wr.drewN nq))
              clear hn hRR ck cj k1 k2 hB2 F0 HE5
              go_upto_region 12 with (fail)
              generalize wr.drewN nq = w9 at *
              have HRES := Lib.hid (fun (V : World) (hV : Ext w9 V) => at_ext aR9 hV)
              have LT := Lib.hid (And.intro aP9.lt aA9.lt)
              have S0 : Ext w w9.drew ∧ At w9.drew w.heap.size #[v0, v1, v2] 38 ∧ At w9.drew gQ #[.int .i64 gq, .slice adq nlq capq] 31 := ⟨ext_drew ex9, at_ext aA9 (ext_drew (Ext.refl _)), at_ext aP9 (ext_drew (Ext.refl _))⟩
              have d0 : Ext w9 w9.drew := ext_drew (Ext.refl _)
              clear ex9 aA9 aR9 aP9
              refine wp_region_held (S := fun V => Ext w V ∧ At V w.heap.size #[v0, v1, v2] 38 ∧ At V gQ #[.int .i64 gq, .slice adq nlq capq] 31) (by kernel_rfl) ?_
              change wpAnyH _ _ _ _ _ _ _ _ w9.drew
              generalize w9.drew = W0 at *
              refine takeS 0 (some 44) (.agg #[.int .i64 gq, .slice adq nlq capq]) rfl rfl (by kernel_rfl) (by kernel_rfl) (by kernel_rfl) (fun _ _ _ h => h) rfl S0 (fun w' hw' => by have c0 : w'.cell? ⟨gQ, 0, none⟩ = some (.int .i64 gq) := (hw'.2.2.cell 0).trans rfl; have c1 : w'.cell? ⟨gQ, 1, none⟩ = some (.slice adq nlq capq) := (hw'.2.2.cell 1).trans rfl; go_simp) ?_
              simp only [Act.put, List.setIfInBounds_toArray, List.set_cons_zero, List.set_cons_succ]
              refine takeS 1 (some 45) (.agg #[v0, v1, v2]) rfl rfl (by kernel_rfl) (by kernel_rfl) (by kernel_rfl) (fun _ _ _ h => h) rfl S0 (fun w' hw' => by have c0 : w'.cell? ⟨w.heap.size, 0, none⟩ = some v0 := (hw'.2.1.cell 0).trans rfl; have c1 : w'.cell? ⟨w.heap.size, 1, none⟩ = some v1 := (hw'.2.1.cell 1).trans rfl; have c2 : w'.cell? ⟨w.heap.size, 2, none⟩ = some v2 := (hw'.2.1.cell 2).trans rfl; go_simp) ?_
              simp only [Act.put, List.setIfInBounds_toArray, List.set_cons_zero, List.set_cons_succ]
              refine takeS 2 (some 46) (.int .i64 (j : Int)) rfl rfl (by kernel_rfl) (by kernel_rfl) (by kernel_rfl) (fun _ _ _ h => h) rfl S0 (fun w' hw' => by go_simp) ?_
              simp only [Act.put, List.setIfInBounds_toArray, List.set_cons_zero, List.set_cons_succ]
              refine nextS 3 rfl (by kernel_rfl) rfl (callS (some 47) rfl 39 #[.agg #[v0, v1, v2], .int .i64 (j : Int)] (by go_simp) (fun v w' => Ext W0 w' ∧ IR w' v (minD L (L[j]?.getD []) 3) ∧ ∀ g W, g < W0.heap.size → Only g w' W → IR W v (minD L (L[j]?.getD []) 3)) ((minority_any v0 v1 v2 L j (by omega) W0 (HR.out.ext S0.1)).mono fun _ _ he => by obtain ⟨v, h1, h2, h3, h4⟩ := he; exact ⟨v, h1, h2, h3, h4⟩) ?_)
              rintro vm W1 ⟨e1, _, hM⟩
              simp only [Act.put, List.setIfInBounds_toArray, List.set_cons_zero, List.set_cons_succ]
              have S1 : Ext w W1 ∧ At W1 w.heap.size #[v0, v1, v2] 38 ∧ At W1 gQ #[.int .i64 gq, .slice adq nlq capq] 31 := ⟨S0.1.trans e1, at_ext S0.2.1 e1, at_ext S0.2.2 e1⟩
              have ar1 := HRES.out W1 (d0.trans e1)
              have lt0 := d0.size
              have rl : w.heap.size + 1 < W0.heap.size := by have := (HRES.out W0 d0).lt; omega
              clear e1 S0
              refine ⟨S1, ?_⟩
              have one9 : (#[.int .i64 gq, .slice adq nlq capq] : Array Value).all (·.oneCell') = true := by simp [Value.oneCell']
              have sz9 : (Tryd.prog.info? 31).map (·.size) = some (#[.int .i64 gq, .slice adq nlq capq] : Array Value).size := szRPage
              refine nextS 4 rfl (by kernel_rfl) rfl (wp_store_row 31 (.tmp 2) (.tmp 44) rfl (w.heap.size + 1) _ rfl rfl 31 _ ar1 sz9 rfl one9 ?_)
              have o9 := Only.setRow (w.heap.size + 1) W1 #[.int .i64 gq, .slice adq nlq capq]
              have S2 : Ext w (W1.setRow (w.heap.size + 1) #[.int .i64 gq, .slice adq nlq capq]) ∧ At (W1.setRow (w.heap.size + 1) #[.int .i64 gq, .slice adq nlq capq]) w.heap.size #[v0, v1, v2] 38 ∧ At (W1.setRow (w.heap.size + 1) #[.int .i64 gq, .slice adq nlq capq]) gQ #[.int .i64 gq, .slice adq nlq capq] 31 := ⟨ext_only' S1.1 o9 (by omega), o9.at S1.2.1 (by omega), o9.at S1.2.2 (by omega)⟩
              have ar2 := ar1.row #[.int .i64 gq, .slice adq nlq capq]
              have hM2 := hM _ _ rl o9
              clear S1 ar1 o9 hM
              generalize W1.setRow (w.heap.size + 1) #[.int .i64 gq, .slice adq nlq capq] = W2 at *
              refine ⟨S2, ?_⟩
              simp only [Act.put, List.setIfInBounds_toArray, List.set_cons_zero, List.set_cons_succ]
              refine takeS 5 (some 3) (vm) rfl rfl (by kernel_rfl) (by kernel_rfl) (by kernel_rfl) (fun _ _ _ h => h) rfl S2 (fun w' hw' => by go_simp) ?_
              simp only [Act.put, List.setIfInBounds_toArray, List.set_cons_zero, List.set_cons_succ]
              refine takeS 6 (some 4) (.int .i64 0) rfl rfl (by kernel_rfl) (by kernel_rfl) (by kernel_rfl) (fun _ _ _ h => h) rfl S2 (fun w' hw' => by go_simp) ?_
              simp only [Act.put, List.setIfInBounds_toArray, List.set_cons_zero, List.set_cons_succ]
              refine wpAnyH_done (by kernel_rfl) ?_ _
              have FF := Lib.hid (And.intro S2.1 (And.intro ((fun (V : World) (hV : Ext w V) => HF3.out V V.heap.size (SJ.out.now hV)) W2 S2.1) hM2))
              clear S2 hM2
              go_wp2
              refine bodyPost_ret (results_row_tmp2 rfl _ _ (w.heap.size + 1) 31 _ rfl ar2 Tryd.underlying31 rfl sz9) rfl ?_
              have hRF := HRF.out
              subst hRF
              show VtPost w _ _ 0 _ _
              rw [HD.out.1]
              exact ⟨_, _, rfl, FF.out.1, FF.out.2.1, FF.out.2.2⟩
        · obtain rfl : k = 3 := by omega
          have hn : twinF L j 0 = false := HTW.out.trans (twin_end L j)
          have hRR := HRR.out
          simp only [hn, Bool.false_eq_true, if_false] at hRR
          have f0 := a45.cell 0
          have F := Lib.hid (And.intro e05 (And.intro a05 a15))
          clear hn e05 a05 a15 a45 HE5 HTW hlk
          cases o with
          | none =>
            have HRF := Lib.hid hRR
            clear hRR
            simp only [bestV, bestG]
            go_wp2
            exact ⟨⟨j + 1, some (j, gq), by omega, by go_num, rfl, rfl, HRF.out, (fun b g h => by cases h; first | omega | assumption), F.out.1, F.out.2.1, F.out.2.2⟩, by simp [intOf]; omega⟩
          | some bg =>
            obtain ⟨b, g⟩ := bg
            have hb3 := HO.out b g rfl
            simp only at hRR
            simp only [bestV, bestG]
            have db : decide ((b : Int) < 0) = false := by simp
            obtain ⟨B, hB⟩ : ∃ B, decide (g < gq) = B := ⟨_, rfl⟩
            cases B
            · have hng : ¬ g < gq := by simpa using hB
              rw [if_neg hng] at hRR
              have HRF := Lib.hid hRR
              clear hRR hng
              go_wp2
              exact ⟨⟨j + 1, some (b, g), by omega, by go_num, rfl, rfl, HRF.out, (fun b' g' h => by cases h; first | omega | assumption), F.out.1, F.out.2.1, F.out.2.2⟩, by simp [intOf]; omega⟩
            · have hng : g < gq := by simpa using hB
              rw [if_pos hng] at hRR
              have HRF := Lib.hid hRR
              clear hRR hng
              go_wp2
              exact ⟨⟨j + 1, some (j, gq), by omega, by go_num, rfl, rfl, HRF.out, (fun b' g' h => by cases h; first | omega | assumption), F.out.1, F.out.2.1, F.out.2.2⟩, by simp [intOf]; omega⟩
    · obtain rfl : j = 3 := by omega
      have hR3 : R = o.map (·.1) := hR
      have HR3 := Lib.hid hR3
      clear hR3 hR hlt hj
      cases o with
      | none =>
        have hR4 : R = none := HR3.out
        subst hR4
        simp only [bestV, bestG]
        have F := Lib.hid (ext_only' ex (Only.setRow (w.heap.size + 1) wr #[.int .i64 0, .slice none 0 0]) (by omega))
        clear ex
        go_wp2_with (refine wpList_store_row rfl 31 _ _ rfl (w.heap.size + 1) _ rfl rfl 31 _ a1 sz0 rfl one0 ?_)
        refine bodyPost_ret (results_row_tmp2 rfl _ _ (w.heap.size + 1) 31 _ rfl (a1.row #[.int .i64 0, .slice none 0 0]) Tryd.underlying31 rfl sz0) rfl ?_
        exact ⟨_, _, rfl, F.out, src_nil _ _, ir_nil _⟩
      | some bg =>
        obtain ⟨b, g⟩ := bg
        have hb3 := HO.out b g rfl
        have hR4 : R = some b := HR3.out
        subst hR4
        simp only [bestV, bestG]
        have db : decide ((b : Int) < 0) = false := by simp
        have i0 : (b : Int) < 3 := by omega
        have i1 : (0 : Int) ≤ (b : Int) := by omega
        obtain ⟨xj, hxj, sj⟩ := HR.out b hb3
        obtain ⟨D, hD⟩ : ∃ D, decP (L[b]?.getD []) = D := ⟨_, rfl⟩
        have SJ := Lib.hid sj
        have cj : wr.cell? ⟨w.heap.size, b, none⟩ = some xj := (a0.cell b).trans hxj
        have DC := rdecode2_any xj (L[b]?.getD []) wr (sj.now ex) (HB.out b).1 (HB.out b).2
        rw [hD] at DC
        unfold DrQ at DC
        obtain ⟨kd, hkd⟩ : ∃ k : Int, (if D.isSome then 0 else 10) = k := ⟨_, rfl⟩
        rw [hkd] at DC
        have HD := Lib.hid (And.intro hD hkd)
        clear hD hkd hxj sj
        go_wp2_with fail
        refine DC.mono ?_
        rintro e w3 ⟨vq, rfl, e3, F3⟩
        obtain ⟨⟨gq, mq⟩, hP⟩ : ∃ P, pgO D = P := ⟨_, rfl⟩
        have HP := Lib.hid hP
        rw [hP] at F3 ⊢
        simp only at F3 ⊢
        have ex3 := ex.trans e3
        have s3 := F3 _ _ (SJ.out.now ex3)
        obtain ⟨adq, capq, evadq⟩ := s3.len
        obtain ⟨nlq, hnlq⟩ : ∃ n, n = mq.length := ⟨_, rfl⟩
        rw [← hnlq] at evadq
        clear hnlq
        subst evadq
        have HF3 := Lib.hid F3
        have a03 := at_ext a0 e3
        have a13 := at_ext a1 e3
        have lt3 := a13.lt
        clear DC s3 F3 hP cj ex a0 a1 e3
        have onew4 : (#[.int .i64 gq, .slice adq nlq capq] : Array Value).all (·.oneCell') = true := by simp [Value.oneCell']
        have szw4 : (Tryd.prog.info? 31).map (·.size) = some (#[.int .i64 gq, .slice adq nlq capq] : Array Value).size := szRPage
        have eaw4 : Ext w3 (w3.alloc (.cells #[.int .i64 0, .slice none 0 0] 31)) := Ext.alloc w3 _
        have aaw4 := At.new w3 #[.int .i64 0, .slice none 0 0] 31
        have Ew4 := ext_only' eaw4 (Only.setRow w3.heap.size _ #[.int .i64 gq, .slice adq nlq capq]) (Nat.le_refl _)
        have Aw4 : At ((w3.alloc (.cells #[.int .i64 0, .slice none 0 0] 31)).setRow w3.heap.size #[.int .i64 gq, .slice adq nlq capq]) w3.heap.size #[.int .i64 gq, .slice adq nlq capq] 31 := aaw4.row _
        go_upto_region 19 with (refine wpList_store_row rfl 31 _ _ rfl w3.heap.size _ rfl rfl 31 _ aaw4 szw4 rfl onew4 ?_)
        clear eaw4 aaw4 szw4 onew4
        generalize (w3.alloc (.cells #[.int .i64 0, .slice none 0 0] 31)).setRow w3.heap.size #[.int .i64 gq, .slice adq nlq capq] = w4 at *
        obtain ⟨gQ, hgQ⟩ : ∃ g, g = w3.heap.size := ⟨_, rfl⟩
        rw [← hgQ] at Aw4 lt3 ⊢
        clear hgQ
        have e04 := ex3.trans Ew4
        have a04 := at_ext a03 Ew4
        have a14 := at_ext a13 Ew4
        clear ex3 Ew4 a03 a13 db
        have HRES := Lib.hid (fun (V : World) (hV : Ext w4 V) => at_ext a14 hV)
        have LT := Lib.hid (And.intro Aw4.lt a04.lt)
        have S0 : Ext w w4.drew ∧ At w4.drew w.heap.size #[v0, v1, v2] 38 ∧ At w4.drew gQ #[.int .i64 gq, .slice adq nlq capq] 31 := ⟨ext_drew e04, at_ext a04 (ext_drew (Ext.refl _)), at_ext Aw4 (ext_drew (Ext.refl _))⟩
        have d0 : Ext w4 w4.drew := ext_drew (Ext.refl _)
        clear e04 a04 a14 Aw4
        refine wp_region_held (S := fun V => Ext w V ∧ At V w.heap.size #[v0, v1, v2] 38 ∧ At V gQ #[.int .i64 gq, .slice adq nlq capq] 31) (by kernel_rfl) ?_
        change wpAnyH _ _ _ _ _ _ _ _ w4.drew
        generalize w4.drew = W0 at *
        refine takeS 0 (some 69) (.agg #[.int .i64 gq, .slice adq nlq capq]) rfl rfl (by kernel_rfl) (by kernel_rfl) (by kernel_rfl) (fun _ _ _ h => h) rfl S0 (fun w' hw' => by have c0 : w'.cell? ⟨gQ, 0, none⟩ = some (.int .i64 gq) := (hw'.2.2.cell 0).trans rfl; have c1 : w'.cell? ⟨gQ, 1, none⟩ = some (.slice adq nlq capq) := (hw'.2.2.cell 1).trans rfl; go_simp) ?_
        simp only [Act.put, List.setIfInBounds_toArray, List.set_cons_zero, List.set_cons_succ]
        refine takeS 1 (some 70) (.agg #[v0, v1, v2]) rfl rfl (by kernel_rfl) (by kernel_rfl) (by kernel_rfl) (fun _ _ _ h => h) rfl S0 (fun w' hw' => by have c0 : w'.cell? ⟨w.heap.size, 0, none⟩ = some v0 := (hw'.2.1.cell 0).trans rfl; have c1 : w'.cell? ⟨w.heap.size, 1, none⟩ = some v1 := (hw'.2.1.cell 1).trans rfl; have c2 : w'.cell? ⟨w.heap.size, 2, none⟩ = some v2 := (hw'.2.1.cell 2).trans rfl; go_simp) ?_
        simp only [Act.put, List.setIfInBounds_toArray, List.set_cons_zero, List.set_cons_succ]
        refine takeS 2 (some 71) (.int .i64 (b : Int)) rfl rfl (by kernel_rfl) (by kernel_rfl) (by kernel_rfl) (fun _ _ _ h => h) rfl S0 (fun w' hw' => by go_simp) ?_
        simp only [Act.put, List.setIfInBounds_toArray, List.set_cons_zero, List.set_cons_succ]
        refine nextS 3 rfl (by kernel_rfl) rfl (callS (some 72) rfl 39 #[.agg #[v0, v1, v2], .int .i64 (b : Int)] (by go_simp) (fun v w' => Ext W0 w' ∧ IR w' v (minD L (L[b]?.getD []) 3) ∧ ∀ g W, g < W0.heap.size → Only g w' W → IR W v (minD L (L[b]?.getD []) 3)) ((minority_any v0 v1 v2 L b (by omega) W0 (HR.out.ext S0.1)).mono fun _ _ he => by obtain ⟨v, h1, h2, h3, h4⟩ := he; exact ⟨v, h1, h2, h3, h4⟩) ?_)
        rintro vm W1 ⟨e1, _, hM⟩
        simp only [Act.put, List.setIfInBounds_toArray, List.set_cons_zero, List.set_cons_succ]
        have S1 : Ext w W1 ∧ At W1 w.heap.size #[v0, v1, v2] 38 ∧ At W1 gQ #[.int .i64 gq, .slice adq nlq capq] 31 := ⟨S0.1.trans e1, at_ext S0.2.1 e1, at_ext S0.2.2 e1⟩
        have ar1 := HRES.out W1 (d0.trans e1)
        have lt0 := d0.size
        have rl : w.heap.size + 1 < W0.heap.size := by have := (HRES.out W0 d0).lt; omega
        clear e1 S0
        refine ⟨S1, ?_⟩
        have one9 : (#[.int .i64 gq, .slice adq nlq capq] : Array Value).all (·.oneCell') = true := by simp [Value.oneCell']
        have sz9 : (Tryd.prog.info? 31).map (·.size) = some (#[.int .i64 gq, .slice adq nlq capq] : Array Value).size := szRPage
        refine nextS 4 rfl (by kernel_rfl) rfl (wp_store_row 31 (.tmp 2) (.tmp 69) rfl (w.heap.size + 1) _ rfl rfl 31 _ ar1 sz9 rfl one9 ?_)
        have o9 := Only.setRow (w.heap.size + 1) W1 #[.int .i64 gq, .slice adq nlq capq]
        have S2 : Ext w (W1.setRow (w.heap.size + 1) #[.int .i64 gq, .slice adq nlq capq]) ∧ At (W1.setRow (w.heap.size + 1) #[.int .i64 gq, .slice adq nlq capq]) w.heap.size #[v0, v1, v2] 38 ∧ At (W1.setRow (w.heap.size + 1) #[.int .i64 gq, .slice adq nlq capq]) gQ #[.int .i64 gq, .slice adq nlq capq] 31 := ⟨ext_only' S1.1 o9 (by omega), o9.at S1.2.1 (by omega), o9.at S1.2.2 (by omega)⟩
        have ar2 := ar1.row #[.int .i64 gq, .slice adq nlq capq]
        have hM2 := hM _ _ rl o9
        clear S1 ar1 o9 hM
        generalize W1.setRow (w.heap.size + 1) #[.int .i64 gq, .slice adq nlq capq] = W2 at *
        refine ⟨S2, ?_⟩
        simp only [Act.put, List.setIfInBounds_toArray, List.set_cons_zero, List.set_cons_succ]
        refine takeS 5 (some 3) (vm) rfl rfl (by kernel_rfl) (by kernel_rfl) (by kernel_rfl) (fun _ _ _ h => h) rfl S2 (fun w' hw' => by go_simp) ?_
        simp only [Act.put, List.setIfInBounds_toArray, List.set_cons_zero, List.set_cons_succ]
        refine takeS 6 (some 4) (.int .i64 0) rfl rfl (by kernel_rfl) (by kernel_rfl) (by kernel_rfl) (fun _ _ _ h => h) rfl S2 (fun w' hw' => by go_simp) ?_
        simp only [Act.put, List.setIfInBounds_toArray, List.set_cons_zero, List.set_cons_succ]
        refine wpAnyH_done (by kernel_rfl) ?_ _
        have FF := Lib.hid (And.intro S2.1 (And.intro ((fun (V : World) (hV : Ext w V) => HF3.out V V.heap.size (SJ.out.now hV)) W2 S2.1) hM2))
        clear S2 hM2
        go_wp2
        refine bodyPost_ret (results_row_tmp2 rfl _ _ (w.heap.size + 1) 31 _ rfl ar2 Tryd.underlying31 rfl sz9) rfl ?_
        show VtPost w _ _ 0 _ _
        rw [HD.out.1, HP.out]
        exact ⟨_, _, rfl, FF.out.1, FF.out.2.1, FF.out.2.2⟩
end Go.Proofs.YtblhipdcgdhmiaaDoor
