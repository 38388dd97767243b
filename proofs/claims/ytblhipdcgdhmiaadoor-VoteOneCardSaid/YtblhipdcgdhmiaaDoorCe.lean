/- The contracts of the Writer's keepChunk and add. -/
import Derived.Test.YtblhipdcgdhmiaaDoorCd
namespace Go.Proofs.YtblhipdcgdhmiaaDoor
open Go.RowKit Go.Sha

theorem at_loadp {op : Oper} {a : Act} {w : World} {K : Act → World → Prop} {Q : Exit → Act → World → Prop} (d : Option Tmp) (hd : op.dst = d) (x : Operand) (ho : op.op = .load 51 x) (g j : Nat) (hx : a.eval x = .pointer (some ⟨g, j, none⟩)) (q : Option Addr) (hc : w.cell? ⟨g, j, none⟩ = some (.pointer q))
    (h : K (a.put d (.pointer q)) w) : op.wp Tryd.prog a w K Q := by
  subst hd
  have hr : (execOp a.eval op).run Tryd.prog w = .ok (.value (.pointer q)) w := by
    unfold execOp
    simp only [ho, hx]
    go_simp
  unfold Oper.wp
  rw [hr]
  exact h
theorem at_storep {op : Oper} {a : Act} {w : World} {K : Act → World → Prop} {Q : Exit → Act → World → Prop} (hd : op.dst = none) (x y : Operand) (ho : op.op = .store 51 x y) (g j : Nat) (hx : a.eval x = .pointer (some ⟨g, j, none⟩)) (q : Option Addr) (hy : a.eval y = .pointer q) (u : Value) (hc : w.cell? ⟨g, j, none⟩ = some u) (hf : w.frozen? ⟨g, j, none⟩ = false)
    (h : K a (w.setCell ⟨g, j, none⟩ (.pointer q))) : op.wp Tryd.prog a w K Q := by
  have hr : (execOp a.eval op).run Tryd.prog w = .ok .skip (w.setCell ⟨g, j, none⟩ (.pointer q)) := by
    unfold execOp
    simp only [ho, hx, hy]
    go_simp
  unfold Oper.wp
  rw [hr]
  show K (a.put op.dst undef) _
  rw [hd]
  exact h
theorem sz63 : (Tryd.prog.info? 81).map (·.size) = some 257 := by kernel_rfl
theorem chk_length (q : Option Addr) (wt : List Int) (h : wt.length = 256) : (chk q wt).length = 257 := by simp [chk, h]
theorem at_box {op : Oper} {a : Act} {w : World} {K : Act → World → Prop} {Q : Exit → Act → World → Prop} (d : Option Tmp) (hd : op.dst = d) (x : Operand) (ho : op.op = .box 81 x) (cs : Array Value) (hx : a.eval x = .agg cs) 
    (h : K (a.put d (.pointer (some ⟨w.heap.size, 0, none⟩))) (w.alloc (.cells cs 81))) : op.wp Tryd.prog a w K Q := by
  subst hd
  have hr : (execOp a.eval op).run Tryd.prog w = .ok (.value (.pointer (some ⟨w.heap.size, 0, none⟩))) (w.alloc (.cells cs 81)) := by
    unfold execOp
    simp only [ho, hx]
    go_simp
  unfold Oper.wp
  rw [hr]
  exact h
theorem zc256 : Tryd.zeroCells52 = bs (List.replicate 256 0) := by kernel_rfl
theorem z50 : ∀ w, (zeroValue 52).run Tryd.prog w = .ok (.agg (bs (List.replicate 256 0))) w := (zero_of_info (n := 256) (by kernel_rfl)).1
theorem build50 (w : World) : (Instr.build 52 #[]).run Tryd.prog w = .ok (.agg (bs (List.replicate 256 0))) w := run_build w 52 _ _ (by kernel_rfl)

theorem exec_build {op : Oper} {ev : Operand → Value} {w : World} (t : TypeId) (parts : Array (Nat × Operand)) (ho : op.op = .build t parts) (vs : Array (Nat × Value)) (hv : (parts.map fun (i, x) => (i, ev x)) = vs) (cells : Array Value) (h : (Instr.build t vs).run Tryd.prog w = .ok (.agg cells) w) :
    (execOp ev op).run Tryd.prog w = .ok (.value (.agg cells)) w := by
  subst hv
  unfold execOp
  simp only [ho, Sem.run_bind, h, Result.andThen_ok]
  rfl
set_option maxHeartbeats 1000000 in
set_option maxRecDepth 100000 in
theorem keep_any (b n k : Nat) (q : Option Addr) (wt : List Int) (w : World) (hn2 : n < 4611686018427387904) (h : Wat w b (.pointer q) n wt k false) :
    Calls Tryd.prog 52 #[.pointer (some ⟨b, 0, none⟩)] w fun e w' => e = .returned (.tuple #[]) ∧ ∃ g, g ≠ b ∧ Only b w w' ∧ Wat w' b (.pointer (some ⟨g, 0, none⟩)) (n + 1) (List.replicate 256 0) 0 false ∧ At w' g (chk q wt).toArray 81 := by
  have s50 : (Tryd.prog.info? 52).map (·.size) = some (wt.map (Value.int .u8)).length := by rw [List.length_map, h.h256]; exact sz50
  have hlt := h.at_.lt
  go_enter Tryd.func52, Tryd.ntmps52
  go_wp2
  refine wp_region_any (by kernel_rfl) ?_
  change wpAny _ _ _ _ _ _ _ (World.drew _)
  refine take_at 0 (some 2) (.pointer (some ⟨b, 0, none⟩)) rfl rfl (by kernel_rfl) (by kernel_rfl) (by kernel_rfl) (fun _ _ _ h => h) rfl (fun _ => by go_simp) ?_
  simp only [Act.put, List.setIfInBounds_toArray, List.set_cons_zero, List.set_cons_succ]
  refine take_at 1 (some 3) (.pointer (some ⟨b, 0, none⟩)) rfl rfl (by kernel_rfl) (by kernel_rfl) (by kernel_rfl) (fun _ _ _ h => h) rfl (fun _ => by go_simp) ?_
  simp only [Act.put, List.setIfInBounds_toArray, List.set_cons_zero, List.set_cons_succ]
  refine take_at 2 (some 4) (.pointer (some ⟨b, 0, none⟩)) rfl rfl (by kernel_rfl) (by kernel_rfl) (by kernel_rfl) (fun _ _ _ h => h) rfl (fun _ => by go_simp) ?_
  simp only [Act.put, List.setIfInBounds_toArray, List.set_cons_zero, List.set_cons_succ]
  refine take_at 3 (some 5) (.pointer (some ⟨b, 0, none⟩)) rfl rfl (by kernel_rfl) (by kernel_rfl) (by kernel_rfl) (fun _ _ _ h => h) rfl (fun _ => by go_simp) ?_
  simp only [Act.put, List.setIfInBounds_toArray, List.set_cons_zero, List.set_cons_succ]
  refine take_at 5 (some 7) (.pointer (some ⟨b, 0, none⟩)) rfl rfl (by kernel_rfl) (by kernel_rfl) (by kernel_rfl) (fun _ _ _ h => h) rfl (fun _ => by go_simp) ?_
  simp only [Act.put, List.setIfInBounds_toArray, List.set_cons_zero, List.set_cons_succ]
  refine take_at 6 (some 8) (.pointer (some ⟨b, 0, none⟩)) rfl rfl (by kernel_rfl) (by kernel_rfl) (by kernel_rfl) (fun _ _ _ h => h) rfl (fun _ => by go_simp) ?_
  simp only [Act.put, List.setIfInBounds_toArray, List.set_cons_zero, List.set_cons_succ]
  refine take_at 7 (some 9) (.pointer (some ⟨b, 2, none⟩)) rfl rfl (by kernel_rfl) (by kernel_rfl) (by kernel_rfl) (fun _ _ _ h => h) rfl (fun _ => by go_simp) ?_
  simp only [Act.put, List.setIfInBounds_toArray, List.set_cons_zero, List.set_cons_succ]
  refine next_two 4 8 rfl rfl (by kernel_rfl) rfl rfl (fun K hK => ?_) (fun K hK => ?_)
  all_goals
    first
    | (refine at_loadp (some 6) rfl _ rfl b 0 rfl q h.drew.cell_p ?_; refine hK _ _ ?_; clear hK K; simp only [Act.put, List.setIfInBounds_toArray, List.set_cons_zero, List.set_cons_succ]; refine next_one 8 rfl (by kernel_rfl) rfl (fun K hK => ?_); refine at_load_mid (some 10) rfl 52 _ rfl b 2 rfl _ _ h.drew.range_wt Tryd.underlying52 rfl s50 ?_; refine hK _ _ ?_; clear hK K; simp only [Act.put, List.setIfInBounds_toArray, List.set_cons_zero, List.set_cons_succ])
    | (refine at_load_mid (some 10) rfl 52 _ rfl b 2 rfl _ _ h.drew.range_wt Tryd.underlying52 rfl s50 ?_; refine hK _ _ ?_; clear hK K; simp only [Act.put, List.setIfInBounds_toArray, List.set_cons_zero, List.set_cons_succ]; refine next_one 4 rfl (by kernel_rfl) rfl (fun K hK => ?_); refine at_loadp (some 6) rfl _ rfl b 0 rfl q h.drew.cell_p ?_; refine hK _ _ ?_; clear hK K; simp only [Act.put, List.setIfInBounds_toArray, List.set_cons_zero, List.set_cons_succ])
    refine take_at 9 (some 11) (.agg (chk q wt).toArray) rfl rfl (by kernel_rfl) (by kernel_rfl) (by kernel_rfl) (fun _ _ _ h => h) rfl (fun w => ?_) ?_
    · exact exec_build 81 _ rfl #[(0, .pointer q), (1, .agg (bs wt))] (by simp only [List.map_toArray, List.map_cons, List.map_nil]; rfl) _ (bld63 q wt h.h256 w)
    simp only [Act.put, List.setIfInBounds_toArray, List.set_cons_zero, List.set_cons_succ]
    refine next_one 10 rfl (by kernel_rfl) rfl (fun K hK => ?_)
    refine at_box (some 12) rfl _ rfl (chk q wt).toArray rfl ?_
    refine hK _ _ ?_; clear hK K; simp only [Act.put, List.setIfInBounds_toArray, List.set_cons_zero, List.set_cons_succ]
    refine take_at 11 (some 13) (.pointer (some ⟨b, 0, none⟩)) rfl rfl (by kernel_rfl) (by kernel_rfl) (by kernel_rfl) (fun _ _ _ h => h) rfl (fun _ => by go_simp) ?_
    simp only [Act.put, List.setIfInBounds_toArray, List.set_cons_zero, List.set_cons_succ]
    refine take_at 12 (some 14) (.pointer (some ⟨b, 0, none⟩)) rfl rfl (by kernel_rfl) (by kernel_rfl) (by kernel_rfl) (fun _ _ _ h => h) rfl (fun _ => by go_simp) ?_
    simp only [Act.put, List.setIfInBounds_toArray, List.set_cons_zero, List.set_cons_succ]
    have e1 : Below w.drew.heap.size w.drew (w.drew.alloc (.cells (chk q wt).toArray 81)) := (Below.refl _ _).alloc (Nat.le_refl _) _
    have a1 := At.new w.drew (chk q wt).toArray 81
    have h1 := h.drew.below e1
    have o1 : Only b w (w.drew.alloc (.cells (chk q wt).toArray 81)) := (Only.refl b w).drew.trans (Only.of_below e1)
    have hg : w.drew.heap.size ≠ b := by show w.heap.size ≠ b; omega
    generalize w.drew.heap.size = g at *
    generalize w.drew.alloc (.cells (chk q wt).toArray 81) = w1 at *
    refine next_one 13 rfl (by kernel_rfl) rfl (fun K hK => ?_)
    refine at_storep rfl _ _ rfl b 0 rfl (some ⟨g, 0, none⟩) rfl _ h1.cell_p (h1.frozen 0) ?_
    refine hK _ _ ?_
    clear hK K
    refine wpAny_done (by kernel_rfl) ?_ _
    have h2 := h1.set_p (.pointer (some ⟨g, 0, none⟩))
    have o2 := o1.trans (Only.set b 0 w1 (.pointer (some ⟨g, 0, none⟩)))
    have a2 := a1.set_other b 0 (.pointer (some ⟨g, 0, none⟩)) hg
    generalize w1.setCell ⟨b, 0, none⟩ (.pointer (some ⟨g, 0, none⟩)) = w2 at *
    have c2 := h2.cell_n
    have f2 := h2.frozen 1
    have h3 : Wat (w2.setCell ⟨b, 1, none⟩ (.int .i64 ((n : Int) + 1))) b (.pointer (some ⟨g, 0, none⟩)) (n + 1) wt k false := h2.set_n (n + 1)
    have o3 := o2.trans (Only.set b 1 w2 (.int .i64 ((n : Int) + 1)))
    have a3 := a2.set_other b 1 (.int .i64 ((n : Int) + 1)) hg
    clear h h1 o1 o2 e1 h2 a1 a2
    go_upto_region 2 with (fail)
    generalize w2.setCell ⟨b, 1, none⟩ (.int .i64 ((n : Int) + 1)) = w3 at *
    have t3 := h3.there 2 256 (by omega)
    have h4 := h3.set_wt (List.replicate 256 0) (List.length_replicate ..)
    have o4 := o3.trans (Only.cells b ((List.replicate 256 0).map (Value.int .u8)) 2 w3)
    have a4 := (Only.cells b ((List.replicate 256 0).map (Value.int .u8)) 2 w3).at a3 hg
    have zl : (List.replicate 256 (0 : Int)).length = 256 := List.length_replicate ..
    have zc : Tryd.zeroCells52 = bs (List.replicate 256 (0 : Int)) := zc256
    obtain ⟨Z, hZ⟩ : ∃ Z, Z = List.replicate 256 (0 : Int) := ⟨_, rfl⟩
    rw [← hZ] at h4 o4 a4 zl zc
    have HZ := Lib.hid hZ; clear hZ
    clear h3 o3 a3
    have s2 : (Tryd.prog.info? 52).map (·.size) = some Tryd.zeroCells52.size := by rw [zc, bs_size, zl]; exact sz50
    have t4 : w3.there b 2 Tryd.zeroCells52.size := by rw [zc, bs_size, zl]; exact t3
    have el : Tryd.zeroCells52.toList = Z.map (Value.int .u8) := by rw [zc]; simp [bs]
    have on : Tryd.zeroCells52.all (·.oneCell') = true := by rw [zc]; exact bs_one _
    have El := Lib.hid el; clear el zl zc
    go_upto_region 3 with (refine wpList_store_mid rfl 52 _ _ rfl b 2 Tryd.zeroCells52 rfl rfl t4 s2 on ?_; rw [El.out])
    generalize w3.setCells b 2 (Z.map (Value.int .u8)) = w4 at *
    have c4 := h4.cell_k
    have f4 := h4.frozen 258
    go_wp2
    go_end0
    exact ⟨rfl, g, hg, o4.trans (Only.set _ _ _ _), by rw [← HZ.out]; exact h4.set_k 0, a4.set_other _ _ _ hg⟩

theorem add_nil (v : Value) (w : World) : Calls Tryd.prog 41 #[.pointer none, v] w fun e w' => e = .returned (.pointer none) ∧ w = w' := by
  go_enter Tryd.func41, Tryd.ntmps41
  go_wp2
  go_ret
  exact ⟨rfl, rfl⟩
theorem add_bad (b : Nat) (v : Value) (w : World) (h : WSt w b none) : Calls Tryd.prog 41 #[.pointer (some ⟨b, 0, none⟩), v] w fun e w' => e = .returned (.pointer (some ⟨b, 0, none⟩)) ∧ w = w' := by
  have c1 : w.cell? ⟨b, 259, none⟩ = some (.bool true) := Wat.cell_bad (p := .pointer none) h
  clear h
  go_enter Tryd.func41, Tryd.ntmps41
  go_wp2
  go_ret
  exact ⟨rfl, rfl⟩

def wInvA (w : World) (bh : Nat) (l m : List Int) (sb so : Nat) (v : Value) (wr : World) : Prop :=
  ∃ j ad c, j ≤ m.length ∧ v = .slice ad (m.length - j) c ∧ m.length - j ≤ c ∧ (j < m.length → ad = some ⟨sb, so + j, none⟩) ∧ Only bh w wr ∧ WSt wr bh (some (l ++ m.take j))
theorem winv_close (w w' : World) (bh : Nat) (l m x : List Int) (sb so j q r c2 : Nat) (ad ad0 : Option Addr) (c : Nat) (hj : j < m.length) (hr : r = m.length - j) (hq0 : 0 < q) (hqr : q ≤ r) (hc : r - q ≤ c2) (hxs : m.take j ++ x = m.take (j + q))
    (had : q < r → ad = some ⟨sb, so + j + q, none⟩) (ho : Only bh w w') (hrep : WSt w' bh (some ((l ++ m.take j) ++ x))) :
    wInvA w bh l m sb so (.slice ad (r - q) c2) w' ∧ sliceLen (.slice ad (r - q) c2) < sliceLen (.slice ad0 r c) := by
  refine ⟨⟨j + q, _, c2, by omega, by rw [show m.length - (j + q) = r - q by omega], by omega, fun h => ?_, ho, ?_⟩, ?_⟩
  · rw [had (by omega), Nat.add_assoc]
  · rw [List.append_assoc, hxs] at hrep; exact hrep
  · show r - q < r; omega
theorem chain_ptr {w : World} {b : Nat} {cs : List (List Int)} {p : Value} (h : Chain w b p cs) : ∃ q, p = .pointer q := by
  cases cs with
  | nil => exact ⟨none, h⟩
  | cons c r => obtain ⟨g, q, rfl, _⟩ := h; exact ⟨_, rfl⟩

set_option maxHeartbeats 1000000 in
set_option maxRecDepth 100000 in
theorem wadd_any (bh : Nat) (l m : List Int) (v : Value) (w : World) (hr : WSt w bh (some l)) (hlen : l.length + m.length < 4611686018427387904) (hs : Src w v m bh) :
    Calls Tryd.prog 41 #[.pointer (some ⟨bh, 0, none⟩), v] w fun e w' => e = .returned (.pointer (some ⟨bh, 0, none⟩)) ∧ Only bh w w' ∧ WSt w' bh (some (l ++ m)) := by
  obtain ⟨ad, cap, sb, so, rfl, hcap, had, hsb, hm, x6⟩ := hs
  have cb : w.cell? ⟨bh, 259, none⟩ = some (.bool false) := by obtain ⟨cs, t, p, h⟩ := hr; exact h.hat.cell_bad
  have Hr := Lib.hid hr; clear hr
  have Hm := Lib.hid hm; clear hm
  have Ha := Lib.hid had; clear had x6
  go_enter Tryd.func41, Tryd.ntmps41
  go_wp2
  go_loopw [1] (fun v wr => wInvA w bh l m sb so v wr) (fun v _ => sliceLen v)
  case atStart => exact ⟨0, ad, cap, by omega, by simp, by simpa using hcap, fun h => by simpa using Ha.out h, Only.refl _ _, by simpa using Hr.out⟩
  case round =>
    clear cb
    obtain ⟨j, ad', c, hj, rfl, hc, had', ho, hrep⟩ := hrel
    by_cases hlt : j < m.length
    · have e := had' hlt
      subst e
      clear had'
      obtain ⟨cs, t, p, hR⟩ := hrep
      obtain ⟨pq, rfl⟩ := chain_ptr hR.hc
      have hat := hR.hat
      have ck := hat.cell_k
      have ht := hR.ht
      obtain ⟨k, hk⟩ : ∃ k, k = t.length := ⟨_, rfl⟩
      obtain ⟨r, hrr⟩ : ∃ r, r = m.length - j := ⟨_, rfl⟩
      rw [← hk] at ck ht
      rw [← hrr] at hc ⊢
      have hr0 : 0 < r := by omega
      have Hk := Lib.hid hk; clear hk
      have Hrr := Lib.hid hrr; clear hrr
      have hl1 : (0 : Int) ≤ (k : Int) := by omega
      have hl2 : (k : Int) ≤ 256 := by omega
      have hrB : (decide (0 < r)) = true := by simpa using hr0
      have hne : ¬ (256 = k) := by omega
      obtain ⟨x, hx⟩ : ∃ x, x = (m.drop j).take (min r (256 - k)) := ⟨_, rfl⟩
      obtain ⟨q, hq⟩ : ∃ q, q = min r (256 - k) := ⟨_, rfl⟩
      have hxl : x.length = q := by rw [hx, hq, List.length_take, List.length_drop, ← Hrr.out]; omega
      have hxg : ∀ i, i < q → x[i]?.getD 0 = m[j + i]?.getD 0 := fun i hi => by rw [hx, List.getElem?_take_of_lt (by omega), List.getElem?_drop]
      have hxs : m.take j ++ x = m.take (j + q) := by rw [hx, hq, List.take_add]
      have hq0 : 0 < q := by omega
      have hqr : q ≤ r := by omega
      have hq64 : k + q ≤ 256 := by omega
      have hjq : r - q = m.length - (j + q) := by have := Hrr.out; omega
      have Hq := Lib.hid hq; clear hq
      have hsrc : ∀ i v, (x.map (Value.int .u8))[i]? = some v → wr.drew.cell? ((⟨sb, so + j, none⟩ : Addr).add i) = some v := fun i v hv => by
        have hi : i < q := by rw [← hxl]; simpa using (List.getElem?_eq_some_iff.1 hv).1
        rw [Addr.add_mid]
        have h1 := Hm.out (j + i) (by have := Hrr.out; omega)
        have h2 : wr.cell? ⟨sb, so + j + i, none⟩ = w.cell? ⟨sb, so + j + i, none⟩ := World.cell?_of_block (ho.block sb (World.block_lt_of_cell? w _ h1) hsb)
        show wr.cell? _ = _
        rw [h2, Nat.add_assoc, h1, ← hxg i hi, ← hv, List.getElem?_map]
        rw [List.getElem?_eq_getElem (by omega)]; rfl
      have hthere : wr.drew.there bh (2 + k) q := hat.drew.there (2 + k) q (by omega)
      have hmid := hat.drew.set_mid k x (by omega)
      rw [Hk.out, pad256_put, ← Hk.out] at hmid
      have hon0 := Only.cells bh (x.map (Value.int .u8)) (2 + k) wr.drew
      have hon := (Only.refl bh wr).drew.trans hon0
      have Hsrc := Lib.hid hsrc; clear hsrc
      have Hxl := Lib.hid hxl; clear hxl
      have Hxs := Lib.hid hxs; clear hxs hxg hx
      have Hjq := Lib.hid hjq; clear hjq hon0
      go_wp2
      go_still_tail 9, (by kernel_rfl)
      change wpList _ _ _ _ _ wr.drew
      refine list_copy rfl (.tmp 25) (.tmp 26) 22 22 rfl 5 Tryd.underlying22 sz5 bh (2 + k) (256 - k) (256 - k) ⟨sb, so + j, none⟩ r c rfl rfl (x.map (Value.int .u8)) q (by rw [List.length_map]; exact Hxl.out) Hq.out Hsrc.out hthere (by simp [Value.oneCell']) ?_
      generalize wr.drew.setCells bh (2 + k) (x.map (Value.int .u8)) = w2 at *
      simp only [Act.put, List.setIfInBounds_toArray, List.set_cons_zero, List.set_cons_succ]
      clear ck hat hthere Hsrc
      have ck := hmid.cell_k
      have fk := hmid.frozen 258
      have b1 : (0 : Int) ≤ (q : Int) := by omega
      have b2 : (q : Int) ≤ (r : Int) := by omega
      have h3 : Wat (w2.setCell ⟨bh, 258, none⟩ (.int .i64 ((k : Int) + (q : Int)))) bh (.pointer pq) cs.length (pad256 (t ++ x)) (k + q) false := hmid.set_k (k + q)
      have o3 := hon.trans (Only.set bh 258 w2 (.int .i64 ((k : Int) + (q : Int))))
      have hbk : cs.length < 4611686018427387904 := by have := hR.len; simp at this; omega
      by_cases hfull : k + q = 256
      · have tB : ((k : Int) + (q : Int) == 256) = true := beq_iff_eq.2 (by omega)
        have Hf := Lib.hid hfull; clear hfull hmid hon
        go_wp2_with fail
        all_goals
          refine (keep_any bh cs.length (k + q) pq (pad256 (t ++ x)) _ hbk h3).mono ?_
          rintro e w4 ⟨rfl, g, hg, o4, h4, a4⟩
          have hw4 := hR.full x (by rw [← Hk.out, Hxl.out]; exact Hf.out) (o3.trans o4) hg h4 a4
          go_wp2
          exact winv_close w w4 bh l m x sb so j q r _ _ _ _ hlt Hrr.out hq0 hqr (by omega) Hxs.out (fun h => by first | rfl | (exfalso; omega) | exact if_neg (by omega)) (ho.trans (o3.trans o4)) hw4
      · have tB : ((k : Int) + (q : Int) == 256) = false := beq_eq_false_iff_ne.2 (by omega)
        have Hf := Lib.hid hfull; clear hfull hmid hon
        go_wp2
        all_goals exact winv_close w _ bh l m x sb so j q r _ _ _ _ hlt Hrr.out hq0 hqr (by omega) Hxs.out (fun h => by first | rfl | (exfalso; omega) | exact if_neg (by omega)) (ho.trans o3) ⟨cs, t ++ x, .pointer pq, hR.more x (by rw [← Hk.out, Hxl.out]; have := Hf.out; omega) o3 (by rw [← Hk.out, Hxl.out]; exact h3)⟩
    · obtain rfl : j = m.length := by omega
      have hz : m.length - m.length = 0 := by omega
      rw [hz]
      rw [List.take_length] at hrep
      have Hrep := Lib.hid hrep; clear hrep hz had'
      go_wp2
      go_ret
      exact ⟨rfl, ho, Hrep.out⟩
end Go.Proofs.YtblhipdcgdhmiaaDoor
