/- The contracts of the Writer's functions: leastFirst, spoil, keepChunk, add. The contracts of the Writer's keepChunk and add. The contracts of the Writer's Num, Word, Bytes, Text. The contract of the Writer's Done. The contracts of the document's Num, Word and Bytes. The contracts of the document's GetNum and GetBytes. -/
import Derived.Test.YtnhokjnmpdiokaaGreatDoorCbM
import Derived.Deep.CutRange
import Derived.Deep.OwnRows
import Derived.Lib.ConvBytes
namespace Go.Proofs.YtnhokjnmpdiokaaGreatDoor
open Go.RowKit Go.Sha

def InvLf (w : World) (n : Int) (s : Nat) (i : Value) (wr : World) : Prop := ∃ k : Nat, k ≤ s ∧ i = .int .i64 k ∧ Below w.heap.size w wr ∧ At wr w.heap.size (bs (lfA n s k)) 5
theorem invLf_start (w : World) (n : Int) (s : Nat) : InvLf w n s (.int .i64 0) (w.alloc (.cells (madeCells #[Value.int .u8 0] s) 5)) := by
  refine ⟨0, by omega, rfl, (Below.refl _ _).alloc (Nat.le_refl _) _, ?_⟩
  rw [made_bs, lfA_zero]
  exact At.new w _ 5
theorem invLf_step (w wr : World) (n : Int) (s k : Nat) (v : Int) (hk : k < s) (hv : v = n / 2 ^ (8 * k) % 256) (hB : Below w.heap.size w wr) (h0 : At wr w.heap.size (bs (lfA n s k)) 5) :
    InvLf w n s (.int .i64 ((k + 1 : Nat) : Int)) (wr.setCell ⟨w.heap.size, k, none⟩ (.int .u8 v)) := by
  subst hv
  refine ⟨k + 1, by omega, rfl, hB.setCell (Nat.le_refl _) _, ?_⟩
  have := h0.set k (.int .u8 (n / 2 ^ (8 * k) % 256))
  rwa [bs_set, lfA_set n s k hk] at this
set_option maxHeartbeats 400000 in
theorem lf_any (n : Int) (s : Nat) (w : World) (hs : s ≤ 8) : Calls Tryz.prog 75 #[.int .u64 n, .int .i64 (s : Int)] w (BPost w (lf n s)) := by
  have hmk := fun w => run_make_row' (P := Tryz.prog) 50 5 (.int .u8 0) 1 Tryz.underlying50 u8zero rfl .i64 .i64 s (by omega) (by omega) w
  go_enter Tryz.func75, Tryz.ntmps75
  go_wp2
  go_loopw [11] (fun i wr => InvLf w n s i wr) (fun i _ => s - (intOf i).toNat)
  case atStart => exact invLf_start w n s
  case round =>
    obtain ⟨k, hk, rfl, hB, h1⟩ := hrel
    by_cases hlt : k < s
    · have q1 : (0 : Int) ≤ (k : Int) := by omega
      have q2 : (0 : Int) ≤ 8 * (k : Int) := by omega
      have q3 : ((8 : Int) * (k : Int)).toNat = 8 * k := by omega
      have q4 : min (8 * k) 64 = 8 * k := by omega
      have q5 : (k : Int) < (s : Int) := by omega
      have c0 : wr.cell? ⟨w.heap.size, k, none⟩ = some (.int .u8 ((lfA n s k)[k]?.getD 0)) := h1.get_bs _ (by rw [lfA_length _ _ _ hk]; omega)
      have f0 := h1.frozen k
      go_wp2
      exact ⟨invLf_step w wr n s k _ hlt rfl hB h1, by simp [intOf]; omega⟩
    · obtain rfl : k = s := by omega
      rw [lfA_full] at h1
      go_wp2
      go_ret
      exact ⟨_, rfl, hB, own_of_at (Nat.le_refl _) h1 (lf_length n k) (by omega)⟩
theorem sz52 : (Tryz.prog.info? 98).map (·.size) = some 260 := by kernel_rfl
theorem sz50 : (Tryz.prog.info? 96).map (·.size) = some 256 := by kernel_rfl
def zeroW (bad : Bool) : List Value := wcl (.pointer none) 0 (List.replicate 256 0) 0 bad
theorem zeroW_length (bad : Bool) : (zeroW bad).length = 260 := wcl_length _ _ _ _ _ (List.length_replicate ..)
theorem wcl_one (p : Value) (n : Nat) (wt : List Int) (k : Nat) (bad : Bool) (hp : p.oneCell' = true) : (wcl p n wt k bad).toArray.all (·.oneCell') = true := by
  unfold wcl
  rw [List.all_toArray, List.all_cons, hp, List.all_cons, List.all_append, List.all_map]
  simp [Value.oneCell']
theorem zeroW_one (bad : Bool) : (zeroW bad).toArray.all (·.oneCell') = true := wcl_one _ _ _ _ _ rfl
theorem setCells_whole {w : World} {b : Nat} {l l' : List Value} {t : TypeId} (h : At w b l.toArray t) (hl : l.length = l'.length) : At (w.setCells b 0 l') b l'.toArray t := by
  have := At.cells (t := t) l' l 0 w h (by omega)
  have e : splice l 0 l' = l' := by simp [splice, ← hl]
  rwa [e] at this
theorem zcW : Tryz.zeroCells98.setIfInBounds 259 (.bool true) = (zeroW true).toArray := by kernel_rfl
set_option maxHeartbeats 1000000 in
set_option maxRecDepth 100000 in
theorem spoil_any (b : Nat) (p : Value) (n : Nat) (wt : List Int) (k : Nat) (bad : Bool) (w : World) (h : Wat w b p n wt k bad) : Calls Tryz.prog 74 #[.pointer (some ⟨b, 0, none⟩)] w fun e w' => e = .returned (.pointer (some ⟨b, 0, none⟩)) ∧ Only b w w' ∧ WSt w' b none := by
  have t1 := h.there 0 260 (by omega)
  have H := Lib.hid h; clear h
  have one : (Tryz.zeroCells98.setIfInBounds 259 (.bool true)).all (·.oneCell') = true := by rw [zcW]; exact zeroW_one true
  have sz : (Tryz.prog.info? 98).map (·.size) = some (Tryz.zeroCells98.setIfInBounds 259 (.bool true)).size := by rw [zcW, List.size_toArray, zeroW_length]; exact sz52
  have t2 : w.there b 0 (Tryz.zeroCells98.setIfInBounds 259 (.bool true)).size := by rw [zcW, List.size_toArray, zeroW_length]; exact t1
  have fin := setCells_whole (l' := zeroW true) H.out.at_ (by rw [zeroW_length, wcl_length _ _ _ _ _ H.out.h256])
  have ez : (Tryz.zeroCells98.setIfInBounds 259 (.bool true)).toList = zeroW true := by rw [zcW]
  generalize hz : zeroW true = Z at fin ez
  have Ez := Lib.hid ez
  have Hz := Lib.hid hz
  have Fin := Lib.hid fin
  clear ez hz fin
  go_enter Tryz.func74, Tryz.ntmps74
  go_wp2_with (refine wpList_store_mid rfl 98 _ _ rfl b 0 (Tryz.zeroCells98.setIfInBounds 259 (.bool true)) rfl rfl t2 sz one ?_; rw [Ez.out])
  go_ret
  refine ⟨rfl, Only.cells b _ 0 w, (List.length_replicate ..), ?_⟩
  change At _ _ (zeroW true).toArray _
  rw [Hz.out]
  exact Fin.out

theorem fold_set : ∀ (vs : List Value) (l : List Value) (o j : Nat), o + j + vs.length ≤ l.length → (vs.zipIdx j).foldl (fun cs (x : Value × Nat) => cs.setIfInBounds (o + x.2) x.1) l.toArray = (splice l (o + j) vs).toArray
  | [], l, o, j, _ => by simp [splice]
  | v :: r, l, o, j, h => by
    rw [List.zipIdx_cons, List.foldl_cons]
    simp only [List.setIfInBounds_toArray]
    rw [fold_set r (l.set (o + j) v) o (j + 1) (by simp at h ⊢; omega), ← Nat.add_assoc, splice_cons l (o + j) v r (by simpa using h)]
def chk (q : Option Addr) (wt : List Int) : List Value := .pointer q :: wt.map (Value.int .u8)
theorem fill63 (q : Option Addr) (wt z0 : List Int) (h : wt.length = 256) (h0 : z0.length = 256) : Instr.fill (fun x => [(0, 1), (1, 256)].toArray[x]?) (chk none z0).toArray [(0, .pointer q), (1, .agg (bs wt))] = some (chk q wt).toArray := by
  have h1 : (Value.pointer q).cells = #[.pointer q] := rfl
  have h2 : (Value.agg (bs wt)).cells = bs wt := rfl
  have h3 : (bs wt).size = 256 := by rw [bs_size, h]
  have hz : (chk none z0).length = 257 := by simp [chk, h0]
  have e1 : (chk none z0).toArray.setIfInBounds 0 (.pointer q) = (chk q z0).toArray := by simp [chk]
  have hz2 : (chk q z0).length = 257 := by simp [chk, h0]
  have e2 := fold_set (wt.map (Value.int .u8)) (chk q z0) 1 0 (by rw [hz2, List.length_map, h]; omega)
  have e3 : splice (chk q z0) (1 + 0) (wt.map (Value.int .u8)) = chk q wt := by
    unfold splice chk
    simp only [List.length_map, h, Nat.add_zero, List.take_succ_cons, List.take_zero]
    rw [List.drop_of_length_le (by simp [h0])]
    simp
  rw [e3] at e2
  generalize chk none z0 = Z at *
  generalize chk q z0 = Z2 at *
  unfold Instr.fill
  simp only [List.getElem?_toArray, List.getElem?_cons_zero, h1]
  rw [if_neg (by simp [hz])]
  have e4 : (#[Value.pointer q].zipIdx.foldl (fun cs (x : Value × Nat) => cs.setIfInBounds (0 + x.2) x.1) Z.toArray) = Z2.toArray := by
    simpa using e1
  rw [e4]
  unfold Instr.fill
  simp only [List.getElem?_cons_succ, List.getElem?_cons_zero, h2]
  rw [if_neg (by simp [hz2, h3])]
  unfold Instr.fill
  rw [← e2]
  congr 1
  unfold bs
  simp
theorem built63 (q : Option Addr) (wt : List Int) (h : wt.length = 256) : Tryz.prog.built 131 [(0, .pointer q), (1, .agg (bs wt))] = some (chk q wt).toArray := by
  rw [← fill63 q wt (List.replicate 256 0) h (List.length_replicate ..)]
  kernel_rfl
theorem bld63 (q : Option Addr) (wt : List Int) (h : wt.length = 256) (w : World) : (Instr.build 131 #[(0, .pointer q), (1, .agg (bs wt))]).run Tryz.prog w = .ok (.agg (chk q wt).toArray) w := run_build w 131 _ _ (built63 q wt h)
end Go.Proofs.YtnhokjnmpdiokaaGreatDoor

namespace Go.Proofs.YtnhokjnmpdiokaaGreatDoor
set_option linter.unusedSimpArgs false
open Go.RowKit Go.Sha

theorem at_loadp {op : Oper} {a : Act} {w : World} {K : Act → World → Prop} {Q : Exit → Act → World → Prop} (d : Option Tmp) (hd : op.dst = d) (x : Operand) (ho : op.op = .load 95 x) (g j : Nat) (hx : a.eval x = .pointer (some ⟨g, j, none⟩)) (q : Option Addr) (hc : w.cell? ⟨g, j, none⟩ = some (.pointer q))
    (h : K (a.put d (.pointer q)) w) : op.wp Tryz.prog a w K Q := by
  subst hd
  have hr : (execOp a.eval op).run Tryz.prog w = .ok (.value (.pointer q)) w := by
    unfold execOp
    simp only [ho, hx]
    go_simp
  unfold Oper.wp
  rw [hr]
  exact h
theorem at_storep {op : Oper} {a : Act} {w : World} {K : Act → World → Prop} {Q : Exit → Act → World → Prop} (hd : op.dst = none) (x y : Operand) (ho : op.op = .store 95 x y) (g j : Nat) (hx : a.eval x = .pointer (some ⟨g, j, none⟩)) (q : Option Addr) (hy : a.eval y = .pointer q) (u : Value) (hc : w.cell? ⟨g, j, none⟩ = some u) (hf : w.frozen? ⟨g, j, none⟩ = false)
    (h : K a (w.setCell ⟨g, j, none⟩ (.pointer q))) : op.wp Tryz.prog a w K Q := by
  have hr : (execOp a.eval op).run Tryz.prog w = .ok .skip (w.setCell ⟨g, j, none⟩ (.pointer q)) := by
    unfold execOp
    simp only [ho, hx, hy]
    go_simp
  unfold Oper.wp
  rw [hr]
  show K (a.put op.dst undef) _
  rw [hd]
  exact h
theorem at_box {op : Oper} {a : Act} {w : World} {K : Act → World → Prop} {Q : Exit → Act → World → Prop} (d : Option Tmp) (hd : op.dst = d) (x : Operand) (ho : op.op = .box 131 x) (cs : Array Value) (hx : a.eval x = .agg cs) 
    (h : K (a.put d (.pointer (some ⟨w.heap.size, 0, none⟩))) (w.alloc (.cells cs 131))) : op.wp Tryz.prog a w K Q := by
  subst hd
  have hr : (execOp a.eval op).run Tryz.prog w = .ok (.value (.pointer (some ⟨w.heap.size, 0, none⟩))) (w.alloc (.cells cs 131)) := by
    unfold execOp
    simp only [ho, hx]
    go_simp
  unfold Oper.wp
  rw [hr]
  exact h
theorem zc256 : Tryz.zeroCells96 = bs (List.replicate 256 0) := by kernel_rfl
theorem exec_build {op : Oper} {ev : Operand → Value} {w : World} (t : TypeId) (parts : Array (Nat × Operand)) (ho : op.op = .build t parts) (vs : Array (Nat × Value)) (hv : (parts.map fun (i, x) => (i, ev x)) = vs) (cells : Array Value) (h : (Instr.build t vs).run Tryz.prog w = .ok (.agg cells) w) :
    (execOp ev op).run Tryz.prog w = .ok (.value (.agg cells)) w := by
  subst hv
  unfold execOp
  simp only [ho, Sem.run_bind, h, Result.andThen_ok]
  rfl
set_option maxHeartbeats 1000000 in
set_option maxRecDepth 100000 in
theorem keep_any (b n k : Nat) (q : Option Addr) (wt : List Int) (w : World) (hn2 : n < 4611686018427387904) (h : Wat w b (.pointer q) n wt k false) :
    Calls Tryz.prog 102 #[.pointer (some ⟨b, 0, none⟩)] w fun e w' => e = .returned (.tuple #[]) ∧ ∃ g, g ≠ b ∧ Only b w w' ∧ Wat w' b (.pointer (some ⟨g, 0, none⟩)) (n + 1) (List.replicate 256 0) 0 false ∧ At w' g (chk q wt).toArray 131 := by
  have s50 : (Tryz.prog.info? 96).map (·.size) = some (wt.map (Value.int .u8)).length := by rw [List.length_map, h.h256]; exact sz50
  have hlt := h.at_.lt
  go_enter Tryz.func102, Tryz.ntmps102
  go_wp2
  refine wp_region_any (by kernel_rfl) ?_
  change wpAny _ _ _ _ _ _ _ (World.drew _)
  refine take_at 0 (some 2) (.pointer (some ⟨b, 0, none⟩)) rfl rfl (by kernel_rfl) (by kernel_rfl) (by kernel_rfl) (fun _ _ _ h => h) rfl (fun _ => by go_simp) ?_
  simp only [pt0, pt4, pt1, pt2, pt3]
  refine take_at 1 (some 3) (.pointer (some ⟨b, 0, none⟩)) rfl rfl (by kernel_rfl) (by kernel_rfl) (by kernel_rfl) (fun _ _ _ h => h) rfl (fun _ => by go_simp) ?_
  simp only [pt0, pt4, pt1, pt2, pt3]
  refine take_at 2 (some 4) (.pointer (some ⟨b, 0, none⟩)) rfl rfl (by kernel_rfl) (by kernel_rfl) (by kernel_rfl) (fun _ _ _ h => h) rfl (fun _ => by go_simp) ?_
  simp only [pt0, pt4, pt1, pt2, pt3]
  refine take_at 3 (some 5) (.pointer (some ⟨b, 0, none⟩)) rfl rfl (by kernel_rfl) (by kernel_rfl) (by kernel_rfl) (fun _ _ _ h => h) rfl (fun _ => by go_simp) ?_
  simp only [pt0, pt4, pt1, pt2, pt3]
  refine take_at 5 (some 7) (.pointer (some ⟨b, 0, none⟩)) rfl rfl (by kernel_rfl) (by kernel_rfl) (by kernel_rfl) (fun _ _ _ h => h) rfl (fun _ => by go_simp) ?_
  simp only [pt0, pt4, pt1, pt2, pt3]
  refine take_at 6 (some 8) (.pointer (some ⟨b, 0, none⟩)) rfl rfl (by kernel_rfl) (by kernel_rfl) (by kernel_rfl) (fun _ _ _ h => h) rfl (fun _ => by go_simp) ?_
  simp only [pt0, pt4, pt1, pt2, pt3]
  refine take_at 7 (some 9) (.pointer (some ⟨b, 2, none⟩)) rfl rfl (by kernel_rfl) (by kernel_rfl) (by kernel_rfl) (fun _ _ _ h => h) rfl (fun _ => by go_simp) ?_
  simp only [pt0, pt4, pt1, pt2, pt3]
  refine next_two 4 8 rfl rfl (by kernel_rfl) rfl rfl (fun K hK => ?_) (fun K hK => ?_)
  all_goals
    first
    | (refine at_loadp (some 6) rfl _ rfl b 0 rfl q h.drew.cell_p ?_; refine hK _ _ ?_; clear hK K; simp only [pt0, pt4, pt1, pt2, pt3]; refine next_one 8 rfl (by kernel_rfl) rfl (fun K hK => ?_); refine at_load_mid (some 10) rfl 96 _ rfl b 2 rfl _ _ h.drew.range_wt Tryz.underlying96 rfl s50 ?_; refine hK _ _ ?_; clear hK K; simp only [pt0, pt4, pt1, pt2, pt3])
    | (refine at_load_mid (some 10) rfl 96 _ rfl b 2 rfl _ _ h.drew.range_wt Tryz.underlying96 rfl s50 ?_; refine hK _ _ ?_; clear hK K; simp only [pt0, pt4, pt1, pt2, pt3]; refine next_one 4 rfl (by kernel_rfl) rfl (fun K hK => ?_); refine at_loadp (some 6) rfl _ rfl b 0 rfl q h.drew.cell_p ?_; refine hK _ _ ?_; clear hK K; simp only [pt0, pt4, pt1, pt2, pt3])
    refine take_at 9 (some 11) (.agg (chk q wt).toArray) rfl rfl (by kernel_rfl) (by kernel_rfl) (by kernel_rfl) (fun _ _ _ h => h) rfl (fun w => ?_) ?_
    · exact exec_build 131 _ rfl #[(0, .pointer q), (1, .agg (bs wt))] (by simp only [List.map_toArray, List.map_cons, List.map_nil]; rfl) _ (bld63 q wt h.h256 w)
    simp only [pt0, pt4, pt1, pt2, pt3]
    refine next_one 10 rfl (by kernel_rfl) rfl (fun K hK => ?_)
    refine at_box (some 12) rfl _ rfl (chk q wt).toArray rfl ?_
    refine hK _ _ ?_; clear hK K; simp only [pt0, pt4, pt1, pt2, pt3]
    refine take_at 11 (some 13) (.pointer (some ⟨b, 0, none⟩)) rfl rfl (by kernel_rfl) (by kernel_rfl) (by kernel_rfl) (fun _ _ _ h => h) rfl (fun _ => by go_simp) ?_
    simp only [pt0, pt4, pt1, pt2, pt3]
    refine take_at 12 (some 14) (.pointer (some ⟨b, 0, none⟩)) rfl rfl (by kernel_rfl) (by kernel_rfl) (by kernel_rfl) (fun _ _ _ h => h) rfl (fun _ => by go_simp) ?_
    simp only [pt0, pt4, pt1, pt2, pt3]
    have e1 : Below w.drew.heap.size w.drew (w.drew.alloc (.cells (chk q wt).toArray 131)) := (Below.refl _ _).alloc (Nat.le_refl _) _
    have a1 := At.new w.drew (chk q wt).toArray 131
    have h1 := h.drew.below e1
    have o1 : Only b w (w.drew.alloc (.cells (chk q wt).toArray 131)) := (Only.refl b w).drew.trans (Only.of_below e1)
    have hg : w.drew.heap.size ≠ b := by show w.heap.size ≠ b; omega
    generalize w.drew.heap.size = g at *
    generalize w.drew.alloc (.cells (chk q wt).toArray 131) = w1 at *
    refine next_one 13 rfl (by kernel_rfl) rfl (fun K hK => ?_)
    refine at_storep rfl _ _ rfl b 0 rfl (some ⟨g, 0, none⟩) rfl _ h1.cell_p (h1.frozen 0) ?_
    refine hK _ _ ?_
    clear hK K
    refine wpAny_done (by kernel_rfl) ?_ _
    have h2 := h1.set_p (.pointer (some ⟨g, 0, none⟩))
    have o2 := o1.trans (Only.set b 0 w1 (.pointer (some ⟨g, 0, none⟩)))
    have a2 := a1.set_other b 0 (.pointer (some ⟨g, 0, none⟩)) hg
    generalize w1.setCell ⟨b, 0, none⟩ (.pointer (some ⟨g, 0, none⟩)) = w2 at *
    have c2 := h2.cell_n
    have f2 := h2.frozen 1
    have h3 : Wat (w2.setCell ⟨b, 1, none⟩ (.int .i64 ((n : Int) + 1))) b (.pointer (some ⟨g, 0, none⟩)) (n + 1) wt k false := h2.set_n (n + 1)
    have o3 := o2.trans (Only.set b 1 w2 (.int .i64 ((n : Int) + 1)))
    have a3 := a2.set_other b 1 (.int .i64 ((n : Int) + 1)) hg
    clear h h1 o1 o2 e1 h2 a1 a2
    go_upto_region 2 with (fail)
    generalize w2.setCell ⟨b, 1, none⟩ (.int .i64 ((n : Int) + 1)) = w3 at *
    have t3 := h3.there 2 256 (by omega)
    have h4 := h3.set_wt (List.replicate 256 0) (List.length_replicate ..)
    have o4 := o3.trans (Only.cells b ((List.replicate 256 0).map (Value.int .u8)) 2 w3)
    have a4 := (Only.cells b ((List.replicate 256 0).map (Value.int .u8)) 2 w3).at a3 hg
    have zl : (List.replicate 256 (0 : Int)).length = 256 := List.length_replicate ..
    have zc : Tryz.zeroCells96 = bs (List.replicate 256 (0 : Int)) := zc256
    obtain ⟨Z, hZ⟩ : ∃ Z, Z = List.replicate 256 (0 : Int) := ⟨_, rfl⟩
    rw [← hZ] at h4 o4 a4 zl zc
    have HZ := Lib.hid hZ; clear hZ
    clear h3 o3 a3
    have s2 : (Tryz.prog.info? 96).map (·.size) = some Tryz.zeroCells96.size := by rw [zc, bs_size, zl]; exact sz50
    have t4 : w3.there b 2 Tryz.zeroCells96.size := by rw [zc, bs_size, zl]; exact t3
    have el : Tryz.zeroCells96.toList = Z.map (Value.int .u8) := by rw [zc]; simp [bs]
    have on : Tryz.zeroCells96.all (·.oneCell') = true := by rw [zc]; exact bs_one _
    have El := Lib.hid el; clear el zl zc
    go_upto_region 3 with (refine wpList_store_mid rfl 96 _ _ rfl b 2 Tryz.zeroCells96 rfl rfl t4 s2 on ?_; rw [El.out])
    generalize w3.setCells b 2 (Z.map (Value.int .u8)) = w4 at *
    have c4 := h4.cell_k
    have f4 := h4.frozen 258
    go_wp2
    go_end0
    exact ⟨rfl, g, hg, o4.trans (Only.set _ _ _ _), by rw [← HZ.out]; exact h4.set_k 0, a4.set_other _ _ _ hg⟩

theorem add_bad (b : Nat) (v : Value) (w : World) (h : WSt w b none) : Calls Tryz.prog 73 #[.pointer (some ⟨b, 0, none⟩), v] w fun e w' => e = .returned (.pointer (some ⟨b, 0, none⟩)) ∧ w = w' := by
  have c1 : w.cell? ⟨b, 259, none⟩ = some (.bool true) := Wat.cell_bad (p := .pointer none) h
  clear h
  go_enter Tryz.func73, Tryz.ntmps73
  go_wp2
  go_ret
  exact ⟨rfl, rfl⟩

def wInvA (w : World) (bh : Nat) (l m : List Int) (sb so : Nat) (v : Value) (wr : World) : Prop :=
  ∃ j ad c, j ≤ m.length ∧ v = .slice ad (m.length - j) c ∧ m.length - j ≤ c ∧ (j < m.length → ad = some ⟨sb, so + j, none⟩) ∧ Only bh w wr ∧ WSt wr bh (some (l ++ m.take j))
theorem winv_close (w w' : World) (bh : Nat) (l m x : List Int) (sb so j q r c2 : Nat) (ad ad0 : Option Addr) (c : Nat) (hj : j < m.length) (hr : r = m.length - j) (hq0 : 0 < q) (hqr : q ≤ r) (hc : r - q ≤ c2) (hxs : m.take j ++ x = m.take (j + q))
    (had : q < r → ad = some ⟨sb, so + j + q, none⟩) (ho : Only bh w w') (hrep : WSt w' bh (some ((l ++ m.take j) ++ x))) :
    wInvA w bh l m sb so (.slice ad (r - q) c2) w' ∧ sliceLen (.slice ad (r - q) c2) < sliceLen (.slice ad0 r c) := by
  refine ⟨⟨j + q, _, c2, by omega, by rw [show m.length - (j + q) = r - q by omega], by omega, fun h => ?_, ho, ?_⟩, ?_⟩
  · rw [had (by omega), Nat.add_assoc]
  · rw [List.append_assoc, hxs] at hrep; exact hrep
  · show r - q < r; omega
theorem chain_ptr {w : World} {b : Nat} {cs : List (List Int)} {p : Value} (h : Chain w b p cs) : ∃ q, p = .pointer q := by
  cases cs with
  | nil => exact ⟨none, h⟩
  | cons c r => obtain ⟨g, q, rfl, _⟩ := h; exact ⟨_, rfl⟩

set_option maxHeartbeats 1000000 in
set_option maxRecDepth 100000 in
theorem wadd_any (bh : Nat) (l m : List Int) (v : Value) (w : World) (hr : WSt w bh (some l)) (hlen : l.length + m.length < 4611686018427387904) (hs : Src w v m bh) :
    Calls Tryz.prog 73 #[.pointer (some ⟨bh, 0, none⟩), v] w fun e w' => e = .returned (.pointer (some ⟨bh, 0, none⟩)) ∧ Only bh w w' ∧ WSt w' bh (some (l ++ m)) := by
  obtain ⟨ad, cap, sb, so, rfl, hcap, had, hsb, hm, x6⟩ := hs
  have cb : w.cell? ⟨bh, 259, none⟩ = some (.bool false) := by obtain ⟨cs, t, p, h⟩ := hr; exact h.hat.cell_bad
  have Hr := Lib.hid hr; clear hr
  have Hm := Lib.hid hm; clear hm
  have Ha := Lib.hid had; clear had x6
  go_enter Tryz.func73, Tryz.ntmps73
  go_wp2
  go_loopw [1] (fun v wr => wInvA w bh l m sb so v wr) (fun v _ => sliceLen v)
  case atStart => exact ⟨0, ad, cap, by omega, by simp, by simpa using hcap, fun h => by simpa using Ha.out h, Only.refl _ _, by simpa using Hr.out⟩
  case round =>
    clear cb
    obtain ⟨j, ad', c, hj, rfl, hc, had', ho, hrep⟩ := hrel
    by_cases hlt : j < m.length
    · have e := had' hlt
      subst e
      clear had'
      obtain ⟨cs, t, p, hR⟩ := hrep
      obtain ⟨pq, rfl⟩ := chain_ptr hR.hc
      have hat := hR.hat
      have ck := hat.cell_k
      have ht := hR.ht
      obtain ⟨k, hk⟩ : ∃ k, k = t.length := ⟨_, rfl⟩
      obtain ⟨r, hrr⟩ : ∃ r, r = m.length - j := ⟨_, rfl⟩
      rw [← hk] at ck ht
      rw [← hrr] at hc ⊢
      have hr0 : 0 < r := by omega
      have Hk := Lib.hid hk; clear hk
      have Hrr := Lib.hid hrr; clear hrr
      have hl1 : (0 : Int) ≤ (k : Int) := by omega
      have hl2 : (k : Int) ≤ 256 := by omega
      have hrB : (decide (0 < r)) = true := by simpa using hr0
      have hne : ¬ (256 = k) := by omega
      obtain ⟨x, hx⟩ : ∃ x, x = (m.drop j).take (min r (256 - k)) := ⟨_, rfl⟩
      obtain ⟨q, hq⟩ : ∃ q, q = min r (256 - k) := ⟨_, rfl⟩
      have hxl : x.length = q := by rw [hx, hq, List.length_take, List.length_drop, ← Hrr.out]; omega
      have hxg : ∀ i, i < q → x[i]?.getD 0 = m[j + i]?.getD 0 := fun i hi => by rw [hx, List.getElem?_take_of_lt (by omega), List.getElem?_drop]
      have hxs : m.take j ++ x = m.take (j + q) := by rw [hx, hq, List.take_add]
      have hq0 : 0 < q := by omega
      have hqr : q ≤ r := by omega
      have hq64 : k + q ≤ 256 := by omega
      have hjq : r - q = m.length - (j + q) := by have := Hrr.out; omega
      have Hq := Lib.hid hq; clear hq
      have hsrc : ∀ i v, (x.map (Value.int .u8))[i]? = some v → wr.drew.cell? ((⟨sb, so + j, none⟩ : Addr).add i) = some v := fun i v hv => by
        have hi : i < q := by rw [← hxl]; simpa using (List.getElem?_eq_some_iff.1 hv).1
        rw [Addr.add_mid]
        have h1 := Hm.out (j + i) (by have := Hrr.out; omega)
        have h2 : wr.cell? ⟨sb, so + j + i, none⟩ = w.cell? ⟨sb, so + j + i, none⟩ := World.cell?_of_block (ho.block sb (World.block_lt_of_cell? w _ h1) hsb)
        show wr.cell? _ = _
        rw [h2, Nat.add_assoc, h1, ← hxg i hi, ← hv, List.getElem?_map]
        rw [List.getElem?_eq_getElem (by omega)]; rfl
      have hthere : wr.drew.there bh (2 + k) q := hat.drew.there (2 + k) q (by omega)
      have hmid := hat.drew.set_mid k x (by omega)
      rw [Hk.out, pad256_put, ← Hk.out] at hmid
      have hon0 := Only.cells bh (x.map (Value.int .u8)) (2 + k) wr.drew
      have hon := (Only.refl bh wr).drew.trans hon0
      have Hsrc := Lib.hid hsrc; clear hsrc
      have Hxl := Lib.hid hxl; clear hxl
      have Hxs := Lib.hid hxs; clear hxs hxg hx
      have Hjq := Lib.hid hjq; clear hjq hon0
      go_wp2
      go_still_tail 9, (by kernel_rfl)
      change wpList _ _ _ _ _ wr.drew
      refine list_copy rfl (.tmp 25) (.tmp 26) 50 50 rfl 5 Tryz.underlying50 sz5 bh (2 + k) (256 - k) (256 - k) ⟨sb, so + j, none⟩ r c rfl rfl (x.map (Value.int .u8)) q (by rw [List.length_map]; exact Hxl.out) Hq.out Hsrc.out hthere (by simp [Value.oneCell']) ?_
      generalize wr.drew.setCells bh (2 + k) (x.map (Value.int .u8)) = w2 at *
      simp only [pt0, pt4, pt1, pt2, pt3]
      clear ck hat hthere Hsrc
      have ck := hmid.cell_k
      have fk := hmid.frozen 258
      have b1 : (0 : Int) ≤ (q : Int) := by omega
      have b2 : (q : Int) ≤ (r : Int) := by omega
      have h3 : Wat (w2.setCell ⟨bh, 258, none⟩ (.int .i64 ((k : Int) + (q : Int)))) bh (.pointer pq) cs.length (pad256 (t ++ x)) (k + q) false := hmid.set_k (k + q)
      have o3 := hon.trans (Only.set bh 258 w2 (.int .i64 ((k : Int) + (q : Int))))
      have hbk : cs.length < 4611686018427387904 := by have := hR.len; simp at this; omega
      by_cases hfull : k + q = 256
      · have tB : ((k : Int) + (q : Int) == 256) = true := beq_iff_eq.2 (by omega)
        have Hf := Lib.hid hfull; clear hfull hmid hon
        go_wp2_with fail
        all_goals
          refine (keep_any bh cs.length (k + q) pq (pad256 (t ++ x)) _ hbk h3).mono ?_
          rintro e w4 ⟨rfl, g, hg, o4, h4, a4⟩
          have hw4 := hR.full x (by rw [← Hk.out, Hxl.out]; exact Hf.out) (o3.trans o4) hg h4 a4
          go_wp2
          exact winv_close w w4 bh l m x sb so j q r _ _ _ _ hlt Hrr.out hq0 hqr (by omega) Hxs.out (fun h => by first | rfl | (exfalso; omega) | exact if_neg (by omega)) (ho.trans (o3.trans o4)) hw4
      · have tB : ((k : Int) + (q : Int) == 256) = false := beq_eq_false_iff_ne.2 (by omega)
        have Hf := Lib.hid hfull; clear hfull hmid hon
        go_wp2
        all_goals exact winv_close w _ bh l m x sb so j q r _ _ _ _ hlt Hrr.out hq0 hqr (by omega) Hxs.out (fun h => by first | rfl | (exfalso; omega) | exact if_neg (by omega)) (ho.trans o3) ⟨cs, t ++ x, .pointer pq, hR.more x (by rw [← Hk.out, Hxl.out]; have := Hf.out; omega) o3 (by rw [← Hk.out, Hxl.out]; exact h3)⟩
    · obtain rfl : j = m.length := by omega
      have hz : m.length - m.length = 0 := by omega
      rw [hz]
      rw [List.take_length] at hrep
      have Hrep := Lib.hid hrep; clear hrep hz had'
      go_wp2
      go_ret
      exact ⟨rfl, ho, Hrep.out⟩
end Go.Proofs.YtnhokjnmpdiokaaGreatDoor

namespace Go.Proofs.YtnhokjnmpdiokaaGreatDoor
open Go.RowKit Go.Sha

def oadd (o : Option (List Int)) (m : List Int) : Option (List Int) := o.map (· ++ m)
def Fits (o : Option (List Int)) (n : Nat) : Prop := ∀ l, o = some l → l.length + n < 4611686018427387904
theorem wst_wat {w : World} {b : Nat} {o : Option (List Int)} (h : WSt w b o) : ∃ p n wt k bad, Wat w b p n wt k bad := by
  cases o with
  | none => exact ⟨_, _, _, _, _, h⟩
  | some l => obtain ⟨cs, t, p, h⟩ := h; exact ⟨_, _, _, _, _, h.hat⟩
theorem add_st (b : Nat) (o : Option (List Int)) (m : List Int) (v : Value) (w : World) (h : WSt w b o) (hf : Fits o m.length) (hs : Src w v m b) :
    Calls Tryz.prog 73 #[.pointer (some ⟨b, 0, none⟩), v] w fun e w' => e = .returned (.pointer (some ⟨b, 0, none⟩)) ∧ Only b w w' ∧ WSt w' b (oadd o m) := by
  cases o with
  | none => exact (add_bad b v w h).mono fun e w' he => ⟨he.1, he.2 ▸ Only.refl b w, he.2 ▸ h⟩
  | some l => exact wadd_any b l m v w h (hf l rfl) hs
theorem spoil_st (b : Nat) (o : Option (List Int)) (w : World) (h : WSt w b o) : Calls Tryz.prog 74 #[.pointer (some ⟨b, 0, none⟩)] w fun e w' => e = .returned (.pointer (some ⟨b, 0, none⟩)) ∧ Only b w w' ∧ WSt w' b none := by
  obtain ⟨p, n, wt, k, bad, h⟩ := wst_wat h
  exact spoil_any b p n wt k bad w h
def wNum (o : Option (List Int)) (n : Int) : Option (List Int) := if n < 0 ∨ 2147483647 < n then none else oadd o (lf n 4)
theorem wnum_any (b : Nat) (o : Option (List Int)) (n : Int) (w : World) (h : WSt w b o) (hf : Fits o 4) :
    Calls Tryz.prog 52 #[.pointer (some ⟨b, 0, none⟩), .int .i64 n] w fun e w' => e = .returned (.pointer (some ⟨b, 0, none⟩)) ∧ Only b w w' ∧ WSt w' b (wNum o n) := by
  have H := Lib.hid h; clear h
  have Hf := Lib.hid hf; clear hf
  by_cases h1 : n < 0
  · rw [wNum, if_pos (Or.inl h1)]
    have t1 : decide (n < 0) = true := decide_eq_true h1
    go_enter Tryz.func52, Tryz.ntmps52
    go_wp2_with fail
    refine (spoil_st b o w H.out).mono ?_
    rintro e w' ⟨rfl, ho, hw⟩
    have Hw := Lib.hid hw; clear hw
    go_wp2
    go_ret
    exact ⟨rfl, ho, Hw.out⟩
  · have t1 : decide (n < 0) = false := decide_eq_false h1
    by_cases h2 : 2147483647 < n
    · rw [wNum, if_pos (Or.inr h2)]
      have t2 : decide (2147483647 < n) = true := decide_eq_true h2
      go_enter Tryz.func52, Tryz.ntmps52
      go_wp2_with fail
      refine (spoil_st b o w H.out).mono ?_
      rintro e w' ⟨rfl, ho, hw⟩
      have Hw := Lib.hid hw; clear hw
      go_wp2
      go_ret
      exact ⟨rfl, ho, Hw.out⟩
    · rw [wNum, if_neg (by omega)]
      have t2 : decide (2147483647 < n) = false := decide_eq_false h2
      have u1 : IntKind.u64.wrap n = n := IntWalk.u64_in _ (by omega)
      go_enter Tryz.func52, Tryz.ntmps52
      go_wp2_with fail
      refine (lf_any n 4 w (by omega)).mono ?_
      rintro e w1 ⟨v, rfl, e1, o1⟩
      have S1 := Lib.hid (o1.src b H.out.lt)
      have W1 := Lib.hid (H.out.below e1)
      clear o1
      go_wp2_with fail
      refine (add_st b o _ v w1 W1.out (by rw [lf_length]; exact Hf.out) S1.out).mono ?_
      rintro e w' ⟨rfl, ho, hw⟩
      have Hw := Lib.hid hw; clear hw
      go_wp2
      go_ret
      exact ⟨rfl, (Only.of_below e1).trans ho, Hw.out⟩
theorem wword_any (b : Nat) (o : Option (List Int)) (n : Int) (w : World) (h : WSt w b o) (hf : Fits o 8) :
    Calls Tryz.prog 53 #[.pointer (some ⟨b, 0, none⟩), .int .u64 n] w fun e w' => e = .returned (.pointer (some ⟨b, 0, none⟩)) ∧ Only b w w' ∧ WSt w' b (oadd o (lf n 8)) := by
  have H := Lib.hid h; clear h
  have Hf := Lib.hid hf; clear hf
  go_enter Tryz.func53, Tryz.ntmps53
  go_wp2_with fail
  refine (lf_any n 8 w (by omega)).mono ?_
  rintro e w1 ⟨v, rfl, e1, o1⟩
  have S1 := Lib.hid (o1.src b H.out.lt)
  have W1 := Lib.hid (H.out.below e1)
  clear o1
  go_wp2_with fail
  refine (add_st b o _ v w1 W1.out (by rw [lf_length]; exact Hf.out) S1.out).mono ?_
  rintro e w' ⟨rfl, ho, hw⟩
  have Hw := Lib.hid hw; clear hw
  go_wp2
  go_ret
  exact ⟨rfl, (Only.of_below e1).trans ho, Hw.out⟩
def encB (m : List Int) : List Int := lf m.length 4 ++ m
theorem wNum_len (o : Option (List Int)) (m : List Int) (h : m.length ≤ 1000000000) : oadd (wNum o m.length) m = oadd o (encB m) := by
  rw [wNum, if_neg (by omega)]
  cases o <;> simp [oadd, encB]
theorem fits_num (o : Option (List Int)) (n : Int) (k : Nat) (h : Fits o (4 + k)) : Fits (wNum o n) k := by
  unfold wNum
  split
  · intro l hl; cases hl
  · cases o with
    | none => intro l hl; cases hl
    | some x =>
      intro l hl
      have := h x rfl
      injection hl with hl
      subst hl
      rw [List.length_append, lf_length]; omega
theorem fits_less {o : Option (List Int)} {a c : Nat} (h : Fits o a) (hc : c ≤ a) : Fits o c := fun l hl => by have := h l hl; omega
theorem wbytes_any (b : Nat) (o : Option (List Int)) (m : List Int) (v : Value) (w : World) (h : WSt w b o) (hf : Fits o (4 + m.length)) (hm : m.length ≤ 1000000000) (hs : Src w v m b) :
    Calls Tryz.prog 54 #[.pointer (some ⟨b, 0, none⟩), v] w fun e w' => e = .returned (.pointer (some ⟨b, 0, none⟩)) ∧ Only b w w' ∧ WSt w' b (oadd o (encB m)) := by
  obtain ⟨ad, cap, rfl⟩ := hs.len
  have H := Lib.hid h; clear h
  have Hf := Lib.hid hf; clear hf
  have Hs := Lib.hid hs; clear hs
  go_enter Tryz.func54, Tryz.ntmps54
  go_wp2_with fail
  refine (wnum_any b o _ w H.out (fits_less Hf.out (by omega))).mono ?_
  rintro e w1 ⟨rfl, o1, h1⟩
  have H1 := Lib.hid h1; clear h1
  go_wp2_with fail
  refine (add_st b _ m _ w1 H1.out (fits_num _ _ _ Hf.out) (Hs.out.only o1)).mono ?_
  rintro e w' ⟨rfl, ho, hw⟩
  rw [wNum_len o m hm] at hw
  have Hw := Lib.hid hw; clear hw
  go_wp2
  go_ret
  exact ⟨rfl, o1.trans ho, Hw.out⟩
def nums (s : ByteArray) : List Int := s.data.toList.map fun x => (x.toNat : Int)
theorem nums_length (s : ByteArray) : (nums s).length = s.size := by unfold nums; rw [List.length_map]; rfl
theorem nums_byt (s : ByteArray) : Byt (nums s) := by
  intro x hx
  obtain ⟨y, _, rfl⟩ := List.mem_map.1 hx
  have := y.toNat_lt
  omega
theorem nums_str (s : ByteArray) : strOfNums (nums s) = s := by
  unfold strOfNums nums
  simp [Function.comp_def]
theorem ext_bytes (w : World) (s : ByteArray) : Ext w (Lib.bytesWorld w 5 s) := by
  exact ⟨rfl, rfl, rfl, by rw [Lib.bytesWorld_size]; omega, fun k hk => Lib.bytesWorld_at_old w 5 s k hk⟩
theorem grown_le (w : World) (n : Nat) : n ≤ grownCap w n 0 5 := grownCap_ge w n 0 5
theorem src_bytes (w : World) (s : ByteArray) (b : Nat) (hb : b < w.heap.size) : Src (Lib.bytesWorld w 5 s) (.slice (some ⟨w.heap.size, 0, none⟩) s.size (grownCap w s.size 0 5)) (nums s) b := by
  refine ⟨_, _, w.heap.size, 0, by rw [nums_length], by rw [nums_length]; exact grown_le w _, fun _ => rfl, by omega, fun j hj => ?_, fun h => by cases h⟩
  rw [nums_length] at hj
  rw [Nat.zero_add, Lib.bytesWorld_cell w 5 s j hj]
  have hj' : j < s.data.toList.length := hj
  unfold nums
  rw [List.getElem?_map, List.getD_eq_getElem?_getD, List.getElem?_eq_getElem hj']
  rfl
theorem conv_bytes (w : World) (s : ByteArray) : (convert 9 50 (.string s)).run Tryz.prog w = .ok (.slice (some ⟨w.heap.size, 0, none⟩) s.size (grownCap w s.size 0 5)) (Lib.bytesWorld w 5 s) := Lib.run_convert_string_bytes w 9 50 5 s Tryz.underlying9 Tryz.underlying50 Tryz.underlying5
theorem wtext_any (b : Nat) (o : Option (List Int)) (s : ByteArray) (w : World) (h : WSt w b o) (hf : Fits o (4 + s.size)) (hm : s.size ≤ 1000000000) :
    Calls Tryz.prog 51 #[.pointer (some ⟨b, 0, none⟩), .string s] w fun e w' => e = .returned (.pointer (some ⟨b, 0, none⟩)) ∧ Only b w w' ∧ WSt w' b (oadd o (encB (nums s))) := by
  have H := Lib.hid h; clear h
  have Hf := Lib.hid hf; clear hf
  have hc := conv_bytes
  go_enter Tryz.func51, Tryz.ntmps51
  go_wp2_with fail
  refine (wnum_any b o _ w H.out (fits_less Hf.out (by omega))).mono ?_
  rintro e w1 ⟨rfl, o1, h1⟩
  have H1 := Lib.hid h1; clear h1
  go_wp2_with fail
  have e2 := ext_bytes w1 s
  have s2 := src_bytes w1 s b H1.out.lt
  have h2 := H1.out.below e2
  refine (add_st b _ (nums s) _ _ h2 (by rw [nums_length]; exact fits_num _ _ _ Hf.out) s2).mono ?_
  rintro e w' ⟨rfl, ho, hw⟩
  rw [← nums_length, wNum_len o _ (by rw [nums_length]; exact hm)] at hw
  have Hw := Lib.hid hw; clear hw h2 s2
  go_wp2
  go_ret
  exact ⟨rfl, (o1.trans (Only.of_below e2)).trans ho, Hw.out⟩
end Go.Proofs.YtnhokjnmpdiokaaGreatDoor

namespace Go.Proofs.YtnhokjnmpdiokaaGreatDoor
set_option linter.unusedSimpArgs false
open Go.RowKit Go.Sha

def InvD (w : World) (b : Nat) (l : List Int) (g : Nat) (en c : Value) (wr : World) : Prop :=
  ∃ rest suf E, l = rest.reverse.flatten ++ suf ∧ E = 256 * rest.length ∧ en = .int .i64 (E : Nat) ∧ Chain w b c rest ∧ Ext w wr ∧ At wr g (bs (List.replicate E 0 ++ suf)) 5
theorem list_copy2 {P : Program} {w : World} {ops : Array Oper} {rest : List Oper} {o : Oper} {a : Act} {Q : Exit → Act → World → Prop} (hgd : o.guard = none) (d s : Operand) (dT sT : TypeId)
    (ho : o.op = .call { callee := .builtin .copy, args := #[d, s], argTypes := #[dT, sT] }) (elem : TypeId) (hu : P.underlying dT = some (.slice elem)) (hsz : (P.info? elem).map (·.size) = some 1)
    (b off dLen dCap : Nat) (da : Option Addr) (ad : Addr) (sLen sCap : Nat) (hd : a.eval d = .slice da dLen dCap) (hda : 0 < Nat.min sLen dLen → da = some ⟨b, off, none⟩) (hs : a.eval s = .slice (some ad) sLen sCap)
    (cs : List Value) (q : Nat) (hq : cs.length = q) (hn : q = Nat.min sLen dLen) (hsrc : ∀ j v, cs[j]? = some v → w.cell? (ad.add j) = some v) (ht : w.there b off q) (h1 : ∀ v ∈ cs, v.oneCell' = true)
    (h : wpList P ops Q rest (a.put o.dst (.int .i64 q)) (w.setCells b off cs)) : wpList P ops Q (o :: rest) a w := by
  by_cases h0 : 0 < Nat.min sLen dLen
  · rw [hda h0] at hd
    exact list_copy hgd d s dT sT ho elem hu hsz b off dLen dCap ad sLen sCap hd hs cs q hq hn hsrc ht h1 h
  · have h0 : Nat.min sLen dLen = 0 := by omega
    have hc : cs = [] := List.length_eq_zero_iff.1 (by omega)
    subst hc
    rw [h0] at hn
    subst hn
    refine wpList_plain hgd fun K hK => ?_
    have hrun := run_copy_none (P := P) w dT sT o.type elem da (some ad) dLen dCap sLen sCap hu hsz h0
    unfold Oper.wp
    simp [execOp, ho, resolve, invoke, builtin, hd, hs, hrun, Result.andThen]
    exact hK _ _ h
set_option maxHeartbeats 1000000 in
set_option maxRecDepth 100000 in
theorem done_any (b : Nat) (l : List Int) (w : World) (h : WSt w b (some l)) (hl : l.length ≤ 1000000) :
    Calls Tryz.prog 55 #[.pointer (some ⟨b, 0, none⟩)] w fun e w' => ∃ v, e = .returned (.tuple #[v, .bool true]) ∧ Ext w w' ∧ OwnB w' w.heap.size v l := by
  obtain ⟨cs, t, p, hR⟩ := h
  have hlen := hR.len
  have ht := hR.ht
  obtain ⟨pq, rfl⟩ := chain_ptr hR.hc
  have cn := hR.hat.cell_n
  have ck := hR.hat.cell_k
  have cb := hR.hat.cell_bad
  obtain ⟨k, hk⟩ : ∃ k, k = t.length := ⟨_, rfl⟩
  obtain ⟨n, hn⟩ : ∃ n, n = cs.length := ⟨_, rfl⟩
  obtain ⟨E, hE⟩ : ∃ E, E = 256 * n := ⟨_, rfl⟩
  obtain ⟨N, hN⟩ : ∃ N, N = E + k := ⟨_, rfl⟩
  rw [← hk] at ck ht hlen
  rw [← hn] at cn hlen
  have hlt := hR.hat.at_.lt
  have e1 : Ext w (w.alloc (.cells (madeCells #[Value.int .u8 0] N) 5)) := Ext.alloc w _
  have a1 := At.new w (bs (List.replicate N 0)) 5
  rw [← made_bs] at a1
  have hmk := fun w => run_make_row' (P := Tryz.prog) 50 5 (.int .u8 0) 1 Tryz.underlying50 u8zero rfl .i64 .i64 N (by omega) (by omega) w
  have m1 : (n : Int) * 256 = (E : Int) := by omega
  have m2 : (E : Int) + (k : Int) = (N : Int) := by omega
  have w1 : wrap64 (E : Int) = (E : Int) := IntWalk.wrap64_in _ (by omega)
  have w2 : wrap64 (N : Int) = (N : Int) := IntWalk.wrap64_in _ (by omega)
  have Hk := Lib.hid hk; clear hk
  have Hn := Lib.hid hn; clear hn
  have HE := Lib.hid hE; clear hE
  have HN := Lib.hid hN; clear hN
  have Hl := Lib.hid hlen; clear hlen
  have HR := Lib.hid hR; clear hR
  have ck1 : (w.alloc (.cells (madeCells #[Value.int .u8 0] N) 5)).cell? ⟨b, 258, none⟩ = some (.int .i64 k) := by rw [Hk.out]; exact (HR.out.hat.below e1).cell_k
  go_enter Tryz.func55, Tryz.ntmps55
  go_upto_region 5 with fail
  rw [w1, w2]
  rw [made_bs] at a1 e1 ck1 ⊢
  have h1 := HR.out.hat.below e1
  rw [← Hk.out, ← Hn.out] at h1
  clear ck cn cb hmk m1 m2 w1 w2
  have hg : w.heap.size ≤ w.heap.size := Nat.le_refl _
  have hgb : w.heap.size ≠ b := by omega
  generalize w.alloc (.cells (bs (List.replicate N 0)) 5) = W1 at *
  obtain ⟨g, hgg⟩ : ∃ g, g = w.heap.size := ⟨_, rfl⟩
  rw [← hgg] at hgb a1 ⊢
  have Hg := Lib.hid hgg; clear hgg hg hlt
  have hsrc : ∀ i v, (t.map (Value.int .u8))[i]? = some v → W1.drew.cell? ((⟨b, 2, none⟩ : Addr).add i) = some v := fun i v hv => by
    have hi : i < t.length := by simpa using (List.getElem?_eq_some_iff.1 hv).1
    rw [Addr.add_mid]
    refine h1.range_wt i v ?_
    rw [← hv, pad256, List.map_append, List.getElem?_append_left (by simpa using hi)]
  have hl1 : (0 : Int) ≤ (k : Int) := by omega
  have hl2 : (k : Int) ≤ 256 := by omega
  have hE1 : (0 : Int) ≤ (E : Int) := by omega
  have hE2 : (E : Int) ≤ (N : Int) := by have := HN.out; omega
  have hN0 : N - E = k := by have := HN.out; omega
  have hth : W1.drew.there g E k := a1.drew.there_bs E k (by rw [List.length_replicate]; have := HN.out; omega)
  have a2 : At (W1.drew.setCells g E (t.map (Value.int .u8))) g (bs (List.replicate E 0 ++ t)) 5 := by
    have h9 : At W1.drew g (bs (List.replicate (E + t.length) 0 ++ [])) 5 := by rw [← Hk.out, ← HN.out, List.append_nil]; exact a1
    have := At.put_new h9
    rwa [List.append_nil] at this
  have e2 : Ext w (W1.drew.setCells g E (t.map (Value.int .u8))) := ext_cells (ext_drew e1) (by rw [Hg.out]; exact Nat.le_refl _) _ _
  have Hsrc := Lib.hid hsrc; clear hsrc
  have H1 := Lib.hid h1; clear h1
  have Hth := Lib.hid hth; clear hth
  have HA2 := Lib.hid a2; clear a2
  have A1 := Lib.hid a1; clear a1
  have HE2 := Lib.hid e2; clear e2
  go_wp2
  go_still_tail 11, (by kernel_rfl)
  change wpList _ _ _ _ _ W1.drew
  have hd : 0 < Nat.min k k → (if N = E then some (⟨g, 0, none⟩ : Addr) else some ⟨g, E, none⟩) = some ⟨g, E, none⟩ := fun hq => by
    rw [show k.min k = k from Nat.min_self k] at hq
    rw [if_neg (by have := HN.out; omega)]
  have Hd := Lib.hid hd; clear hd
  generalize (if N = E then some (⟨g, 0, none⟩ : Addr) else some ⟨g, E, none⟩) = DA at *
  refine list_copy2 rfl (.tmp 29) (.tmp 37) 50 50 rfl 5 Tryz.underlying50 sz5 g E k k _ ⟨b, 2, none⟩ k 256 rfl Hd.out rfl (t.map (Value.int .u8)) k (by rw [List.length_map, Hk.out]) (by simp) Hsrc.out Hth.out (by simp [Value.oneCell']) ?_
  generalize W1.drew.setCells g E (t.map (Value.int .u8)) = W2 at *
  simp only [pt0, pt4, pt1, pt2, pt3]
  clear Hsrc H1 Hth A1 ck1 hN0
  have h2 := HR.out.hat.below HE2.out
  have cp := h2.cell_p
  clear h2
  clear Hd
  go_wp2
  go_loopw [4, 6] (fun en c wr => InvD w b l g en c wr) (fun en _ _ => (intOf en).toNat)
  case atStart => exact ⟨cs, t, E, HR.out.hl, by rw [HE.out, Hn.out], rfl, HR.out.hc, HE2.out, HA2.out⟩
  case round =>
    clear cp HA2 HE2
    obtain ⟨rest, suf, E', hl', hE', rfl, hch, he, ha⟩ := hrel
    have hN : N = l.length := by rw [HN.out, HE.out, Hl.out]
    have hN2 : l.length = E' + suf.length := by rw [hl', List.length_append, hch.flat, hE']
    cases rest with
    | nil =>
      obtain rfl : _ = Value.pointer none := hch
      have h0 : E' = 0 := by rw [hE']; rfl
      subst h0
      have hls : suf = l := by rw [hl']; simp
      subst hls
      have ha' : At wr g (bs suf) 5 := by simpa using ha
      have HA := Lib.hid ha'
      have HN' := Lib.hid hN
      clear ha ha' hN hN2 hl' hE'
      go_wp2
      go_ret2
      exact ⟨_, rfl, he, own_of_at (by rw [Hg.out]; exact Nat.le_refl _) HA.out HN'.out.symm (by rw [HN'.out]; exact hl)⟩
    | cons ch r =>
      obtain ⟨cg, cq, rfl, hcb, hc256, hcat, hchr⟩ := hch
      obtain ⟨cq, rfl⟩ := chain_ptr hchr
      have hcw := hcat.below he hcat.lt
      have hcg : cg ≠ g := by have := hcat.lt; rw [Hg.out]; omega
      obtain ⟨E2, hE2⟩ : ∃ E2, E2 = 256 * r.length := ⟨_, rfl⟩
      obtain rfl : E' = E2 + 256 := by rw [hE', List.length_cons, hE2]; omega
      have ha1 : At wr.drew g (bs (List.replicate (E2 + ch.length) 0 ++ suf)) 5 := by rw [hc256]; exact ha
      have ha2 := At.put_new ha1
      have e2 : Ext w (wr.drew.setCells g E2 (ch.map (Value.int .u8))) := ext_cells (ext_drew he) (by rw [Hg.out]; exact Nat.le_refl _) _ _
      have cc2 : (wr.drew.setCells g E2 (ch.map (Value.int .u8))).cell? ⟨cg, 0, none⟩ = some (.pointer cq) := by
        have := (Only.cells g (ch.map (Value.int .u8)) E2 wr.drew).at hcw.drew hcg
        rw [this.cell]; rfl
      have hth : wr.drew.there g E2 256 := ha1.there_bs E2 256 (by rw [List.length_append, List.length_replicate, hc256]; omega)
      have hsrc : ∀ i v, (ch.map (Value.int .u8))[i]? = some v → wr.drew.cell? ((⟨cg, 1, none⟩ : Addr).add i) = some v := fun i v hv => by
        rw [Addr.add_mid]
        show wr.cell? _ = _
        rw [hcw.cell, ← hv, Nat.add_comm]
        simp
      have hl2 : l = r.reverse.flatten ++ (ch ++ suf) := by rw [hl']; simp
      have i1 : (0 : Int) ≤ (E2 : Int) := by omega
      have i2 : (E2 : Int) ≤ (N : Int) := by omega
      have i3 : (E2 : Int) ≤ 1000000 := by omega
      have hne : ¬ (N = E2) := by omega
      have hmin : 256 = Nat.min 256 (N - E2) := by show 256 = min 256 (N - E2); omega
      have Hmin := Lib.hid hmin
      have Hth := Lib.hid hth
      have Hsrc := Lib.hid hsrc
      have Hl2 := Lib.hid hl2
      have HA2 := Lib.hid ha2
      have E22 := Lib.hid hE2
      have Hc := Lib.hid hchr
      have H256 := Lib.hid hc256
      clear hmin hth hsrc hl2 ha2 hE2 hchr hc256 ha1 ha hl' hE' hcw hcat hN hN2
      go_wp2
      go_still_tail 7, (by kernel_rfl)
      change wpList _ _ _ _ _ wr.drew
      refine list_copy rfl (.tmp 53) (.tmp 57) 50 50 rfl 5 Tryz.underlying50 sz5 g E2 (N - E2) (N - E2) ⟨cg, 1, none⟩ 256 256 rfl rfl (ch.map (Value.int .u8)) 256 (by rw [List.length_map]; exact H256.out) Hmin.out Hsrc.out Hth.out (by simp [Value.oneCell']) ?_
      generalize wr.drew.setCells g E2 (ch.map (Value.int .u8)) = W3 at *
      simp only [pt0, pt4, pt1, pt2, pt3]
      go_wp2
      exact ⟨⟨r, ch ++ suf, E2, Hl2.out, E22.out, rfl, Hc.out, e2, HA2.out⟩, by simp [intOf]; omega⟩
end Go.Proofs.YtnhokjnmpdiokaaGreatDoor

namespace Go.Proofs.YtnhokjnmpdiokaaGreatDoor
open Go.RowKit Go.Sha

theorem lf4 (n : Nat) (hn : n ≤ 2147483647) : lf (n : Int) 4 = [(n : Int) % 256, (n : Int) / 256 % 256, (n : Int) / 65536 % 256, (n : Int) / 16777216] := by
  have h : (n : Int) / 16777216 = (n : Int) / 16777216 % 256 := by omega
  rw [h]
  show [(n : Int) / 2 ^ 0 % 256, (n : Int) / 2 ^ 8 % 256, (n : Int) / 2 ^ 16 % 256, (n : Int) / 2 ^ 24 % 256] = _
  rw [show (2 : Int) ^ 0 = 1 from rfl, Int.ediv_one]
  rfl
def InvW (w : World) (n : Int) (b i : Value) (wr : World) : Prop := ∃ k : Nat, k ≤ 8 ∧ i = .int .i64 k ∧ OwnB wr w.heap.size b (lf n k) ∧ Ext w wr
end Go.Proofs.YtnhokjnmpdiokaaGreatDoor

namespace Go.Proofs.YtnhokjnmpdiokaaGreatDoor
open Go.RowKit Go.Sha

theorem take4 (l : List Int) (h : 4 ≤ l.length) : l.take 4 = [l[0]?.getD 0, l[1]?.getD 0, l[2]?.getD 0, l[3]?.getD 0] := by
  match l, h with
  | a :: b :: c :: d :: r, _ => rfl
theorem leN4 (l : List Int) (h : 4 ≤ l.length) : leN (l.take 4) = l[0]?.getD 0 + l[1]?.getD 0 * 256 + l[2]?.getD 0 * 65536 + l[3]?.getD 0 * 16777216 := by
  rw [take4 l h]
  simp only [leN]
  omega
end Go.Proofs.YtnhokjnmpdiokaaGreatDoor
