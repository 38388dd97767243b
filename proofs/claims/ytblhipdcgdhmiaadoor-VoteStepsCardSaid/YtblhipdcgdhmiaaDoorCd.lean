/- The contracts of the Writer's functions: leastFirst, spoil, keepChunk, add. -/
import Derived.Test.YtblhipdcgdhmiaaDoorCc
import Derived.Deep.CutRange
import Derived.Deep.OwnRows
namespace Go.Proofs.YtblhipdcgdhmiaaDoor
open Go.RowKit Go.Sha

def InvLf (w : World) (n : Int) (s : Nat) (i : Value) (wr : World) : Prop := ∃ k : Nat, k ≤ s ∧ i = .int .i64 k ∧ Below w.heap.size w wr ∧ At wr w.heap.size (bs (lfA n s k)) 5
theorem invLf_start (w : World) (n : Int) (s : Nat) : InvLf w n s (.int .i64 0) (w.alloc (.cells (madeCells #[Value.int .u8 0] s) 5)) := by
  refine ⟨0, by omega, rfl, (Below.refl _ _).alloc (Nat.le_refl _) _, ?_⟩
  rw [made_bs, lfA_zero]
  exact At.new w _ 5
theorem invLf_step (w wr : World) (n : Int) (s k : Nat) (v : Int) (hk : k < s) (hv : v = n / 2 ^ (8 * k) % 256) (hB : Below w.heap.size w wr) (h0 : At wr w.heap.size (bs (lfA n s k)) 5) :
    InvLf w n s (.int .i64 ((k + 1 : Nat) : Int)) (wr.setCell ⟨w.heap.size, k, none⟩ (.int .u8 v)) := by
  subst hv
  refine ⟨k + 1, by omega, rfl, hB.setCell (Nat.le_refl _) _, ?_⟩
  have := h0.set k (.int .u8 (n / 2 ^ (8 * k) % 256))
  rwa [bs_set, lfA_set n s k hk] at this
set_option maxHeartbeats 400000 in
theorem lf_any (n : Int) (s : Nat) (w : World) (hs : s ≤ 8) : Calls Tryd.prog 42 #[.int .u64 n, .int .i64 (s : Int)] w (BPost w (lf n s)) := by
  have hmk := fun w => run_make_row' (P := Tryd.prog) 22 5 (.int .u8 0) 1 Tryd.underlying22 u8zero rfl .i64 .i64 s (by omega) (by omega) w
  go_enter Tryd.func42, Tryd.ntmps42
  go_wp2
  go_loopw [11] (fun i wr => InvLf w n s i wr) (fun i _ => s - (intOf i).toNat)
  case atStart => exact invLf_start w n s
  case round =>
    obtain ⟨k, hk, rfl, hB, h1⟩ := hrel
    by_cases hlt : k < s
    · have q1 : (0 : Int) ≤ (k : Int) := by omega
      have q2 : (0 : Int) ≤ 8 * (k : Int) := by omega
      have q3 : ((8 : Int) * (k : Int)).toNat = 8 * k := by omega
      have q4 : min (8 * k) 64 = 8 * k := by omega
      have q5 : (k : Int) < (s : Int) := by omega
      have c0 : wr.cell? ⟨w.heap.size, k, none⟩ = some (.int .u8 ((lfA n s k)[k]?.getD 0)) := h1.get_bs _ (by rw [lfA_length _ _ _ hk]; omega)
      have f0 := h1.frozen k
      go_wp2
      exact ⟨invLf_step w wr n s k _ hlt rfl hB h1, by simp [intOf]; omega⟩
    · obtain rfl : k = s := by omega
      rw [lfA_full] at h1
      go_wp2
      go_ret
      exact ⟨_, rfl, hB, own_of_at (Nat.le_refl _) h1 (lf_length n k) (by omega)⟩
theorem spoil_nil (w : World) : Calls Tryd.prog 40 #[.pointer none] w fun e w' => e = .returned (.pointer none) ∧ w = w' := by
  go_enter Tryd.func40, Tryd.ntmps40
  go_wp2
  go_ret
  exact ⟨rfl, rfl⟩
theorem sz52 : (Tryd.prog.info? 54).map (·.size) = some 260 := by kernel_rfl
theorem sz50 : (Tryd.prog.info? 52).map (·.size) = some 256 := by kernel_rfl
/-- A zero Writer. -/
def zeroW (bad : Bool) : List Value := wcl (.pointer none) 0 (List.replicate 256 0) 0 bad
theorem zeroW_length (bad : Bool) : (zeroW bad).length = 260 := wcl_length _ _ _ _ _ (List.length_replicate ..)
theorem zeroW_bad : (zeroW false).toArray.setIfInBounds 259 (.bool true) = (zeroW true).toArray := by kernel_rfl
theorem z52 : ∀ w, (zeroValue 54).run Tryd.prog w = .ok (.agg (zeroW false).toArray) w := (zero_of_info (n := 260) (by kernel_rfl)).1
theorem wcl_one (p : Value) (n : Nat) (wt : List Int) (k : Nat) (bad : Bool) (hp : p.oneCell' = true) : (wcl p n wt k bad).toArray.all (·.oneCell') = true := by
  unfold wcl
  rw [List.all_toArray, List.all_cons, hp, List.all_cons, List.all_append, List.all_map]
  simp [Value.oneCell']
theorem zeroW_one (bad : Bool) : (zeroW bad).toArray.all (·.oneCell') = true := wcl_one _ _ _ _ _ rfl
theorem zeroW_lt : ((zeroW false).toArray.size < 260) = False := by rw [List.size_toArray, zeroW_length]; simp
theorem setCells_whole {w : World} {b : Nat} {l l' : List Value} {t : TypeId} (h : At w b l.toArray t) (hl : l.length = l'.length) : At (w.setCells b 0 l') b l'.toArray t := by
  have := At.cells (t := t) l' l 0 w h (by omega)
  have e : splice l 0 l' = l' := by simp [splice, ← hl]
  rwa [e] at this
theorem zcW : Tryd.zeroCells54.setIfInBounds 259 (.bool true) = (zeroW true).toArray := by kernel_rfl
set_option maxHeartbeats 1000000 in
set_option maxRecDepth 100000 in
theorem spoil_any (b : Nat) (p : Value) (n : Nat) (wt : List Int) (k : Nat) (bad : Bool) (w : World) (h : Wat w b p n wt k bad) : Calls Tryd.prog 40 #[.pointer (some ⟨b, 0, none⟩)] w fun e w' => e = .returned (.pointer (some ⟨b, 0, none⟩)) ∧ Only b w w' ∧ WSt w' b none := by
  have t1 := h.there 0 260 (by omega)
  have H := Lib.hid h; clear h
  have one : (Tryd.zeroCells54.setIfInBounds 259 (.bool true)).all (·.oneCell') = true := by rw [zcW]; exact zeroW_one true
  have sz : (Tryd.prog.info? 54).map (·.size) = some (Tryd.zeroCells54.setIfInBounds 259 (.bool true)).size := by rw [zcW, List.size_toArray, zeroW_length]; exact sz52
  have t2 : w.there b 0 (Tryd.zeroCells54.setIfInBounds 259 (.bool true)).size := by rw [zcW, List.size_toArray, zeroW_length]; exact t1
  have fin := setCells_whole (l' := zeroW true) H.out.at_ (by rw [zeroW_length, wcl_length _ _ _ _ _ H.out.h256])
  have ez : (Tryd.zeroCells54.setIfInBounds 259 (.bool true)).toList = zeroW true := by rw [zcW]
  generalize hz : zeroW true = Z at fin ez
  have Ez := Lib.hid ez
  have Hz := Lib.hid hz
  have Fin := Lib.hid fin
  clear ez hz fin
  go_enter Tryd.func40, Tryd.ntmps40
  go_wp2_with (refine wpList_store_mid rfl 54 _ _ rfl b 0 (Tryd.zeroCells54.setIfInBounds 259 (.bool true)) rfl rfl t2 sz one ?_; rw [Ez.out])
  go_ret
  refine ⟨rfl, Only.cells b _ 0 w, (List.length_replicate ..), ?_⟩
  change At _ _ (zeroW true).toArray _
  rw [Hz.out]
  exact Fin.out

/-- Cells laid one behind the other. -/
theorem fold_set : ∀ (vs : List Value) (l : List Value) (o j : Nat), o + j + vs.length ≤ l.length → (vs.zipIdx j).foldl (fun cs (x : Value × Nat) => cs.setIfInBounds (o + x.2) x.1) l.toArray = (splice l (o + j) vs).toArray
  | [], l, o, j, _ => by simp [splice]
  | v :: r, l, o, j, h => by
    rw [List.zipIdx_cons, List.foldl_cons]
    simp only [List.setIfInBounds_toArray]
    rw [fold_set r (l.set (o + j) v) o (j + 1) (by simp at h ⊢; omega), ← Nat.add_assoc, splice_cons l (o + j) v r (by simpa using h)]
def chk (q : Option Addr) (wt : List Int) : List Value := .pointer q :: wt.map (Value.int .u8)
theorem fill63 (q : Option Addr) (wt z0 : List Int) (h : wt.length = 256) (h0 : z0.length = 256) : Instr.fill (fun x => [(0, 1), (1, 256)].toArray[x]?) (chk none z0).toArray [(0, .pointer q), (1, .agg (bs wt))] = some (chk q wt).toArray := by
  have h1 : (Value.pointer q).cells = #[.pointer q] := rfl
  have h2 : (Value.agg (bs wt)).cells = bs wt := rfl
  have h3 : (bs wt).size = 256 := by rw [bs_size, h]
  have hz : (chk none z0).length = 257 := by simp [chk, h0]
  have e1 : (chk none z0).toArray.setIfInBounds 0 (.pointer q) = (chk q z0).toArray := by simp [chk]
  have hz2 : (chk q z0).length = 257 := by simp [chk, h0]
  have e2 := fold_set (wt.map (Value.int .u8)) (chk q z0) 1 0 (by rw [hz2, List.length_map, h]; omega)
  have e3 : splice (chk q z0) (1 + 0) (wt.map (Value.int .u8)) = chk q wt := by
    unfold splice chk
    simp only [List.length_map, h, Nat.add_zero, List.take_succ_cons, List.take_zero]
    rw [List.drop_of_length_le (by simp [h0])]
    simp
  rw [e3] at e2
  generalize chk none z0 = Z at *
  generalize chk q z0 = Z2 at *
  unfold Instr.fill
  simp only [List.getElem?_toArray, List.getElem?_cons_zero, h1]
  rw [if_neg (by simp [hz])]
  have e4 : (#[Value.pointer q].zipIdx.foldl (fun cs (x : Value × Nat) => cs.setIfInBounds (0 + x.2) x.1) Z.toArray) = Z2.toArray := by
    simpa using e1
  rw [e4]
  unfold Instr.fill
  simp only [List.getElem?_cons_succ, List.getElem?_cons_zero, h2]
  rw [if_neg (by simp [hz2, h3])]
  unfold Instr.fill
  rw [← e2]
  congr 1
  unfold bs
  simp
theorem built63 (q : Option Addr) (wt : List Int) (h : wt.length = 256) : Tryd.prog.built 81 [(0, .pointer q), (1, .agg (bs wt))] = some (chk q wt).toArray := by
  rw [← fill63 q wt (List.replicate 256 0) h (List.length_replicate ..)]
  kernel_rfl
theorem bld63 (q : Option Addr) (wt : List Int) (h : wt.length = 256) (w : World) : (Instr.build 81 #[(0, .pointer q), (1, .agg (bs wt))]).run Tryd.prog w = .ok (.agg (chk q wt).toArray) w := run_build w 81 _ _ (built63 q wt h)
end Go.Proofs.YtblhipdcgdhmiaaDoor
