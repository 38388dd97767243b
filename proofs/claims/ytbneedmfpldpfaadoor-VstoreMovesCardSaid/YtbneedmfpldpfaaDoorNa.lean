/- A node's rows: fit, sectors. -/
import Derived.Test.YtbneedmfpldpfaaDoorTc
namespace Go.Proofs.YtbneedmfpldpfaaDoor
open Go.RowKit Go.Pth

def bts (l : List Int) : List Value := l.map (Value.int .u8)
def bls (l : List Bool) : List Value := l.map Value.bool
theorem bts_len (l : List Int) : (bts l).length = l.length := by simp [bts]
theorem bls_len (l : List Bool) : (bls l).length = l.length := by simp [bls]
theorem bts_one (l : List Int) : ∀ v ∈ bts l, v.oneCell' = true := by simp [bts, Value.oneCell']
theorem bls_one (l : List Bool) : ∀ v ∈ bls l, v.oneCell' = true := by
  intro v hv
  obtain ⟨x, _, rfl⟩ := List.mem_map.1 hv
  rfl
def fitL {α : Type} (l : List α) (n : Nat) (z : α) : List α := if n ≤ l.length then l.take n else l ++ List.replicate (n - l.length) z
theorem fitL_len {α : Type} (l : List α) (n : Nat) (z : α) : (fitL l n z).length = n := by unfold fitL; split <;> simp <;> omega
/-- A row cut off. -/
theorem Row.cut {w : World} {e : TypeId} {ad : Option Addr} {cap n m : Nat} {xs : List Value} (h : Row w e 1 (.slice ad n cap) n xs) (hm : m ≤ n) : Row w e 1 (.slice ad m cap) m (xs.take m) := by
  have hl : xs.length = n := by simpa using h.1
  refine ⟨by simp [hl]; omega, ?_⟩
  rcases h.2 with ⟨h1, h2⟩ | ⟨g, cap', cur, hv, hb, hg, hn, hc, hcs, hx⟩
  · injection h1 with h1 h3 h4
    subst h1 h3 h4
    have : m = 0 := by omega
    subst this
    exact .inl ⟨rfl, rfl⟩
  · injection hv with h1 h3 h4
    subst h1 h4
    refine .inr ⟨g, cap, cur, rfl, hb, hg, by omega, hc, hcs, ?_⟩
    rw [← hx, List.take_take]
    congr 1; omega
theorem zeros_list (z : Value) (hz : z.cells = #[z]) (n : Nat) : (Builtin.zeroCells z.cells n).toList = List.replicate n z := by
  rw [hz]
  simp only [Builtin.zeroCells]
  apply List.ext_getElem
  · simp
  · intro i h1 h2
    simp [Nat.mod_one]
theorem info_of {P : Program} {e : TypeId} {z : Value} {size bytes : Nat} (h : (P.info? e).map (fun i => (i.zero, i.size, i.bytes)) = some (some z, size, bytes)) : ∃ i, P.info? e = some i ∧ i.zero = some z ∧ i.size = size ∧ i.bytes = bytes := by
  obtain ⟨i, h1, h2⟩ := Option.map_eq_some_iff.1 h
  simp only [Prod.mk.injEq] at h2
  exact ⟨i, h1, h2.1, h2.2.1, h2.2.2⟩
theorem info5 : (Tryd.prog.info? 5).map (fun i => (i.zero, i.size, i.bytes)) = some (some (.int .u8 0), 1, 1) := by kernel_rfl
theorem info4 : (Tryd.prog.info? 4).map (fun i => (i.zero, i.size, i.bytes)) = some (some (.bool false), 1, 1) := by kernel_rfl

set_option maxRecDepth 100000 in
set_option maxHeartbeats 4000000 in
theorem fitb_any (v : Value) (l : List Int) (n : Nat) (w : World) (h : Row w 5 1 v l.length (bts l)) (hl : l.length ≤ 65536) (hn : n ≤ 65536) :
    Calls Tryd.prog 70 #[v, .int .i64 n] w fun e w' => ∃ v', e = .returned v' ∧ Row w' 5 1 v' n (bts (fitL l n 0)) ∧ Grew w w' v v' := by
  obtain ⟨ad, cap, rfl, hc1, hc2, hc3, hc4⟩ := h.shape
  by_cases hle : n ≤ l.length
  · have hr := Lib.hid (Row.cut h hle)
    have fe : bts (fitL l n 0) = (bts l).take n := by unfold fitL; rw [if_pos hle]; simp [bts, List.map_take]
    have FE := Lib.hid fe
    have G : Hid (Grew w w (.slice ad l.length cap) (.slice ad n cap)) := Lib.hid ⟨Chg.refl _ w, Or.inl (by cases ad <;> rfl)⟩
    simp only [maxLen] at hc2
    clear h fe hc4 hc3
    generalize l.length = L at *
    have d1 : decide (n ≤ L) = true := decide_eq_true hle
    have d2 : (n : Int) ≤ (L : Int) := by omega
    have d3 : (n : Int) ≤ (cap : Int) := by omega
    have d4 : (0 : Int) ≤ (n : Int) := by omega
    go_enter Tryd.func70, Tryd.ntmps70
    go_wp2
    go_ret
    exact ⟨_, rfl, by rw [FE.out]; exact hr.out, G.out⟩
  · have hm : 0 < n - l.length := by omega
    obtain ⟨i, hi1, hi2, hi3, hi4⟩ := info_of info5
    have hrun := fun ty => run_append_zeros (P := Tryd.prog) w 22 3 ty 5 .i64 i (.int .u8 0) Tryd.underlying22 Tryd.underlying3 hi1 hi2 (by rw [hi3]; rfl) (by omega) (by simp [Value.cells, Value.oneCell']) (.slice ad l.length cap) l.length (bts l) (by rw [hi3]; exact h) (n - l.length) hm (by simp only [maxLen]; omega) (by rw [hi4]; omega)
    rw [hi3] at hrun
    have hz : bts l ++ (Builtin.zeroCells (Value.int .u8 0).cells (n - l.length)).toList = bts (fitL l n 0) := by
      rw [zeros_list _ rfl]; unfold fitL; rw [if_neg hle]; simp [bts]
    rw [hz, show l.length + (n - l.length) = n by omega] at hrun
    have HR := Lib.hid hrun
    clear hrun hz h hc3 hc4 hi1 hi2 hi3 hi4
    generalize bts (fitL l n 0) = X at *
    generalize l.length = L at *
    have d1 : decide (n ≤ L) = false := decide_eq_false hle
    have d2 : ¬ ((n : Int) ≤ (L : Int)) := by omega
    have hsub : (n : Int) - (L : Int) = ((n - L : Nat) : Int) := by omega
    go_enter Tryd.func70, Tryd.ntmps70
    obtain ⟨v', w', hr, hrow, hg⟩ := HR.out 22
    have HR2 := Lib.hid hr
    clear hr HR
    go_wp2_with (at_builtin; refine Lib.wpList_append_run _ rfl _ _ _ _ rfl _ _ rfl rfl _ _ HR2.out ?_)
    go_ret
    exact ⟨_, rfl, hrow, hg⟩
set_option maxRecDepth 100000 in
set_option maxHeartbeats 4000000 in
theorem fitl_any (v : Value) (l : List Bool) (n : Nat) (w : World) (h : Row w 4 1 v l.length (bls l)) (hl : l.length ≤ 65536) (hn : n ≤ 65536) :
    Calls Tryd.prog 71 #[v, .int .i64 n] w fun e w' => ∃ v', e = .returned v' ∧ Row w' 4 1 v' n (bls (fitL l n false)) ∧ Grew w w' v v' := by
  obtain ⟨ad, cap, rfl, hc1, hc2, hc3, hc4⟩ := h.shape
  by_cases hle : n ≤ l.length
  · have hr := Lib.hid (Row.cut h hle)
    have fe : bls (fitL l n false) = (bls l).take n := by unfold fitL; rw [if_pos hle]; simp [bls, List.map_take]
    have FE := Lib.hid fe
    have G : Hid (Grew w w (.slice ad l.length cap) (.slice ad n cap)) := Lib.hid ⟨Chg.refl _ w, Or.inl (by cases ad <;> rfl)⟩
    simp only [maxLen] at hc2
    clear h fe hc4 hc3
    generalize l.length = L at *
    have d1 : decide (n ≤ L) = true := decide_eq_true hle
    have d2 : (n : Int) ≤ (L : Int) := by omega
    have d3 : (n : Int) ≤ (cap : Int) := by omega
    have d4 : (0 : Int) ≤ (n : Int) := by omega
    go_enter Tryd.func71, Tryd.ntmps71
    go_wp2
    go_ret
    exact ⟨_, rfl, by rw [FE.out]; exact hr.out, G.out⟩
  · have hm : 0 < n - l.length := by omega
    obtain ⟨i, hi1, hi2, hi3, hi4⟩ := info_of info4
    have hrun := fun ty => run_append_zeros (P := Tryd.prog) w 56 3 ty 4 .i64 i (.bool false) Tryd.underlying56 Tryd.underlying3 hi1 hi2 (by rw [hi3]; rfl) (by omega) (by simp [Value.cells, Value.oneCell']) (.slice ad l.length cap) l.length (bls l) (by rw [hi3]; exact h) (n - l.length) hm (by simp only [maxLen]; omega) (by rw [hi4]; omega)
    rw [hi3] at hrun
    have hz : bls l ++ (Builtin.zeroCells (Value.bool false).cells (n - l.length)).toList = bls (fitL l n false) := by
      rw [zeros_list _ rfl]; unfold fitL; rw [if_neg hle]; simp [bls]
    rw [hz, show l.length + (n - l.length) = n by omega] at hrun
    have HR := Lib.hid hrun
    clear hrun hz h hc3 hc4 hi1 hi2 hi3 hi4
    generalize bls (fitL l n false) = X at *
    generalize l.length = L at *
    have d1 : decide (n ≤ L) = false := decide_eq_false hle
    have d2 : ¬ ((n : Int) ≤ (L : Int)) := by omega
    have hsub : (n : Int) - (L : Int) = ((n - L : Nat) : Int) := by omega
    go_enter Tryd.func71, Tryd.ntmps71
    obtain ⟨v', w', hr, hrow, hg⟩ := HR.out 56
    have HR2 := Lib.hid hr
    clear hr HR
    go_wp2_with (at_builtin; refine Lib.wpList_append_run _ rfl _ _ _ _ rfl _ _ rfl rfl _ _ HR2.out ?_)
    go_ret
    exact ⟨_, rfl, hrow, hg⟩

def secs (n : Nat) : Nat := (n + 15) / 16
set_option maxHeartbeats 4000000 in
theorem sectors_any (n : Nat) (w : World) (hn : n ≤ 1000000) : Calls Tryd.prog 54 #[.int .i64 n] w fun e w' => e = .returned (.int .i64 (secs n)) ∧ w = w' := by
  have h1 : ((n : Int) + 16 - 1).tdiv 16 = (secs n : Int) := by
    rw [Int.tdiv_eq_ediv_of_nonneg (by omega)]; unfold secs; omega
  have h2 : ((n : Int) + 16 - 1) / 16 = (secs n : Int) := by unfold secs; omega
  go_enter Tryd.func54, Tryd.ntmps54
  go_wp2
  go_ret
  exact ⟨retv (by first | rfl | (rw [← h2]; rfl)), rfl⟩
end Go.Proofs.YtbneedmfpldpfaaDoor
