/- What a crash leaves of a file. No conditions: lemmas. -/
import Derived.Test.YtbneedmfpldpfaaDoorUa
import Derived.Test.YtbneedmfpldpfaaDoorSm
namespace Go.Proofs.YtbneedmfpldpfaaDoor
open Go.RowKit Go.Pth

/-- How many loose sectors stand ahead. -/
def cntl (loose : List Bool) : Nat → Nat
  | 0 => 0
  | k + 1 => cntl loose k + (if loose[k]?.getD false then 1 else 0)
theorem cntl_le (loose : List Bool) : ∀ k, cntl loose k ≤ k
  | 0 => Nat.le_refl _
  | k + 1 => by have := cntl_le loose k; unfold cntl; split <;> omega
theorem crun_cnt (now kept : List Int) (loose : List Bool) (pick : Int) : ∀ k, (crun now kept loose pick k).2 = cntl loose k
  | 0 => rfl
  | k + 1 => by
    rw [crun_succ]
    unfold cstep cntl
    by_cases h : loose[k]?.getD false = true
    · rw [if_pos h, if_pos h]
      split <;> simp only [crun_cnt now kept loose pick k]
    · rw [if_neg h, if_neg h, crun_cnt now kept loose pick k, Nat.add_zero]
theorem splice_get (l : List Int) (o : Nat) (x : List Int) (h : o + x.length ≤ l.length) (i : Nat) : (splice l o x)[i]?.getD 0 = if o ≤ i ∧ i < o + x.length then x[i - o]?.getD 0 else l[i]?.getD 0 := by
  unfold splice
  have ht : (l.take o).length = o := by simp; omega
  by_cases h1 : i < o
  · rw [if_neg (by omega), List.append_assoc, List.getElem?_append_left (by omega), List.getElem?_take_of_lt h1]
  · by_cases h2 : i < o + x.length
    · rw [if_pos ⟨by omega, h2⟩, List.append_assoc, List.getElem?_append_right (by omega), ht, List.getElem?_append_left (by omega)]
    · rw [if_neg (by omega), List.append_assoc, List.getElem?_append_right (by omega), ht, List.getElem?_append_right (by omega), List.getElem?_drop, show o + x.length + (i - o - x.length) = i by omega]
/-- A byte behind a crash. -/
theorem crun_get {now kept : List Int} {loose : List Bool} (pick : Int) (hk : kept.length = now.length) (hl : loose.length = secs now.length) : ∀ K, K ≤ secs now.length → ∀ i, i < now.length →
    (crun now kept loose pick K).1[i]?.getD 0 = if i < 16 * K ∧ loose[i / 16]?.getD false = true ∧ digit pick (cntl loose (i / 16)) = true then now[i]?.getD 0 else kept[i]?.getD 0
  | 0, _, i, _ => by rw [if_neg (by omega)]; rfl
  | K + 1, hK, i, hi => by
    have ih := crun_get pick hk hl K (by omega) i hi
    have hlen := (crun_len (pick := pick) hk hl K (by rw [hl]; omega)).1
    have h16 : 16 * K < now.length := by unfold secs at hK; omega
    rw [crun_succ]
    unfold cstep
    rw [crun_cnt]
    by_cases h : loose[K]?.getD false = true
    · rw [if_pos h]
      by_cases hd : digit pick (cntl loose K) = true
      · rw [if_pos hd]
        have hx : ((now.drop (16 * K)).take 16).length = min 16 (now.length - 16 * K) := by simp
        rw [splice_get _ _ _ (by rw [hlen, hx]; omega), hx]
        by_cases h1 : 16 * K ≤ i ∧ i < 16 * K + min 16 (now.length - 16 * K)
        · have hq : i / 16 = K := by omega
          rw [if_pos h1, hq, if_pos ⟨by omega, h, hd⟩, List.getElem?_take_of_lt (by omega), List.getElem?_drop, show 16 * K + (i - 16 * K) = i by omega]
        · rw [if_neg h1, ih]
          by_cases h2 : i < 16 * K
          · simp only [h2, show i < 16 * (K + 1) by omega]
          · have h3 : ¬ i < 16 * (K + 1) := by omega
            simp only [h2, h3, false_and]
      · rw [if_neg hd]
        show (crun now kept loose pick K).1[i]?.getD 0 = _
        rw [ih]
        by_cases h2 : i < 16 * K
        · simp only [h2, show i < 16 * (K + 1) by omega]
        · by_cases h3 : i < 16 * (K + 1)
          · have hq : i / 16 = K := by omega
            rw [if_neg (by omega), hq, if_neg (fun e => hd e.2.2)]
          · simp only [h2, h3, false_and]
    · rw [if_neg h, ih]
      by_cases h2 : i < 16 * K
      · simp only [h2, show i < 16 * (K + 1) by omega]
      · by_cases h3 : i < 16 * (K + 1)
        · have hq : i / 16 = K := by omega
          rw [if_neg (by omega), hq, if_neg (fun e => h e.2.1)]
        · simp only [h2, h3, false_and]

/-- A file that is safe. -/
def NB (st : Int) (old : List Int) : NV := ⟨1, 0, st, old, old, List.replicate (secs old.length) false⟩
theorem nb_sync (old : List Int) : ({ (newN 1 1).write 0 old with stamp := 2 } : NV).sync = NB 2 old := by
  by_cases h : old = []
  · subst h
    rfl
  · rw [write_new 1 1 old h]
    unfold NV.sync NB
    simp
theorem fit_get (l : List Int) (n : Nat) (h : l.length ≤ n) (i : Nat) : (fitL l n 0)[i]?.getD 0 = l[i]?.getD 0 := by
  unfold fitL
  split
  · rw [List.take_of_length_le (by omega)]
  · by_cases hi : i < l.length
    · rw [List.getElem?_append_left hi]
    · rw [List.getElem?_append_right (by omega), List.getElem?_replicate, List.getElem?_eq_none_iff.2 (by omega : l.length ≤ i)]
      split <;> rfl
theorem fit_false (n m : Nat) : fitL (List.replicate n false) m false = List.replicate m false := by
  unfold fitL
  split
  · rename_i h
    simp at h
    rw [List.take_replicate, Nat.min_eq_left h]
  · rename_i h
    simp at h
    rw [List.length_replicate, List.replicate_append_replicate, show n + (m - n) = m by omega]
/-- Was a sector touched? -/
def touched (F T k : Nat) : Bool := decide (F < T) && (decide (16 * k < T) && decide (F < 16 * (k + 1)))
theorem wr_facts (st : Int) (old : List Int) (off : Nat) (x : List Int) :
    ((NB st old).write off x).kept.length = ((NB st old).write off x).now.length ∧ ((NB st old).write off x).loose.length = secs ((NB st old).write off x).now.length ∧ ((NB st old).write off x).kind = 1 ∧
    (∀ i : Nat, ((NB st old).write off x).kept[i]?.getD 0 = old[i]?.getD 0) ∧
    (∀ k, k < secs ((NB st old).write off x).now.length → ((NB st old).write off x).loose[k]?.getD false = touched (min off old.length) (off + x.length) k) ∧
    (∀ i, i < ((NB st old).write off x).now.length → touched (min off old.length) (off + x.length) (i / 16) = false → ((NB st old).write off x).now[i]?.getD 0 = old[i]?.getD 0) ∧
    ((NB st old).write off x).now.length ≤ max (off + x.length) old.length := by
  unfold NV.write
  have hn : (NB st old).now = old := rfl
  rw [hn]
  by_cases h : min off old.length = off + x.length
  · rw [if_pos h]
    refine ⟨rfl, by simp [NB], rfl, fun i => rfl, fun k hk => ?_, fun i _ _ => rfl, by rw [hn]; omega⟩
    have h1 : touched (min off old.length) (off + x.length) k = false := by unfold touched; rw [h]; simp
    rw [h1]
    simp only [NB]
    rw [List.getElem?_replicate]
    split <;> rfl
  · rw [if_neg h]
    obtain ⟨M, hM⟩ : ∃ M, M = max (off + x.length) old.length := ⟨_, rfl⟩
    rw [← hM]
    have e1 : ((NB st old).resize M).now = fitL old M 0 := rfl
    have e2 : ((NB st old).resize M).kept = fitL old M 0 := rfl
    have e3 : ((NB st old).resize M).loose = List.replicate (secs M) false := fit_false _ _
    have l1 : (splice (fitL old M 0) off x).length = M := by rw [splice_len _ _ _ (by rw [fitL_len]; omega), fitL_len]
    simp only [e1, e2, e3]
    refine ⟨by rw [fitL_len, l1], by rw [mark_len, List.length_replicate, l1], rfl, fun i => fit_get old M (by omega) i, fun k hk => ?_, fun i hi ht => ?_, by rw [l1]; omega⟩
    · rw [l1] at hk
      unfold mark touched
      rw [List.getElem?_mapIdx, List.getElem?_replicate, if_pos hk]
      simp only [Option.map_some, Option.getD_some]
      by_cases hc : min off old.length / 16 ≤ k ∧ k < secs (off + x.length)
      · rw [if_pos hc]
        unfold secs at hc
        symm
        simp only [Bool.and_eq_true, decide_eq_true_eq]
        omega
      · rw [if_neg hc]
        unfold secs at hc
        symm
        rw [Bool.eq_false_iff]
        intro hh
        simp only [Bool.and_eq_true, decide_eq_true_eq] at hh
        omega
    · rw [l1] at hi
      rw [splice_get _ _ _ (by rw [fitL_len]; omega), if_neg, fit_get old M (by omega)]
      intro hc
      unfold touched at ht
      rw [Bool.eq_false_iff] at ht
      apply ht
      simp only [Bool.and_eq_true, decide_eq_true_eq]
      omega
end Go.Proofs.YtbneedmfpldpfaaDoor
