/- What is kept beside a file, as functions of lists of bytes. No conditions: definitions and lemmas. -/
import Derived.Test.YtfhgoedonjcekaaDoorPu
namespace Go.Sha
open Go.RowKit

/-- A sidecar. -/
structure Sd where
  size : Int
  block : Int
  k : Int
  root : List Int
  leaves : List (List Int)
  parity : List (List Int)
def mayL (z b k : Int) : Bool := decide (0 ≤ z) && decide (z ≤ 8192) && decide (16 ≤ b) && decide (b ≤ 4096) && decide (1 ≤ k) && decide (k ≤ 8)
theorem mayL_iff (z b k : Int) : mayL z b k = true ↔ 0 ≤ z ∧ z ≤ 8192 ∧ 16 ≤ b ∧ b ≤ 4096 ∧ 1 ≤ k ∧ k ≤ 8 := by
  simp [mayL, and_assoc]
def allS (l : List (List Int)) (size : Int) : Bool := l.all fun x => (x.length : Int) == size
def allL (l : List (List Int)) (n size : Int) : Bool := allS l size && ((l.length : Int) == n)
def soundL (s : Sd) : Bool := mayL s.size s.block s.k && allL s.leaves (cntL s.size s.block) 32 && allL s.parity (grpsN s.size s.block s.k) s.block && eqS s.root (rootL s.leaves)
def makeL (m : List Int) (b k : Int) : Sd := ⟨m.length, b, k, rootL (leavesL m b), leavesL m b, buildL m b k⟩
def noneL : Sd := ⟨0, 0, 0, [], [], []⟩
theorem eqS_self (m : List Int) : eqS m m = true := by simp [eqS]

theorem leavesL_length (m : List Int) (b : Int) : ((leavesL m b).length : Int) = cntL m.length b := by
  have h : 0 ≤ cntL m.length b := by
    unfold cntL
    split
    · omega
    · exact Int.ediv_nonneg (by omega) (by omega)
  simp [leavesL]; omega
theorem leavesL_all (m : List Int) (b : Int) : ∀ x ∈ leavesL m b, x.length = 32 := by
  intro x hx
  unfold leavesL at hx
  obtain ⟨k, _, rfl⟩ := List.mem_map.1 hx
  exact leafL_length _
theorem sound_make (m : List Int) (b k : Int) (h : mayL m.length b k = true) : soundL (makeL m b k) = true := by
  have hm := (mayL_iff _ _ _).1 h
  unfold soundL makeL allL allS
  simp only [h, eqS_self, Bool.true_and, Bool.and_true, Bool.and_eq_true, List.all_eq_true, beq_iff_eq]
  refine ⟨⟨fun x hx => by rw [leavesL_all m b x hx]; rfl, leavesL_length m b⟩, fun x hx => ?_, ?_⟩
  · unfold buildL at hx
    obtain ⟨g, _, rfl⟩ := List.mem_map.1 hx
    rw [parL_length]; omega
  · have := buildL_length m b k
    have h0 := grpsN_nonneg m.length b k
    omega
/-- Few, where each is of so many bytes. -/
theorem allL_len {l : List (List Int)} {n s : Int} (h : allL l n s = true) : (l.length : Int) = n ∧ ∀ x ∈ l, (x.length : Int) = s := by
  unfold allL allS at h
  simp only [Bool.and_eq_true, List.all_eq_true, beq_iff_eq] at h
  exact ⟨h.2, h.1⟩
end Go.Sha
