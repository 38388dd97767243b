/- Trees over blocks, as functions of lists of bytes. No conditions: definitions and lemmas. -/
import Derived.Test.YtblhipdcgdhmiaaDoorSpec5
namespace Go.Sha
open Go.RowKit

/-- Whether both are the same, as texts. -/
def eqS (m n : List Int) : Bool := (strOfNums m).toList == (strOfNums n).toList
/-- Of a block. -/
def leafL (m : List Int) : List Int := shaL (0 :: m)
/-- Of two neighbours. -/
def pairL (a b : List Int) : List Int := shaL (1 :: (a ++ b))
theorem leafL_length (m : List Int) : (leafL m).length = 32 := shaL_length _
theorem pairL_length (a b : List Int) : (pairL a b).length = 32 := shaL_length _
/-- The next level. -/
def upL : List (List Int) → List (List Int)
  | [] => []
  | [a] => [a]
  | a :: b :: r => pairL a b :: upL r
theorem upL_length : ∀ ls : List (List Int), (upL ls).length = (ls.length + 1) / 2
  | [] => rfl
  | [a] => by simp [upL]
  | a :: b :: r => by simp only [upL, List.length_cons, upL_length r]; omega
theorem upL_pair : ∀ (k : Nat) (ls : List (List Int)) (a b : List Int), ls[2 * k]? = some a → ls[2 * k + 1]? = some b → upL (ls.take (2 * k + 2)) = upL (ls.take (2 * k)) ++ [pairL a b]
  | 0, x :: y :: r, a, b, h1, h2 => by
    simp at h1 h2; subst h1 h2; simp [upL]
  | k + 1, x :: y :: r, a, b, h1, h2 => by
    have e1 : 2 * (k + 1) = 2 * k + 1 + 1 := by omega
    have e2 : 2 * (k + 1) + 1 = 2 * k + 1 + 1 + 1 := by omega
    have e3 : 2 * (k + 1) + 2 = 2 * k + 2 + 1 + 1 := by omega
    rw [e1, List.getElem?_cons_succ, List.getElem?_cons_succ] at h1
    rw [e2, List.getElem?_cons_succ, List.getElem?_cons_succ] at h2
    rw [e3, e1, List.take_succ_cons, List.take_succ_cons, List.take_succ_cons, List.take_succ_cons, upL, upL, upL_pair k r a b h1 h2]; rfl
  | k, [], a, b, h1, h2 => by simp at h1
  | k, [x], a, b, h1, h2 => by simp at h2
theorem upL_last : ∀ (k : Nat) (ls : List (List Int)) (a : List Int), ls[2 * k]? = some a → ls.length = 2 * k + 1 → upL ls = upL (ls.take (2 * k)) ++ [a]
  | 0, [x], a, h1, _ => by simp at h1; subst h1; simp [upL]
  | k + 1, x :: y :: r, a, h1, h2 => by
    have e1 : 2 * (k + 1) = 2 * k + 1 + 1 := by omega
    rw [e1, List.getElem?_cons_succ, List.getElem?_cons_succ] at h1
    rw [e1, List.take_succ_cons, List.take_succ_cons, upL, upL, upL_last k r a h1 (by simp at h2; omega)]; rfl
  | k + 1, [x], a, h1, h2 => by simp at h2
  | k, [], a, h1, h2 => by simp at h1
  | 0, x :: y :: r, a, h1, h2 => by simp at h2
theorem upL_bound (B : Nat) (hB : 32 ≤ B) : ∀ ls : List (List Int), (∀ m ∈ ls, m.length ≤ B) → ∀ m ∈ upL ls, m.length ≤ B
  | [], h, m, hm => by simp [upL] at hm
  | [a], h, m, hm => h m (by simpa [upL] using hm)
  | a :: b :: r, h, m, hm => by
    simp only [upL, List.mem_cons] at hm
    rcases hm with rfl | hm
    · rw [pairL_length]; exact hB
    · exact upL_bound B hB r (fun x hx => h x (by simp [hx])) m hm
/-- The last level. -/
def topL (ls : List (List Int)) : List (List Int) := if ls.length ≤ 1 then ls else topL (upL ls)
termination_by ls.length
decreasing_by rw [upL_length]; omega
/-- All levels. -/
def levelsL (ls : List (List Int)) : List (List (List Int)) := if ls.length ≤ 1 then [ls] else ls :: levelsL (upL ls)
termination_by ls.length
decreasing_by rw [upL_length]; omega
def rootL (ls : List (List Int)) : List Int := if ls.length = 0 then shaL [] else (topL ls)[0]?.getD []
theorem topL_small (ls : List (List Int)) (h : ls.length ≤ 1) : topL ls = ls := by rw [topL, if_pos h]
theorem topL_great (ls : List (List Int)) (h : ¬ ls.length ≤ 1) : topL ls = topL (upL ls) := by rw [topL, if_neg h]
theorem levelsL_small (ls : List (List Int)) (h : ls.length ≤ 1) : levelsL ls = [ls] := by rw [levelsL, if_pos h]
theorem levelsL_great (ls : List (List Int)) (h : ¬ ls.length ≤ 1) : levelsL ls = ls :: levelsL (upL ls) := by rw [levelsL, if_neg h]
/-- The place beside. -/
def nbL (k : Nat) : Nat := if k % 2 = 0 then k + 1 else k - 1
/-- What proves the k-th one. -/
def proveL (ls : List (List Int)) (k : Nat) : List (List Int) :=
  if ls.length ≤ 1 then [] else (if nbL k < ls.length then [ls[nbL k]?.getD []] else []) ++ proveL (upL ls) (k / 2)
termination_by ls.length
decreasing_by rw [upL_length]; omega
theorem proveL_small (ls : List (List Int)) (k : Nat) (h : ls.length ≤ 1) : proveL ls k = [] := by rw [proveL, if_pos h]
theorem proveL_great (ls : List (List Int)) (k : Nat) (h : ¬ ls.length ≤ 1) : proveL ls k = (if nbL k < ls.length then [ls[nbL k]?.getD []] else []) ++ proveL (upL ls) (k / 2) := by
  conv => lhs; rw [proveL, if_neg h]
def joinL (k : Nat) (x y : List Int) : List Int := if k % 2 = 0 then pairL x y else pairL y x
theorem joinL_length (k : Nat) (x y : List Int) : (joinL k x y).length = 32 := by unfold joinL; split <;> exact pairL_length _ _
/-- Whether a proof holds. -/
def verL (root x : List Int) (k n : Nat) (p : List (List Int)) : Bool :=
  if n ≤ 1 then decide (p = []) && eqS x root
  else if nbL k < n then
    match p with
    | [] => false
    | y :: r => verL root (joinL k x y) (k / 2) (n - n / 2) r
  else verL root x (k / 2) (n - n / 2) p
termination_by n
theorem verL_one (root x : List Int) (k n : Nat) (p : List (List Int)) (h : n ≤ 1) : verL root x k n p = (decide (p = []) && eqS x root) := by rw [verL.eq_def, if_pos h]
theorem verL_none (root x : List Int) (k n : Nat) (h : ¬ n ≤ 1) (hn : nbL k < n) : verL root x k n [] = false := by rw [verL, if_neg h, if_pos hn]
theorem verL_some (root x y : List Int) (k n : Nat) (r : List (List Int)) (h : ¬ n ≤ 1) (hn : nbL k < n) : verL root x k n (y :: r) = verL root (joinL k x y) (k / 2) (n - n / 2) r := by
  conv => lhs; rw [verL, if_neg h, if_pos hn]
theorem verL_alone (root x : List Int) (k n : Nat) (p : List (List Int)) (h : ¬ n ≤ 1) (hn : ¬ nbL k < n) : verL root x k n p = verL root x (k / 2) (n - n / 2) p := by
  conv => lhs; rw [verL.eq_def, if_neg h, if_neg hn]
/-- Where two lists differ. -/
def unlike (a b : List (List Int)) (i : Nat) : Bool := !(decide (i < a.length) && decide (i < b.length) && eqS (a[i]?.getD []) (b[i]?.getD []))
def diffL (a b : List (List Int)) (n : Nat) : List Int := ((List.range n).filter (unlike a b)).map (fun i : Nat => (i : Int))
theorem diffL_succ (a b : List (List Int)) (n : Nat) : diffL a b (n + 1) = diffL a b n ++ (if unlike a b n then [(n : Int)] else []) := by
  unfold diffL
  rw [List.range_succ, List.filter_append, List.map_append]
  congr 1
  by_cases h : unlike a b n = true
  · simp [h]
  · simp [h]
/-- How many blocks. -/
def cntL (size block : Int) : Int := if size < 0 ∨ size > 1048576 ∨ block < 1 ∨ block > 4096 then 0 else (size + block - 1) / block
def blkL (m : List Int) (B k : Nat) : List Int := (m.drop (k * B)).take B
def leavesL (m : List Int) (block : Int) : List (List Int) := (List.range (cntL m.length block).toNat).map fun k => leafL (blkL m block.toNat k)
theorem leaves_get (m : List Int) (block : Int) (k : Nat) (h : k < (cntL m.length block).toNat) : (leavesL m block)[k]? = some (leafL (blkL m block.toNat k)) := by
  simp [leavesL, h]
end Go.Sha
