/- Of so many leaves the root is another one when two of them are changed about, or one is. No conditions. -/
import Derived.Test.YtmplnlcmdcogmaaDoorKf1
import Derived.Test.YtmplnlcmdcogmaaDoorKf2
import Derived.Test.YtmplnlcmdcogmaaDoorKf3
import Derived.Test.YtmplnlcmdcogmaaDoorKf4
import Derived.Test.YtmplnlcmdcogmaaDoorKf5
import Derived.Test.YtmplnlcmdcogmaaDoorKf6
import Derived.Test.YtmplnlcmdcogmaaDoorKf7
import Derived.Test.YtmplnlcmdcogmaaDoorKf8
import Derived.Test.YtmplnlcmdcogmaaDoorKf9
import Derived.Test.YtmplnlcmdcogmaaDoorKf10
import Derived.Test.YtmplnlcmdcogmaaDoorKf11
import Derived.Test.YtmplnlcmdcogmaaDoorKf12
namespace Go.Lane
theorem s1 (a b : Nat) (ha : a < 1) (hb : a < b ∧ b < 1 ∨ b = 60) : top0 ((List.range 1).map fun p => leafT (perm a b p)) ≠ top0 ((List.range 1).map leafT) := by
  exact chk_sound 1 _ (by omega) c1x0 (a, b) (mem_prs 1 1 0 a b (by omega) (by omega) hb)
theorem s2 (a b : Nat) (ha : a < 2) (hb : a < b ∧ b < 2 ∨ b = 60) : top0 ((List.range 2).map fun p => leafT (perm a b p)) ≠ top0 ((List.range 2).map leafT) := by
  exact chk_sound 2 _ (by omega) c2x0 (a, b) (mem_prs 2 2 0 a b (by omega) (by omega) hb)
theorem s3 (a b : Nat) (ha : a < 3) (hb : a < b ∧ b < 3 ∨ b = 60) : top0 ((List.range 3).map fun p => leafT (perm a b p)) ≠ top0 ((List.range 3).map leafT) := by
  exact chk_sound 3 _ (by omega) c3x0 (a, b) (mem_prs 3 3 0 a b (by omega) (by omega) hb)
theorem s4 (a b : Nat) (ha : a < 4) (hb : a < b ∧ b < 4 ∨ b = 60) : top0 ((List.range 4).map fun p => leafT (perm a b p)) ≠ top0 ((List.range 4).map leafT) := by
  exact chk_sound 4 _ (by omega) c4x0 (a, b) (mem_prs 4 4 0 a b (by omega) (by omega) hb)
theorem s5 (a b : Nat) (ha : a < 5) (hb : a < b ∧ b < 5 ∨ b = 60) : top0 ((List.range 5).map fun p => leafT (perm a b p)) ≠ top0 ((List.range 5).map leafT) := by
  exact chk_sound 5 _ (by omega) c5x0 (a, b) (mem_prs 5 5 0 a b (by omega) (by omega) hb)
theorem s6 (a b : Nat) (ha : a < 6) (hb : a < b ∧ b < 6 ∨ b = 60) : top0 ((List.range 6).map fun p => leafT (perm a b p)) ≠ top0 ((List.range 6).map leafT) := by
  exact chk_sound 6 _ (by omega) c6x0 (a, b) (mem_prs 6 6 0 a b (by omega) (by omega) hb)
theorem s7 (a b : Nat) (ha : a < 7) (hb : a < b ∧ b < 7 ∨ b = 60) : top0 ((List.range 7).map fun p => leafT (perm a b p)) ≠ top0 ((List.range 7).map leafT) := by
  exact chk_sound 7 _ (by omega) c7x0 (a, b) (mem_prs 7 7 0 a b (by omega) (by omega) hb)
theorem s8 (a b : Nat) (ha : a < 8) (hb : a < b ∧ b < 8 ∨ b = 60) : top0 ((List.range 8).map fun p => leafT (perm a b p)) ≠ top0 ((List.range 8).map leafT) := by
  exact chk_sound 8 _ (by omega) c8x0 (a, b) (mem_prs 8 8 0 a b (by omega) (by omega) hb)
theorem s9 (a b : Nat) (ha : a < 9) (hb : a < b ∧ b < 9 ∨ b = 60) : top0 ((List.range 9).map fun p => leafT (perm a b p)) ≠ top0 ((List.range 9).map leafT) := by
  exact chk_sound 9 _ (by omega) c9x0 (a, b) (mem_prs 9 9 0 a b (by omega) (by omega) hb)
theorem s10 (a b : Nat) (ha : a < 10) (hb : a < b ∧ b < 10 ∨ b = 60) : top0 ((List.range 10).map fun p => leafT (perm a b p)) ≠ top0 ((List.range 10).map leafT) := by
  exact chk_sound 10 _ (by omega) c10x0 (a, b) (mem_prs 10 10 0 a b (by omega) (by omega) hb)
theorem s11 (a b : Nat) (ha : a < 11) (hb : a < b ∧ b < 11 ∨ b = 60) : top0 ((List.range 11).map fun p => leafT (perm a b p)) ≠ top0 ((List.range 11).map leafT) := by
  exact chk_sound 11 _ (by omega) c11x0 (a, b) (mem_prs 11 11 0 a b (by omega) (by omega) hb)
theorem s12 (a b : Nat) (ha : a < 12) (hb : a < b ∧ b < 12 ∨ b = 60) : top0 ((List.range 12).map fun p => leafT (perm a b p)) ≠ top0 ((List.range 12).map leafT) := by
  exact chk_sound 12 _ (by omega) c12x0 (a, b) (mem_prs 12 12 0 a b (by omega) (by omega) hb)
theorem s13 (a b : Nat) (ha : a < 13) (hb : a < b ∧ b < 13 ∨ b = 60) : top0 ((List.range 13).map fun p => leafT (perm a b p)) ≠ top0 ((List.range 13).map leafT) := by
  exact chk_sound 13 _ (by omega) c13x0 (a, b) (mem_prs 13 13 0 a b (by omega) (by omega) hb)
theorem s14 (a b : Nat) (ha : a < 14) (hb : a < b ∧ b < 14 ∨ b = 60) : top0 ((List.range 14).map fun p => leafT (perm a b p)) ≠ top0 ((List.range 14).map leafT) := by
  exact chk_sound 14 _ (by omega) c14x0 (a, b) (mem_prs 14 14 0 a b (by omega) (by omega) hb)
theorem s15 (a b : Nat) (ha : a < 15) (hb : a < b ∧ b < 15 ∨ b = 60) : top0 ((List.range 15).map fun p => leafT (perm a b p)) ≠ top0 ((List.range 15).map leafT) := by
  exact chk_sound 15 _ (by omega) c15x0 (a, b) (mem_prs 15 15 0 a b (by omega) (by omega) hb)
theorem s16 (a b : Nat) (ha : a < 16) (hb : a < b ∧ b < 16 ∨ b = 60) : top0 ((List.range 16).map fun p => leafT (perm a b p)) ≠ top0 ((List.range 16).map leafT) := by
  exact chk_sound 16 _ (by omega) c16x0 (a, b) (mem_prs 16 16 0 a b (by omega) (by omega) hb)
theorem s17 (a b : Nat) (ha : a < 17) (hb : a < b ∧ b < 17 ∨ b = 60) : top0 ((List.range 17).map fun p => leafT (perm a b p)) ≠ top0 ((List.range 17).map leafT) := by
  exact chk_sound 17 _ (by omega) c17x0 (a, b) (mem_prs 17 17 0 a b (by omega) (by omega) hb)
theorem s18 (a b : Nat) (ha : a < 18) (hb : a < b ∧ b < 18 ∨ b = 60) : top0 ((List.range 18).map fun p => leafT (perm a b p)) ≠ top0 ((List.range 18).map leafT) := by
  exact chk_sound 18 _ (by omega) c18x0 (a, b) (mem_prs 18 18 0 a b (by omega) (by omega) hb)
theorem s19 (a b : Nat) (ha : a < 19) (hb : a < b ∧ b < 19 ∨ b = 60) : top0 ((List.range 19).map fun p => leafT (perm a b p)) ≠ top0 ((List.range 19).map leafT) := by
  exact chk_sound 19 _ (by omega) c19x0 (a, b) (mem_prs 19 19 0 a b (by omega) (by omega) hb)
theorem s20 (a b : Nat) (ha : a < 20) (hb : a < b ∧ b < 20 ∨ b = 60) : top0 ((List.range 20).map fun p => leafT (perm a b p)) ≠ top0 ((List.range 20).map leafT) := by
  exact chk_sound 20 _ (by omega) c20x0 (a, b) (mem_prs 20 20 0 a b (by omega) (by omega) hb)
theorem s21 (a b : Nat) (ha : a < 21) (hb : a < b ∧ b < 21 ∨ b = 60) : top0 ((List.range 21).map fun p => leafT (perm a b p)) ≠ top0 ((List.range 21).map leafT) := by
  exact chk_sound 21 _ (by omega) c21x0 (a, b) (mem_prs 21 21 0 a b (by omega) (by omega) hb)
theorem s22 (a b : Nat) (ha : a < 22) (hb : a < b ∧ b < 22 ∨ b = 60) : top0 ((List.range 22).map fun p => leafT (perm a b p)) ≠ top0 ((List.range 22).map leafT) := by
  exact chk_sound 22 _ (by omega) c22x0 (a, b) (mem_prs 22 22 0 a b (by omega) (by omega) hb)
theorem s23 (a b : Nat) (ha : a < 23) (hb : a < b ∧ b < 23 ∨ b = 60) : top0 ((List.range 23).map fun p => leafT (perm a b p)) ≠ top0 ((List.range 23).map leafT) := by
  exact chk_sound 23 _ (by omega) c23x0 (a, b) (mem_prs 23 23 0 a b (by omega) (by omega) hb)
theorem s24 (a b : Nat) (ha : a < 24) (hb : a < b ∧ b < 24 ∨ b = 60) : top0 ((List.range 24).map fun p => leafT (perm a b p)) ≠ top0 ((List.range 24).map leafT) := by
  exact chk_sound 24 _ (by omega) c24x0 (a, b) (mem_prs 24 24 0 a b (by omega) (by omega) hb)
theorem s25 (a b : Nat) (ha : a < 25) (hb : a < b ∧ b < 25 ∨ b = 60) : top0 ((List.range 25).map fun p => leafT (perm a b p)) ≠ top0 ((List.range 25).map leafT) := by
  exact chk_sound 25 _ (by omega) c25x0 (a, b) (mem_prs 25 25 0 a b (by omega) (by omega) hb)
theorem s26 (a b : Nat) (ha : a < 26) (hb : a < b ∧ b < 26 ∨ b = 60) : top0 ((List.range 26).map fun p => leafT (perm a b p)) ≠ top0 ((List.range 26).map leafT) := by
  by_cases h0 : a < 20
  · exact chk_sound 26 _ (by omega) c26x0 (a, b) (mem_prs 26 20 0 a b (by omega) (by omega) hb)
  exact chk_sound 26 _ (by omega) c26x20 (a, b) (mem_prs 26 6 20 a b (by omega) (by omega) hb)
theorem s27 (a b : Nat) (ha : a < 27) (hb : a < b ∧ b < 27 ∨ b = 60) : top0 ((List.range 27).map fun p => leafT (perm a b p)) ≠ top0 ((List.range 27).map leafT) := by
  by_cases h0 : a < 17
  · exact chk_sound 27 _ (by omega) c27x0 (a, b) (mem_prs 27 17 0 a b (by omega) (by omega) hb)
  exact chk_sound 27 _ (by omega) c27x17 (a, b) (mem_prs 27 10 17 a b (by omega) (by omega) hb)
theorem s28 (a b : Nat) (ha : a < 28) (hb : a < b ∧ b < 28 ∨ b = 60) : top0 ((List.range 28).map fun p => leafT (perm a b p)) ≠ top0 ((List.range 28).map leafT) := by
  by_cases h0 : a < 16
  · exact chk_sound 28 _ (by omega) c28x0 (a, b) (mem_prs 28 16 0 a b (by omega) (by omega) hb)
  exact chk_sound 28 _ (by omega) c28x16 (a, b) (mem_prs 28 12 16 a b (by omega) (by omega) hb)
theorem s29 (a b : Nat) (ha : a < 29) (hb : a < b ∧ b < 29 ∨ b = 60) : top0 ((List.range 29).map fun p => leafT (perm a b p)) ≠ top0 ((List.range 29).map leafT) := by
  by_cases h0 : a < 15
  · exact chk_sound 29 _ (by omega) c29x0 (a, b) (mem_prs 29 15 0 a b (by omega) (by omega) hb)
  exact chk_sound 29 _ (by omega) c29x15 (a, b) (mem_prs 29 14 15 a b (by omega) (by omega) hb)
theorem s30 (a b : Nat) (ha : a < 30) (hb : a < b ∧ b < 30 ∨ b = 60) : top0 ((List.range 30).map fun p => leafT (perm a b p)) ≠ top0 ((List.range 30).map leafT) := by
  by_cases h0 : a < 14
  · exact chk_sound 30 _ (by omega) c30x0 (a, b) (mem_prs 30 14 0 a b (by omega) (by omega) hb)
  exact chk_sound 30 _ (by omega) c30x14 (a, b) (mem_prs 30 16 14 a b (by omega) (by omega) hb)
theorem s31 (a b : Nat) (ha : a < 31) (hb : a < b ∧ b < 31 ∨ b = 60) : top0 ((List.range 31).map fun p => leafT (perm a b p)) ≠ top0 ((List.range 31).map leafT) := by
  by_cases h0 : a < 13
  · exact chk_sound 31 _ (by omega) c31x0 (a, b) (mem_prs 31 13 0 a b (by omega) (by omega) hb)
  exact chk_sound 31 _ (by omega) c31x13 (a, b) (mem_prs 31 18 13 a b (by omega) (by omega) hb)
theorem s32 (a b : Nat) (ha : a < 32) (hb : a < b ∧ b < 32 ∨ b = 60) : top0 ((List.range 32).map fun p => leafT (perm a b p)) ≠ top0 ((List.range 32).map leafT) := by
  by_cases h0 : a < 12
  · exact chk_sound 32 _ (by omega) c32x0 (a, b) (mem_prs 32 12 0 a b (by omega) (by omega) hb)
  exact chk_sound 32 _ (by omega) c32x12 (a, b) (mem_prs 32 20 12 a b (by omega) (by omega) hb)
theorem s33 (a b : Nat) (ha : a < 33) (hb : a < b ∧ b < 33 ∨ b = 60) : top0 ((List.range 33).map fun p => leafT (perm a b p)) ≠ top0 ((List.range 33).map leafT) := by
  by_cases h0 : a < 12
  · exact chk_sound 33 _ (by omega) c33x0 (a, b) (mem_prs 33 12 0 a b (by omega) (by omega) hb)
  exact chk_sound 33 _ (by omega) c33x12 (a, b) (mem_prs 33 21 12 a b (by omega) (by omega) hb)
theorem s34 (a b : Nat) (ha : a < 34) (hb : a < b ∧ b < 34 ∨ b = 60) : top0 ((List.range 34).map fun p => leafT (perm a b p)) ≠ top0 ((List.range 34).map leafT) := by
  by_cases h0 : a < 11
  · exact chk_sound 34 _ (by omega) c34x0 (a, b) (mem_prs 34 11 0 a b (by omega) (by omega) hb)
  exact chk_sound 34 _ (by omega) c34x11 (a, b) (mem_prs 34 23 11 a b (by omega) (by omega) hb)
theorem s35 (a b : Nat) (ha : a < 35) (hb : a < b ∧ b < 35 ∨ b = 60) : top0 ((List.range 35).map fun p => leafT (perm a b p)) ≠ top0 ((List.range 35).map leafT) := by
  by_cases h0 : a < 11
  · exact chk_sound 35 _ (by omega) c35x0 (a, b) (mem_prs 35 11 0 a b (by omega) (by omega) hb)
  exact chk_sound 35 _ (by omega) c35x11 (a, b) (mem_prs 35 24 11 a b (by omega) (by omega) hb)
theorem s36 (a b : Nat) (ha : a < 36) (hb : a < b ∧ b < 36 ∨ b = 60) : top0 ((List.range 36).map fun p => leafT (perm a b p)) ≠ top0 ((List.range 36).map leafT) := by
  by_cases h0 : a < 10
  · exact chk_sound 36 _ (by omega) c36x0 (a, b) (mem_prs 36 10 0 a b (by omega) (by omega) hb)
  by_cases h1 : a < 30
  · exact chk_sound 36 _ (by omega) c36x10 (a, b) (mem_prs 36 20 10 a b (by omega) (by omega) hb)
  exact chk_sound 36 _ (by omega) c36x30 (a, b) (mem_prs 36 6 30 a b (by omega) (by omega) hb)
theorem s37 (a b : Nat) (ha : a < 37) (hb : a < b ∧ b < 37 ∨ b = 60) : top0 ((List.range 37).map fun p => leafT (perm a b p)) ≠ top0 ((List.range 37).map leafT) := by
  by_cases h0 : a < 10
  · exact chk_sound 37 _ (by omega) c37x0 (a, b) (mem_prs 37 10 0 a b (by omega) (by omega) hb)
  by_cases h1 : a < 27
  · exact chk_sound 37 _ (by omega) c37x10 (a, b) (mem_prs 37 17 10 a b (by omega) (by omega) hb)
  exact chk_sound 37 _ (by omega) c37x27 (a, b) (mem_prs 37 10 27 a b (by omega) (by omega) hb)
theorem s38 (a b : Nat) (ha : a < 38) (hb : a < b ∧ b < 38 ∨ b = 60) : top0 ((List.range 38).map fun p => leafT (perm a b p)) ≠ top0 ((List.range 38).map leafT) := by
  by_cases h0 : a < 9
  · exact chk_sound 38 _ (by omega) c38x0 (a, b) (mem_prs 38 9 0 a b (by omega) (by omega) hb)
  by_cases h1 : a < 24
  · exact chk_sound 38 _ (by omega) c38x9 (a, b) (mem_prs 38 15 9 a b (by omega) (by omega) hb)
  exact chk_sound 38 _ (by omega) c38x24 (a, b) (mem_prs 38 14 24 a b (by omega) (by omega) hb)
theorem s39 (a b : Nat) (ha : a < 39) (hb : a < b ∧ b < 39 ∨ b = 60) : top0 ((List.range 39).map fun p => leafT (perm a b p)) ≠ top0 ((List.range 39).map leafT) := by
  by_cases h0 : a < 9
  · exact chk_sound 39 _ (by omega) c39x0 (a, b) (mem_prs 39 9 0 a b (by omega) (by omega) hb)
  by_cases h1 : a < 23
  · exact chk_sound 39 _ (by omega) c39x9 (a, b) (mem_prs 39 14 9 a b (by omega) (by omega) hb)
  exact chk_sound 39 _ (by omega) c39x23 (a, b) (mem_prs 39 16 23 a b (by omega) (by omega) hb)
theorem s40 (a b : Nat) (ha : a < 40) (hb : a < b ∧ b < 40 ∨ b = 60) : top0 ((List.range 40).map fun p => leafT (perm a b p)) ≠ top0 ((List.range 40).map leafT) := by
  by_cases h0 : a < 9
  · exact chk_sound 40 _ (by omega) c40x0 (a, b) (mem_prs 40 9 0 a b (by omega) (by omega) hb)
  by_cases h1 : a < 22
  · exact chk_sound 40 _ (by omega) c40x9 (a, b) (mem_prs 40 13 9 a b (by omega) (by omega) hb)
  exact chk_sound 40 _ (by omega) c40x22 (a, b) (mem_prs 40 18 22 a b (by omega) (by omega) hb)
theorem s41 (a b : Nat) (ha : a < 41) (hb : a < b ∧ b < 41 ∨ b = 60) : top0 ((List.range 41).map fun p => leafT (perm a b p)) ≠ top0 ((List.range 41).map leafT) := by
  by_cases h0 : a < 8
  · exact chk_sound 41 _ (by omega) c41x0 (a, b) (mem_prs 41 8 0 a b (by omega) (by omega) hb)
  by_cases h1 : a < 20
  · exact chk_sound 41 _ (by omega) c41x8 (a, b) (mem_prs 41 12 8 a b (by omega) (by omega) hb)
  exact chk_sound 41 _ (by omega) c41x20 (a, b) (mem_prs 41 21 20 a b (by omega) (by omega) hb)
theorem s42 (a b : Nat) (ha : a < 42) (hb : a < b ∧ b < 42 ∨ b = 60) : top0 ((List.range 42).map fun p => leafT (perm a b p)) ≠ top0 ((List.range 42).map leafT) := by
  by_cases h0 : a < 8
  · exact chk_sound 42 _ (by omega) c42x0 (a, b) (mem_prs 42 8 0 a b (by omega) (by omega) hb)
  by_cases h1 : a < 19
  · exact chk_sound 42 _ (by omega) c42x8 (a, b) (mem_prs 42 11 8 a b (by omega) (by omega) hb)
  exact chk_sound 42 _ (by omega) c42x19 (a, b) (mem_prs 42 23 19 a b (by omega) (by omega) hb)
theorem s43 (a b : Nat) (ha : a < 43) (hb : a < b ∧ b < 43 ∨ b = 60) : top0 ((List.range 43).map fun p => leafT (perm a b p)) ≠ top0 ((List.range 43).map leafT) := by
  by_cases h0 : a < 8
  · exact chk_sound 43 _ (by omega) c43x0 (a, b) (mem_prs 43 8 0 a b (by omega) (by omega) hb)
  by_cases h1 : a < 19
  · exact chk_sound 43 _ (by omega) c43x8 (a, b) (mem_prs 43 11 8 a b (by omega) (by omega) hb)
  exact chk_sound 43 _ (by omega) c43x19 (a, b) (mem_prs 43 24 19 a b (by omega) (by omega) hb)
theorem s44 (a b : Nat) (ha : a < 44) (hb : a < b ∧ b < 44 ∨ b = 60) : top0 ((List.range 44).map fun p => leafT (perm a b p)) ≠ top0 ((List.range 44).map leafT) := by
  by_cases h0 : a < 8
  · exact chk_sound 44 _ (by omega) c44x0 (a, b) (mem_prs 44 8 0 a b (by omega) (by omega) hb)
  by_cases h1 : a < 18
  · exact chk_sound 44 _ (by omega) c44x8 (a, b) (mem_prs 44 10 8 a b (by omega) (by omega) hb)
  by_cases h2 : a < 38
  · exact chk_sound 44 _ (by omega) c44x18 (a, b) (mem_prs 44 20 18 a b (by omega) (by omega) hb)
  exact chk_sound 44 _ (by omega) c44x38 (a, b) (mem_prs 44 6 38 a b (by omega) (by omega) hb)
theorem s45 (a b : Nat) (ha : a < 45) (hb : a < b ∧ b < 45 ∨ b = 60) : top0 ((List.range 45).map fun p => leafT (perm a b p)) ≠ top0 ((List.range 45).map leafT) := by
  by_cases h0 : a < 7
  · exact chk_sound 45 _ (by omega) c45x0 (a, b) (mem_prs 45 7 0 a b (by omega) (by omega) hb)
  by_cases h1 : a < 16
  · exact chk_sound 45 _ (by omega) c45x7 (a, b) (mem_prs 45 9 7 a b (by omega) (by omega) hb)
  by_cases h2 : a < 31
  · exact chk_sound 45 _ (by omega) c45x16 (a, b) (mem_prs 45 15 16 a b (by omega) (by omega) hb)
  exact chk_sound 45 _ (by omega) c45x31 (a, b) (mem_prs 45 14 31 a b (by omega) (by omega) hb)
theorem s46 (a b : Nat) (ha : a < 46) (hb : a < b ∧ b < 46 ∨ b = 60) : top0 ((List.range 46).map fun p => leafT (perm a b p)) ≠ top0 ((List.range 46).map leafT) := by
  by_cases h0 : a < 7
  · exact chk_sound 46 _ (by omega) c46x0 (a, b) (mem_prs 46 7 0 a b (by omega) (by omega) hb)
  by_cases h1 : a < 16
  · exact chk_sound 46 _ (by omega) c46x7 (a, b) (mem_prs 46 9 7 a b (by omega) (by omega) hb)
  by_cases h2 : a < 30
  · exact chk_sound 46 _ (by omega) c46x16 (a, b) (mem_prs 46 14 16 a b (by omega) (by omega) hb)
  exact chk_sound 46 _ (by omega) c46x30 (a, b) (mem_prs 46 16 30 a b (by omega) (by omega) hb)
theorem s47 (a b : Nat) (ha : a < 47) (hb : a < b ∧ b < 47 ∨ b = 60) : top0 ((List.range 47).map fun p => leafT (perm a b p)) ≠ top0 ((List.range 47).map leafT) := by
  by_cases h0 : a < 7
  · exact chk_sound 47 _ (by omega) c47x0 (a, b) (mem_prs 47 7 0 a b (by omega) (by omega) hb)
  by_cases h1 : a < 16
  · exact chk_sound 47 _ (by omega) c47x7 (a, b) (mem_prs 47 9 7 a b (by omega) (by omega) hb)
  by_cases h2 : a < 29
  · exact chk_sound 47 _ (by omega) c47x16 (a, b) (mem_prs 47 13 16 a b (by omega) (by omega) hb)
  exact chk_sound 47 _ (by omega) c47x29 (a, b) (mem_prs 47 18 29 a b (by omega) (by omega) hb)
theorem s48 (a b : Nat) (ha : a < 48) (hb : a < b ∧ b < 48 ∨ b = 60) : top0 ((List.range 48).map fun p => leafT (perm a b p)) ≠ top0 ((List.range 48).map leafT) := by
  by_cases h0 : a < 7
  · exact chk_sound 48 _ (by omega) c48x0 (a, b) (mem_prs 48 7 0 a b (by omega) (by omega) hb)
  by_cases h1 : a < 15
  · exact chk_sound 48 _ (by omega) c48x7 (a, b) (mem_prs 48 8 7 a b (by omega) (by omega) hb)
  by_cases h2 : a < 27
  · exact chk_sound 48 _ (by omega) c48x15 (a, b) (mem_prs 48 12 15 a b (by omega) (by omega) hb)
  exact chk_sound 48 _ (by omega) c48x27 (a, b) (mem_prs 48 21 27 a b (by omega) (by omega) hb)
theorem s49 (a b : Nat) (ha : a < 49) (hb : a < b ∧ b < 49 ∨ b = 60) : top0 ((List.range 49).map fun p => leafT (perm a b p)) ≠ top0 ((List.range 49).map leafT) := by
  by_cases h0 : a < 7
  · exact chk_sound 49 _ (by omega) c49x0 (a, b) (mem_prs 49 7 0 a b (by omega) (by omega) hb)
  by_cases h1 : a < 15
  · exact chk_sound 49 _ (by omega) c49x7 (a, b) (mem_prs 49 8 7 a b (by omega) (by omega) hb)
  by_cases h2 : a < 26
  · exact chk_sound 49 _ (by omega) c49x15 (a, b) (mem_prs 49 11 15 a b (by omega) (by omega) hb)
  exact chk_sound 49 _ (by omega) c49x26 (a, b) (mem_prs 49 23 26 a b (by omega) (by omega) hb)
theorem s50 (a b : Nat) (ha : a < 50) (hb : a < b ∧ b < 50 ∨ b = 60) : top0 ((List.range 50).map fun p => leafT (perm a b p)) ≠ top0 ((List.range 50).map leafT) := by
  by_cases h0 : a < 7
  · exact chk_sound 50 _ (by omega) c50x0 (a, b) (mem_prs 50 7 0 a b (by omega) (by omega) hb)
  by_cases h1 : a < 15
  · exact chk_sound 50 _ (by omega) c50x7 (a, b) (mem_prs 50 8 7 a b (by omega) (by omega) hb)
  by_cases h2 : a < 26
  · exact chk_sound 50 _ (by omega) c50x15 (a, b) (mem_prs 50 11 15 a b (by omega) (by omega) hb)
  exact chk_sound 50 _ (by omega) c50x26 (a, b) (mem_prs 50 24 26 a b (by omega) (by omega) hb)
theorem s51 (a b : Nat) (ha : a < 51) (hb : a < b ∧ b < 51 ∨ b = 60) : top0 ((List.range 51).map fun p => leafT (perm a b p)) ≠ top0 ((List.range 51).map leafT) := by
  by_cases h0 : a < 6
  · exact chk_sound 51 _ (by omega) c51x0 (a, b) (mem_prs 51 6 0 a b (by omega) (by omega) hb)
  by_cases h1 : a < 13
  · exact chk_sound 51 _ (by omega) c51x6 (a, b) (mem_prs 51 7 6 a b (by omega) (by omega) hb)
  by_cases h2 : a < 22
  · exact chk_sound 51 _ (by omega) c51x13 (a, b) (mem_prs 51 9 13 a b (by omega) (by omega) hb)
  by_cases h3 : a < 37
  · exact chk_sound 51 _ (by omega) c51x22 (a, b) (mem_prs 51 15 22 a b (by omega) (by omega) hb)
  exact chk_sound 51 _ (by omega) c51x37 (a, b) (mem_prs 51 14 37 a b (by omega) (by omega) hb)
theorem s52 (a b : Nat) (ha : a < 52) (hb : a < b ∧ b < 52 ∨ b = 60) : top0 ((List.range 52).map fun p => leafT (perm a b p)) ≠ top0 ((List.range 52).map leafT) := by
  by_cases h0 : a < 6
  · exact chk_sound 52 _ (by omega) c52x0 (a, b) (mem_prs 52 6 0 a b (by omega) (by omega) hb)
  by_cases h1 : a < 13
  · exact chk_sound 52 _ (by omega) c52x6 (a, b) (mem_prs 52 7 6 a b (by omega) (by omega) hb)
  by_cases h2 : a < 22
  · exact chk_sound 52 _ (by omega) c52x13 (a, b) (mem_prs 52 9 13 a b (by omega) (by omega) hb)
  by_cases h3 : a < 36
  · exact chk_sound 52 _ (by omega) c52x22 (a, b) (mem_prs 52 14 22 a b (by omega) (by omega) hb)
  exact chk_sound 52 _ (by omega) c52x36 (a, b) (mem_prs 52 16 36 a b (by omega) (by omega) hb)
theorem s53 (a b : Nat) (ha : a < 53) (hb : a < b ∧ b < 53 ∨ b = 60) : top0 ((List.range 53).map fun p => leafT (perm a b p)) ≠ top0 ((List.range 53).map leafT) := by
  by_cases h0 : a < 6
  · exact chk_sound 53 _ (by omega) c53x0 (a, b) (mem_prs 53 6 0 a b (by omega) (by omega) hb)
  by_cases h1 : a < 13
  · exact chk_sound 53 _ (by omega) c53x6 (a, b) (mem_prs 53 7 6 a b (by omega) (by omega) hb)
  by_cases h2 : a < 22
  · exact chk_sound 53 _ (by omega) c53x13 (a, b) (mem_prs 53 9 13 a b (by omega) (by omega) hb)
  by_cases h3 : a < 35
  · exact chk_sound 53 _ (by omega) c53x22 (a, b) (mem_prs 53 13 22 a b (by omega) (by omega) hb)
  exact chk_sound 53 _ (by omega) c53x35 (a, b) (mem_prs 53 18 35 a b (by omega) (by omega) hb)
theorem s54 (a b : Nat) (ha : a < 54) (hb : a < b ∧ b < 54 ∨ b = 60) : top0 ((List.range 54).map fun p => leafT (perm a b p)) ≠ top0 ((List.range 54).map leafT) := by
  by_cases h0 : a < 6
  · exact chk_sound 54 _ (by omega) c54x0 (a, b) (mem_prs 54 6 0 a b (by omega) (by omega) hb)
  by_cases h1 : a < 13
  · exact chk_sound 54 _ (by omega) c54x6 (a, b) (mem_prs 54 7 6 a b (by omega) (by omega) hb)
  by_cases h2 : a < 21
  · exact chk_sound 54 _ (by omega) c54x13 (a, b) (mem_prs 54 8 13 a b (by omega) (by omega) hb)
  by_cases h3 : a < 33
  · exact chk_sound 54 _ (by omega) c54x21 (a, b) (mem_prs 54 12 21 a b (by omega) (by omega) hb)
  exact chk_sound 54 _ (by omega) c54x33 (a, b) (mem_prs 54 21 33 a b (by omega) (by omega) hb)
theorem s55 (a b : Nat) (ha : a < 55) (hb : a < b ∧ b < 55 ∨ b = 60) : top0 ((List.range 55).map fun p => leafT (perm a b p)) ≠ top0 ((List.range 55).map leafT) := by
  by_cases h0 : a < 6
  · exact chk_sound 55 _ (by omega) c55x0 (a, b) (mem_prs 55 6 0 a b (by omega) (by omega) hb)
  by_cases h1 : a < 13
  · exact chk_sound 55 _ (by omega) c55x6 (a, b) (mem_prs 55 7 6 a b (by omega) (by omega) hb)
  by_cases h2 : a < 21
  · exact chk_sound 55 _ (by omega) c55x13 (a, b) (mem_prs 55 8 13 a b (by omega) (by omega) hb)
  by_cases h3 : a < 32
  · exact chk_sound 55 _ (by omega) c55x21 (a, b) (mem_prs 55 11 21 a b (by omega) (by omega) hb)
  exact chk_sound 55 _ (by omega) c55x32 (a, b) (mem_prs 55 23 32 a b (by omega) (by omega) hb)
theorem s56 (a b : Nat) (ha : a < 56) (hb : a < b ∧ b < 56 ∨ b = 60) : top0 ((List.range 56).map fun p => leafT (perm a b p)) ≠ top0 ((List.range 56).map leafT) := by
  by_cases h0 : a < 6
  · exact chk_sound 56 _ (by omega) c56x0 (a, b) (mem_prs 56 6 0 a b (by omega) (by omega) hb)
  by_cases h1 : a < 13
  · exact chk_sound 56 _ (by omega) c56x6 (a, b) (mem_prs 56 7 6 a b (by omega) (by omega) hb)
  by_cases h2 : a < 21
  · exact chk_sound 56 _ (by omega) c56x13 (a, b) (mem_prs 56 8 13 a b (by omega) (by omega) hb)
  by_cases h3 : a < 32
  · exact chk_sound 56 _ (by omega) c56x21 (a, b) (mem_prs 56 11 21 a b (by omega) (by omega) hb)
  exact chk_sound 56 _ (by omega) c56x32 (a, b) (mem_prs 56 24 32 a b (by omega) (by omega) hb)
theorem s57 (a b : Nat) (ha : a < 57) (hb : a < b ∧ b < 57 ∨ b = 60) : top0 ((List.range 57).map fun p => leafT (perm a b p)) ≠ top0 ((List.range 57).map leafT) := by
  by_cases h0 : a < 6
  · exact chk_sound 57 _ (by omega) c57x0 (a, b) (mem_prs 57 6 0 a b (by omega) (by omega) hb)
  by_cases h1 : a < 12
  · exact chk_sound 57 _ (by omega) c57x6 (a, b) (mem_prs 57 6 6 a b (by omega) (by omega) hb)
  by_cases h2 : a < 19
  · exact chk_sound 57 _ (by omega) c57x12 (a, b) (mem_prs 57 7 12 a b (by omega) (by omega) hb)
  by_cases h3 : a < 28
  · exact chk_sound 57 _ (by omega) c57x19 (a, b) (mem_prs 57 9 19 a b (by omega) (by omega) hb)
  by_cases h4 : a < 43
  · exact chk_sound 57 _ (by omega) c57x28 (a, b) (mem_prs 57 15 28 a b (by omega) (by omega) hb)
  exact chk_sound 57 _ (by omega) c57x43 (a, b) (mem_prs 57 14 43 a b (by omega) (by omega) hb)
theorem s58 (a b : Nat) (ha : a < 58) (hb : a < b ∧ b < 58 ∨ b = 60) : top0 ((List.range 58).map fun p => leafT (perm a b p)) ≠ top0 ((List.range 58).map leafT) := by
  by_cases h0 : a < 5
  · exact chk_sound 58 _ (by omega) c58x0 (a, b) (mem_prs 58 5 0 a b (by omega) (by omega) hb)
  by_cases h1 : a < 11
  · exact chk_sound 58 _ (by omega) c58x5 (a, b) (mem_prs 58 6 5 a b (by omega) (by omega) hb)
  by_cases h2 : a < 18
  · exact chk_sound 58 _ (by omega) c58x11 (a, b) (mem_prs 58 7 11 a b (by omega) (by omega) hb)
  by_cases h3 : a < 27
  · exact chk_sound 58 _ (by omega) c58x18 (a, b) (mem_prs 58 9 18 a b (by omega) (by omega) hb)
  by_cases h4 : a < 40
  · exact chk_sound 58 _ (by omega) c58x27 (a, b) (mem_prs 58 13 27 a b (by omega) (by omega) hb)
  exact chk_sound 58 _ (by omega) c58x40 (a, b) (mem_prs 58 18 40 a b (by omega) (by omega) hb)
theorem s59 (a b : Nat) (ha : a < 59) (hb : a < b ∧ b < 59 ∨ b = 60) : top0 ((List.range 59).map fun p => leafT (perm a b p)) ≠ top0 ((List.range 59).map leafT) := by
  by_cases h0 : a < 5
  · exact chk_sound 59 _ (by omega) c59x0 (a, b) (mem_prs 59 5 0 a b (by omega) (by omega) hb)
  by_cases h1 : a < 11
  · exact chk_sound 59 _ (by omega) c59x5 (a, b) (mem_prs 59 6 5 a b (by omega) (by omega) hb)
  by_cases h2 : a < 18
  · exact chk_sound 59 _ (by omega) c59x11 (a, b) (mem_prs 59 7 11 a b (by omega) (by omega) hb)
  by_cases h3 : a < 26
  · exact chk_sound 59 _ (by omega) c59x18 (a, b) (mem_prs 59 8 18 a b (by omega) (by omega) hb)
  by_cases h4 : a < 38
  · exact chk_sound 59 _ (by omega) c59x26 (a, b) (mem_prs 59 12 26 a b (by omega) (by omega) hb)
  exact chk_sound 59 _ (by omega) c59x38 (a, b) (mem_prs 59 21 38 a b (by omega) (by omega) hb)
theorem s60 (a b : Nat) (ha : a < 60) (hb : a < b ∧ b < 60 ∨ b = 60) : top0 ((List.range 60).map fun p => leafT (perm a b p)) ≠ top0 ((List.range 60).map leafT) := by
  by_cases h0 : a < 5
  · exact chk_sound 60 _ (by omega) c60x0 (a, b) (mem_prs 60 5 0 a b (by omega) (by omega) hb)
  by_cases h1 : a < 11
  · exact chk_sound 60 _ (by omega) c60x5 (a, b) (mem_prs 60 6 5 a b (by omega) (by omega) hb)
  by_cases h2 : a < 18
  · exact chk_sound 60 _ (by omega) c60x11 (a, b) (mem_prs 60 7 11 a b (by omega) (by omega) hb)
  by_cases h3 : a < 26
  · exact chk_sound 60 _ (by omega) c60x18 (a, b) (mem_prs 60 8 18 a b (by omega) (by omega) hb)
  by_cases h4 : a < 37
  · exact chk_sound 60 _ (by omega) c60x26 (a, b) (mem_prs 60 11 26 a b (by omega) (by omega) hb)
  exact chk_sound 60 _ (by omega) c60x37 (a, b) (mem_prs 60 23 37 a b (by omega) (by omega) hb)
theorem all_sizes (n a b : Nat) (hn : n ≤ 60) (ha : a < n) (hb : a < b ∧ b < n ∨ b = 60) : top0 ((List.range n).map fun p => leafT (perm a b p)) ≠ top0 ((List.range n).map leafT) := by
  match n, hn with
  | 0, _ => omega
  | 1, _ => exact s1 a b ha hb
  | 2, _ => exact s2 a b ha hb
  | 3, _ => exact s3 a b ha hb
  | 4, _ => exact s4 a b ha hb
  | 5, _ => exact s5 a b ha hb
  | 6, _ => exact s6 a b ha hb
  | 7, _ => exact s7 a b ha hb
  | 8, _ => exact s8 a b ha hb
  | 9, _ => exact s9 a b ha hb
  | 10, _ => exact s10 a b ha hb
  | 11, _ => exact s11 a b ha hb
  | 12, _ => exact s12 a b ha hb
  | 13, _ => exact s13 a b ha hb
  | 14, _ => exact s14 a b ha hb
  | 15, _ => exact s15 a b ha hb
  | 16, _ => exact s16 a b ha hb
  | 17, _ => exact s17 a b ha hb
  | 18, _ => exact s18 a b ha hb
  | 19, _ => exact s19 a b ha hb
  | 20, _ => exact s20 a b ha hb
  | 21, _ => exact s21 a b ha hb
  | 22, _ => exact s22 a b ha hb
  | 23, _ => exact s23 a b ha hb
  | 24, _ => exact s24 a b ha hb
  | 25, _ => exact s25 a b ha hb
  | 26, _ => exact s26 a b ha hb
  | 27, _ => exact s27 a b ha hb
  | 28, _ => exact s28 a b ha hb
  | 29, _ => exact s29 a b ha hb
  | 30, _ => exact s30 a b ha hb
  | 31, _ => exact s31 a b ha hb
  | 32, _ => exact s32 a b ha hb
  | 33, _ => exact s33 a b ha hb
  | 34, _ => exact s34 a b ha hb
  | 35, _ => exact s35 a b ha hb
  | 36, _ => exact s36 a b ha hb
  | 37, _ => exact s37 a b ha hb
  | 38, _ => exact s38 a b ha hb
  | 39, _ => exact s39 a b ha hb
  | 40, _ => exact s40 a b ha hb
  | 41, _ => exact s41 a b ha hb
  | 42, _ => exact s42 a b ha hb
  | 43, _ => exact s43 a b ha hb
  | 44, _ => exact s44 a b ha hb
  | 45, _ => exact s45 a b ha hb
  | 46, _ => exact s46 a b ha hb
  | 47, _ => exact s47 a b ha hb
  | 48, _ => exact s48 a b ha hb
  | 49, _ => exact s49 a b ha hb
  | 50, _ => exact s50 a b ha hb
  | 51, _ => exact s51 a b ha hb
  | 52, _ => exact s52 a b ha hb
  | 53, _ => exact s53 a b ha hb
  | 54, _ => exact s54 a b ha hb
  | 55, _ => exact s55 a b ha hb
  | 56, _ => exact s56 a b ha hb
  | 57, _ => exact s57 a b ha hb
  | 58, _ => exact s58 a b ha hb
  | 59, _ => exact s59 a b ha hb
  | 60, _ => exact s60 a b ha hb
  | n + 61, h => omega
end Go.Lane
