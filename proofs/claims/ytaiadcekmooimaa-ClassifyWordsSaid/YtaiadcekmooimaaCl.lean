/- The contracts of package classify: ofDir, ofFile, Of, Ref, Rotten, Word. -/
import Derived.Test.YtaiadcekmooimaaWq
import Derived.Test.YtaiadcekmooimaaWi
namespace Go.Proofs.Ytaiadcekmooimaa
open Go.RowKit Go.Sha
set_option linter.unusedSimpArgs false
set_option linter.unusedVariables false

/-- A directory's class, of what is alike: Meta, Stamp. -/
def ofDirL (m t : Bool) : Int := if m && t then 1 else 5
/-- A file's class, of what is alike: Size, root, Stamp, Meta. -/
def ofFileL (z r t m : Bool) : Int := if t && (z && r) && m then 1 else if t then 6 else if z && r then 5 else 4
/-- A path's class. -/
def ofL (has is other dir : Bool) (d f : Int) : Int := if !has && !is then 0 else if !has then 2 else if !is then 3 else if other then 7 else if dir then d else f

/-- The cells of a Stat, and of a Ref. -/
def statC (p : ByteArray) (k z m t : Int) : Array Value := #[.string p, .int .i64 k, .int .i64 z, .int .i64 m, .int .u64 t]
def refC (p : ByteArray) (k z m t : Int) (v : Value) : Array Value := #[.string p, .int .i64 k, .int .i64 z, .int .i64 m, .int .u64 t, v]

set_option maxHeartbeats 1000000 in
theorem ofDir_b (rp np : ByteArray) (rk rz rm rt nk nz nm nt : Int) (ad : Option Addr) (n cap : Nat) (w : World) (b1 b2 : Bool) (h1 : (nm == rm) = b1) (h2 : (nt == rt) = b2) :
    Calls Try.prog 13 #[.agg (refC rp rk rz rm rt (.slice ad n cap)), .agg (statC np nk nz nm nt)] w fun e w' => e = .returned (.int .i64 (ofDirL b1 b2)) ∧ Ext w w' := by
  unfold refC statC
  have a1 := (At.new w #[.string rp, .int .i64 rk, .int .i64 rz, .int .i64 rm, .int .u64 rt, .slice ad n cap] 29).alloc (.cells #[.string np, .int .i64 nk, .int .i64 nz, .int .i64 nm, .int .u64 nt] 24)
  have a2 := At.new1 w (.cells #[.string rp, .int .i64 rk, .int .i64 rz, .int .i64 rm, .int .u64 rt, .slice ad n cap] 29) #[.string np, .int .i64 nk, .int .i64 nz, .int .i64 nm, .int .u64 nt] 24
  have f3 := a1.cell 3
  have f4 := a1.cell 4
  have g3 := a2.cell 3
  have g4 := a2.cell 4
  have ex : Ext w ((w.alloc (.cells #[.string rp, .int .i64 rk, .int .i64 rz, .int .i64 rm, .int .u64 rt, .slice ad n cap] 29)).alloc (.cells #[.string np, .int .i64 nk, .int .i64 nz, .int .i64 nm, .int .u64 nt] 24)) := (Ext.alloc w _).trans (Ext.alloc _ _)
  clear a1 a2
  cases b1 <;> cases b2 <;>
  · go_enter Try.func13, Try.ntmps13
    go_wp2
    go_ret
    exact ⟨rfl, ex⟩

set_option maxHeartbeats 1000000 in
theorem ofFile_b (rp np : ByteArray) (rk rz rm rt nk nz nm nt : Int) (ad : Option Addr) (n cap : Nat) (w : World) (b0 b1 b2 b3 : Bool) (h0 : (nz == rz) = b0) (h2 : (nt == rt) = b2) (h3 : (nm == rm) = b3) :
    Calls Try.prog 14 #[.agg (refC rp rk rz rm rt (.slice ad n cap)), .agg (statC np nk nz nm nt), .bool b1] w fun e w' => e = .returned (.int .i64 (ofFileL b0 b1 b2 b3)) ∧ Ext w w' := by
  unfold refC statC
  have a1 := (At.new w #[.string rp, .int .i64 rk, .int .i64 rz, .int .i64 rm, .int .u64 rt, .slice ad n cap] 29).alloc (.cells #[.string np, .int .i64 nk, .int .i64 nz, .int .i64 nm, .int .u64 nt] 24)
  have a2 := At.new1 w (.cells #[.string rp, .int .i64 rk, .int .i64 rz, .int .i64 rm, .int .u64 rt, .slice ad n cap] 29) #[.string np, .int .i64 nk, .int .i64 nz, .int .i64 nm, .int .u64 nt] 24
  have f2 := a1.cell 2
  have f3 := a1.cell 3
  have f4 := a1.cell 4
  have g2 := a2.cell 2
  have g3 := a2.cell 3
  have g4 := a2.cell 4
  have ex : Ext w ((w.alloc (.cells #[.string rp, .int .i64 rk, .int .i64 rz, .int .i64 rm, .int .u64 rt, .slice ad n cap] 29)).alloc (.cells #[.string np, .int .i64 nk, .int .i64 nz, .int .i64 nm, .int .u64 nt] 24)) := (Ext.alloc w _).trans (Ext.alloc _ _)
  clear a1 a2
  cases b0 <;> cases b1 <;> cases b2 <;> cases b3 <;>
  · go_enter Try.func14, Try.ntmps14
    go_wp2
    go_ret
    exact ⟨rfl, ex⟩

theorem rotten_any (n : Int) (w : World) : Calls Try.prog 10 #[.int .i64 n] w fun e w' => e = .returned (.bool (n == 6)) ∧ w = w' := by
  go_enter Try.func10, Try.ntmps10
  go_wp2
  go_ret
  exact ⟨rfl, rfl⟩

/-- A class's word. -/
def wordL (n : Int) : ByteArray :=
  if n = 1 then ⟨#[115, 97, 109, 101]⟩ else if n = 2 then ⟨#[110, 101, 119]⟩ else if n = 3 then ⟨#[103, 111, 110, 101]⟩ else if n = 4 then ⟨#[101, 100, 105, 116]⟩
  else if n = 5 then ⟨#[109, 101, 116, 97]⟩ else if n = 6 then ⟨#[114, 111, 116]⟩ else if n = 7 then ⟨#[111, 116, 104, 101, 114]⟩ else ⟨#[]⟩
theorem word_1 (w : World) : Calls Try.prog 11 #[.int .i64 1] w fun e w' => e = .returned (.string ⟨#[115, 97, 109, 101]⟩) ∧ w = w' := by
  go_enter Try.func11, Try.ntmps11
  go_wp2
  go_ret
  exact ⟨rfl, rfl⟩
theorem word_2 (w : World) : Calls Try.prog 11 #[.int .i64 2] w fun e w' => e = .returned (.string ⟨#[110, 101, 119]⟩) ∧ w = w' := by
  go_enter Try.func11, Try.ntmps11
  go_wp2
  go_ret
  exact ⟨rfl, rfl⟩
theorem word_3 (w : World) : Calls Try.prog 11 #[.int .i64 3] w fun e w' => e = .returned (.string ⟨#[103, 111, 110, 101]⟩) ∧ w = w' := by
  go_enter Try.func11, Try.ntmps11
  go_wp2
  go_ret
  exact ⟨rfl, rfl⟩
theorem word_4 (w : World) : Calls Try.prog 11 #[.int .i64 4] w fun e w' => e = .returned (.string ⟨#[101, 100, 105, 116]⟩) ∧ w = w' := by
  go_enter Try.func11, Try.ntmps11
  go_wp2
  go_ret
  exact ⟨rfl, rfl⟩
theorem word_5 (w : World) : Calls Try.prog 11 #[.int .i64 5] w fun e w' => e = .returned (.string ⟨#[109, 101, 116, 97]⟩) ∧ w = w' := by
  go_enter Try.func11, Try.ntmps11
  go_wp2
  go_ret
  exact ⟨rfl, rfl⟩
theorem word_6 (w : World) : Calls Try.prog 11 #[.int .i64 6] w fun e w' => e = .returned (.string ⟨#[114, 111, 116]⟩) ∧ w = w' := by
  go_enter Try.func11, Try.ntmps11
  go_wp2
  go_ret
  exact ⟨rfl, rfl⟩
theorem word_7 (w : World) : Calls Try.prog 11 #[.int .i64 7] w fun e w' => e = .returned (.string ⟨#[111, 116, 104, 101, 114]⟩) ∧ w = w' := by
  go_enter Try.func11, Try.ntmps11
  go_wp2
  go_ret
  exact ⟨rfl, rfl⟩
theorem word_none (n : Int) (w : World) (h1 : (n == 1) = false) (h2 : (n == 2) = false) (h3 : (n == 3) = false) (h4 : (n == 4) = false) (h5 : (n == 5) = false) (h6 : (n == 6) = false) (h7 : (n == 7) = false) :
    Calls Try.prog 11 #[.int .i64 n] w fun e w' => e = .returned (.string ⟨#[]⟩) ∧ w = w' := by
  go_enter Try.func11, Try.ntmps11
  go_wp2
  go_ret
  exact ⟨rfl, rfl⟩
theorem word_any (n : Int) (w : World) : Calls Try.prog 11 #[.int .i64 n] w fun e w' => e = .returned (.string (wordL n)) ∧ w = w' := by
  by_cases h1 : n = 1
  · subst h1; exact word_1 w
  by_cases h2 : n = 2
  · subst h2; exact word_2 w
  by_cases h3 : n = 3
  · subst h3; exact word_3 w
  by_cases h4 : n = 4
  · subst h4; exact word_4 w
  by_cases h5 : n = 5
  · subst h5; exact word_5 w
  by_cases h6 : n = 6
  · subst h6; exact word_6 w
  by_cases h7 : n = 7
  · subst h7; exact word_7 w
  have e : wordL n = ⟨#[]⟩ := by unfold wordL; rw [if_neg h1, if_neg h2, if_neg h3, if_neg h4, if_neg h5, if_neg h6, if_neg h7]
  rw [e]
  exact word_none n w (by simpa using h1) (by simpa using h2) (by simpa using h3) (by simpa using h4) (by simpa using h5) (by simpa using h6) (by simpa using h7)
end Go.Proofs.Ytaiadcekmooimaa
