/- The contract of the law's awake; Of by values. -/
import Derived.Test.YtaiadcekmooimaaCm
import Derived.Lib.SlBytesConst
namespace Go.Proofs.Ytaiadcekmooimaa
open Go.RowKit Go.Sha
set_option linter.unusedSimpArgs false
set_option linter.unusedVariables false

theorem src_one {w : World} {g : Nat} {c : Int} (h : w.cell? ⟨g, 0, none⟩ = some (.int .u8 c)) (hg : g < w.heap.size) : Src w (.slice (some ⟨g, 0, none⟩) 1 1) [c] w.heap.size :=
  ⟨_, 1, g, 0, rfl, by simp, fun _ => rfl, by omega, fun j hj => by
    have e : j = 0 := by simp at hj; omega
    subst e
    exact h, fun h => by cases h⟩
/-- Of, by what is handed in. -/
def clsL (rk rz rm rt : Int) (r0 : List Int) (has : Bool) (nk nz nm nt : Int) (is : Bool) (r1 : List Int) : Int :=
  ofL has is (rk != nk) (nk == 2) (ofDirL (nm == rm) (nt == rt)) (ofFileL (nz == rz) (eqS r0 r1) (nt == rt) (nm == rm))
theorem of_any (rp np : ByteArray) (rk rz rm rt nk nz nm nt : Int) (adr adu : Option Addr) (nr capr nu capu : Nat) (r0 r1 : List Int) (has is : Bool) (w : World)
    (s0 : Src w (.slice adr nr capr) r0 w.heap.size) (s1 : Src w (.slice adu nu capu) r1 w.heap.size) :
    Calls Try.prog 9 #[.agg #[.string rp, .int .i64 rk, .int .i64 rz, .int .i64 rm, .int .u64 rt, .slice adr nr capr], .bool has, .agg #[.string np, .int .i64 nk, .int .i64 nz, .int .i64 nm, .int .u64 nt], .bool is, .slice adu nu capu] w
      fun e w' => e = .returned (.int .i64 (clsL rk rz rm rt r0 has nk nz nm nt is r1)) ∧ Ext w w' :=
  of_b rp np rk rz rm rt nk nz nm nt adr adu nr capr nu capu r0 r1 has is w _ _ _ _ _ _ s0 s1 rfl rfl rfl rfl rfl rfl
theorem eqS_self (m : List Int) : eqS m m = true := by simp [eqS]

theorem src_lit (w : World) (c : Int) : Src (w.alloc (.cells #[.int .u8 c] 5 (1, 2))) (.slice (some ⟨w.heap.size, 0, none⟩) 1 1) [c] (w.alloc (.cells #[.int .u8 c] 5 (1, 2))).heap.size := by
  refine src_one ?_ (by rw [size_alloc]; omega)
  have : (w.alloc (.cells #[.int .u8 c] 5 (1, 2))).heap[w.heap.size]? = some (.cells #[.int .u8 c] 5 (1, 2)) := heap_alloc_last w _
  simp only [World.cell?, this]
  rfl
theorem aw_1 : clsL 1 1 0 5 [120] true 1 1 0 5 true [121] = 6 := by decide +kernel
theorem aw_2 : clsL 1 1 0 5 [120] true 1 1 0 5 true [120] = 1 := by decide +kernel
theorem aw_3 : clsL 1 1 0 5 [120] true 1 1 0 6 true [121] = 4 := by decide +kernel

set_option maxHeartbeats 4000000 in
set_option maxRecDepth 100000 in
theorem awake_any (w : World) : Calls Try.prog 7 #[] w fun e w' => e = .returned (.bool true) ∧ Ext w w' := by
  have kc := fun (w : World) (C : Array Value) (n c : Nat) => Lib.run_convert_bytes_const (P := Try.prog) w 25 5 C n c Try.underlying25 Try.underlying5
  have ex : Ext w ((((w.alloc (.cells #[.int .u8 120] 5 (1, 2))).alloc (.cells #[.string ⟨#[97]⟩, .int .i64 1, .int .i64 1, .int .i64 0, .int .u64 5, .slice (some ⟨w.heap.size, 0, none⟩) 1 1] 29)).alloc (.cells #[.string ⟨#[97]⟩, .int .i64 1, .int .i64 1, .int .i64 0, .int .u64 5] 24)).alloc (.cells #[.string ⟨#[97]⟩, .int .i64 1, .int .i64 1, .int .i64 0, .int .u64 6] 24)) := (((Ext.alloc w _).trans (Ext.alloc _ _)).trans (Ext.alloc _ _)).trans (Ext.alloc _ _)
  have sx : Src ((((w.alloc (.cells #[.int .u8 120] 5 (1, 2))).alloc (.cells #[.string ⟨#[97]⟩, .int .i64 1, .int .i64 1, .int .i64 0, .int .u64 5, .slice (some ⟨w.heap.size, 0, none⟩) 1 1] 29)).alloc (.cells #[.string ⟨#[97]⟩, .int .i64 1, .int .i64 1, .int .i64 0, .int .u64 5] 24)).alloc (.cells #[.string ⟨#[97]⟩, .int .i64 1, .int .i64 1, .int .i64 0, .int .u64 6] 24)) (.slice (some ⟨w.heap.size, 0, none⟩) 1 1) [120] ((((w.alloc (.cells #[.int .u8 120] 5 (1, 2))).alloc (.cells #[.string ⟨#[97]⟩, .int .i64 1, .int .i64 1, .int .i64 0, .int .u64 5, .slice (some ⟨w.heap.size, 0, none⟩) 1 1] 29)).alloc (.cells #[.string ⟨#[97]⟩, .int .i64 1, .int .i64 1, .int .i64 0, .int .u64 5] 24)).alloc (.cells #[.string ⟨#[97]⟩, .int .i64 1, .int .i64 1, .int .i64 0, .int .u64 6] 24)).heap.size := (src_lit w 120).now (((Ext.alloc _ _).trans (Ext.alloc _ _)).trans (Ext.alloc _ _))
  have a1 : At ((((w.alloc (.cells #[.int .u8 120] 5 (1, 2))).alloc (.cells #[.string ⟨#[97]⟩, .int .i64 1, .int .i64 1, .int .i64 0, .int .u64 5, .slice (some ⟨w.heap.size, 0, none⟩) 1 1] 29)).alloc (.cells #[.string ⟨#[97]⟩, .int .i64 1, .int .i64 1, .int .i64 0, .int .u64 5] 24)).alloc (.cells #[.string ⟨#[97]⟩, .int .i64 1, .int .i64 1, .int .i64 0, .int .u64 6] 24)) (w.heap.size + 1) #[.string ⟨#[97]⟩, .int .i64 1, .int .i64 1, .int .i64 0, .int .u64 5, .slice (some ⟨w.heap.size, 0, none⟩) 1 1] 29 := ((At.new1 w _ _ _).alloc _).alloc _
  have a2 : At ((((w.alloc (.cells #[.int .u8 120] 5 (1, 2))).alloc (.cells #[.string ⟨#[97]⟩, .int .i64 1, .int .i64 1, .int .i64 0, .int .u64 5, .slice (some ⟨w.heap.size, 0, none⟩) 1 1] 29)).alloc (.cells #[.string ⟨#[97]⟩, .int .i64 1, .int .i64 1, .int .i64 0, .int .u64 5] 24)).alloc (.cells #[.string ⟨#[97]⟩, .int .i64 1, .int .i64 1, .int .i64 0, .int .u64 6] 24)) (w.heap.size + 1 + 1) #[.string ⟨#[97]⟩, .int .i64 1, .int .i64 1, .int .i64 0, .int .u64 5] 24 := (At.new2 w _ _ _ _).alloc _
  have a3 : At ((((w.alloc (.cells #[.int .u8 120] 5 (1, 2))).alloc (.cells #[.string ⟨#[97]⟩, .int .i64 1, .int .i64 1, .int .i64 0, .int .u64 5, .slice (some ⟨w.heap.size, 0, none⟩) 1 1] 29)).alloc (.cells #[.string ⟨#[97]⟩, .int .i64 1, .int .i64 1, .int .i64 0, .int .u64 5] 24)).alloc (.cells #[.string ⟨#[97]⟩, .int .i64 1, .int .i64 1, .int .i64 0, .int .u64 6] 24)) (w.heap.size + 1 + 1 + 1) #[.string ⟨#[97]⟩, .int .i64 1, .int .i64 1, .int .i64 0, .int .u64 6] 24 := by
    have := At.new (((w.alloc (.cells #[.int .u8 120] 5 (1, 2))).alloc (.cells #[.string ⟨#[97]⟩, .int .i64 1, .int .i64 1, .int .i64 0, .int .u64 5, .slice (some ⟨w.heap.size, 0, none⟩) 1 1] 29)).alloc (.cells #[.string ⟨#[97]⟩, .int .i64 1, .int .i64 1, .int .i64 0, .int .u64 5] 24)) #[.string ⟨#[97]⟩, .int .i64 1, .int .i64 1, .int .i64 0, .int .u64 6] 24
    rw [size_alloc, size_alloc, size_alloc] at this
    exact this
  go_enter Try.func7, Try.ntmps7
  go_upto_region 5 with (fail)
  generalize ((((w.alloc (.cells #[.int .u8 120] 5 (1, 2))).alloc (.cells #[.string ⟨#[97]⟩, .int .i64 1, .int .i64 1, .int .i64 0, .int .u64 5, .slice (some ⟨w.heap.size, 0, none⟩) 1 1] 29)).alloc (.cells #[.string ⟨#[97]⟩, .int .i64 1, .int .i64 1, .int .i64 0, .int .u64 5] 24)).alloc (.cells #[.string ⟨#[97]⟩, .int .i64 1, .int .i64 1, .int .i64 0, .int .u64 6] 24)) = W at *
  have f0 := a1.cell 0
  have f1 := a1.cell 1
  have f2 := a1.cell 2
  have f3 := a1.cell 3
  have f4 := a1.cell 4
  have f5 := a1.cell 5
  have n0 := a2.cell 0
  have n1 := a2.cell 1
  have n2 := a2.cell 2
  have n3 := a2.cell 3
  have n4 := a2.cell 4
  have m0 := a3.cell 0
  have m1 := a3.cell 1
  have m2 := a3.cell 2
  have m3 := a3.cell 3
  have m4 := a3.cell 4
  have s0 := src_lit W 121
  have x0 := Ext.alloc W (.cells #[.int .u8 121] 5 (1, 2))
  have C0 := of_any ⟨#[97]⟩ ⟨#[97]⟩ 1 1 0 5 1 1 0 5 _ _ 1 1 1 1 [120] [121] true true _ (sx.now x0) s0
  rw [aw_1] at C0
  go_wp2_with fail
  refine C0.mono ?_
  rintro e W1 ⟨rfl, y0⟩
  have z0 := x0.trans y0
  clear f0 f1 f2 f3 f4 f5 n0 n1 n2 n3 n4 m0 m1 m2 m3 m4
  replace a1 := at_ext a1 z0
  replace a2 := at_ext a2 z0
  replace a3 := at_ext a3 z0
  replace sx := sx.now z0
  replace ex := ex.trans z0
  clear C0 s0 x0 y0 z0
  have f0 := a1.cell 0
  have f1 := a1.cell 1
  have f2 := a1.cell 2
  have f3 := a1.cell 3
  have f4 := a1.cell 4
  have f5 := a1.cell 5
  have n0 := a2.cell 0
  have n1 := a2.cell 1
  have n2 := a2.cell 2
  have n3 := a2.cell 3
  have n4 := a2.cell 4
  have m0 := a3.cell 0
  have m1 := a3.cell 1
  have m2 := a3.cell 2
  have m3 := a3.cell 3
  have m4 := a3.cell 4
  have s1 := src_lit W1 120
  have x1 := Ext.alloc W1 (.cells #[.int .u8 120] 5 (1, 2))
  have C1 := of_any ⟨#[97]⟩ ⟨#[97]⟩ 1 1 0 5 1 1 0 5 _ _ 1 1 1 1 [120] [120] true true _ (sx.now x1) s1
  rw [aw_2] at C1
  go_wp2_with fail
  refine C1.mono ?_
  rintro e W2 ⟨rfl, y1⟩
  have z1 := x1.trans y1
  clear f0 f1 f2 f3 f4 f5 n0 n1 n2 n3 n4 m0 m1 m2 m3 m4
  replace a1 := at_ext a1 z1
  replace a2 := at_ext a2 z1
  replace a3 := at_ext a3 z1
  replace sx := sx.now z1
  replace ex := ex.trans z1
  clear C1 s1 x1 y1 z1
  have f0 := a1.cell 0
  have f1 := a1.cell 1
  have f2 := a1.cell 2
  have f3 := a1.cell 3
  have f4 := a1.cell 4
  have f5 := a1.cell 5
  have n0 := a2.cell 0
  have n1 := a2.cell 1
  have n2 := a2.cell 2
  have n3 := a2.cell 3
  have n4 := a2.cell 4
  have m0 := a3.cell 0
  have m1 := a3.cell 1
  have m2 := a3.cell 2
  have m3 := a3.cell 3
  have m4 := a3.cell 4
  have s2 := src_lit W2 121
  have x2 := Ext.alloc W2 (.cells #[.int .u8 121] 5 (1, 2))
  have C2 := of_any ⟨#[97]⟩ ⟨#[97]⟩ 1 1 0 5 1 1 0 6 _ _ 1 1 1 1 [120] [121] true true _ (sx.now x2) s2
  rw [aw_3] at C2
  go_wp2_with fail
  refine C2.mono ?_
  rintro e W3 ⟨rfl, y2⟩
  have z2 := x2.trans y2
  clear f0 f1 f2 f3 f4 f5 n0 n1 n2 n3 n4 m0 m1 m2 m3 m4
  replace a1 := at_ext a1 z2
  replace a2 := at_ext a2 z2
  replace a3 := at_ext a3 z2
  replace sx := sx.now z2
  replace ex := ex.trans z2
  clear C2 s2 x2 y2 z2
  go_wp2_with fail
  refine (word_6 W3).mono ?_
  rintro e w' ⟨rfl, rfl⟩
  go_wp2_with fail
  refine (rotten_any 6 W3).mono ?_
  rintro e w' ⟨rfl, rfl⟩
  go_wp2
  go_ret
  exact ⟨rfl, ex⟩
end Go.Proofs.Ytaiadcekmooimaa
