/- Texts of two alike lists, wherever they lie. -/
import Derived.Test.YtoompkmncglmoaaDoorRn
import Derived.Test.YtoompkmncglmoaaDoorIh
namespace Go.Proofs.YtoompkmncglmoaaDoor
open Go.RowKit Go.Pth

set_option maxHeartbeats 1000000 in
/-- Two alike lists. -/
theorem texts_alike (va vb : Value) (x : List B) (w : World) (hx : TxO w va x) (hy : TxO w vb x) (lx : x.length ≤ 100) :
    Calls Tryd.prog 16 #[va, vb] w fun e w' => e = .returned (.bool true) ∧ Ext w w' := by
  obtain ⟨ada, capa, ba, oa, rfl, xa, xc⟩ := hx
  obtain ⟨adb, capb, bb, ob, rfl, ya, yc⟩ := hy
  obtain ⟨L, hL⟩ : ∃ L, L = x.length := ⟨_, rfl⟩
  rw [← hL] at xa xc ya yc lx ⊢
  have XA := Lib.hid xa; have XC := Lib.hid xc; have YA := Lib.hid ya; have YC := Lib.hid yc
  clear xa xc ya yc hL
  go_enter Tryd.func16, Tryd.ntmps16
  go_wp2
  go_loopw [5] (fun i wr => ∃ k : Nat, k ≤ L ∧ i = .int .i64 k ∧ Ext w wr) (fun i _ => L - (intOf i).toNat)
  case atStart => exact ⟨0, by omega, rfl, Ext.refl _⟩
  case round =>
    obtain ⟨k, hk, rfl, he⟩ := hrel
    by_cases hlt : k < L
    · have i0 : (0 : Int) ≤ (k : Int) := by omega
      have i1 : (k : Int) < (L : Int) := by omega
      have e1 := XA.out (by omega)
      subst e1
      have e2 := YA.out (by omega)
      subst e2
      have c1 := he.cell (XC.out k hlt)
      have c2 := he.cell (YC.out k hlt)
      generalize tx (x[k]?.getD []) = z at c1 c2
      have q : (z.toList == z.toList) = true := by simp
      have HE := Lib.hid he
      clear he
      go_wp2_with fail
      go_quiet (fail)
      go_wp2
      refine ⟨⟨k + 1, by omega, rfl, HE.out.trans ?_⟩, by simp [intOf]; omega⟩
      first | exact Ext.refl _ | exact Ext.drew _ | exact Ext.drewN _ _
    · obtain rfl : k = L := by omega
      clear hlt
      go_wp2
      go_ret
      exact ⟨rfl, he⟩
end Go.Proofs.YtoompkmncglmoaaDoor
