/- The walk of ClassifyStamps. -/
import Derived.Test.YtaiadcekmooimaaCn
import Derived.Test.YtaiadcekmooimaaRw
namespace Go.Proofs.Ytaiadcekmooimaa
open Go.RowKit Go.Sha
set_option linter.unusedSimpArgs false
set_option linter.unusedVariables false

set_option maxHeartbeats 8000000 in
set_option maxRecDepth 100000 in
theorem stamps_any (v0 v1 : Value) (p : ByteArray) (k z m t st : Int) (r0 r1 : List Int) (size mt : Int) (w : World) (hp : p.size ≤ 9223372036854775807)
    (s0 : Src w v0 r0 w.heap.size) (s1 : Src w v1 r1 w.heap.size) (l0 : r0.length ≤ 9223372036854775807) (l1 : r1.length ≤ 9223372036854775807) :
    Calls Try.prog 3 #[.agg #[.string p, .int .i64 k, .int .i64 z, .int .i64 m, .int .u64 t], .int .u64 st, v0, v1, .int .i64 size, .int .i64 mt] w fun e w' => e = .returned (.bool true) ∧ Ext w w' := by
  obtain ⟨ad0, cap0, ev⟩ := s0.len
  subst ev
  obtain ⟨ad1, cap1, ev⟩ := s1.len
  subst ev
  obtain ⟨P, hP⟩ : ∃ n, n = p.size := ⟨_, rfl⟩
  obtain ⟨L0, hL0⟩ : ∃ n, n = r0.length := ⟨_, rfl⟩
  obtain ⟨L1, hL1⟩ : ∃ n, n = r1.length := ⟨_, rfl⟩
  rw [← hL0] at s0 l0 ⊢
  rw [← hL1] at s1 l1 ⊢
  rw [← hP] at hp
  have e1 : Ext w ((w.alloc (.cells #[.string p, .int .i64 k, .int .i64 z, .int .i64 m, .int .u64 t] 24)).alloc (.cells #[.int .i64 L0, .int .i64 L1] 3)) := (Ext.alloc w _).trans (Ext.alloc _ _)
  have a6 : At ((w.alloc (.cells #[.string p, .int .i64 k, .int .i64 z, .int .i64 m, .int .u64 t] 24)).alloc (.cells #[.int .i64 L0, .int .i64 L1] 3)) w.heap.size #[.string p, .int .i64 k, .int .i64 z, .int .i64 m, .int .u64 t] 24 := (At.new w _ _).alloc _
  have b6 := At.new1 w (.cells #[.string p, .int .i64 k, .int .i64 z, .int .i64 m, .int .u64 t] 24) #[.int .i64 L0, .int .i64 L1] 3
  have f0 := (At.new w #[.string p, .int .i64 k, .int .i64 z, .int .i64 m, .int .u64 t] 24).cell 0
  have i0 : ((w.alloc (.cells #[.string p, .int .i64 k, .int .i64 z, .int .i64 m, .int .u64 t] 24)).alloc (.cells #[.int .i64 L0, .int .i64 L1] 3)).cell? ⟨w.heap.size + 1, 0, none⟩ = some (.int .i64 (L0 : Nat)) := b6.cell 0
  have i1 : ((w.alloc (.cells #[.string p, .int .i64 k, .int .i64 z, .int .i64 m, .int .u64 t] 24)).alloc (.cells #[.int .i64 L0, .int .i64 L1] 3)).cell? ⟨w.heap.size + 1, 1, none⟩ = some (.int .i64 (L1 : Nat)) := b6.cell 1
  have HL := Lib.hid (And.intro hL0 (And.intro hL1 hP))
  clear hL0 hL1
  have hPi : ((p.size : Nat) : Int) = (P : Int) := by rw [hP]
  clear hP
  clear b6
  go_enter Try.func3, Try.ntmps3
  go_wp2_with fail
  by_cases hs : P + L0 + L1 ≤ 1000
  rotate_left
  · refine (sum3_big P L0 L1 _ _ 1000 (by omega) (by omega) hp l0 i0 i1).mono ?_
    rintro e w' ⟨n, hn, rfl, rfl⟩
    have d : decide ((1000 : Int) < n) = true := by simpa using hn
    clear hn hs
    go_wp2_with fail
    refine (awake_any _).mono ?_
    rintro e w' ⟨rfl, ex⟩
    go_wp2
    go_ret
    exact ⟨rfl, e1.trans ex⟩
  refine (sum3_small P L0 L1 _ _ 1000 (by omega) hs i0 i1).mono ?_
  rintro e w' ⟨rfl, rfl⟩
  have d : decide ((1000 : Int) < (P : Int) + L0 + L1) = false := by simp; omega
  generalize (w.alloc (.cells #[.string p, .int .i64 k, .int .i64 z, .int .i64 m, .int .u64 t] 24)).alloc (.cells #[.int .i64 L0, .int .i64 L1] 3) = W1 at *
  clear i0 i1 f0 hPi
  have hl0 : L0 ≤ 70368744177664 := by omega
  clear hs hp l0 l1
  have c1 := a6.cell 1
  have z1 := a6.frozen 1
  have o1 := Only.set w.heap.size 1 W1 (.int .i64 1)
  have a7 : At (W1.setCell ⟨w.heap.size, 1, none⟩ (.int .i64 1)) w.heap.size #[.string p, .int .i64 1, .int .i64 z, .int .i64 m, .int .u64 t] 24 := a6.set 1 _
  have e2 := ext_only' e1 o1 (by omega)
  go_upto_region 4 with (fail)
  clear c1 z1 o1 a6 e1 d
  generalize W1.setCell ⟨w.heap.size, 1, none⟩ (.int .i64 1) = W2 at *
  have f0 := a7.cell 0
  have f1 := a7.cell 1
  have f2 := a7.cell 2
  have f3 := a7.cell 3
  have f4 := a7.cell 4
  have R := ref_file p 1 z m t _ r0 W2 (s0.now e2) (by rw [← HL.out.1]; exact hl0) rfl
  unfold statC at R
  go_wp2_with fail
  refine R.mono ?_
  rintro e W3 ⟨v, rfl, e3, far⟩
  clear f0 f1 f2 f3 f4
  rw [if_neg (by omega)] at far
  obtain ⟨adv, capv, ev⟩ := far.now.len
  subst ev
  obtain ⟨nv, hnv⟩ : ∃ n, n = r0.length := ⟨_, rfl⟩
  rw [← hnv] at far ⊢
  unfold refC
  replace a7 := at_ext a7 e3
  replace e2 := e2.trans e3
  clear R e3 hnv hl0
  have e4 : Ext W3 (W3.alloc (.cells #[.string p, .int .i64 1, .int .i64 z, .int .i64 m, .int .u64 t, .slice adv nv capv] 29)) := Ext.alloc _ _
  have a13 := At.new W3 #[.string p, .int .i64 1, .int .i64 z, .int .i64 m, .int .u64 t, .slice adv nv capv] 29
  replace a7 := at_ext a7 e4
  replace e2 := e2.trans e4
  have far2 := far.now.now e4
  clear far e4
  have f0 := a7.cell 0
  have f1 := a7.cell 1
  have f2 := a7.cell 2
  have f3 := a7.cell 3
  have f4 := a7.cell 4
  go_upto_region 9 with (fail)
  clear f0 f1 f2 f3 f4
  have e5 : Ext (W3.alloc (.cells #[.string p, .int .i64 1, .int .i64 z, .int .i64 m, .int .u64 t, .slice adv nv capv] 29)) ((W3.alloc (.cells #[.string p, .int .i64 1, .int .i64 z, .int .i64 m, .int .u64 t, .slice adv nv capv] 29)).alloc (.cells #[.string p, .int .i64 1, .int .i64 size, .int .i64 mt, .int .u64 st] 24)) := Ext.alloc _ _
  have a14 := At.new1 W3 (.cells #[.string p, .int .i64 1, .int .i64 z, .int .i64 m, .int .u64 t, .slice adv nv capv] 29) #[.string p, .int .i64 1, .int .i64 size, .int .i64 mt, .int .u64 st] 24
  replace a13 := at_ext a13 e5
  replace a7 := at_ext a7 e5
  replace e2 := e2.trans e5
  have far3 := far2.now e5
  clear far2 e5
  generalize (W3.alloc (.cells #[.string p, .int .i64 1, .int .i64 z, .int .i64 m, .int .u64 t, .slice adv nv capv] 29)).alloc (.cells #[.string p, .int .i64 1, .int .i64 size, .int .i64 mt, .int .u64 st] 24) = W4 at *
  have C := of_any p p 1 z m t 1 size mt st adv ad1 nv capv L1 cap1 r0 r1 true true W4 far3 (s1.now e2)
  have g0 := a13.cell 0
  have g1 := a13.cell 1
  have g2 := a13.cell 2
  have g3 := a13.cell 3
  have g4 := a13.cell 4
  have g5 := a13.cell 5
  have n0 := a14.cell 0
  have n1 := a14.cell 1
  have n2 := a14.cell 2
  have n3 := a14.cell 3
  have n4 := a14.cell 4
  go_wp2_with fail
  refine C.mono ?_
  rintro e W5 ⟨rfl, e6⟩
  clear C g0 g1 g2 g3 g4 g5 n0 n1 n2 n3 n4
  replace a7 := at_ext a7 e6
  replace e2 := e2.trans e6
  clear a13 a14 far3 e6
  have hc : clsL 1 z m t r0 true 1 size mt st true r1 = ofFileL (size == z) (eqS r0 r1) (st == t) (mt == m) := rfl
  rw [hc]
  clear hc
  have k0 := conv_src (P := Try.prog) 25 9 5 Try.underlying25 Try.underlying5 Try.underlying9 (s0.now e2)
  have k1 := conv_src (P := Try.prog) 25 9 5 Try.underlying25 Try.underlying5 Try.underlying9 (s1.now e2)
  obtain ⟨b1, h1⟩ : ∃ b, eqS r0 r1 = b := ⟨_, rfl⟩
  rw [h1]
  unfold eqS at h1
  generalize strOfNums r0 = x0 at *
  generalize strOfNums r1 = x1 at *
  obtain ⟨b0, h0⟩ : ∃ b, (size == z) = b := ⟨_, rfl⟩
  obtain ⟨b2, h2⟩ : ∃ b, (st == t) = b := ⟨_, rfl⟩
  obtain ⟨b3, h3⟩ : ∃ b, (mt == m) = b := ⟨_, rfl⟩
  rw [h0, h2, h3]
  have h2' : (st != t) = !b2 := by rw [← h2]; rfl
  have h3' : (mt != m) = !b3 := by rw [← h3]; rfl
  obtain ⟨c, hc⟩ : ∃ c, ofFileL b0 b1 b2 b3 = c := ⟨_, rfl⟩
  rw [hc]
  have Hs := Lib.hid (And.intro s0 s1)
  clear s0 s1
  have f0 := a7.cell 0
  have f1 := a7.cell 1
  have f2 := a7.cell 2
  have f3 := a7.cell 3
  have f4 := a7.cell 4
  have Ha := Lib.hid a7
  clear a7
  cases b0 <;> cases b1 <;> cases b2 <;> cases b3 <;>
  · simp [ofFileL] at hc
    subst hc
    go_wp2_with fail
    refine (rotten_any _ W5).mono ?_
    rintro e w' ⟨rfl, rfl⟩
    go_wp2_with fail
    refine (awake_any W5).mono ?_
    rintro e w' ⟨rfl, ex⟩
    go_wp2
    go_ret
    exact ⟨rfl, e2.trans ex⟩
theorem stamps_all (v0 v1 : Value) (p : ByteArray) (k z m t st : Int) (r0 r1 : List Int) (size mt : Int) (w : World) (hp : p.size ≤ 9223372036854775807)
    (s0 : Src w v0 r0 w.heap.size) (_ : Byt r0) (l0 : r0.length ≤ 9223372036854775807) (s1 : Src w v1 r1 w.heap.size) (_ : Byt r1) (l1 : r1.length ≤ 9223372036854775807) (_ : -9223372036854775808 ≤ size ∧ size ≤ 9223372036854775807) (_ : -9223372036854775808 ≤ mt ∧ mt ≤ 9223372036854775807) :
    Calls Try.prog 3 #[.agg #[.string p, .int .i64 k, .int .i64 z, .int .i64 m, .int .u64 t], .int .u64 st, v0, v1, .int .i64 size, .int .i64 mt] w fun e w' => e = .returned (.bool true) ∧ Ext w w' :=
  stamps_any v0 v1 p k z m t st r0 r1 size mt w hp s0 s1 l0 l1
end Go.Proofs.Ytaiadcekmooimaa
