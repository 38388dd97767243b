/- The law's count of Refs: it answers. No conditions but those named: contracts. What the arguments give the walks: slices of bytes, and of slices of bytes, as lists. No conditions: lemmas. An argument that is a slice of Refs, opened. No conditions: lemmas. -/
import Derived.Test.YtnhokjnmpdiokaaGreatDoorJaM
import Derived.Test.YtnhokjnmpdiokaaGreatDoorRows
import Derived.Test.YtnhokjnmpdiokaaGreatDoorSpM
import Derived.ProofKit
import Derived.LaidMore
import Derived.OpenShut
import Derived.ShutString
import Derived.ChangeOld
import Derived.Below
import Derived.Stop.Joined
import Derived.Lib.LaidTab
import Derived.SevenTiedAt
import Derived.Deep.Matrix
import Derived.Deep.Slices
import Derived.ChangeSlices
import Derived.ChangeSame
namespace Go.Proofs.YtnhokjnmpdiokaaGreatDoor
open Go.RowKit Go.Sha Go.Pth
set_option linter.unusedSimpArgs false
set_option linter.unusedVariables false

def InvAs (w : World) (a i : Value) (wr : World) : Prop := ∃ (n : Int) (k : Nat), a = .int .i64 n ∧ (0 ≤ n ∧ n ≤ 1099511627776) ∧ i = .int .i64 k ∧ k ≤ 3 ∧ w = wr
set_option maxRecDepth 100000 in
set_option maxHeartbeats 8000000 in
theorem asum_one (a x y z : Int) (g : Nat) (w : World) (ha : 0 ≤ a ∧ a ≤ 1099511627776) (hx : 0 ≤ x ∧ x ≤ 9223372036854775807) (hy : 0 ≤ y ∧ y ≤ 9223372036854775807) (hz : 0 ≤ z ∧ z ≤ 9223372036854775807)
    (c0 : w.cell? ⟨g, 0, none⟩ = some (.int .i64 x)) (c1 : w.cell? ⟨g, 1, none⟩ = some (.int .i64 y)) (c2 : w.cell? ⟨g, 2, none⟩ = some (.int .i64 z)) :
    Calls Tryz.prog 26 #[.int .i64 a, .slice (some ⟨g, 0, none⟩) 3 3] w fun e w' => (∃ n : Int, e = .returned (.int .i64 n) ∧ 0 ≤ n ∧ n ≤ 1099511627776) ∧ w = w' := by
  have hb : ∀ k : Nat, k < 3 → ∃ u : Int, w.cell? ⟨g, k, none⟩ = some (.int .i64 u) ∧ 0 ≤ u ∧ u ≤ 9223372036854775807 := fun k hk => by
    match k, hk with
    | 0, _ => exact ⟨x, c0, hx⟩
    | 1, _ => exact ⟨y, c1, hy⟩
    | 2, _ => exact ⟨z, c2, hz⟩
  have HB := Lib.hid hb
  have HA := Lib.hid ha
  clear hb c0 c1 c2 hx hy hz ha
  go_enter Tryz.func26, Tryz.ntmps26
  go_wp2
  go_loopw [0, 5] (fun a i wr => InvAs w a i wr) (fun _ i _ => 3 - (intOf i).toNat)
  case atStart => exact ⟨a, 0, rfl, HA.out, rfl, by omega, rfl⟩
  case round =>
    obtain ⟨n, k, rfl, hn, rfl, hk, rfl⟩ := hrel
    by_cases hlt : k < 3
    · have i0 : (k : Int) < 3 := by omega
      have i1 : (0 : Int) ≤ (k : Int) := by omega
      obtain ⟨u, cu, hu⟩ := HB.out k hlt
      have d1 : decide ((1099511627776 : Int) < n) = false := by simp; omega
      by_cases hb : 1099511627776 - n < u
      · have d2 : decide (1099511627776 - n < u) = true := decide_eq_true hb
        clear hb
        go_wp2
        go_ret
        exact ⟨⟨_, rfl, by omega, by omega⟩, rfl⟩
      · have d2 : decide (1099511627776 - n < u) = false := decide_eq_false hb
        have w1 : IntKind.i64.wrap (n + u) = n + u := IntWalk.i64_in _ (by omega)
        go_wp2
        exact ⟨⟨n + u, k + 1, rfl, by omega, by go_num, by omega, rfl⟩, by simp [intOf]; omega⟩
    · have d0 : decide ((k : Int) < 3) = false := by simp; omega
      obtain rfl : k = 3 := by omega
      go_wp2
      go_ret
      exact ⟨⟨_, rfl, hn.1, hn.2⟩, rfl⟩
def InvAr (w : World) (N : Nat) (a i : Value) (wr : World) : Prop := ∃ (n : Int) (k : Nat), a = .int .i64 n ∧ (0 ≤ n ∧ n ≤ 1099511627776) ∧ i = .int .i64 k ∧ k ≤ N ∧ Ext w wr
set_option maxRecDepth 100000 in
set_option maxHeartbeats 16000000 in
theorem arefs_any (X : Nat → Prop) (v : Value) (l : List RV) (w : World) (h : RR X w v l) (hl : l.length ≤ 9223372036854775807) (hpr : ∀ x ∈ l, x.p.size ≤ 9223372036854775807 ∧ x.r.length ≤ 9223372036854775807) :
    Calls Tryz.prog 7 #[v, .int .i64 5000] w fun e w' => (∃ n : Int, e = .returned (.int .i64 n)) ∧ Ext w w' := by
  obtain ⟨ad, cap, b, o, h⟩ := h
  have ev := h.val
  subst ev
  have HR := Lib.hid h
  have hcap := h.cap_
  have hadr := Lib.hid h.adr
  have HB := Lib.hid hpr
  obtain ⟨n, hn⟩ : ∃ n, n = l.length := ⟨_, rfl⟩
  have HN := Lib.hid hn
  rw [← hn] at hcap hl ⊢
  clear hn h hpr
  go_enter Tryz.func7, Tryz.ntmps7
  go_wp2
  go_loopw [5, 6] (fun a i wr => InvAr w n a i wr) (fun _ i _ => n - (intOf i).toNat)
  case atStart => exact ⟨0, 0, rfl, ⟨by omega, by omega⟩, rfl, by omega, Ext.refl w⟩
  case round =>
    obtain ⟨a, k, rfl, hab, rfl, hk, ex⟩ := hrel
    have HAB := Lib.hid hab
    have EX := Lib.hid ex
    by_cases hlt : k < n
    · have i0 : (k : Int) < (n : Int) := by omega
      have i1 : (0 : Int) ≤ (k : Int) := by omega
      by_cases hlim : a ≤ 5000
      · have dl : decide (a ≤ 5000) = true := decide_eq_true hlim
        obtain ⟨x, hx⟩ : ∃ x, l[k]? = some x := ⟨_, List.getElem?_eq_getElem (by rw [← HN.out]; exact hlt)⟩
        have ea := hadr.out (by rw [← HN.out]; omega)
        subst ea
        obtain ⟨c0, c1, c2, c3, c4, c5⟩ := HR.out.cells k x hx
        have S1 := HR.out.src x (List.mem_of_getElem? hx)
        have hpr := HB.out x (List.mem_of_getElem? hx)
        obtain ⟨p, xk, z, m, t, vv, r⟩ := x
        simp only at c0 c1 c2 c3 c4 c5 S1 hpr
        obtain ⟨adx, capx, evx, -⟩ := S1.val
        obtain ⟨R, hR⟩ : ∃ n, n = r.length := ⟨_, rfl⟩
        obtain ⟨P, hP⟩ : ∃ n, n = p.size := ⟨_, rfl⟩
        rw [← hR] at evx
        rw [← hR, ← hP] at hpr
        subst evx
        have HPR := Lib.hid (show (P : Int) ≤ 9223372036854775807 ∧ (R : Int) ≤ 9223372036854775807 by omega)
        have HP := Lib.hid (show ((p.size : Nat) : Int) = (P : Int) by rw [hP])
        replace c0 := Lib.hid (ext_cell EX.out c0)
        replace c5 := Lib.hid (ext_cell EX.out c5)
        clear hx S1 hpr hR hP c1 c2 c3 c4 hab ex
        go_upto_region 5 with fail
        refine wp_region_held (S := Ext wr) (by kernel_rfl) ?_
        change wpAnyH _ _ _ _ _ _ _ _ wr.drew
        have S0 : Ext wr wr.drew := Below.drew (Below.refl _ _)
        generalize wr.drew = W at *
        refine takeS 0 (some 18) (.int .i64 a) rfl rfl (by kernel_rfl) (by kernel_rfl) (by kernel_rfl) (fun _ _ _ h => h) rfl S0 (fun w' hw' => by go_simp) ?_
        simp only [Act.put, List.setIfInBounds_toArray, List.set_cons_zero, List.set_cons_succ]
        refine takeS 1 (some 19) (.slice (some ⟨b, o, none⟩) n cap) rfl rfl (by kernel_rfl) (by kernel_rfl) (by kernel_rfl) (fun _ _ _ h => h) rfl S0 (fun w' hw' => by go_simp) ?_
        simp only [Act.put, List.setIfInBounds_toArray, List.set_cons_zero, List.set_cons_succ]
        refine takeS 2 (some 20) (.int .i64 (k : Int)) rfl rfl (by kernel_rfl) (by kernel_rfl) (by kernel_rfl) (fun _ _ _ h => h) rfl S0 (fun w' hw' => by go_simp) ?_
        simp only [Act.put, List.setIfInBounds_toArray, List.set_cons_zero, List.set_cons_succ]
        refine takeS 3 (some 21) (.pointer (some ⟨b, o + k * 6, none⟩)) rfl rfl (by kernel_rfl) (by kernel_rfl) (by kernel_rfl) (fun _ _ _ h => h) rfl S0 (fun w' hw' => by go_simp) ?_
        simp only [Act.put, List.setIfInBounds_toArray, List.set_cons_zero, List.set_cons_succ]
        refine takeS 4 (some 22) (.pointer (some ⟨b, o + k * 6, none⟩)) rfl rfl (by kernel_rfl) (by kernel_rfl) (by kernel_rfl) (fun _ _ _ h => h) rfl S0 (fun w' hw' => by go_simp) ?_
        simp only [Act.put, List.setIfInBounds_toArray, List.set_cons_zero, List.set_cons_succ]
        refine takeS 5 (some 23) (.string p) rfl rfl (by kernel_rfl) (by kernel_rfl) (by kernel_rfl) (fun _ _ _ h => h) rfl S0 (fun w' hw' => by have cc := ext_cell hw' c0.out; go_simp) ?_
        simp only [Act.put, List.setIfInBounds_toArray, List.set_cons_zero, List.set_cons_succ]
        refine takeS 6 (some 24) (.int .i64 (P : Int)) rfl rfl (by kernel_rfl) (by kernel_rfl) (by kernel_rfl) (fun _ _ _ h => h) rfl S0 (fun w' hw' => by have cc := HP.out; go_simp) ?_
        simp only [Act.put, List.setIfInBounds_toArray, List.set_cons_zero, List.set_cons_succ]
        refine takeS 7 (some 25) (.slice (some ⟨b, o, none⟩) n cap) rfl rfl (by kernel_rfl) (by kernel_rfl) (by kernel_rfl) (fun _ _ _ h => h) rfl S0 (fun w' hw' => by go_simp) ?_
        simp only [Act.put, List.setIfInBounds_toArray, List.set_cons_zero, List.set_cons_succ]
        refine takeS 8 (some 26) (.int .i64 (k : Int)) rfl rfl (by kernel_rfl) (by kernel_rfl) (by kernel_rfl) (fun _ _ _ h => h) rfl S0 (fun w' hw' => by go_simp) ?_
        simp only [Act.put, List.setIfInBounds_toArray, List.set_cons_zero, List.set_cons_succ]
        refine takeS 9 (some 27) (.pointer (some ⟨b, o + k * 6, none⟩)) rfl rfl (by kernel_rfl) (by kernel_rfl) (by kernel_rfl) (fun _ _ _ h => h) rfl S0 (fun w' hw' => by go_simp) ?_
        simp only [Act.put, List.setIfInBounds_toArray, List.set_cons_zero, List.set_cons_succ]
        refine takeS 10 (some 28) (.pointer (some ⟨b, o + k * 6 + 5, none⟩)) rfl rfl (by kernel_rfl) (by kernel_rfl) (by kernel_rfl) (fun _ _ _ h => h) rfl S0 (fun w' hw' => by go_simp) ?_
        simp only [Act.put, List.setIfInBounds_toArray, List.set_cons_zero, List.set_cons_succ]
        refine takeS 11 (some 29) (.slice adx R capx) rfl rfl (by kernel_rfl) (by kernel_rfl) (by kernel_rfl) (fun _ _ _ h => h) rfl S0 (fun w' hw' => by have cc := ext_cell hw' c5.out; go_simp) ?_
        simp only [Act.put, List.setIfInBounds_toArray, List.set_cons_zero, List.set_cons_succ]
        refine takeS 12 (some 30) (.int .i64 (R : Int)) rfl rfl (by kernel_rfl) (by kernel_rfl) (by kernel_rfl) (fun _ _ _ h => h) rfl S0 (fun w' hw' => by go_simp) ?_
        simp only [Act.put, List.setIfInBounds_toArray, List.set_cons_zero, List.set_cons_succ]
        refine nextS 13 rfl (by kernel_rfl) rfl (makeS (some 31) rfl (.slice (some ⟨W.heap.size, 0, none⟩) 3 3) (w1 := (W.alloc (.cells #[.int .i64 (P : Int), .int .i64 (R : Int), .int .i64 1] 3))) (by go_simp) ?_)
        simp only [Act.put, List.setIfInBounds_toArray, List.set_cons_zero, List.set_cons_succ]
        have S1 : Ext wr (W.alloc (.cells #[.int .i64 (P : Int), .int .i64 (R : Int), .int .i64 1] 3)) := S0.trans (Ext.alloc _ _)
        refine ⟨S1, ?_⟩
        refine nextS 14 rfl (by kernel_rfl) rfl (callS (some 32) rfl 26 #[.int .i64 a, .slice (some ⟨W.heap.size, 0, none⟩) 3 3] (by go_simp) (fun v w' => ∃ n : Int, v = .int .i64 n ∧ (0 ≤ n ∧ n ≤ 1099511627776) ∧ Ext wr w') (((asum_one a P R 1 W.heap.size (W.alloc (.cells #[.int .i64 (P : Int), .int .i64 (R : Int), .int .i64 1] 3)) HAB.out ⟨by omega, HPR.out.1⟩ ⟨by omega, HPR.out.2⟩ ⟨by omega, by omega⟩ ((At.new W _ _).cell 0) ((At.new W _ _).cell 1) ((At.new W _ _).cell 2)).mono fun _ _ he => by obtain ⟨⟨n, h1, h2, h3⟩, rfl⟩ := he; exact ⟨_, h1, n, rfl, ⟨h2, h3⟩, S1⟩)) ?_)
        rintro v2 W2 ⟨m, rfl, hm, S2⟩
        simp only [Act.put, List.setIfInBounds_toArray, List.set_cons_zero, List.set_cons_succ]
        refine ⟨S2, ?_⟩
        refine takeS 15 (some 5) (.int .i64 m) rfl rfl (by kernel_rfl) (by kernel_rfl) (by kernel_rfl) (fun _ _ _ h => h) rfl S2 (fun w' hw' => by go_simp) ?_
        simp only [Act.put, List.setIfInBounds_toArray, List.set_cons_zero, List.set_cons_succ]
        refine wpAnyH_done (by kernel_rfl) ?_ _
        have F := Lib.hid (And.intro hm (EX.out.trans S2))
        clear hm S2 S1 S0
        go_wp2
        exact ⟨⟨m, k + 1, rfl, F.out.1, by go_num, by omega, F.out.2⟩, by simp [intOf]; omega⟩
      · have dl : decide (a ≤ 5000) = false := decide_eq_false hlim
        clear ex hab
        go_wp2
        go_ret
        exact ⟨⟨_, rfl⟩, EX.out⟩
    · have d0 : decide ((k : Int) < (n : Int)) = false := by simp; omega
      obtain rfl : k = n := by omega
      clear ex hab hlt
      go_wp2
      go_ret
      exact ⟨⟨_, rfl⟩, EX.out⟩
end Go.Proofs.YtnhokjnmpdiokaaGreatDoor

namespace Go.Proofs.YtnhokjnmpdiokaaGreatDoor
open Go.ChangeShapes Go.WideShapes Go.ChangeAt Go.RowKit Go.Sha

theorem own : ownKnob Tryz.prog.godebug = none := by kernel_rfl
theorem laidOut : laidOutB Tryz.prog = true := by kernel_rfl

/-- A slice of integers that came in. -/
def IsRow (k : IntKind) (w : World) (a : Option Addr) (len cap : Nat) (zs : List Int) : Prop :=
  (a = none ∧ len = 0 ∧ cap = 0 ∧ zs = []) ∨
  ∃ x, a = some x ∧ len ≤ cap ∧ cap ≤ maxLen ∧ zs.length = cap ∧ (∀ i, i < zs.length → w.cell? (x.add i) = some (.int k (zs.getD i 0))) ∧ ∀ n ∈ zs, (Lit.int k n).wf = true

theorem src_of_row {w : World} {a : Option Addr} {len cap : Nat} {zs : List Int} (h : IsRow .u8 w a len cap zs) : Src w (.slice a len cap) (zs.take len) w.heap.size ∧ (zs.take len).length = len ∧ len ≤ maxLen := by
  rcases h with ⟨rfl, rfl, rfl, rfl⟩ | ⟨x, rfl, hl, hm, hz, hc, _⟩
  · exact ⟨⟨none, 0, w.heap.size + 1, 0, rfl, by simp, fun h => by simp at h, by omega, fun j hj => by simp at hj, fun _ => rfl⟩, rfl, by unfold maxLen; omega⟩
  · have hlen : (zs.take len).length = len := by rw [List.length_take]; omega
    refine ⟨?_, hlen, by omega⟩
    by_cases h0 : 0 < len
    · have c0 := hc 0 (by omega)
      have e : x = ⟨x.block, x.off, none⟩ := by
        obtain ⟨xb, xo, sp⟩ := x
        cases sp with
        | none => rfl
        | some s =>
          exfalso
          have : (⟨xb, xo, some s⟩ : Addr).add 0 = ⟨xb, xo, some s⟩ := rfl
          rw [this] at c0
          unfold World.cell? at c0
          simp at c0
          split at c0 <;> simp_all
      have hb : x.block < w.heap.size := by
        have := World.block_lt_of_cell? w _ c0
        rw [show x.add 0 = x from rfl] at this
        exact this
      refine ⟨some x, cap, x.block, x.off, by rw [hlen], by omega, fun _ => by rw [← e], by omega, fun j hj => ?_, fun h => by cases h⟩
      rw [hlen] at hj
      have cj := hc j (by omega)
      rw [e, Addr.add_mid] at cj
      rw [cj, List.getElem?_take_of_lt hj]; rfl
    · exact ⟨some x, cap, w.heap.size + 1, 0, by rw [hlen], by omega, fun h => by omega, by omega, fun j hj => by omega, fun h => by cases h⟩
theorem byt_of_row {w : World} {a : Option Addr} {len cap : Nat} {zs : List Int} (h : IsRow .u8 w a len cap zs) : Byt (zs.take len) := by
  rcases h with ⟨rfl, rfl, rfl, rfl⟩ | ⟨x, rfl, hl, hm, hz, hc, hw⟩
  · intro y hy
    simp at hy
  · intro y hy
    have := hw y (List.mem_of_mem_take hy)
    simp [Lit.wf, IntKind.min, IntKind.max, IntKind.signed, IntKind.bits] at this
    omega
theorem plain_of_cell {w : World} {x : Addr} {v : Value} (c0 : w.cell? (x.add 0) = some v) : x = ⟨x.block, x.off, none⟩ := by
  obtain ⟨xb, xo, sp⟩ := x
  cases sp with
  | none => rfl
  | some s =>
    exfalso
    have : (⟨xb, xo, some s⟩ : Addr).add 0 = ⟨xb, xo, some s⟩ := rfl
    rw [this] at c0
    unfold World.cell? at c0
    simp at c0
    split at c0 <;> simp_all

end Go.Proofs.YtnhokjnmpdiokaaGreatDoor

namespace Go.Proofs.YtnhokjnmpdiokaaGreatDoor
open Go.ChangeShapes Go.WideShapes Go.ChangeAt Go.RowKit Go.Sha
set_option linter.unusedVariables false

theorem cells_ref : Tryz.prog.cellsOf 52 = 6 := by kernel_rfl
theorem cells_i1 : Tryz.prog.cellsOf 3 = 1 := by kernel_rfl
theorem cells_s1 : Tryz.prog.cellsOf 9 = 1 := by kernel_rfl
theorem cells_u1 : Tryz.prog.cellsOf 38 = 1 := by kernel_rfl
theorem cells_b1 : Tryz.prog.cellsOf 50 = 1 := by kernel_rfl
/-- What is known of a Ref handed in. -/
def RefOk (w : World) (y : RV) : Prop := (y.p.size ≤ 9223372036854775807 ∧ y.r.length ≤ 9223372036854775807) ∧ Sha.Src w y.v y.r w.heap.size ∧ Byt y.r
section
variable {H : Type} {enc : TypeId × Value → H} {w : World} {base : Nat} {held : Bool}
set_option maxRecDepth 100000 in
/-- One Ref. -/
theorem open_ref {fuel : Nat} {cs : List Value} {x : DataW H × List MemPlace} (h : DataW.trod enc Tryz.prog w base (fun _ => true) held fuel 52 cs = some x) :
    ∃ y : RV, cs = rcs y ∧ RefOk w y := by
  obtain ⟨xs, n, _, _, hl, hlx, hf⟩ := DataW.trod_struct Tryz.underlying52 h
  rw [cells_ref] at hl
  match cs, hl with
  | [v0, v1, v2, v3, v4, v5], _ =>
    have f0 : DataW.trod enc Tryz.prog w base (fun _ => true) held n 9 (([v0, v1, v2, v3, v4, v5].drop 0).take (Tryz.prog.cellsOf 9)) = xs[0]? := hf 0 _ rfl
    have f1 : DataW.trod enc Tryz.prog w base (fun _ => true) held n 3 (([v0, v1, v2, v3, v4, v5].drop 1).take (Tryz.prog.cellsOf 3)) = xs[1]? := hf 1 _ rfl
    have f2 : DataW.trod enc Tryz.prog w base (fun _ => true) held n 3 (([v0, v1, v2, v3, v4, v5].drop 2).take (Tryz.prog.cellsOf 3)) = xs[2]? := hf 2 _ rfl
    have f3 : DataW.trod enc Tryz.prog w base (fun _ => true) held n 3 (([v0, v1, v2, v3, v4, v5].drop 3).take (Tryz.prog.cellsOf 3)) = xs[3]? := hf 3 _ rfl
    have f4 : DataW.trod enc Tryz.prog w base (fun _ => true) held n 38 (([v0, v1, v2, v3, v4, v5].drop 4).take (Tryz.prog.cellsOf 38)) = xs[4]? := hf 4 _ rfl
    have f5 : DataW.trod enc Tryz.prog w base (fun _ => true) held n 50 (([v0, v1, v2, v3, v4, v5].drop 5).take (Tryz.prog.cellsOf 50)) = xs[5]? := hf 5 _ rfl
    simp only [cells_i1, cells_s1, cells_u1, cells_b1, List.drop_zero, List.drop_succ_cons, List.take_succ_cons, List.take_zero] at f0 f1 f2 f3 f4 f5
    have hx : ∀ i, i < 6 → ∃ y, xs[i]? = some y := fun i hi => ⟨_, List.getElem?_eq_getElem (by have : xs.length = 6 := hlx; omega)⟩
    obtain ⟨y0, e0⟩ := hx 0 (by omega)
    obtain ⟨y1, e1⟩ := hx 1 (by omega)
    obtain ⟨y2, e2⟩ := hx 2 (by omega)
    obtain ⟨y3, e3⟩ := hx 3 (by omega)
    obtain ⟨y4, e4⟩ := hx 4 (by omega)
    obtain ⟨y5, e5⟩ := hx 5 (by omega)
    obtain ⟨a0, q0, _, wf0⟩ := DataW.trod_string Tryz.underlying9 (f0.trans e0)
    obtain ⟨a1, q1, _, _⟩ := DataW.trod_int Tryz.underlying3 (f1.trans e1)
    obtain ⟨a2, q2, _, _⟩ := DataW.trod_int Tryz.underlying3 (f2.trans e2)
    obtain ⟨a3, q3, _, _⟩ := DataW.trod_int Tryz.underlying3 (f3.trans e3)
    obtain ⟨a4, q4, _, _⟩ := DataW.trod_int Tryz.underlying38 (f4.trans e4)
    obtain ⟨ad, len, cap, zs, q5, g5⟩ : ∃ (ad : Option Addr) (len cap : Nat) (zs : List Int), v5 = .slice ad len cap ∧ IsRow .u8 w ad len cap zs := by
      rcases open_ints Tryz.underlying50 Tryz.underlying5 (by kernel_rfl) (f5.trans e5) with ⟨hcs, _⟩ | ⟨x, l, c, zs, hcs, _, hl, hm, hz, _, hcell, hwz⟩
      · injection hcs with hcs
        exact ⟨_, _, _, [], hcs, .inl ⟨rfl, rfl, rfl, rfl⟩⟩
      · injection hcs with hcs
        exact ⟨_, _, _, zs, hcs, .inr ⟨_, rfl, hl, hm, by simpa using hz, hcell, hwz⟩⟩
    injection q0 with q0; injection q1 with q1; injection q2 with q2; injection q3 with q3; injection q4 with q4
    subst q0 q1 q2 q3 q4 q5
    obtain ⟨s1, s2, s3⟩ := src_of_row g5
    exact ⟨⟨a0, a1, a2, a3, a4, .slice ad len cap, zs.take len⟩, rfl, ⟨by unfold maxLen at wf0; simp only; omega, by simp only; rw [s2]; unfold maxLen at s3; omega⟩, s1, byt_of_row g5⟩
/-- Refs handed in. -/
theorem open_refs {fuel : Nat} {v : Value} {x : DataW H × List MemPlace} (h : DataW.trod enc Tryz.prog w 0 (fun _ => true) held fuel 22 [v] = some x) :
    ∃ l : List RV, RR (fun i => w.heap.size ≤ i) w v l ∧ l.length ≤ 9223372036854775807 ∧ ∀ s ∈ l, RefOk w s := by
  rcases Deep.open_slice Tryz.underlying22 h with ⟨hcs, _⟩ | ⟨a, len, cap, m, n, D, Pl, hcs, _, hl, hm, hmm, _, hi⟩
  · injection hcs with hcs
    subst hcs
    exact ⟨[], RR.nil _ _, by simp, fun s hs => by cases hs⟩
  · injection hcs with hcs
    subst hcs
    simp at hmm
    subst hmm
    have key : ∀ i, i < len → ∃ s : RV, (∀ c u, (rcs s)[c]? = some u → w.cell? (a.add (i * 6 + c)) = some u) ∧ RefOk w s := fun i hlt => by
      obtain ⟨cs', hc, ht⟩ := hi i (by omega)
      obtain ⟨s, e, r⟩ := open_ref ht
      rw [cells_ref] at hc
      obtain ⟨_, _, hat⟩ := World.cells?_some hc
      subst e
      refine ⟨s, fun c u hu => ?_, r⟩
      have hc6 : c < 6 := by have := (List.getElem?_eq_some_iff.1 hu).1; simpa [rcs] using this
      have := hat c (by omega)
      rw [Deep.add_add] at this
      rw [this]
      exact hu
    classical
    let f : Nat → RV := fun i => if h : i < len then Classical.choose (key i h) else ⟨⟨#[]⟩, 0, 0, 0, 0, .slice none 0 0, []⟩
    have hf : ∀ i, i < len → (∀ c u, (rcs (f i))[c]? = some u → w.cell? (a.add (i * 6 + c)) = some u) ∧ RefOk w (f i) := fun i h => by
      have := Classical.choose_spec (key i h)
      simp only [f, dif_pos h]
      exact this
    generalize f = g at hf
    have ep : 0 < len → a = ⟨a.block, a.off, none⟩ := fun h0 => by
      have := (hf 0 h0).1 0 _ rfl
      rw [show 0 * 6 + 0 = 0 from rfl] at this
      exact plain_of_cell this
    refine ⟨(List.range len).map g, ⟨some a, m, a.block, a.off, by simp, by simpa using hl, fun h0 => ?_, fun h0 => ?_, fun j y hj c u hu => ?_, fun y hy => ?_⟩, ?_, fun s hs => ?_⟩
    · rw [← ep (by simpa using h0)]
    · have h0' : 0 < len := by simpa using h0
      have := (hf 0 h0').1 0 _ rfl
      rw [ep h0', Addr.add_mid] at this
      have lt := World.block_lt_of_cell? _ _ this
      simp only at lt
      exact ⟨by omega, lt⟩
    · have hjl : j < len := by have := (List.getElem?_eq_some_iff.1 hj).1; simpa using this
      have e : y = g j := by rw [List.getElem?_map, List.getElem?_range hjl] at hj; simpa using hj.symm
      subst e
      have := (hf j hjl).1 c u hu
      rw [ep (by omega), Addr.add_mid] at this
      rw [Nat.add_assoc]
      exact this
    · obtain ⟨i, hi', rfl⟩ := List.mem_map.1 hy
      have r := (hf i (by simpa using hi')).2
      exact fun bh hb => r.2.1.other (by rcases hb with h | h <;> exact h)
    · simp; unfold maxLen at hm; omega
    · obtain ⟨i, hi', rfl⟩ := List.mem_map.1 hs
      exact (hf i (by simpa using hi')).2
end
end Go.Proofs.YtnhokjnmpdiokaaGreatDoor
