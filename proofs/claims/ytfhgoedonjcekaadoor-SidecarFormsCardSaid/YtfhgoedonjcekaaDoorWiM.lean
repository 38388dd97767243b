/- The contract of the sum of lengths ('linnetalike.Sum' of three). The contract of 'linnetalike.Bytes': how much a list of slices holds, up to a limit. What the arguments give the walks: slices of bytes, and of slices of bytes, as lists. No conditions: lemmas. An argument that is a sidecar, as the walks hold it; the law's small. An argument that is a sidecar, opened to what the walks hold of it. No conditions: lemmas. -/
import Derived.Test.YtfhgoedonjcekaaDoorWg
import Derived.Handy
import Derived.Test.YtfhgoedonjcekaaDoorSpec4
import Derived.Test.YtfhgoedonjcekaaDoorRows
import Derived.Test.YtfhgoedonjcekaaDoorPu
import Derived.ProofKit
import Derived.LaidMore
import Derived.OpenShut
import Derived.ShutString
import Derived.ChangeOld
import Derived.Below
import Derived.Stop.Joined
import Derived.Lib.LaidTab
import Derived.SevenTiedAt
import Derived.Deep.Matrix
import Derived.Test.YtfhgoedonjcekaaDoorSc
import Derived.Deep.Slices
import Derived.ChangeSame
namespace Go.Proofs.YtfhgoedonjcekaaDoor
open Go.RowKit Go.Sha

def Big (M : Nat) (w : World) (e : Ending) (w' : World) : Prop := ∃ n : Int, (M : Int) < n ∧ e = .returned (.int .i64 n) ∧ w = w'

set_option maxHeartbeats 1000000 in
theorem sum3_small (a b c : Nat) (g : Nat) (w : World) (M : Nat) (hM : M ≤ 1000000) (h : a + b + c ≤ M) (h0 : w.cell? ⟨g, 0, none⟩ = some (.int .i64 b)) (h1 : w.cell? ⟨g, 1, none⟩ = some (.int .i64 c)) :
    Calls Tryd.prog 73 #[.int .i64 a, .slice (some ⟨g, 0, none⟩) 2 2] w fun e w' => e = .returned (.int .i64 ((a : Int) + b + c)) ∧ w = w' := by
  have d1 : decide ((1099511627776 : Int) < (a : Int)) = false := by simp; omega
  have d2 : decide ((1099511627776 : Int) - (a : Int) < (b : Int)) = false := by simp; omega
  have d3 : decide ((1099511627776 : Int) < (a : Int) + (b : Int)) = false := by simp; omega
  have d4 : decide ((1099511627776 : Int) - ((a : Int) + (b : Int)) < (c : Int)) = false := by simp; omega
  go_enter Tryd.func73, Tryd.ntmps73
  go_wp2
  go_rounds 3
  go_ret
  exact ⟨rfl, rfl⟩

set_option maxHeartbeats 1000000 in
theorem sum3_big (a b c : Nat) (g : Nat) (w : World) (M : Nat) (hM : M ≤ 1000000) (h : M < a + b + c) (ha : a ≤ 9223372036854775807) (hb : b ≤ 9223372036854775807) (h0 : w.cell? ⟨g, 0, none⟩ = some (.int .i64 b)) (h1 : w.cell? ⟨g, 1, none⟩ = some (.int .i64 c)) :
    Calls Tryd.prog 73 #[.int .i64 a, .slice (some ⟨g, 0, none⟩) 2 2] w (Big M w) := by
  by_cases p1 : a + b ≤ 1099511627776
  · have d1 : decide ((1099511627776 : Int) < (a : Int)) = false := by simp; omega
    have d2 : decide ((1099511627776 : Int) - (a : Int) < (b : Int)) = false := by simp; omega
    have d3 : decide ((1099511627776 : Int) < (a : Int) + (b : Int)) = false := by simp; omega
    by_cases p2 : a + b + c ≤ 1099511627776
    · have d4 : decide ((1099511627776 : Int) - ((a : Int) + (b : Int)) < (c : Int)) = false := by simp; omega
      go_enter Tryd.func73, Tryd.ntmps73
      go_wp2
      go_rounds 3
      go_ret
      exact ⟨_, by omega, rfl, rfl⟩
    · have d4 : decide ((1099511627776 : Int) - ((a : Int) + (b : Int)) < (c : Int)) = true := by simp; omega
      go_enter Tryd.func73, Tryd.ntmps73
      go_wp2
      go_rounds 3
      go_ret
      exact ⟨_, by omega, rfl, rfl⟩
  · by_cases p2 : a ≤ 1099511627776
    · have d1 : decide ((1099511627776 : Int) < (a : Int)) = false := by simp; omega
      have d2 : decide ((1099511627776 : Int) - (a : Int) < (b : Int)) = true := by simp; omega
      go_enter Tryd.func73, Tryd.ntmps73
      go_wp2
      go_rounds 3
      go_ret
      exact ⟨1099511627776, by omega, rfl, rfl⟩
    · have d1 : decide ((1099511627776 : Int) < (a : Int)) = true := by simp; omega
      go_enter Tryd.func73, Tryd.ntmps73
      go_wp2
      go_rounds 3
      go_ret
      exact ⟨1099511627776, by omega, rfl, rfl⟩

end Go.Proofs.YtfhgoedonjcekaaDoor

namespace Go.Proofs.YtfhgoedonjcekaaDoor
open Go.RowKit Go.Sha

def tot (ps : List (Value × List Int)) : Nat := (ps.map fun x => x.2.length + 1).sum
theorem tot_snoc (ps : List (Value × List Int)) (x : Value × List Int) : tot (ps ++ [x]) = tot ps + x.2.length + 1 := by simp [tot]; omega
theorem tot_take (ps : List (Value × List Int)) (k : Nat) (x : Value × List Int) (hx : ps[k]? = some x) : tot (ps.take (k + 1)) = tot (ps.take k) + x.2.length + 1 := by
  have hk : k < ps.length := (List.getElem?_eq_some_iff.1 hx).1
  rw [List.take_succ_eq_append_getElem hk, (List.getElem?_eq_some_iff.1 hx).2, tot_snoc]
theorem tot_append (a b : List (Value × List Int)) : tot (a ++ b) = tot a + tot b := by simp [tot]
theorem tot_le (ps : List (Value × List Int)) (k : Nat) : tot (ps.take k) ≤ tot ps := by
  have e := congrArg tot (List.take_append_drop k ps)
  rw [tot_append] at e
  omega
theorem flat_tot (ps : List (Value × List Int)) : (flat ps).length + ps.length = tot ps := by
  induction ps with
  | nil => rfl
  | cons x r ih =>
    simp only [flat, tot, List.map_cons, List.flatten_cons, List.length_append, List.sum_cons, List.length_cons] at *
    omega

/-- What the limit lets through. -/
def Held (M T : Nat) (n : Int) : Prop := (T ≤ M ∧ n = T) ∨ (M < T ∧ (M : Int) < n)
def BytesPost (M : Nat) (w : World) (ps : List (Value × List Int)) (e : Ending) (w' : World) : Prop := ∃ n : Int, Held M (tot ps) n ∧ e = .returned (.int .i64 n) ∧ Below w.heap.size w w'
def InvB2 (M : Nat) (w : World) (ps : List (Value × List Int)) (n i : Value) (wr : World) : Prop :=
  ∃ (k : Nat) (m : Int), k ≤ ps.length ∧ i = .int .i64 k ∧ n = .int .i64 m ∧ Held M (tot (ps.take k)) m ∧ Below w.heap.size w wr
/-- One more slice, the sum of three whatever it is. -/
theorem sum3_held (a : Nat) (b : Nat) (g : Nat) (w : World) (M : Nat) (hM : M ≤ 1000000) (ha : a ≤ M) (hb : b ≤ 9223372036854775807) (h0 : w.cell? ⟨g, 0, none⟩ = some (.int .i64 b)) (h1 : w.cell? ⟨g, 1, none⟩ = some (.int .i64 1)) :
    Calls Tryd.prog 73 #[.int .i64 a, .slice (some ⟨g, 0, none⟩) 2 2] w fun e w' => ∃ n : Int, Held M (a + b + 1) n ∧ e = .returned (.int .i64 n) ∧ w = w' := by
  have h1' : w.cell? ⟨g, 1, none⟩ = some (.int .i64 ((1 : Nat) : Int)) := h1
  by_cases hs : a + b + 1 ≤ M
  · exact (sum3_small a b 1 g w M hM hs h0 h1').mono fun _ _ ⟨he, hw⟩ => ⟨_, Or.inl ⟨hs, by omega⟩, he, hw⟩
  · exact (sum3_big a b 1 g w M hM (by omega) (by omega) hb h0 h1').mono fun _ _ ⟨n, hn, he, hw⟩ => ⟨n, Or.inr ⟨by omega, hn⟩, he, hw⟩

set_option maxHeartbeats 1000000 in
theorem abytes_any (M : Nat) (hM : M ≤ 1000000) (v : Value) (ps : List (Value × List Int)) (w : World) (hs : Srcs w v ps) (hpl : ps.length ≤ 9223372036854775807) (hlen : ∀ x ∈ ps, x.2.length ≤ 9223372036854775807) :
    Calls Tryd.prog 38 #[v, .int .i64 M] w (BytesPost M w ps) := by
  obtain ⟨ad, cap, pb, po, rfl, had, hp⟩ := hs
  have Hp := Lib.hid hp; clear hp
  have Ha := Lib.hid had; clear had
  have Hl := Lib.hid hlen; clear hlen
  go_enter Tryd.func38, Tryd.ntmps38
  go_wp2
  go_loopw [5, 6] (fun n i wr => InvB2 M w ps n i wr) (fun _ i _ => ps.length - (intOf i).toNat)
  case atStart => exact ⟨0, 0, by omega, rfl, rfl, Or.inl ⟨by simp [tot], by simp [tot]⟩, Below.refl _ _⟩
  case round =>
    obtain ⟨k, m, hk, rfl, rfl, hH, ex⟩ := hrel
    by_cases hlt : k < ps.length ∧ m ≤ (M : Int)
    · obtain ⟨hlt, hm⟩ := hlt
      obtain ⟨x, hx⟩ : ∃ x, ps[k]? = some x := ⟨ps[k], List.getElem?_eq_getElem hlt⟩
      obtain ⟨hc, hsx⟩ := Hp.out k x hx
      have e := Ha.out (by omega)
      subst e
      obtain ⟨adx, capx, xb, xo, ex1, _⟩ := hsx
      rw [ex1] at hc
      have hpb : pb < w.heap.size := World.block_lt_of_cell? w _ hc
      have hc' : wr.cell? ⟨pb, po + k, none⟩ = some (.slice adx x.2.length capx) := by rw [ex.cell (p := ⟨pb, po + k, none⟩) hpb]; exact hc
      have hxl := Hl.out x (List.mem_of_getElem? hx)
      have htk := tot_take ps k x hx
      obtain ⟨a, rfl, ha⟩ : ∃ a : Nat, m = (a : Int) ∧ a = tot (ps.take k) := by
        rcases hH with ⟨h1, h2⟩ | ⟨_, h2⟩
        · exact ⟨_, h2, rfl⟩
        · omega
      have ha2 : a ≤ M := by omega
      rw [← ha] at htk
      have Htk := Lib.hid htk; clear htk
      have Hx := Lib.hid hx; clear hx
      clear hc ex1 hH ha
      have i0 : (k : Int) < (ps.length : Int) := by omega
      have i1 : (0 : Int) ≤ (k : Int) := by omega
      have i2 : (a : Int) ≤ (M : Int) := by omega
      have d1 : decide (a ≤ M) = true := by simpa using ha2
      go_wp2_with fail
      have h0 := At.new wr #[.int .i64 (x.2.length : Int), .int .i64 1] 3
      refine (sum3_held a x.2.length wr.heap.size _ M hM ha2 hxl (by rw [h0.cell]; rfl) (by rw [h0.cell]; rfl)).mono ?_
      rintro e w' ⟨n, hn, rfl, rfl⟩
      clear h0
      go_wp2
      exact ⟨⟨k + 1, n, by omega, by go_num, rfl, by rw [Htk.out]; exact hn, ex.alloc ex.size _⟩, by simp [intOf]; omega⟩
    · have fin : Held M (tot ps) m := by
        have hle := tot_le ps k
        rcases hH with ⟨h1, h2⟩ | ⟨h1, h2⟩
        · have : k = ps.length := by omega
          subst this
          rw [List.take_length] at h1 h2
          exact Or.inl ⟨h1, h2⟩
        · exact Or.inr ⟨by omega, h2⟩
      have Fin := Lib.hid fin; clear fin
      by_cases h1 : k < ps.length
      · have d1 : decide (m ≤ (M : Int)) = false := by simp; omega
        have d2 : ¬ (m ≤ (M : Int)) := by omega
        have i0 : (k : Int) < (ps.length : Int) := by omega
        clear hlt hH
        go_wp2
        go_ret
        exact ⟨m, Fin.out, rfl, ex⟩
      · have d0 : decide ((k : Int) < (ps.length : Int)) = false := by simp; omega
        have d2 : ¬ ((k : Int) < (ps.length : Int)) := by omega
        clear hlt hH
        go_wp2
        go_ret
        exact ⟨m, Fin.out, rfl, ex⟩

end Go.Proofs.YtfhgoedonjcekaaDoor

namespace Go.Proofs.YtfhgoedonjcekaaDoor
open Go.ChangeShapes Go.WideShapes Go.ChangeAt Go.RowKit Go.Sha

theorem own : ownKnob Tryd.prog.godebug = none := by kernel_rfl
theorem laidOut : laidOutB Tryd.prog = true := by kernel_rfl

/-- A slice of integers that came in. -/
def IsRow (k : IntKind) (w : World) (a : Option Addr) (len cap : Nat) (zs : List Int) : Prop :=
  (a = none ∧ len = 0 ∧ cap = 0 ∧ zs = []) ∨
  ∃ x, a = some x ∧ len ≤ cap ∧ cap ≤ maxLen ∧ zs.length = cap ∧ (∀ i, i < zs.length → w.cell? (x.add i) = some (.int k (zs.getD i 0))) ∧ ∀ n ∈ zs, (Lit.int k n).wf = true

theorem src_of_row {w : World} {a : Option Addr} {len cap : Nat} {zs : List Int} (h : IsRow .u8 w a len cap zs) : Src w (.slice a len cap) (zs.take len) w.heap.size ∧ (zs.take len).length = len ∧ len ≤ maxLen := by
  rcases h with ⟨rfl, rfl, rfl, rfl⟩ | ⟨x, rfl, hl, hm, hz, hc, _⟩
  · exact ⟨⟨none, 0, w.heap.size + 1, 0, rfl, by simp, fun h => by simp at h, by omega, fun j hj => by simp at hj, fun _ => rfl⟩, rfl, by unfold maxLen; omega⟩
  · have hlen : (zs.take len).length = len := by rw [List.length_take]; omega
    refine ⟨?_, hlen, by omega⟩
    by_cases h0 : 0 < len
    · have c0 := hc 0 (by omega)
      have e : x = ⟨x.block, x.off, none⟩ := by
        obtain ⟨xb, xo, sp⟩ := x
        cases sp with
        | none => rfl
        | some s =>
          exfalso
          have : (⟨xb, xo, some s⟩ : Addr).add 0 = ⟨xb, xo, some s⟩ := rfl
          rw [this] at c0
          unfold World.cell? at c0
          simp at c0
          split at c0 <;> simp_all
      have hb : x.block < w.heap.size := by
        have := World.block_lt_of_cell? w _ c0
        rw [show x.add 0 = x from rfl] at this
        exact this
      refine ⟨some x, cap, x.block, x.off, by rw [hlen], by omega, fun _ => by rw [← e], by omega, fun j hj => ?_, fun h => by cases h⟩
      rw [hlen] at hj
      have cj := hc j (by omega)
      rw [e, Addr.add_mid] at cj
      rw [cj, List.getElem?_take_of_lt hj]; rfl
    · exact ⟨some x, cap, w.heap.size + 1, 0, by rw [hlen], by omega, fun h => by omega, by omega, fun j hj => by omega, fun h => by cases h⟩
theorem byt_of_row {w : World} {a : Option Addr} {len cap : Nat} {zs : List Int} (h : IsRow .u8 w a len cap zs) : Byt (zs.take len) := by
  rcases h with ⟨rfl, rfl, rfl, rfl⟩ | ⟨x, rfl, hl, hm, hz, hc, hw⟩
  · intro y hy
    simp at hy
  · intro y hy
    have := hw y (List.mem_of_mem_take hy)
    simp [Lit.wf, IntKind.min, IntKind.max, IntKind.signed, IntKind.bits] at this
    omega
theorem srcs_none (w : World) : Srcs w (.slice none 0 0) [] := ⟨none, 0, 0, 0, rfl, fun h => absurd h (by simp), fun j x hx => by simp at hx⟩
theorem plain_of_cell {w : World} {x : Addr} {v : Value} (c0 : w.cell? (x.add 0) = some v) : x = ⟨x.block, x.off, none⟩ := by
  obtain ⟨xb, xo, sp⟩ := x
  cases sp with
  | none => rfl
  | some s =>
    exfalso
    have : (⟨xb, xo, some s⟩ : Addr).add 0 = ⟨xb, xo, some s⟩ := rfl
    rw [this] at c0
    unfold World.cell? at c0
    simp at c0
    split at c0 <;> simp_all

/-- The rows of a slice of slices of bytes, as the walk holds them. -/
def rowsOf (len : Nat) (A : Nat → Option Addr) (L C : Nat → Nat) (Z : Nat → List Int) : List (Value × List Int) := (List.range len).map fun r => (Value.slice (A r) (L r) (C r), (Z r).take (L r))
theorem rowsOf_length (len : Nat) (A : Nat → Option Addr) (L C : Nat → Nat) (Z : Nat → List Int) : (rowsOf len A L C Z).length = len := by simp [rowsOf]

theorem srcs_of_rows {w : World} {a : Addr} {len cap : Nat} {A : Nat → Option Addr} {L C : Nat → Nat} {Z : Nat → List Int} (hl : len ≤ cap)
    (hrows : ∀ r, r < cap → w.cell? (a.add r) = some (.slice (A r) (L r) (C r)) ∧ IsRow .u8 w (A r) (L r) (C r) (Z r)) :
    Srcs w (.slice (some a) len cap) (rowsOf len A L C Z) ∧ ∀ x ∈ rowsOf len A L C Z, x.2.length ≤ 9223372036854775807 := by
  refine ⟨⟨some a, cap, a.block, a.off, by rw [rowsOf_length], fun h => ?_, fun j x hx => ?_⟩, fun x hx => ?_⟩
  · rw [rowsOf_length] at h
    rw [← plain_of_cell (hrows 0 (by omega)).1]
  · have hj : j < len := by
      have := (List.getElem?_eq_some_iff.1 hx).1
      rwa [rowsOf_length] at this
    have ex : x = (Value.slice (A j) (L j) (C j), (Z j).take (L j)) := by
      unfold rowsOf at hx
      rw [List.getElem?_map, List.getElem?_range hj] at hx
      simpa using hx.symm
    subst ex
    obtain ⟨hc, hr⟩ := hrows j (by omega)
    refine ⟨?_, (src_of_row hr).1⟩
    rw [plain_of_cell (hrows 0 (by omega)).1, Addr.add_mid] at hc
    exact hc
  · unfold rowsOf at hx
    obtain ⟨r, hr, rfl⟩ := List.mem_map.1 hx
    have hr' := List.mem_range.1 hr
    obtain ⟨_, h2, h3⟩ := src_of_row (hrows r (by omega)).2
    show ((Z r).take (L r)).length ≤ _
    rw [h2]
    unfold maxLen at h3
    omega

/-- A slice of slices of bytes that came in. -/
def Arg (w : World) (v : Value) (ps : List (Value × List Int)) : Prop := Srcs w v ps ∧ ps.length ≤ 9223372036854775807 ∧ (∀ x ∈ ps, x.2.length ≤ 9223372036854775807) ∧ ∀ x ∈ ps, Byt x.2
theorem arg_none (w : World) : Arg w (.slice none 0 0) [] := ⟨srcs_none w, by simp, by simp, by simp⟩
theorem arg_of_rows {w : World} {a : Addr} {len cap : Nat} {A : Nat → Option Addr} {L C : Nat → Nat} {Z : Nat → List Int} (hl : len ≤ cap) (hm : cap ≤ maxLen)
    (hrows : ∀ r, r < cap → w.cell? (a.add r) = some (.slice (A r) (L r) (C r)) ∧ IsRow .u8 w (A r) (L r) (C r) (Z r)) : Arg w (.slice (some a) len cap) (rowsOf len A L C Z) := by
  obtain ⟨q1, q2⟩ := srcs_of_rows hl hrows
  refine ⟨q1, by rw [rowsOf_length]; unfold maxLen at hm; omega, q2, fun x hx => ?_⟩
  unfold rowsOf at hx
  obtain ⟨r, hr, rfl⟩ := List.mem_map.1 hx
  exact byt_of_row (hrows r (by have := List.mem_range.1 hr; omega)).2
end Go.Proofs.YtfhgoedonjcekaaDoor

namespace Go.Proofs.YtfhgoedonjcekaaDoor
open Go.RowKit Go.Sha
set_option linter.unusedSimpArgs false
set_option linter.unusedVariables false

theorem srcs_ext {w w' : World} {v : Value} {ps : List (Value × List Int)} (h : Srcs w v ps) (he : Ext w w') : Srcs w' v ps := by
  obtain ⟨ad, cap, pb, po, h1, h2, h3⟩ := h
  refine ⟨ad, cap, pb, po, h1, h2, fun j x hx => ?_⟩
  obtain ⟨c, s⟩ := h3 j x hx
  exact ⟨by rw [Below.cell (p := ⟨pb, po + j, none⟩) he (World.block_lt_of_cell? w _ c)]; exact c, s.now he⟩
/-- A sidecar that came in. -/
structure ArgS (w : World) (rt : List Int) (pl pp : List (Value × List Int)) (vr vl vp : Value) : Prop where
  r : Src w vr rt w.heap.size
  rb : Byt rt
  rl : rt.length ≤ 9223372036854775807
  l : Arg w vl pl
  p : Arg w vp pp
theorem ArgS.ext {w w' : World} {rt : List Int} {pl pp : List (Value × List Int)} {vr vl vp : Value} (h : ArgS w rt pl pp vr vl vp) (he : Ext w w') : ArgS w' rt pl pp vr vl vp :=
  ⟨h.r.now he, h.rb, h.rl, ⟨srcs_ext h.l.1 he, h.l.2⟩, ⟨srcs_ext h.p.1 he, h.p.2⟩⟩
theorem ArgS.sr {w : World} {rt : List Int} {pl pp : List (Value × List Int)} {vr vl vp : Value} (h : ArgS w rt pl pp vr vl vp) (z b k : Int) : SR w ⟨z, b, k, rt, pl.map (·.2), pp.map (·.2)⟩ vr vl vp :=
  ⟨h.r, LR.of_srcs h.l.1, LR.of_srcs h.p.1⟩
theorem Srcs.len {w : World} {v : Value} {ps : List (Value × List Int)} (h : Srcs w v ps) : ∃ ad cap, v = .slice ad ps.length cap := by
  obtain ⟨ad, cap, _, _, h, _⟩ := h
  exact ⟨ad, cap, h⟩
def SmallPost (w : World) (rt : List Int) (pl pp : List (Value × List Int)) (e : Ending) (w' : World) : Prop := ∃ c : Bool, e = .returned (.bool c) ∧ (c = true → tot pl ≤ 6000 ∧ tot pp ≤ 6000 ∧ rt.length ≤ 100) ∧ Ext w w'

set_option maxHeartbeats 2000000 in
theorem small_any (z b k : Int) (rt : List Int) (pl pp : List (Value × List Int)) (vr vl vp : Value) (w : World) (h : ArgS w rt pl pp vr vl vp) :
    Calls Tryd.prog 12 #[.agg #[.int .i64 z, .int .i64 b, .int .i64 k, vr, vl, vp]] w (SmallPost w rt pl pp) := by
  obtain ⟨adr, capr, ev⟩ := h.r.len
  subst ev
  obtain ⟨adl, capl, ev⟩ := Srcs.len h.l.1
  subst ev
  obtain ⟨adp, capp, ev⟩ := Srcs.len h.p.1
  subst ev
  obtain ⟨nr, hnr⟩ : ∃ n, n = rt.length := ⟨_, rfl⟩
  obtain ⟨nl, hnl⟩ : ∃ n, n = pl.length := ⟨_, rfl⟩
  obtain ⟨np, hnp⟩ : ∃ n, n = pp.length := ⟨_, rfl⟩
  rw [← hnr, ← hnl, ← hnp] at h ⊢
  have Hnr := Lib.hid hnr
  clear hnr hnl hnp
  have e0 : Ext w (w.alloc (.cells #[.int .i64 z, .int .i64 b, .int .i64 k, .slice adr nr capr, .slice adl nl capl, .slice adp np capp] 30)) := Ext.alloc w _
  have a1 := At.new w #[.int .i64 z, .int .i64 b, .int .i64 k, .slice adr nr capr, .slice adl nl capl, .slice adp np capp] 30
  have H := Lib.hid (h.ext e0)
  clear h
  go_enter Tryd.func12, Tryd.ntmps12
  go_wp2_with fail
  refine (abytes_any 6000 (by omega) _ pl _ H.out.l.1 H.out.l.2.1 H.out.l.2.2.1).mono ?_
  rintro e w1 ⟨n1, h1, rfl, e1⟩
  replace a1 := at_ext a1 e1
  have H1 := Lib.hid (H.out.ext e1)
  replace e0 := e0.trans e1
  have f3 := a1.cell 3
  have f5 := a1.cell 5
  clear H e1 a1
  rcases h1 with ⟨t1, q1⟩ | ⟨t1, q1⟩
  · have d1 : decide (n1 ≤ 6000) = true := by simp; omega
    clear q1
    go_wp2_with fail
    refine (abytes_any 6000 (by omega) _ pp _ H1.out.p.1 H1.out.p.2.1 H1.out.p.2.2.1).mono ?_
    rintro e w2 ⟨n2, h2, rfl, e1⟩
    have f3' : w2.cell? ⟨w.heap.size, 3, none⟩ = some (.slice adr nr capr) := by rw [Below.cell (p := ⟨w.heap.size, 3, none⟩) e1 (World.block_lt_of_cell? w1 _ f3)]; exact f3
    replace e0 := e0.trans e1
    clear H1 e1 f3 f5
    rcases h2 with ⟨t2, q2⟩ | ⟨t2, q2⟩
    · have d2 : decide (n2 ≤ 6000) = true := by simp; omega
      clear q2
      by_cases h3 : nr ≤ 100
      · have d3 : decide ((nr : Int) ≤ 100) = true := by simp; omega
        have d3' : decide (nr ≤ 100) = true := by simpa using h3
        have Hc := Lib.hid (And.intro t1 (And.intro t2 h3))
        clear t1 t2 h3
        go_wp2
        go_ret
        exact ⟨true, rfl, fun _ => ⟨Hc.out.1, Hc.out.2.1, by rw [← Hnr.out]; exact Hc.out.2.2⟩, e0⟩
      · have d3 : decide ((nr : Int) ≤ 100) = false := by simp; omega
        have d3' : decide (nr ≤ 100) = false := by simpa using h3
        clear h3
        go_wp2
        go_ret
        exact ⟨false, rfl, fun h => by simp at h, e0⟩
    · have d2 : decide (n2 ≤ 6000) = false := by simp; omega
      clear q2
      go_wp2
      go_ret
      exact ⟨false, rfl, fun h => by simp at h, e0⟩
  · have d1 : decide (n1 ≤ 6000) = false := by simp; omega
    clear q1
    go_wp2
    go_ret
    exact ⟨false, rfl, fun h => by simp at h, e0⟩
theorem tot_len (ps : List (Value × List Int)) : ps.length ≤ tot ps := by have := flat_tot ps; omega
theorem tot_mem (ps : List (Value × List Int)) : ∀ x ∈ ps, x.2.length ≤ tot ps := by
  intro x hx
  obtain ⟨i, h1, h2⟩ := List.mem_iff_getElem.1 hx
  have := tot_take ps i x (by rw [List.getElem?_eq_getElem h1, h2])
  have := tot_le ps (i + 1)
  omega


end Go.Proofs.YtfhgoedonjcekaaDoor

namespace Go.Proofs.YtfhgoedonjcekaaDoor
open Go.ChangeShapes Go.WideShapes Go.ChangeAt Go.RowKit Go.Sha

theorem cellsS : Tryd.prog.cellsOf 30 = 6 := by kernel_rfl
theorem cellsI : Tryd.prog.cellsOf 3 = 1 := by kernel_rfl
theorem cellsB : Tryd.prog.cellsOf 22 = 1 := by kernel_rfl
theorem cellsR : Tryd.prog.cellsOf 24 = 1 := by kernel_rfl
section
variable {H : Type} {enc : TypeId × Value → H} {W : World}
theorem open_bytes {fuel : Nat} {v : Value} {x : DataW H × List MemPlace} (h : DataW.trod enc Tryd.prog W 0 (fun _ => true) true fuel 22 [v] = some x) :
    ∃ a len cap zs, v = .slice a len cap ∧ IsRow .u8 W a len cap zs := by
  rcases open_ints Tryd.underlying22 Tryd.underlying5 (by kernel_rfl) h with ⟨hcs, _⟩ | ⟨x, l, c, zs, hcs, _, hl, hm, hz, _, hcell, hwz⟩
  · injection hcs with hcs
    exact ⟨_, _, _, [], hcs, .inl ⟨rfl, rfl, rfl, rfl⟩⟩
  · injection hcs with hcs
    exact ⟨_, _, _, zs, hcs, .inr ⟨_, rfl, hl, hm, by simpa using hz, hcell, hwz⟩⟩
theorem open_lists {fuel : Nat} {v : Value} {x : DataW H × List MemPlace} (h : DataW.trod enc Tryd.prog W 0 (fun _ => true) true fuel 24 [v] = some x) :
    ∃ ps, Arg W v ps := by
  rcases Deep.open_int_rows Tryd.underlying24 Tryd.underlying22 Tryd.underlying5 (by kernel_rfl) (by kernel_rfl) h with ⟨hcs, _⟩ | ⟨a, len, cap, A, L, C, Z, hcs, _, hl, hm, _, hrows⟩
  · injection hcs with hcs
    subst hcs
    exact ⟨[], arg_none W⟩
  · injection hcs with hcs
    subst hcs
    refine ⟨_, arg_of_rows (A := A) (L := L) (C := C) (Z := Z) hl hm fun r hr => ?_⟩
    obtain ⟨h1, h2, h3, h4, h5, h6, h7⟩ := hrows r hr
    refine ⟨h1, ?_⟩
    cases hA : A r with
    | none =>
      have c := h6 hA
      exact .inl ⟨rfl, by omega, c, List.eq_nil_of_length_eq_zero (by omega)⟩
    | some a' => exact .inr ⟨a', rfl, h2, h3, h4, fun i hi => (h7 a' hA).2 i (by omega), h5⟩
set_option maxRecDepth 100000 in
theorem open_side {fuel : Nat} {cs : List Value} {x : DataW H × List MemPlace} (h : DataW.trod enc Tryd.prog W 0 (fun _ => true) true fuel 30 cs = some x) :
    ∃ (z b k : Int) (vr vl vp : Value) (rt : List Int) (pl pp : List (Value × List Int)), cs = [.int .i64 z, .int .i64 b, .int .i64 k, vr, vl, vp] ∧ ArgS W rt pl pp vr vl vp := by
  obtain ⟨xs, n, _, _, hl, hlx, hf⟩ := DataW.trod_struct Tryd.underlying30 h
  rw [cellsS] at hl
  match cs, hl with
  | [v0, v1, v2, v3, v4, v5], _ =>
    have f0 : DataW.trod enc Tryd.prog W 0 (fun _ => true) true n 3 (([v0, v1, v2, v3, v4, v5].drop 0).take (Tryd.prog.cellsOf 3)) = xs[0]? := hf 0 _ rfl
    have f1 : DataW.trod enc Tryd.prog W 0 (fun _ => true) true n 3 (([v0, v1, v2, v3, v4, v5].drop 1).take (Tryd.prog.cellsOf 3)) = xs[1]? := hf 1 _ rfl
    have f2 : DataW.trod enc Tryd.prog W 0 (fun _ => true) true n 3 (([v0, v1, v2, v3, v4, v5].drop 2).take (Tryd.prog.cellsOf 3)) = xs[2]? := hf 2 _ rfl
    have f3 : DataW.trod enc Tryd.prog W 0 (fun _ => true) true n 22 (([v0, v1, v2, v3, v4, v5].drop 3).take (Tryd.prog.cellsOf 22)) = xs[3]? := hf 3 _ rfl
    have f4 : DataW.trod enc Tryd.prog W 0 (fun _ => true) true n 24 (([v0, v1, v2, v3, v4, v5].drop 4).take (Tryd.prog.cellsOf 24)) = xs[4]? := hf 4 _ rfl
    have f5 : DataW.trod enc Tryd.prog W 0 (fun _ => true) true n 24 (([v0, v1, v2, v3, v4, v5].drop 5).take (Tryd.prog.cellsOf 24)) = xs[5]? := hf 5 _ rfl
    simp only [cellsI, cellsB, cellsR, List.drop_zero, List.drop_succ_cons, List.take_succ_cons, List.take_zero] at f0 f1 f2 f3 f4 f5
    have hx : ∀ i, i < 6 → ∃ y, xs[i]? = some y := fun i hi => ⟨_, List.getElem?_eq_getElem (by have : xs.length = 6 := hlx; omega)⟩
    obtain ⟨y0, e0⟩ := hx 0 (by omega)
    obtain ⟨y1, e1⟩ := hx 1 (by omega)
    obtain ⟨y2, e2⟩ := hx 2 (by omega)
    obtain ⟨y3, e3⟩ := hx 3 (by omega)
    obtain ⟨y4, e4⟩ := hx 4 (by omega)
    obtain ⟨y5, e5⟩ := hx 5 (by omega)
    obtain ⟨a0, q0, _, _⟩ := DataW.trod_int Tryd.underlying3 (f0.trans e0)
    obtain ⟨a1, q1, _, _⟩ := DataW.trod_int Tryd.underlying3 (f1.trans e1)
    obtain ⟨a2, q2, _, _⟩ := DataW.trod_int Tryd.underlying3 (f2.trans e2)
    injection q0 with q0; injection q1 with q1; injection q2 with q2
    subst q0 q1 q2
    obtain ⟨a, len, cap, zs, rfl, g3⟩ := open_bytes (f3.trans e3)
    obtain ⟨pl, g4⟩ := open_lists (f4.trans e4)
    obtain ⟨pp, g5⟩ := open_lists (f5.trans e5)
    obtain ⟨s1, s2, s3⟩ := src_of_row g3
    exact ⟨a0, a1, a2, _, _, _, zs.take len, pl, pp, rfl, s1, byt_of_row g3, by rw [s2]; unfold maxLen at s3; omega, g4, g5⟩
end
end Go.Proofs.YtfhgoedonjcekaaDoor
