/- The contract of 'linnetalike.Bytes': how much a list of slices holds, up to a limit. -/
import Derived.Test.YtdohngjhfonifaaDoorWi
import Derived.Test.YtdohngjhfonifaaDoorSpec4
namespace Go.Proofs.YtdohngjhfonifaaDoor
open Go.RowKit Go.Sha

def tot (ps : List (Value × List Int)) : Nat := (ps.map fun x => x.2.length + 1).sum
theorem tot_snoc (ps : List (Value × List Int)) (x : Value × List Int) : tot (ps ++ [x]) = tot ps + x.2.length + 1 := by simp [tot]; omega
theorem tot_take (ps : List (Value × List Int)) (k : Nat) (x : Value × List Int) (hx : ps[k]? = some x) : tot (ps.take (k + 1)) = tot (ps.take k) + x.2.length + 1 := by
  have hk : k < ps.length := (List.getElem?_eq_some_iff.1 hx).1
  rw [List.take_succ_eq_append_getElem hk, (List.getElem?_eq_some_iff.1 hx).2, tot_snoc]
theorem tot_append (a b : List (Value × List Int)) : tot (a ++ b) = tot a + tot b := by simp [tot]
theorem tot_le (ps : List (Value × List Int)) (k : Nat) : tot (ps.take k) ≤ tot ps := by
  have e := congrArg tot (List.take_append_drop k ps)
  rw [tot_append] at e
  omega
theorem flat_tot (ps : List (Value × List Int)) : (flat ps).length + ps.length = tot ps := by
  induction ps with
  | nil => rfl
  | cons x r ih =>
    simp only [flat, tot, List.map_cons, List.flatten_cons, List.length_append, List.sum_cons, List.length_cons] at *
    omega

/-- What the limit lets through. -/
def Held (M T : Nat) (n : Int) : Prop := (T ≤ M ∧ n = T) ∨ (M < T ∧ (M : Int) < n)
def BytesPost (M : Nat) (w : World) (ps : List (Value × List Int)) (e : Ending) (w' : World) : Prop := ∃ n : Int, Held M (tot ps) n ∧ e = .returned (.int .i64 n) ∧ Below w.heap.size w w'
def InvB2 (M : Nat) (w : World) (ps : List (Value × List Int)) (n i : Value) (wr : World) : Prop :=
  ∃ (k : Nat) (m : Int), k ≤ ps.length ∧ i = .int .i64 k ∧ n = .int .i64 m ∧ Held M (tot (ps.take k)) m ∧ Below w.heap.size w wr
/-- One more slice, the sum of three whatever it is. -/
theorem sum3_held (a : Nat) (b : Nat) (g : Nat) (w : World) (M : Nat) (hM : M ≤ 1000000) (ha : a ≤ M) (hb : b ≤ 9223372036854775807) (h0 : w.cell? ⟨g, 0, none⟩ = some (.int .i64 b)) (h1 : w.cell? ⟨g, 1, none⟩ = some (.int .i64 1)) :
    Calls Tryd.prog 73 #[.int .i64 a, .slice (some ⟨g, 0, none⟩) 2 2] w fun e w' => ∃ n : Int, Held M (a + b + 1) n ∧ e = .returned (.int .i64 n) ∧ w = w' := by
  have h1' : w.cell? ⟨g, 1, none⟩ = some (.int .i64 ((1 : Nat) : Int)) := h1
  by_cases hs : a + b + 1 ≤ M
  · exact (sum3_small a b 1 g w M hM hs h0 h1').mono fun _ _ ⟨he, hw⟩ => ⟨_, Or.inl ⟨hs, by omega⟩, he, hw⟩
  · exact (sum3_big a b 1 g w M hM (by omega) (by omega) hb h0 h1').mono fun _ _ ⟨n, hn, he, hw⟩ => ⟨n, Or.inr ⟨by omega, hn⟩, he, hw⟩

set_option maxHeartbeats 1000000 in
theorem abytes_any (M : Nat) (hM : M ≤ 1000000) (v : Value) (ps : List (Value × List Int)) (w : World) (hs : Srcs w v ps) (hpl : ps.length ≤ 9223372036854775807) (hlen : ∀ x ∈ ps, x.2.length ≤ 9223372036854775807) :
    Calls Tryd.prog 38 #[v, .int .i64 M] w (BytesPost M w ps) := by
  obtain ⟨ad, cap, pb, po, rfl, had, hp⟩ := hs
  have Hp := Lib.hid hp; clear hp
  have Ha := Lib.hid had; clear had
  have Hl := Lib.hid hlen; clear hlen
  go_enter Tryd.func38, Tryd.ntmps38
  go_wp2
  go_loopw [5, 6] (fun n i wr => InvB2 M w ps n i wr) (fun _ i _ => ps.length - (intOf i).toNat)
  case atStart => exact ⟨0, 0, by omega, rfl, rfl, Or.inl ⟨by simp [tot], by simp [tot]⟩, Below.refl _ _⟩
  case round =>
    obtain ⟨k, m, hk, rfl, rfl, hH, ex⟩ := hrel
    by_cases hlt : k < ps.length ∧ m ≤ (M : Int)
    · obtain ⟨hlt, hm⟩ := hlt
      obtain ⟨x, hx⟩ : ∃ x, ps[k]? = some x := ⟨ps[k], List.getElem?_eq_getElem hlt⟩
      obtain ⟨hc, hsx⟩ := Hp.out k x hx
      have e := Ha.out (by omega)
      subst e
      obtain ⟨adx, capx, xb, xo, ex1, _⟩ := hsx
      rw [ex1] at hc
      have hpb : pb < w.heap.size := World.block_lt_of_cell? w _ hc
      have hc' : wr.cell? ⟨pb, po + k, none⟩ = some (.slice adx x.2.length capx) := by rw [ex.cell (p := ⟨pb, po + k, none⟩) hpb]; exact hc
      have hxl := Hl.out x (List.mem_of_getElem? hx)
      have htk := tot_take ps k x hx
      obtain ⟨a, rfl, ha⟩ : ∃ a : Nat, m = (a : Int) ∧ a = tot (ps.take k) := by
        rcases hH with ⟨h1, h2⟩ | ⟨_, h2⟩
        · exact ⟨_, h2, rfl⟩
        · omega
      have ha2 : a ≤ M := by omega
      rw [← ha] at htk
      have Htk := Lib.hid htk; clear htk
      have Hx := Lib.hid hx; clear hx
      clear hc ex1 hH ha
      have i0 : (k : Int) < (ps.length : Int) := by omega
      have i1 : (0 : Int) ≤ (k : Int) := by omega
      have i2 : (a : Int) ≤ (M : Int) := by omega
      have d1 : decide (a ≤ M) = true := by simpa using ha2
      go_wp2_with fail
      have h0 := At.new wr #[.int .i64 (x.2.length : Int), .int .i64 1] 3
      refine (sum3_held a x.2.length wr.heap.size _ M hM ha2 hxl (by rw [h0.cell]; rfl) (by rw [h0.cell]; rfl)).mono ?_
      rintro e w' ⟨n, hn, rfl, rfl⟩
      clear h0
      go_wp2
      exact ⟨⟨k + 1, n, by omega, by go_num, rfl, by rw [Htk.out]; exact hn, ex.alloc ex.size _⟩, by simp [intOf]; omega⟩
    · have fin : Held M (tot ps) m := by
        have hle := tot_le ps k
        rcases hH with ⟨h1, h2⟩ | ⟨h1, h2⟩
        · have : k = ps.length := by omega
          subst this
          rw [List.take_length] at h1 h2
          exact Or.inl ⟨h1, h2⟩
        · exact Or.inr ⟨by omega, h2⟩
      have Fin := Lib.hid fin; clear fin
      by_cases h1 : k < ps.length
      · have d1 : decide (m ≤ (M : Int)) = false := by simp; omega
        have d2 : ¬ (m ≤ (M : Int)) := by omega
        have i0 : (k : Int) < (ps.length : Int) := by omega
        clear hlt hH
        go_wp2
        go_ret
        exact ⟨m, Fin.out, rfl, ex⟩
      · have d0 : decide ((k : Int) < (ps.length : Int)) = false := by simp; omega
        have d2 : ¬ ((k : Int) < (ps.length : Int)) := by omega
        clear hlt hH
        go_wp2
        go_ret
        exact ⟨m, Fin.out, rfl, ex⟩

end Go.Proofs.YtdohngjhfonifaaDoor
