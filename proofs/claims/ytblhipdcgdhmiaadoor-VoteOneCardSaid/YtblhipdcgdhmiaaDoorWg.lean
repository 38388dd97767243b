/- The contracts of '(*Hasher).Sum' and 'Sum'. -/
import Derived.Test.YtblhipdcgdhmiaaDoorWf
namespace Go.Proofs.YtblhipdcgdhmiaaDoor
open Go.RowKit Go.Sha

theorem add_src (bh : Nat) (l m : List Int) (v : Value) (w : World) (hK : KAt w) (hb0 : bh ≠ 0) (hr : Rep w bh l) (hlen : l.length + m.length < 4611686018427387904) (hs : Src w v m bh) :
    Calls Tryd.prog 54 #[.pointer (some ⟨bh, 0, none⟩), v] w fun e w' => e = .returned (.pointer (some ⟨bh, 0, none⟩)) ∧ Only bh w w' ∧ Rep w' bh (l ++ m) := by
  obtain ⟨ad, cap, sb, so, h1, h2, h3, h4, h5, _⟩ := hs
  exact add_any bh l m v ad cap sb so w hK hb0 hr hlen h1 h2 h3 h4 h5

set_option maxHeartbeats 1000000 in
set_option maxRecDepth 100000 in
theorem hsum_any (bh : Nat) (l : List Int) (w : World) (hK : KAt w) (hr : Rep w bh l) (hlen : l.length < 2305843009213693952) :
    Calls Tryd.prog 55 #[.pointer (some ⟨bh, 0, none⟩)] w (SumPost w l) := by
  have hr' := hr
  obtain ⟨bks, t, ch, h⟩ := hr
  have hz := z32
  have a0 := h.hat.at_
  have s0 := Hat.sized h.hat
  have a1 := At.new w zeroH.toArray 96
  have ho : zeroH.toArray.size = (hcl ch bks.length (pad64 t) t.length).toArray.size := by rw [List.size_toArray, List.size_toArray, hcl_length _ _ _ _ h.hat.h8 h.hat.h64]; rfl
  have Ho := Lib.hid ho; clear ho
  go_enter Tryd.func55, Tryd.ntmps55
  go_wp2_with (first | (refine wpList_load_row rfl 96 _ rfl bh rfl 96 _ (0, 0) _ a0 Tryd.underlying96 rfl s0 ?_) | (refine wpList_store_row rfl 96 _ _ rfl w.heap.size _ rfl rfl 96 _ a1 s0 Ho.out (hcl_one _ _ _ _) ?_))
  rw [World.setRow_alloc_new]
  have r1 : Rep (w.alloc (.cells (hcl ch bks.length (pad64 t) t.length).toArray 96)) w.heap.size l := ⟨bks, t, ch, h.h64, h.hl, h.ht, h.hc, h.hat.h8, h.hat.h64, At.new w _ 96⟩
  have b1 : Below w.heap.size w (w.alloc (.cells (hcl ch bks.length (pad64 t) t.length).toArray 96)) := (Below.refl _ _).alloc (Nat.le_refl _) _
  have z1 : w.heap.size + 1 ≤ (w.alloc (.cells (hcl ch bks.length (pad64 t) t.length).toArray 96)).heap.size := by simp
  have r0 := hr'.below b1
  have k1 := hK.below b1 hK.lt
  have hE : w.heap.size ≠ 0 := by have := hK.lt; omega
  clear a0 a1 s0 Ho hz hr' h hK
  generalize w.alloc (.cells (hcl ch bks.length (pad64 t) t.length).toArray 96) = w1 at *
  obtain ⟨E, hEq⟩ : ∃ E, E = w.heap.size := ⟨_, rfl⟩
  rw [← hEq] at r1 hE z1 ⊢
  have HE := Lib.hid hEq; clear hEq
  refine (len_any bh l w1 r0 (by omega)).mono ?_
  rintro e w2 ⟨rfl, n, rfl⟩
  have r2 : Rep (w1.drewN n) E l := r1.below (below_drewN (Below.refl _ _) n)
  have k2 : KAt (w1.drewN n) := k1
  have b2 := below_drewN b1 n
  replace z1 : E + 1 ≤ (w1.drewN n).heap.size := z1
  clear r1 k1 b1 r0
  generalize w1.drewN n = w2 at *
  go_wp2_with fail
  refine (pad_any l.length w2 (by omega)).mono ?_
  rintro e w3 ⟨rfl, b3, z3, a3⟩
  have r3 := r2.below b3
  have k3 := k2.below b3 k2.lt
  have hs : Src w3 (.slice (some ⟨w2.heap.size, 0, none⟩) (padSize l.length) (padSize l.length)) (padL l.length) E := by
    have := Src.of_at (bh := E) a3 (by omega) (padSize l.length) (by rw [padL_length]; omega)
    rwa [padL_length] at this
  have B3 : Below w.heap.size w w3 := b2.trans (b3.mono (by rw [← HE.out]; omega))
  have hps := padSize_pos l.length
  have hpl := padL_length l.length
  have Hpl := Lib.hid hpl; clear hpl
  have zz : E + 1 ≤ w3.heap.size := by omega
  have Z3 := Lib.hid z3; clear z3
  go_wp2_with fail
  refine (add_src E l (padL l.length) _ w3 k3 hE r3 (by rw [Hpl.out]; omega) hs).mono ?_
  rintro e w4 ⟨rfl, o4, r4⟩
  have B4 : Below w.heap.size w w4 := o4.below B3 (by rw [HE.out]; omega) (by rw [← HE.out]; omega)
  have k4 := o4.k k3 hE
  obtain ⟨n4, wt4, q4, h4⟩ := r4.chain (by rw [List.length_append, Hpl.out]; omega) (by rw [List.length_append, Hpl.out]; exact padSize_whole _)
  have c4 := h4.range_ch
  have l4 := chainOf_length (l ++ padL l.length)
  have s4 : (Tryd.prog.info? 92).map (·.size) = some ((chainOf (l ++ padL l.length)).map (Value.int .u32)).length := by rw [List.length_map, l4]; exact sz28
  have L4 := Lib.hid l4; clear l4
  have z4 : E + 1 ≤ w4.heap.size := by have := o4.size; omega
  go_wp2_with (refine wpList_load_mid rfl 92 _ rfl E 0 rfl _ _ c4 Tryd.underlying92 rfl s4 ?_)
  refine (bytes_any (chainOf (l ++ padL l.length)) w4 L4.out).mono ?_
  rintro e w5 ⟨rfl, b5, a5⟩
  have B5 : Below w.heap.size w w5 := B4.trans (b5.mono (by rw [← HE.out]; omega))
  go_wp2
  go_ret
  exact ⟨w4.heap.size + 1, rfl, by rw [← HE.out]; omega, B5, a5⟩

def flat (ps : List (Value × List Int)) : List Int := (ps.map (·.2)).flatten
theorem flat_snoc (ps : List (Value × List Int)) (x : Value × List Int) : flat (ps ++ [x]) = flat ps ++ x.2 := by simp [flat]
theorem flat_le (ps : List (Value × List Int)) (k : Nat) (x : Value × List Int) (hx : ps[k]? = some x) : (flat (ps.take k)).length + x.2.length ≤ (flat ps).length := by
  have hk : k < ps.length := (List.getElem?_eq_some_iff.1 hx).1
  have e : ps = ps.take k ++ (x :: ps.drop (k + 1)) := by
    have := (List.getElem?_eq_some_iff.1 hx).2
    rw [← this, List.getElem_cons_drop, List.take_append_drop]
  have : flat ps = flat (ps.take k) ++ (x.2 ++ flat (ps.drop (k + 1))) := by
    conv => lhs; rw [e]
    simp [flat]
  rw [this]; simp only [List.length_append]; omega
/-- A slice of slices of bytes. -/
def Srcs (w : World) (v : Value) (ps : List (Value × List Int)) : Prop :=
  ∃ ad cap pb po, v = .slice ad ps.length cap ∧ (0 < ps.length → ad = some ⟨pb, po, none⟩) ∧ ∀ j x, ps[j]? = some x → w.cell? ⟨pb, po + j, none⟩ = some x.1 ∧ Src w x.1 x.2 w.heap.size

def InvS (w w1 : World) (bh : Nat) (ps : List (Value × List Int)) (i : Value) (wr : World) : Prop :=
  ∃ k : Nat, k ≤ ps.length ∧ i = .int .i64 k ∧ Only bh w1 wr ∧ Below bh w wr ∧ Rep wr bh (flat (ps.take k)) ∧ KAt wr

set_option maxHeartbeats 1000000 in
set_option maxRecDepth 100000 in
theorem dsum_any (v : Value) (ps : List (Value × List Int)) (w : World) (hK : KAt w) (hs : Srcs w v ps) (hlen : (flat ps).length < 2305843009213693952) (hpl : ps.length < 9223372036854775807) :
    Calls Tryd.prog 44 #[v] w (SumPost w (flat ps)) := by
  obtain ⟨ad, cap, pb, po, rfl, had, hp⟩ := hs
  have hz := z32
  have r1 := rep_zero w
  have b1 : Below w.heap.size w (w.alloc (.cells zeroH.toArray 96)) := (Below.refl _ _).alloc (Nat.le_refl _) _
  have k1 := hK.below b1 hK.lt
  have Hp := Lib.hid hp; clear hp
  have Ha := Lib.hid had; clear had
  have hb0 : w.heap.size ≠ 0 := by have := hK.lt; omega
  go_enter Tryd.func44, Tryd.ntmps44
  go_wp2
  obtain ⟨w1, hw1⟩ : ∃ w1, w1 = w.alloc (.cells zeroH.toArray 96) := ⟨_, rfl⟩
  rw [← hw1] at r1 b1 k1 ⊢
  have z1 : w.heap.size + 1 ≤ w1.heap.size := by rw [hw1]; simp
  clear hw1
  go_loopw [8] (fun i wr => InvS w w1 w.heap.size ps i wr) (fun i _ => ps.length - (intOf i).toNat)
  case atStart => exact ⟨0, by omega, rfl, Only.refl _ _, b1, r1, k1⟩
  case round =>
    obtain ⟨k, hk, rfl, ho, hB, hr, kr⟩ := hrel
    by_cases hlt : k < ps.length
    · obtain ⟨x, hx⟩ : ∃ x, ps[k]? = some x := ⟨ps[k], List.getElem?_eq_getElem hlt⟩
      obtain ⟨hc, hsx⟩ := Hp.out k x hx
      have e := Ha.out (by omega)
      subst e
      have hpb : pb < w.heap.size := World.block_lt_of_cell? w _ hc
      have hc' : wr.cell? ⟨pb, po + k, none⟩ = some x.1 := by rw [hB.cell (p := ⟨pb, po + k, none⟩) hpb]; exact hc
      have hsx' : Src wr x.1 x.2 w.heap.size := (hsx.below b1).only ho
      have hle := flat_le ps k x hx
      have htk : flat (ps.take (k + 1)) = flat (ps.take k) ++ x.2 := by
        rw [List.take_succ_eq_append_getElem hlt, flat_snoc, (List.getElem?_eq_some_iff.1 hx).2]
      have Htk := Lib.hid htk; clear htk
      have Hx := Lib.hid hx; clear hx
      have Hc := Lib.hid hc; clear hc
      have i0 : (k : Int) < (ps.length : Int) := by omega
      have i1 : (0 : Int) ≤ (k : Int) := by omega
      go_wp2_with fail
      refine (add_src w.heap.size (flat (ps.take k)) x.2 x.1 wr kr hb0 hr (by omega) hsx').mono ?_
      rintro e w2 ⟨rfl, o2, r2⟩
      go_wp2
      have zz := ho.size
      exact ⟨⟨k + 1, by omega, by go_num, ho.trans o2, o2.below hB (Nat.le_refl _) (by omega), by rw [Htk.out]; exact r2, o2.k kr hb0⟩, by simp [intOf]; omega⟩
    · obtain rfl : k = ps.length := by omega
      rw [List.take_length] at hr
      go_wp2_with fail
      refine (hsum_any w.heap.size (flat ps) wr kr hr hlen).mono ?_
      rintro e w2 ⟨g, rfl, hg, b2, a2⟩
      go_wp2
      go_ret
      have zz := ho.size
      exact ⟨g, rfl, by omega, hB.trans (b2.mono (by omega)), a2⟩

end Go.Proofs.YtblhipdcgdhmiaaDoor
