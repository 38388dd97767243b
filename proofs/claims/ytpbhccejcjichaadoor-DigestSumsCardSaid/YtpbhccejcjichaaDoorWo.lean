/- The walk of the law DigestSums. -/
import Derived.Test.YtpbhccejcjichaaDoorWl
import Derived.Test.YtpbhccejcjichaaDoorWj
import Derived.Test.YtpbhccejcjichaaDoorWn
import Derived.Lib.Builder
namespace Go.Proofs.YtpbhccejcjichaaDoor
open Go.RowKit Go.Sha

theorem Srcs.of_below {w w' : World} {v : Value} {ps : List (Value × List Int)} (h : Srcs w v ps) (hb : Below w.heap.size w w') : Srcs w' v ps := by
  obtain ⟨ad, cap, pb, po, h1, h2, h3⟩ := h
  refine ⟨ad, cap, pb, po, h1, h2, fun j x hx => ?_⟩
  obtain ⟨hc, hs⟩ := h3 j x hx
  exact ⟨by rw [hb.cell (p := ⟨pb, po + j, none⟩) (World.block_lt_of_cell? w _ hc)]; exact hc, hs.of_below hb hb.size⟩
theorem conv_own' {w : World} {base : Nat} {v : Value} {m : List Int} (h : OwnB w base v m) (hm : 0 < m.length) : (convert 25 9 v).run Tryd.prog w = .ok (.string (strOfNums m)) w := by
  obtain ⟨g, cap, cur, rfl, _, ha, hc⟩ := h.block hm
  exact run_convert_bytes_arg w 25 5 Tryd.underlying25 Tryd.underlying5 g 0 m.length cap m rfl (fun i hi => by rw [Nat.zero_add, ha.cell, hc i hi]; rfl) 9 Tryd.underlying9


theorem inf32 : ∃ j, Tryd.prog.info? 32 = some j := Option.isSome_iff_exists.1 (by kernel_rfl)

def InvL (w : World) (ps : List (Value × List Int)) (H : Nat) (o i : Value) (wr : World) : Prop :=
  ∃ k : Nat, k ≤ ps.length ∧ i = .int .i64 k ∧ Below w.heap.size w wr ∧ OwnB wr (H + 1) o (flat (ps.take k)) ∧ Rep wr H (flat (ps.take k)) ∧ H + 1 ≤ wr.heap.size

set_option maxHeartbeats 2000000 in
set_option maxRecDepth 100000 in
theorem sums_any (v : Value) (ps : List (Value × List Int)) (w : World) (hK : KAt w) (hs : Srcs w v ps) (hpl : ps.length ≤ 9223372036854775807) (hlen : ∀ x ∈ ps, x.2.length ≤ 9223372036854775807) :
    Calls Tryd.prog 3 #[v] w fun e w' => e = .returned (.bool true) ∧ Below w.heap.size w w' := by
  have hz := z32
  have hs0 := hs
  obtain ⟨ad, cap, pb, po, hv, had, hp⟩ := hs
  have HV := Lib.hid hv
  rw [hv]
  clear hv
  have Hp := Lib.hid hp; clear hp
  have Ha := Lib.hid had; clear had
  go_enter Tryd.func3, Tryd.ntmps3
  go_wp2_with fail
  refine (abytes_any _ ps w (HV.out ▸ hs0) hpl hlen).mono ?_
  rintro e w1 ⟨n, hn, rfl, b1⟩
  have k1 := hK.below b1 hK.lt
  rcases hn with ⟨hT, hn⟩ | ⟨hT, hn⟩
  case inr =>
    have d1 : decide ((2000 : Int) < n) = true := by simpa using hn
    go_wp2_with fail
    refine (awake_any w1 k1).mono ?_
    rintro e w2 ⟨rfl, b2⟩
    go_wp2
    go_ret
    exact ⟨rfl, b1.trans (b2.mono b1.size)⟩
  case inl =>
    have d1 : decide ((2000 : Int) < n) = false := by simp; omega
    have hft := flat_tot ps
    have hfl : (flat ps).length ≤ 2000 := by omega
    have hps : ps.length ≤ 2000 := by omega
    clear hn hT hft hlen
    go_wp2_with fail
    have r2 := rep_zero w1
    have e2 : Below w.heap.size w (w1.alloc (.cells zeroH.toArray 32)) := b1.alloc b1.size _
    have z2 : (w1.alloc (.cells zeroH.toArray 32)).heap.size = w1.heap.size + 1 := by simp
    have hH : w.heap.size ≤ w1.heap.size := b1.size
    have hwp := hK.lt
    clear b1 k1
    obtain ⟨H, hHe⟩ : ∃ H, H = w1.heap.size := ⟨_, rfl⟩
    rw [← hHe] at r2 z2 hH ⊢
    clear hHe
    generalize w1.alloc (.cells zeroH.toArray 32) = w2 at *
    have hz2 : H + 1 ≤ w2.heap.size := by omega
    clear z2
    go_loopw [3, 5] (fun o i wr => InvL w ps H o i wr) (fun _ i _ => ps.length - (intOf i).toNat)
    case atStart => exact ⟨0, by omega, rfl, e2, OwnB.nil _ _, r2, hz2⟩
    case round =>
      clear e2 r2 hz2
      obtain ⟨k, hk, rfl, e2, oo, r2, hz2⟩ := hrel
      have k2 := hK.below e2 hK.lt
      by_cases hlt : k < ps.length
      · obtain ⟨x, hx⟩ : ∃ x, ps[k]? = some x := ⟨ps[k], List.getElem?_eq_getElem hlt⟩
        obtain ⟨hc, hsx⟩ := Hp.out k x hx
        have e := Ha.out (by omega)
        subst e
        have hpb : pb < w.heap.size := World.block_lt_of_cell? w _ hc
        have hc' : wr.cell? ⟨pb, po + k, none⟩ = some x.1 := by rw [e2.cell (p := ⟨pb, po + k, none⟩) hpb]; exact hc
        have s2 : Src wr x.1 x.2 H := hsx.of_below e2 hH
        have hle := flat_le ps k x hx
        have htk : flat (ps.take (k + 1)) = flat (ps.take k) ++ x.2 := by
          rw [List.take_succ_eq_append_getElem hlt, flat_snoc, (List.getElem?_eq_some_iff.1 hx).2]
        have Htk := Lib.hid htk; clear htk
        have Hx := Lib.hid hx; clear hx
        have i0 : (k : Int) < (ps.length : Int) := by omega
        have i1 : (0 : Int) ≤ (k : Int) := by omega
        obtain ⟨ado, capo, rfl⟩ := oo.len
        go_upto_region 9 with (refine list_append_bytes rfl (.tmp 17) (.tmp 21) 25 rfl Tryd.underlying25 u8zero (H + 1) (.slice ado (flat (ps.take k)).length capo) (flat (ps.take k)) rfl oo x.1 x.2 H rfl s2 (by omega) hz2 ?_; intro vy w5 oy gy)
        have bg := oo.grown gy hz2
        have e5 : Below w.heap.size w w5 := e2.trans (bg.mono (by omega))
        have r5 := r2.belowB bg (by omega)
        have k5 := hK.below e5 hK.lt
        have s5 : Src w5 x.1 x.2 H := hsx.of_below e5 hH
        have z5 : H + 1 ≤ w5.heap.size := Nat.le_trans hz2 bg.size
        have hc5 : w5.cell? ⟨pb, po + k, none⟩ = some x.1 := by rw [e5.cell (p := ⟨pb, po + k, none⟩) hpb]; exact hc
        clear hc' s2 oo gy bg r2 k2 e2
        have Hc := Lib.hid hc; clear hc
        go_wp2_with fail
        refine (add_src H (flat (ps.take k)) x.2 x.1 w5 k5 (by omega) r5 (by omega) s5).mono ?_
        rintro e w6 ⟨rfl, o6, r6⟩
        have e6 : Below w.heap.size w w6 := o6.below e5 hH e5.size
        have o6' := oy.only o6 (by omega)
        have z6 : H + 1 ≤ w6.heap.size := Nat.le_trans z5 o6.size
        rw [← Htk.out] at r6 o6'
        clear hc5 s5 oy r5 k5 e5
        have hpn := Lib.run_neq_ptr_same (P := Tryd.prog) w6 ⟨H, 0, none⟩ Tryd.underlying33 inf32.choose_spec
        go_wp2
        exact ⟨⟨k + 1, by omega, by go_num, e6, o6', r6, z6⟩, by simp [intOf]; omega⟩
      · have ek : ps.take k = ps := List.take_of_length_le (by omega)
        rw [ek] at oo r2
        have d0 : decide ((k : Int) < (ps.length : Int)) = false := by simp; omega
        have d2 : ¬ ((k : Int) < (ps.length : Int)) := by omega
        clear hlt hk ek
        generalize hfl2 : flat ps = l at *
        have Hfl := Lib.hid hfl2; clear hfl2
        obtain ⟨ado, capo, rfl⟩ := oo.len
        have so := (oo.src H (by omega)).other (Nat.le_refl wr.heap.size)
        go_wp2_with fail
        refine (ref_any _ l wr so (by omega)).mono ?_
        rintro e w3 ⟨v3, rfl, b3, o3⟩
        have hcv := conv_own' o3 (by rw [shaL_length]; omega)
        have e3 : Below w.heap.size w w3 := e2.trans (b3.mono e2.size)
        have r3 := r2.below b3
        have oo3 := oo.ext b3
        have k3 := hK.below e3 hK.lt
        have hs3 : Srcs w3 (.slice ad ps.length cap) ps := (HV.out ▸ hs0).of_below e3
        clear oo so r2 e2 k2 b3
        go_wp2_with fail
        clear hcv o3
        refine (dsumH _ ps l w3 k3 hs3 Hfl.out (by omega) (by omega)).mono ?_
        rintro e w4 ⟨v4, rfl, x4, g4, rfl, a4⟩
        have hc4 := conv_at (P := Tryd.prog) 25 9 5 Tryd.underlying25 Tryd.underlying5 Tryd.underlying9 w4 g4 (shaL l) 5 32 32 (shaL_length _) a4
        have r4 := r3.below x4
        have oo4 := oo3.ext x4
        have e4 : Below w.heap.size w w4 := e3.trans (Below.mono x4 e3.size)
        clear r3 oo3 e3 k3 hs3 x4 a4
        go_wp2_with fail
        clear hc4
        have xb : Ext w4 (w4.alloc (.cells #[.slice ado l.length capo] 25)) := Ext.alloc _ _
        have bk := At.new w4 #[.slice ado l.length capo] 25
        have r5 := r4.below xb
        have oo5 := oo4.ext xb
        have e5 : Below w.heap.size w (w4.alloc (.cells #[.slice ado l.length capo] 25)) := e4.trans (Below.mono xb e4.size)
        clear r4 oo4 e4 xb
        generalize w4.heap.size = Bk at *
        generalize w4.alloc (.cells #[.slice ado l.length capo] 25) = w5 at *
        have k5 := hK.below e5 hK.lt
        refine (dsumH _ [(.slice ado l.length capo, l)] l w5 k5 (srcs1 _ Bk _ l bk ((oo5.src H (by omega)).other (Nat.le_refl _))) (flat_one _ _) (by omega) (by simp)).mono ?_
        rintro e w6 ⟨v6, rfl, x6, g6, rfl, a6⟩
        have hc6 := conv_at (P := Tryd.prog) 25 9 5 Tryd.underlying25 Tryd.underlying5 Tryd.underlying9 w6 g6 (shaL l) 5 32 32 (shaL_length _) a6
        have r6 := r5.below x6
        have e6 : Below w.heap.size w w6 := e5.trans (Below.mono x6 e5.size)
        clear r5 oo5 e5 k5 x6 a6 bk
        go_wp2_with fail
        clear hc6
        have k6 := hK.below e6 hK.lt
        refine (hsumH H l w6 k6 r6 (by omega)).mono ?_
        rintro e w7 ⟨v7, rfl, x7, g7, rfl, a7⟩
        have hc7 := conv_at (P := Tryd.prog) 25 9 5 Tryd.underlying25 Tryd.underlying5 Tryd.underlying9 w7 g7 (shaL l) 5 32 32 (shaL_length _) a7
        have r7 := r6.below x7
        have e7 : Below w.heap.size w w7 := e6.trans (Below.mono x7 e6.size)
        clear r6 e6 k6 x7 a7
        go_wp2_with fail
        clear hc7
        refine (len_any H l w7 r7 (by omega)).mono ?_
        rintro e w8 ⟨rfl, n8, rfl⟩
        have e8 : Below w.heap.size w (w7.drewN n8) := below_drewN e7 n8
        generalize w7.drewN n8 = w8 at *
        have k8 := hK.below e8 hK.lt
        clear r7 e7
        go_wp2_with fail
        refine (awake_any w8 k8).mono ?_
        rintro e w9 ⟨rfl, b9⟩
        have e9 : Below w.heap.size w w9 := e8.trans (b9.mono e8.size)
        clear k8 e8 b9
        go_wp2
        go_ret
        exact ⟨rfl, e9⟩

end Go.Proofs.YtpbhccejcjichaaDoor
