/- The contract of readSide (the code's). -/
import Derived.Test.YtfhgoedonjcekaaDoorSc
import Derived.Test.YtfhgoedonjcekaaDoorGg
namespace Go.Proofs.YtfhgoedonjcekaaDoor
open Go.RowKit Go.Sha
set_option linter.unusedSimpArgs false
set_option linter.unusedVariables false

/-- A sidecar's fields, read one by one. -/
def rSide (l : List Int) : Option (Sd × List Int × Int) :=
  if mayL (rNum l 0).1 (rNum (rNum l 0).2.1 (rNum l 0).2.2).1 (rNum (rNum (rNum l 0).2.1 (rNum l 0).2.2).2.1 (rNum (rNum l 0).2.1 (rNum l 0).2.2).2.2).1 then
    match rList 32 (cntL (rNum l 0).1 (rNum (rNum l 0).2.1 (rNum l 0).2.2).1).toNat (rNum (rNum (rNum l 0).2.1 (rNum l 0).2.2).2.1 (rNum (rNum l 0).2.1 (rNum l 0).2.2).2.2).2.1 (rNum (rNum (rNum l 0).2.1 (rNum l 0).2.2).2.1 (rNum (rNum l 0).2.1 (rNum l 0).2.2).2.2).2.2 with
    | none => none
    | some (ls, l4, e4) =>
      match rList (rNum (rNum l 0).2.1 (rNum l 0).2.2).1.toNat (grpsN (rNum l 0).1 (rNum (rNum l 0).2.1 (rNum l 0).2.2).1 (rNum (rNum (rNum l 0).2.1 (rNum l 0).2.2).2.1 (rNum (rNum l 0).2.1 (rNum l 0).2.2).2.2).1).toNat l4 e4 with
      | none => none
      | some (ps, l5, e5) => some (⟨(rNum l 0).1, (rNum (rNum l 0).2.1 (rNum l 0).2.2).1, (rNum (rNum (rNum l 0).2.1 (rNum l 0).2.2).2.1 (rNum (rNum l 0).2.1 (rNum l 0).2.2).2.2).1, rootL ls, ls, ps⟩, l5, e5)
  else none
/-- While a sidecar is read: the result's block, the sidecar's own. -/
structure RS (w : World) (b : Nat) (c : Array Value) (W : World) : Prop where
  o : Only b w W
  a2 : At W w.heap.size #[.int .i64 0, .int .i64 0, .int .i64 0, .slice none 0 0, .slice none 0 0, .slice none 0 0] 26
  a4 : At W (w.heap.size + 1) c 26
  sz : w.heap.size + 2 ≤ W.heap.size
theorem RS.only {w W W' : World} {b : Nat} {c : Array Value} (h : RS w b c W) (ho : Only b W W') (hb : b < w.heap.size) : RS w b c W' :=
  ⟨h.o.trans ho, ho.at h.a2 (by omega), ho.at h.a4 (by omega), Nat.le_trans h.sz ho.size⟩
theorem RS.ext {w W W' : World} {b : Nat} {c : Array Value} (h : RS w b c W) (he : Ext W W') : RS w b c W' :=
  ⟨h.o.trans (Only.of_below he), at_ext h.a2 he, at_ext h.a4 he, Nat.le_trans h.sz he.size⟩
theorem RS.set {w W : World} {b : Nat} {c : Array Value} (h : RS w b c W) (j : Nat) (v : Value) : RS w b (c.setIfInBounds j v) (W.setCell ⟨w.heap.size + 1, j, none⟩ v) := by
  have o1 := Only.set (w.heap.size + 1) j W v
  have b1 : Below w.heap.size W (W.setCell ⟨w.heap.size + 1, j, none⟩ v) := o1.below (Below.refl _ _) (by omega) (by have := h.sz; omega)
  exact ⟨only_below h.o b1, o1.at h.a2 (by omega), h.a4.set j v, Nat.le_trans h.sz o1.size⟩
theorem RS.rst {w W : World} {b : Nat} {c : Array Value} (h : RS w b c W) {l : List Int} {e : Int} (hr : RSt W b l e) (hb : b < w.heap.size) (j : Nat) (v : Value) : RSt (W.setCell ⟨w.heap.size + 1, j, none⟩ v) b l e :=
  rst_grow hr (Only.below (Only.set (w.heap.size + 1) j W v) (Below.refl w.heap.size W) (by omega) (by have := h.sz; omega)) hb
theorem RS.fin {w W : World} {b : Nat} {c : Array Value} (h : RS w b c W) (x : Array Value) : Only b w (W.setRow w.heap.size x) ∧ At (W.setRow w.heap.size x) w.heap.size x 26 := by
  have o1 := Only.setRow w.heap.size W x
  exact ⟨only_below h.o (o1.below (Below.refl _ _) (Nat.le_refl _) (by have := h.sz; omega)), h.a2.row x⟩
/-- A sidecar in memory apart from all blocks below n. -/
structure FSR (n : Nat) (w : World) (s : Sd) (vr vl vp : Value) : Prop where
  r : Far Src n w vr s.root
  l : Far LR n w vl s.leaves
  p : Far LR n w vp s.parity
theorem none_fsr (n : Nat) (w : World) : FSR n w noneL (.slice none 0 0) (.slice none 0 0) (.slice none 0 0) := ⟨fun bh _ => src_nil w bh, fun bh _ => LR.nil w bh, fun bh _ => LR.nil w bh⟩
theorem FSR.sr {n : Nat} {w : World} {s : Sd} {vr vl vp : Value} (h : FSR n w s vr vl vp) : SR w s vr vl vp := ⟨h.r.now, h.l.now, h.p.now⟩
theorem FSR.ext {n : Nat} {w w' : World} {s : Sd} {vr vl vp : Value} (h : FSR n w s vr vl vp) (he : Ext w w') : FSR n w' s vr vl vp := ⟨h.r.ext src_kept he, h.l.ext lr_kept he, h.p.ext lr_kept he⟩
theorem FSR.only {n g : Nat} {w w' : World} {s : Sd} {vr vl vp : Value} (h : FSR n w s vr vl vp) (ho : Only g w w') (hg : g < n) : FSR n w' s vr vl vp := ⟨h.r.only src_kept ho hg, h.l.only lr_kept ho hg, h.p.only lr_kept ho hg⟩
def SdPost (w : World) (b : Nat) (o : Option (Sd × List Int × Int)) (e : Ending) (w' : World) : Prop :=
  ∃ (s' : Sd) (vr vl vp : Value) (ok : Bool), e = .returned (.tuple #[.agg #[.int .i64 s'.size, .int .i64 s'.block, .int .i64 s'.k, vr, vl, vp], .bool ok]) ∧ Only b w w' ∧ FSR w.heap.size w' s' vr vl vp ∧
    (∀ s l' e', o = some (s, l', e') → ok = true ∧ s' = s ∧ RSt w' b l' e') ∧ (o = none → ok = false)

set_option maxHeartbeats 8000000 in
set_option maxRecDepth 100000 in
theorem readSide_any (b : Nat) (l : List Int) (w : World) (hK : KAt w) (hb0 : b ≠ 0) (h : RSt w b l 0) (hby : Byt l) :
    Calls Tryd.prog 48 #[.pointer (some ⟨b, 0, none⟩)] w (SdPost w b (rSide l)) := by
  have hlt := h.lt
  obtain ⟨n1, l1, e1, h1⟩ : ∃ n l' e', rNum l 0 = (n, l', e') := ⟨_, _, _, rfl⟩
  obtain ⟨n2, l2, e2, h2⟩ : ∃ n l' e', rNum l1 e1 = (n, l', e') := ⟨_, _, _, rfl⟩
  obtain ⟨n3, l3, e3, h3⟩ : ∃ n l' e', rNum l2 e2 = (n, l', e') := ⟨_, _, _, rfl⟩
  have hb1 : Byt l1 := by have := rNum_byt l 0 hby; rw [h1] at this; exact this
  have hb2 : Byt l2 := by have := rNum_byt l1 e1 hb1; rw [h2] at this; exact this
  have hb3 : Byt l3 := by have := rNum_byt l2 e2 hb2; rw [h3] at this; exact this
  have N1 := fun (W : World) (hr : RSt W b l 0) => num_any b l 0 W hr hby
  have N2 := fun (W : World) (hr : RSt W b l1 e1) => num_any b l1 e1 W hr hb1
  have N3 := fun (W : World) (hr : RSt W b l2 e2) => num_any b l2 e2 W hr hb2
  rw [h1] at N1
  rw [h2] at N2
  rw [h3] at N3
  have F : rSide l = (if mayL n1 n2 n3 then
      match rList 32 (cntL n1 n2).toNat l3 e3 with
      | none => none
      | some (ls, l4, e4) =>
        match rList n2.toNat (grpsN n1 n2 n3).toNat l4 e4 with
        | none => none
        | some (ps, l5, e5) => some (⟨n1, n2, n3, rootL ls, ls, ps⟩, l5, e5)
      else none) := by
    unfold rSide
    rw [h1]
    simp only
    rw [h2]
    simp only
    rw [h3]
  obtain ⟨O, hO⟩ : ∃ O, O = rSide l := ⟨_, rfl⟩
  rw [← hO]
  rw [F] at hO
  have HO := Lib.hid hO
  clear hO
  have HB := Lib.hid (And.intro hb1 (And.intro hb2 hb3))
  have HN1 := Lib.hid N1
  have HN2 := Lib.hid N2
  have HN3 := Lib.hid N3
  clear F h1 h2 h3 hb1 hb2 hb3 N1 N2 N3
  have zone : (#[.int .i64 0, .int .i64 0, .int .i64 0, .slice none 0 0, .slice none 0 0, .slice none 0 0] : Array Value).all (·.oneCell') = true := by simp [Value.oneCell']
  have R0 : RS w b #[.int .i64 0, .int .i64 0, .int .i64 0, .slice none 0 0, .slice none 0 0, .slice none 0 0] ((w.alloc (.cells #[.int .i64 0, .int .i64 0, .int .i64 0, .slice none 0 0, .slice none 0 0, .slice none 0 0] 26)).alloc (.cells #[.int .i64 0, .int .i64 0, .int .i64 0, .slice none 0 0, .slice none 0 0, .slice none 0 0] 26)) :=
    ⟨(Only.of_below (Ext.alloc w _)).trans (Only.of_below (Ext.alloc _ _)), (At.new w _ _).alloc _, At.new1 w _ _ _, by rw [size_alloc, size_alloc]; omega⟩
  have r0 := (h.below (Ext.alloc w (.cells #[.int .i64 0, .int .i64 0, .int .i64 0, .slice none 0 0, .slice none 0 0, .slice none 0 0] 26))).below (Ext.alloc (w.alloc (.cells #[.int .i64 0, .int .i64 0, .int .i64 0, .slice none 0 0, .slice none 0 0, .slice none 0 0] 26)) (.cells #[.int .i64 0, .int .i64 0, .int .i64 0, .slice none 0 0, .slice none 0 0, .slice none 0 0] 26))
  clear h
  go_enter Tryd.func48, Tryd.ntmps48
  go_wp2_with fail
  generalize (w.alloc (.cells #[.int .i64 0, .int .i64 0, .int .i64 0, .slice none 0 0, .slice none 0 0, .slice none 0 0] 26)).alloc (.cells #[.int .i64 0, .int .i64 0, .int .i64 0, .slice none 0 0, .slice none 0 0, .slice none 0 0] 26) = W0 at *
  refine (HN1.out W0 r0).mono ?_
  rintro e V0 ⟨rfl, o0, q0⟩
  have T0 := R0.only o0 hlt
  have c0 := T0.a4.cell 0
  have z0 := T0.a4.frozen 0
  have R1 : RS w b #[.int .i64 n1, .int .i64 0, .int .i64 0, .slice none 0 0, .slice none 0 0, .slice none 0 0] (V0.setCell ⟨w.heap.size + 1, 0, none⟩ (.int .i64 n1)) := T0.set 0 _
  have r1 := T0.rst q0 hlt 0 (.int .i64 n1)
  clear R0 r0 o0 q0 T0
  go_upto_region 3 with (fail)
  clear c0 z0
  generalize V0.setCell ⟨w.heap.size + 1, 0, none⟩ (.int .i64 n1) = W1 at *
  go_wp2_with fail
  refine (HN2.out W1 r1).mono ?_
  rintro e V1 ⟨rfl, o1, q1⟩
  have T1 := R1.only o1 hlt
  have c1 := T1.a4.cell 1
  have z1 := T1.a4.frozen 1
  have R2 : RS w b #[.int .i64 n1, .int .i64 n2, .int .i64 0, .slice none 0 0, .slice none 0 0, .slice none 0 0] (V1.setCell ⟨w.heap.size + 1, 1, none⟩ (.int .i64 n2)) := T1.set 1 _
  have r2 := T1.rst q1 hlt 1 (.int .i64 n2)
  clear R1 r1 o1 q1 T1
  go_upto_region 4 with (fail)
  clear c1 z1
  generalize V1.setCell ⟨w.heap.size + 1, 1, none⟩ (.int .i64 n2) = W2 at *
  go_wp2_with fail
  refine (HN3.out W2 r2).mono ?_
  rintro e V2 ⟨rfl, o2, q2⟩
  have T2 := R2.only o2 hlt
  have c2 := T2.a4.cell 2
  have z2 := T2.a4.frozen 2
  have R3 : RS w b #[.int .i64 n1, .int .i64 n2, .int .i64 n3, .slice none 0 0, .slice none 0 0, .slice none 0 0] (V2.setCell ⟨w.heap.size + 1, 2, none⟩ (.int .i64 n3)) := T2.set 2 _
  have r3 := T2.rst q2 hlt 2 (.int .i64 n3)
  clear R2 r2 o2 q2 T2
  go_upto_region 5 with (fail)
  clear c2 z2
  generalize V2.setCell ⟨w.heap.size + 1, 2, none⟩ (.int .i64 n3) = W3 at *
  have f0 := R3.a4.cell 0
  have f1 := R3.a4.cell 1
  have f2 := R3.a4.cell 2
  have f3 := R3.a4.cell 3
  have f4 := R3.a4.cell 4
  have f5 := R3.a4.cell 5
  go_wp2_with fail
  clear f0 f1 f2 f3 f4 f5
  refine (mayBe_any n1 n2 n3 _ _ _ W3).mono ?_
  rintro e W4 ⟨rfl, x4⟩
  have R4 := R3.ext x4
  have r4 := r3.below x4
  clear R3 r3 x4
  obtain ⟨MM, hMM⟩ : ∃ B, mayL n1 n2 n3 = B := ⟨_, rfl⟩
  rw [hMM]
  cases MM
  · have HN : Hid (O = none) := Lib.hid (by rw [HO.out, hMM]; rfl)
    clear hMM HO
    go_wp2_with (refine wpList_store_row rfl 26 _ _ rfl w.heap.size _ rfl rfl 26 _ R4.a2 szSide rfl zone ?_)
    have RF := R4.fin #[.int .i64 0, .int .i64 0, .int .i64 0, .slice none 0 0, .slice none 0 0, .slice none 0 0]
    refine bodyPost_ret (results_row_tmp rfl _ _ w.heap.size 26 _ rfl RF.2 Tryd.underlying26 rfl szSide) rfl ?_
    exact ⟨noneL, _, _, _, false, rfl, RF.1, none_fsr _ _, fun s l' e' h => by rw [HN.out] at h; simp at h, fun _ => rfl⟩
  have hm6 := (mayL_iff _ _ _).1 hMM
  obtain ⟨z1, rfl⟩ := Int.eq_ofNat_of_zero_le hm6.1
  obtain ⟨z2, rfl⟩ := Int.eq_ofNat_of_zero_le (show 0 ≤ n2 by omega)
  have hc0 := cntL_nonneg (z1 : Int) (z2 : Int)
  have hc1 := cntL_le (z1 : Int) (z2 : Int)
  have hg0 := grpsN_nonneg (z1 : Int) (z2 : Int) n3
  have hg1 := grpsN_le (z1 : Int) (z2 : Int) n3
  have hg2 : cntL (z1 : Int) (z2 : Int) ≤ 20000 := by
    unfold cntL
    split
    · omega
    · exact Int.le_trans (Int.ediv_le_self _ (by omega)) (by omega)
  have hg3 : grpsN (z1 : Int) (z2 : Int) n3 ≤ 20010 := by
    unfold grpsN
    split
    · omega
    · exact Int.le_trans (Int.ediv_le_self _ (by omega)) (by omega)
  obtain ⟨C1, hC1⟩ := Int.eq_ofNat_of_zero_le hc0
  obtain ⟨C2, hC2⟩ := Int.eq_ofNat_of_zero_le hg0
  have hC1b : C1 ≤ 20000 := by omega
  have hC2b : C2 ≤ 20010 := by omega
  have hz2 : z2 ≤ 4096 := by omega
  have HM := Lib.hid hm6
  have HMM := Lib.hid hMM
  have HC := Lib.hid (And.intro hC1 hC2)
  have HP : Hid (O = (match rList 32 C1 l3 e3 with
      | none => none
      | some (ls, l4, e4) =>
        match rList z2 C2 l4 e4 with
        | none => none
        | some (ps, l5, e5) => some ((⟨z1, z2, n3, rootL ls, ls, ps⟩ : Sd), l5, e5))) := Lib.hid (by rw [HO.out, hMM, if_pos rfl, hC1, hC2, Int.toNat_natCast, Int.toNat_natCast, Int.toNat_natCast])
  clear hm6 hMM hC1 hC2 hc0 hc1 hg0 hg1 hg2 hg3 HO
  have f0 := R4.a4.cell 0
  have f1 := R4.a4.cell 1
  have f2 := R4.a4.cell 2
  have f3 := R4.a4.cell 3
  have f4 := R4.a4.cell 4
  have f5 := R4.a4.cell 5
  go_wp2_with fail
  clear f0 f1 f2 f3 f4 f5
  refine (leafCount_any z1 z2 n3 _ _ _ W4).mono ?_
  rintro e W5 ⟨rfl, x5⟩
  have R5 := R4.ext x5
  have r5 := r4.below x5
  rw [HC.out.1]
  clear R4 r4 x5
  go_wp2_with fail
  refine (readList_any b l3 e3 C1 32 W5 r5 HB.out.2.2 (by omega) (by omega)).mono ?_
  rintro e W6 ⟨v6, ok6, rfl, o6, q6, p6⟩
  have R6 := R5.only o6 hlt
  have sz5 := R5.sz
  clear R5 r5 o6
  obtain ⟨O6, hO6⟩ : ∃ o, rList 32 C1 l3 e3 = o := ⟨_, rfl⟩
  rw [hO6] at q6 p6 HP
  have HL6 := Lib.hid hO6
  clear hO6
  cases O6 with
  | none =>
    obtain ⟨rfl, rfl⟩ := p6 rfl
    have HN : Hid (O = none) := Lib.hid HP.out
    have c4 := R6.a4.cell 4
    have z4 := R6.a4.frozen 4
    have R7 := R6.set 4 (.slice none 0 0)
    clear q6 p6 HP R6
    go_upto_region 9 with (fail)
    clear c4 z4
    generalize W6.setCell ⟨w.heap.size + 1, 4, none⟩ (.slice none 0 0) = W7 at *
    go_wp2_with (refine wpList_store_row rfl 26 _ _ rfl w.heap.size _ rfl rfl 26 _ R7.a2 szSide rfl zone ?_)
    have RF := R7.fin #[.int .i64 0, .int .i64 0, .int .i64 0, .slice none 0 0, .slice none 0 0, .slice none 0 0]
    refine bodyPost_ret (results_row_tmp rfl _ _ w.heap.size 26 _ rfl RF.2 Tryd.underlying26 rfl szSide) rfl ?_
    exact ⟨noneL, _, _, _, false, rfl, RF.1, none_fsr _ _, fun s l' e' h => by rw [HN.out] at h; simp at h, fun _ => rfl⟩
  | some t6 =>
    obtain ⟨ls, l4, e4⟩ := t6
    obtain ⟨rfl, r6, hb4, F6⟩ := q6 ls l4 e4 rfl
    clear q6 p6
    obtain ⟨adl, capl, ev⟩ := (F6 _ (Or.inr (Nat.le_refl _))).len
    subst ev
    have G6 : Far LR (w.heap.size + 2) W6 (.slice adl ls.length capl) ls := Far.less F6 sz5
    clear F6
    obtain ⟨nl, hnl⟩ : ∃ n, n = ls.length := ⟨_, rfl⟩
    rw [← hnl] at G6 ⊢
    have c4 := R6.a4.cell 4
    have z4 := R6.a4.frozen 4
    have R7 : RS w b #[.int .i64 (z1 : Int), .int .i64 (z2 : Int), .int .i64 n3, .slice none 0 0, .slice adl nl capl, .slice none 0 0] (W6.setCell ⟨w.heap.size + 1, 4, none⟩ (.slice adl nl capl)) := R6.set 4 _
    have r7 := R6.rst r6 hlt 4 (.slice adl nl capl)
    have G7 := G6.only lr_kept (Only.set (w.heap.size + 1) 4 W6 (.slice adl nl capl)) (by omega)
    have Hnl := Lib.hid hnl
    clear R6 r6 G6 hnl sz5
    simp only at HP
    go_upto_region 9 with (fail)
    clear c4 z4
    generalize W6.setCell ⟨w.heap.size + 1, 4, none⟩ (.slice adl nl capl) = W7 at *
    go_upto_region 11 with (fail)
    refine wp_region_any (by kernel_rfl) ?_
    change wpAny _ _ _ _ _ _ _ (World.drew _)
    have R8 := R7.ext (Below.drew (Below.refl _ _) : Ext W7 W7.drew)
    have r8 := r7.below (Below.drew (Below.refl _ _) : Ext W7 W7.drew)
    have G8 := G7.ext lr_kept (Below.drew (Below.refl _ _) : Ext W7 W7.drew)
    clear R7 r7 G7
    generalize W7.drew = W8 at *
    refine take_at 0 (some 31) (.pointer (some ⟨b, 0, none⟩)) rfl rfl (by kernel_rfl) (by kernel_rfl) (by kernel_rfl) (fun _ _ _ h => h) rfl (fun _ => by go_simp) ?_
    simp only [Act.put, List.setIfInBounds_toArray, List.set_cons_zero, List.set_cons_succ]
    refine take_at 3 (some 34) (.pointer (some ⟨w.heap.size + 1, 1, none⟩)) rfl rfl (by kernel_rfl) (by kernel_rfl) (by kernel_rfl) (fun _ _ _ h => h) rfl (fun _ => by go_simp) ?_
    simp only [Act.put, List.setIfInBounds_toArray, List.set_cons_zero, List.set_cons_succ]
    refine next_two 1 4 rfl rfl (by kernel_rfl) rfl rfl (fun K hK => ?_) (fun K hK => ?_)
    · skip
      refine makeS (some 32) rfl (.agg #[.int .i64 (z1 : Int), .int .i64 (z2 : Int), .int .i64 n3, .slice none 0 0, .slice adl nl capl, .slice none 0 0]) (w1 := W8) (exec_load_row 26 _ rfl (w.heap.size + 1) rfl 26 _ R8.a4 Tryd.underlying26 rfl (by kernel_rfl)) ?_
      refine hK _ _ ?_
      clear hK K
      simp only [Act.put, List.setIfInBounds_toArray, List.set_cons_zero, List.set_cons_succ]
      refine next_two 2 4 rfl rfl (by kernel_rfl) rfl rfl (fun K hK => ?_) (fun K hK => ?_)
      · skip
        refine callS (some 33) rfl 36 #[.agg #[.int .i64 (z1 : Int), .int .i64 (z2 : Int), .int .i64 n3, .slice none 0 0, .slice adl nl capl, .slice none 0 0]] (by go_simp) (fun v w' => v = .int .i64 (C2 : Int) ∧ Ext W8 w') ((parityCount_any z1 z2 n3 _ _ _ W8).mono fun _ _ he => ⟨_, he.1.trans (by rw [HC.out.2]), rfl, he.2⟩) ?_
        rintro v9 W9 ⟨rfl, x9⟩
        refine hK _ _ ?_
        clear hK K
        simp only [Act.put, List.setIfInBounds_toArray, List.set_cons_zero, List.set_cons_succ]
        have R9 := R8.ext x9
        have r9 := r8.below x9
        have G9 := G8.ext lr_kept x9
        clear R8 r8 G8 x9
        refine next_one 4 rfl (by kernel_rfl) rfl (fun K hK => ?_)
        refine makeS (some 35) rfl (.int .i64 (z2 : Int)) (w1 := W9) (by have cc : W9.cell? ⟨w.heap.size + 1, 1, none⟩ = some (.int .i64 (z2 : Int)) := (R9.a4.cell 1).trans rfl; go_simp) ?_
        refine hK _ _ ?_
        clear hK K
        simp only [Act.put, List.setIfInBounds_toArray, List.set_cons_zero, List.set_cons_succ]
        refine next_one 5 rfl (by kernel_rfl) rfl (fun K hK => ?_)
        refine callS (some 36) rfl 79 #[.pointer (some ⟨b, 0, none⟩), .int .i64 (C2 : Int), .int .i64 (z2 : Int)] (by go_simp) (fun v w' => RLPost W9 b (rList z2 C2 l4 e4) (.returned v) w') ((readList_any b l4 e4 C2 z2 W9 r9 hb4 (by omega) (by omega)).mono fun _ _ he => by obtain ⟨v, ok, h1, h2⟩ := he; exact ⟨_, h1, v, ok, rfl, h2⟩) ?_
        rintro vt WA ⟨vp, okp, evt, oA, qA, pA⟩
        injection evt with evt
        subst evt
        refine hK _ _ ?_
        clear hK K
        simp only [Act.put, List.setIfInBounds_toArray, List.set_cons_zero, List.set_cons_succ]
        have RA := R9.only oA hlt
        have GA := G9.only lr_kept oA (by omega)
        have szA := R9.sz
        clear R9 G9 oA r9
        obtain ⟨adp, np, capp, evp⟩ : ∃ a n c, vp = .slice a n c := by
          obtain ⟨O7, hO7⟩ : ∃ o, rList z2 C2 l4 e4 = o := ⟨_, rfl⟩
          cases O7 with
          | none => exact ⟨_, _, _, (pA hO7).2⟩
          | some t7 =>
            obtain ⟨ps, l5, e5⟩ := t7
            obtain ⟨ad, cap, ev⟩ := ((qA ps l5 e5 hO7).2.2.2 _ (Or.inr (Nat.le_refl _))).len
            exact ⟨_, _, _, ev⟩
        subst evp
        refine take_at 6 (some 30) (.tuple #[.slice adp np capp, .bool okp]) rfl rfl (by kernel_rfl) (by kernel_rfl) (by kernel_rfl) (fun _ _ _ h => h) rfl (fun _ => by go_simp) ?_
        simp only [Act.put, List.setIfInBounds_toArray, List.set_cons_zero, List.set_cons_succ]
        refine take_at 7 (some 37) (.slice adp np capp) rfl rfl (by kernel_rfl) (by kernel_rfl) (by kernel_rfl) (fun _ _ _ h => h) rfl (fun _ => by go_simp) ?_
        simp only [Act.put, List.setIfInBounds_toArray, List.set_cons_zero, List.set_cons_succ]
        refine take_at 8 (some 38) (.bool okp) rfl rfl (by kernel_rfl) (by kernel_rfl) (by kernel_rfl) (fun _ _ _ h => h) rfl (fun _ => by go_simp) ?_
        simp only [Act.put, List.setIfInBounds_toArray, List.set_cons_zero, List.set_cons_succ]
        refine take_at 9 (some 39) (.pointer (some ⟨w.heap.size + 1, 5, none⟩)) rfl rfl (by kernel_rfl) (by kernel_rfl) (by kernel_rfl) (fun _ _ _ h => h) rfl (fun _ => by go_simp) ?_
        simp only [Act.put, List.setIfInBounds_toArray, List.set_cons_zero, List.set_cons_succ]
        refine next_one 10 rfl (by kernel_rfl) rfl (fun K hK => ?_)
        refine at_store_c rfl (WA.setCell ⟨w.heap.size + 1, 5, none⟩ (.slice adp np capp)) (by have cc := RA.a4.cell 5; have zz := RA.a4.frozen 5; go_simp) ?_
        refine hK _ _ ?_
        clear hK K
        have RB : RS w b #[.int .i64 (z1 : Int), .int .i64 (z2 : Int), .int .i64 n3, .slice none 0 0, .slice adl nl capl, .slice adp np capp] (WA.setCell ⟨w.heap.size + 1, 5, none⟩ (.slice adp np capp)) := RA.set 5 _
        have GB := GA.only lr_kept (Only.set (w.heap.size + 1) 5 WA (.slice adp np capp)) (by omega)
        refine take_at 11 (some 5) (.bool okp) rfl rfl (by kernel_rfl) (by kernel_rfl) (by kernel_rfl) (fun _ _ _ h => h) rfl (fun _ => by go_simp) ?_
        simp only [Act.put, List.setIfInBounds_toArray, List.set_cons_zero, List.set_cons_succ]
        refine wpAny_done (by kernel_rfl) ?_ _
        obtain ⟨O7, hO7⟩ : ∃ o, rList z2 C2 l4 e4 = o := ⟨_, rfl⟩
        rw [hO7] at qA pA HP
        clear hO7
        cases O7 with
        | none =>
          obtain ⟨rfl, _⟩ := pA rfl
          have HN : Hid (O = none) := Lib.hid HP.out
          clear qA pA HP RA GA GB
          generalize WA.setCell ⟨w.heap.size + 1, 5, none⟩ (.slice adp np capp) = WB at *
          go_wp2_with (refine wpList_store_row rfl 26 _ _ rfl w.heap.size _ rfl rfl 26 _ RB.a2 szSide rfl zone ?_)
          have RF := RB.fin #[.int .i64 0, .int .i64 0, .int .i64 0, .slice none 0 0, .slice none 0 0, .slice none 0 0]
          refine bodyPost_ret (results_row_tmp rfl _ _ w.heap.size 26 _ rfl RF.2 Tryd.underlying26 rfl szSide) rfl ?_
          exact ⟨noneL, _, _, _, false, rfl, RF.1, none_fsr _ _, fun s l' e' h => by rw [HN.out] at h; simp at h, fun _ => rfl⟩
        | some t7 =>
          obtain ⟨ps, l5, e5⟩ := t7
          obtain ⟨rfl, rA, _, FA⟩ := qA ps l5 e5 rfl
          have PA : Far LR (w.heap.size + 2) WA (.slice adp np capp) ps := Far.less FA szA
          have rB := RA.rst rA hlt 5 (.slice adp np capp)
          have PB := PA.only lr_kept (Only.set (w.heap.size + 1) 5 WA (.slice adp np capp)) (by omega)
          simp only at HP
          clear qA pA RA GA FA PA rA
          generalize WA.setCell ⟨w.heap.size + 1, 5, none⟩ (.slice adp np capp) = WB at *
          have c4 := RB.a4.cell 4
          go_wp2_with fail
          clear c4
          have hrl := rList_len 32 C1 l3 e3 ls l4 e4 HL6.out
          refine (root_any _ ls WB (RB.o.k hK hb0) GB.now (by omega) (fun m hm => by have := hrl.2 m hm; omega)).mono ?_
          rintro e WC ⟨vr, rfl, xC, oC⟩
          have RC := RB.ext xC
          have rC := rB.below xC
          have GC := GB.ext lr_kept xC
          have PC := PB.ext lr_kept xC
          have QC : Far Src (w.heap.size + 2) WC vr (rootL ls) := Far.less (own_far oC) RB.sz
          clear RB rB GB PB xC oC hrl
          obtain ⟨adr, capr, ev⟩ := QC.now.len
          subst ev
          obtain ⟨nr, hnr⟩ : ∃ n, n = (rootL ls).length := ⟨_, rfl⟩
          rw [← hnr] at QC ⊢
          have Hnr := Lib.hid hnr; clear hnr
          have c3 := RC.a4.cell 3
          have z3 := RC.a4.frozen 3
          have RD : RS w b #[.int .i64 (z1 : Int), .int .i64 (z2 : Int), .int .i64 n3, .slice adr nr capr, .slice adl nl capl, .slice adp np capp] (WC.setCell ⟨w.heap.size + 1, 3, none⟩ (.slice adr nr capr)) := RC.set 3 _
          have rD := RC.rst rC hlt 3 (.slice adr nr capr)
          have oD := Only.set (w.heap.size + 1) 3 WC (.slice adr nr capr)
          have GD := GC.only lr_kept oD (by omega)
          have PD := PC.only lr_kept oD (by omega)
          have QD := QC.only src_kept oD (by omega)
          clear RC rC GC PC QC oD
          go_upto_region 15 with (fail)
          clear c3 z3
          generalize WC.setCell ⟨w.heap.size + 1, 3, none⟩ (.slice adr nr capr) = WD at *
          have one : (#[.int .i64 (z1 : Int), .int .i64 (z2 : Int), .int .i64 n3, .slice adr nr capr, .slice adl nl capl, .slice adp np capp] : Array Value).all (·.oneCell') = true := by simp [Value.oneCell']
          have a4 := RD.a4
          have a2 := RD.a2
          have RF := RD.fin #[.int .i64 (z1 : Int), .int .i64 (z2 : Int), .int .i64 n3, .slice adr nr capr, .slice adl nl capl, .slice adp np capp]
          have oE := Only.setRow w.heap.size WD #[.int .i64 (z1 : Int), .int .i64 (z2 : Int), .int .i64 n3, .slice adr nr capr, .slice adl nl capl, .slice adp np capp]
          have GE := GD.only lr_kept oE (by omega)
          have PE := PD.only lr_kept oE (by omega)
          have QE := QD.only src_kept oE (by omega)
          have rE := rst_grow rD (oE.below (Below.refl w.heap.size WD) (Nat.le_refl _) (by have := RD.sz; omega)) hlt
          have Hf := Lib.hid (And.intro RF (And.intro GE (And.intro PE (And.intro QE rE))))
          clear RF GE PE QE rE oE GD PD QD rD RD
          go_wp2_with (first | (refine wpList_load_row rfl 26 _ rfl (w.heap.size + 1) rfl 26 _ (0, 0) _ a4 Tryd.underlying26 rfl szSide ?_) | (refine wpList_store_row rfl 26 _ _ rfl w.heap.size _ rfl rfl 26 _ a2 szSide rfl one ?_))
          refine bodyPost_ret (results_row_tmp rfl _ _ w.heap.size 26 _ rfl Hf.out.1.2 Tryd.underlying26 rfl szSide) rfl ?_
          obtain ⟨RF, GE, PE, QE, rE⟩ := Hf.out
          refine ⟨⟨z1, z2, n3, rootL ls, ls, ps⟩, _, _, _, true, rfl, RF.1, ⟨QE.less (by omega), GE.less (by omega), PE.less (by omega)⟩, fun s l' e' h => ?_, fun h => by rw [HP.out] at h; simp at h⟩
          rw [HP.out] at h
          injection h with h
          injection h with h1 h2
          injection h2 with h2 h3
          subst h1 h2 h3
          exact ⟨rfl, rfl, rE⟩
      · skip
        refine makeS (some 35) rfl (.int .i64 (z2 : Int)) (w1 := W8) (by have cc : W8.cell? ⟨w.heap.size + 1, 1, none⟩ = some (.int .i64 (z2 : Int)) := (R8.a4.cell 1).trans rfl; go_simp) ?_
        refine hK _ _ ?_
        clear hK K
        simp only [Act.put, List.setIfInBounds_toArray, List.set_cons_zero, List.set_cons_succ]
        refine next_one 2 rfl (by kernel_rfl) rfl (fun K hK => ?_)
        refine callS (some 33) rfl 36 #[.agg #[.int .i64 (z1 : Int), .int .i64 (z2 : Int), .int .i64 n3, .slice none 0 0, .slice adl nl capl, .slice none 0 0]] (by go_simp) (fun v w' => v = .int .i64 (C2 : Int) ∧ Ext W8 w') ((parityCount_any z1 z2 n3 _ _ _ W8).mono fun _ _ he => ⟨_, he.1.trans (by rw [HC.out.2]), rfl, he.2⟩) ?_
        rintro v9 W9 ⟨rfl, x9⟩
        refine hK _ _ ?_
        clear hK K
        simp only [Act.put, List.setIfInBounds_toArray, List.set_cons_zero, List.set_cons_succ]
        have R9 := R8.ext x9
        have r9 := r8.below x9
        have G9 := G8.ext lr_kept x9
        clear R8 r8 G8 x9
        refine next_one 5 rfl (by kernel_rfl) rfl (fun K hK => ?_)
        refine callS (some 36) rfl 79 #[.pointer (some ⟨b, 0, none⟩), .int .i64 (C2 : Int), .int .i64 (z2 : Int)] (by go_simp) (fun v w' => RLPost W9 b (rList z2 C2 l4 e4) (.returned v) w') ((readList_any b l4 e4 C2 z2 W9 r9 hb4 (by omega) (by omega)).mono fun _ _ he => by obtain ⟨v, ok, h1, h2⟩ := he; exact ⟨_, h1, v, ok, rfl, h2⟩) ?_
        rintro vt WA ⟨vp, okp, evt, oA, qA, pA⟩
        injection evt with evt
        subst evt
        refine hK _ _ ?_
        clear hK K
        simp only [Act.put, List.setIfInBounds_toArray, List.set_cons_zero, List.set_cons_succ]
        have RA := R9.only oA hlt
        have GA := G9.only lr_kept oA (by omega)
        have szA := R9.sz
        clear R9 G9 oA r9
        obtain ⟨adp, np, capp, evp⟩ : ∃ a n c, vp = .slice a n c := by
          obtain ⟨O7, hO7⟩ : ∃ o, rList z2 C2 l4 e4 = o := ⟨_, rfl⟩
          cases O7 with
          | none => exact ⟨_, _, _, (pA hO7).2⟩
          | some t7 =>
            obtain ⟨ps, l5, e5⟩ := t7
            obtain ⟨ad, cap, ev⟩ := ((qA ps l5 e5 hO7).2.2.2 _ (Or.inr (Nat.le_refl _))).len
            exact ⟨_, _, _, ev⟩
        subst evp
        refine take_at 6 (some 30) (.tuple #[.slice adp np capp, .bool okp]) rfl rfl (by kernel_rfl) (by kernel_rfl) (by kernel_rfl) (fun _ _ _ h => h) rfl (fun _ => by go_simp) ?_
        simp only [Act.put, List.setIfInBounds_toArray, List.set_cons_zero, List.set_cons_succ]
        refine take_at 7 (some 37) (.slice adp np capp) rfl rfl (by kernel_rfl) (by kernel_rfl) (by kernel_rfl) (fun _ _ _ h => h) rfl (fun _ => by go_simp) ?_
        simp only [Act.put, List.setIfInBounds_toArray, List.set_cons_zero, List.set_cons_succ]
        refine take_at 8 (some 38) (.bool okp) rfl rfl (by kernel_rfl) (by kernel_rfl) (by kernel_rfl) (fun _ _ _ h => h) rfl (fun _ => by go_simp) ?_
        simp only [Act.put, List.setIfInBounds_toArray, List.set_cons_zero, List.set_cons_succ]
        refine take_at 9 (some 39) (.pointer (some ⟨w.heap.size + 1, 5, none⟩)) rfl rfl (by kernel_rfl) (by kernel_rfl) (by kernel_rfl) (fun _ _ _ h => h) rfl (fun _ => by go_simp) ?_
        simp only [Act.put, List.setIfInBounds_toArray, List.set_cons_zero, List.set_cons_succ]
        refine next_one 10 rfl (by kernel_rfl) rfl (fun K hK => ?_)
        refine at_store_c rfl (WA.setCell ⟨w.heap.size + 1, 5, none⟩ (.slice adp np capp)) (by have cc := RA.a4.cell 5; have zz := RA.a4.frozen 5; go_simp) ?_
        refine hK _ _ ?_
        clear hK K
        have RB : RS w b #[.int .i64 (z1 : Int), .int .i64 (z2 : Int), .int .i64 n3, .slice none 0 0, .slice adl nl capl, .slice adp np capp] (WA.setCell ⟨w.heap.size + 1, 5, none⟩ (.slice adp np capp)) := RA.set 5 _
        have GB := GA.only lr_kept (Only.set (w.heap.size + 1) 5 WA (.slice adp np capp)) (by omega)
        refine take_at 11 (some 5) (.bool okp) rfl rfl (by kernel_rfl) (by kernel_rfl) (by kernel_rfl) (fun _ _ _ h => h) rfl (fun _ => by go_simp) ?_
        simp only [Act.put, List.setIfInBounds_toArray, List.set_cons_zero, List.set_cons_succ]
        refine wpAny_done (by kernel_rfl) ?_ _
        obtain ⟨O7, hO7⟩ : ∃ o, rList z2 C2 l4 e4 = o := ⟨_, rfl⟩
        rw [hO7] at qA pA HP
        clear hO7
        cases O7 with
        | none =>
          obtain ⟨rfl, _⟩ := pA rfl
          have HN : Hid (O = none) := Lib.hid HP.out
          clear qA pA HP RA GA GB
          generalize WA.setCell ⟨w.heap.size + 1, 5, none⟩ (.slice adp np capp) = WB at *
          go_wp2_with (refine wpList_store_row rfl 26 _ _ rfl w.heap.size _ rfl rfl 26 _ RB.a2 szSide rfl zone ?_)
          have RF := RB.fin #[.int .i64 0, .int .i64 0, .int .i64 0, .slice none 0 0, .slice none 0 0, .slice none 0 0]
          refine bodyPost_ret (results_row_tmp rfl _ _ w.heap.size 26 _ rfl RF.2 Tryd.underlying26 rfl szSide) rfl ?_
          exact ⟨noneL, _, _, _, false, rfl, RF.1, none_fsr _ _, fun s l' e' h => by rw [HN.out] at h; simp at h, fun _ => rfl⟩
        | some t7 =>
          obtain ⟨ps, l5, e5⟩ := t7
          obtain ⟨rfl, rA, _, FA⟩ := qA ps l5 e5 rfl
          have PA : Far LR (w.heap.size + 2) WA (.slice adp np capp) ps := Far.less FA szA
          have rB := RA.rst rA hlt 5 (.slice adp np capp)
          have PB := PA.only lr_kept (Only.set (w.heap.size + 1) 5 WA (.slice adp np capp)) (by omega)
          simp only at HP
          clear qA pA RA GA FA PA rA
          generalize WA.setCell ⟨w.heap.size + 1, 5, none⟩ (.slice adp np capp) = WB at *
          have c4 := RB.a4.cell 4
          go_wp2_with fail
          clear c4
          have hrl := rList_len 32 C1 l3 e3 ls l4 e4 HL6.out
          refine (root_any _ ls WB (RB.o.k hK hb0) GB.now (by omega) (fun m hm => by have := hrl.2 m hm; omega)).mono ?_
          rintro e WC ⟨vr, rfl, xC, oC⟩
          have RC := RB.ext xC
          have rC := rB.below xC
          have GC := GB.ext lr_kept xC
          have PC := PB.ext lr_kept xC
          have QC : Far Src (w.heap.size + 2) WC vr (rootL ls) := Far.less (own_far oC) RB.sz
          clear RB rB GB PB xC oC hrl
          obtain ⟨adr, capr, ev⟩ := QC.now.len
          subst ev
          obtain ⟨nr, hnr⟩ : ∃ n, n = (rootL ls).length := ⟨_, rfl⟩
          rw [← hnr] at QC ⊢
          have Hnr := Lib.hid hnr; clear hnr
          have c3 := RC.a4.cell 3
          have z3 := RC.a4.frozen 3
          have RD : RS w b #[.int .i64 (z1 : Int), .int .i64 (z2 : Int), .int .i64 n3, .slice adr nr capr, .slice adl nl capl, .slice adp np capp] (WC.setCell ⟨w.heap.size + 1, 3, none⟩ (.slice adr nr capr)) := RC.set 3 _
          have rD := RC.rst rC hlt 3 (.slice adr nr capr)
          have oD := Only.set (w.heap.size + 1) 3 WC (.slice adr nr capr)
          have GD := GC.only lr_kept oD (by omega)
          have PD := PC.only lr_kept oD (by omega)
          have QD := QC.only src_kept oD (by omega)
          clear RC rC GC PC QC oD
          go_upto_region 15 with (fail)
          clear c3 z3
          generalize WC.setCell ⟨w.heap.size + 1, 3, none⟩ (.slice adr nr capr) = WD at *
          have one : (#[.int .i64 (z1 : Int), .int .i64 (z2 : Int), .int .i64 n3, .slice adr nr capr, .slice adl nl capl, .slice adp np capp] : Array Value).all (·.oneCell') = true := by simp [Value.oneCell']
          have a4 := RD.a4
          have a2 := RD.a2
          have RF := RD.fin #[.int .i64 (z1 : Int), .int .i64 (z2 : Int), .int .i64 n3, .slice adr nr capr, .slice adl nl capl, .slice adp np capp]
          have oE := Only.setRow w.heap.size WD #[.int .i64 (z1 : Int), .int .i64 (z2 : Int), .int .i64 n3, .slice adr nr capr, .slice adl nl capl, .slice adp np capp]
          have GE := GD.only lr_kept oE (by omega)
          have PE := PD.only lr_kept oE (by omega)
          have QE := QD.only src_kept oE (by omega)
          have rE := rst_grow rD (oE.below (Below.refl w.heap.size WD) (Nat.le_refl _) (by have := RD.sz; omega)) hlt
          have Hf := Lib.hid (And.intro RF (And.intro GE (And.intro PE (And.intro QE rE))))
          clear RF GE PE QE rE oE GD PD QD rD RD
          go_wp2_with (first | (refine wpList_load_row rfl 26 _ rfl (w.heap.size + 1) rfl 26 _ (0, 0) _ a4 Tryd.underlying26 rfl szSide ?_) | (refine wpList_store_row rfl 26 _ _ rfl w.heap.size _ rfl rfl 26 _ a2 szSide rfl one ?_))
          refine bodyPost_ret (results_row_tmp rfl _ _ w.heap.size 26 _ rfl Hf.out.1.2 Tryd.underlying26 rfl szSide) rfl ?_
          obtain ⟨RF, GE, PE, QE, rE⟩ := Hf.out
          refine ⟨⟨z1, z2, n3, rootL ls, ls, ps⟩, _, _, _, true, rfl, RF.1, ⟨QE.less (by omega), GE.less (by omega), PE.less (by omega)⟩, fun s l' e' h => ?_, fun h => by rw [HP.out] at h; simp at h⟩
          rw [HP.out] at h
          injection h with h
          injection h with h1 h2
          injection h2 with h2 h3
          subst h1 h2 h3
          exact ⟨rfl, rfl, rE⟩
    · skip
      refine makeS (some 35) rfl (.int .i64 (z2 : Int)) (w1 := W8) (by have cc : W8.cell? ⟨w.heap.size + 1, 1, none⟩ = some (.int .i64 (z2 : Int)) := (R8.a4.cell 1).trans rfl; go_simp) ?_
      refine hK _ _ ?_
      clear hK K
      simp only [Act.put, List.setIfInBounds_toArray, List.set_cons_zero, List.set_cons_succ]
      refine next_one 1 rfl (by kernel_rfl) rfl (fun K hK => ?_)
      refine makeS (some 32) rfl (.agg #[.int .i64 (z1 : Int), .int .i64 (z2 : Int), .int .i64 n3, .slice none 0 0, .slice adl nl capl, .slice none 0 0]) (w1 := W8) (exec_load_row 26 _ rfl (w.heap.size + 1) rfl 26 _ R8.a4 Tryd.underlying26 rfl (by kernel_rfl)) ?_
      refine hK _ _ ?_
      clear hK K
      simp only [Act.put, List.setIfInBounds_toArray, List.set_cons_zero, List.set_cons_succ]
      refine next_one 2 rfl (by kernel_rfl) rfl (fun K hK => ?_)
      refine callS (some 33) rfl 36 #[.agg #[.int .i64 (z1 : Int), .int .i64 (z2 : Int), .int .i64 n3, .slice none 0 0, .slice adl nl capl, .slice none 0 0]] (by go_simp) (fun v w' => v = .int .i64 (C2 : Int) ∧ Ext W8 w') ((parityCount_any z1 z2 n3 _ _ _ W8).mono fun _ _ he => ⟨_, he.1.trans (by rw [HC.out.2]), rfl, he.2⟩) ?_
      rintro v9 W9 ⟨rfl, x9⟩
      refine hK _ _ ?_
      clear hK K
      simp only [Act.put, List.setIfInBounds_toArray, List.set_cons_zero, List.set_cons_succ]
      have R9 := R8.ext x9
      have r9 := r8.below x9
      have G9 := G8.ext lr_kept x9
      clear R8 r8 G8 x9
      refine next_one 5 rfl (by kernel_rfl) rfl (fun K hK => ?_)
      refine callS (some 36) rfl 79 #[.pointer (some ⟨b, 0, none⟩), .int .i64 (C2 : Int), .int .i64 (z2 : Int)] (by go_simp) (fun v w' => RLPost W9 b (rList z2 C2 l4 e4) (.returned v) w') ((readList_any b l4 e4 C2 z2 W9 r9 hb4 (by omega) (by omega)).mono fun _ _ he => by obtain ⟨v, ok, h1, h2⟩ := he; exact ⟨_, h1, v, ok, rfl, h2⟩) ?_
      rintro vt WA ⟨vp, okp, evt, oA, qA, pA⟩
      injection evt with evt
      subst evt
      refine hK _ _ ?_
      clear hK K
      simp only [Act.put, List.setIfInBounds_toArray, List.set_cons_zero, List.set_cons_succ]
      have RA := R9.only oA hlt
      have GA := G9.only lr_kept oA (by omega)
      have szA := R9.sz
      clear R9 G9 oA r9
      obtain ⟨adp, np, capp, evp⟩ : ∃ a n c, vp = .slice a n c := by
        obtain ⟨O7, hO7⟩ : ∃ o, rList z2 C2 l4 e4 = o := ⟨_, rfl⟩
        cases O7 with
        | none => exact ⟨_, _, _, (pA hO7).2⟩
        | some t7 =>
          obtain ⟨ps, l5, e5⟩ := t7
          obtain ⟨ad, cap, ev⟩ := ((qA ps l5 e5 hO7).2.2.2 _ (Or.inr (Nat.le_refl _))).len
          exact ⟨_, _, _, ev⟩
      subst evp
      refine take_at 6 (some 30) (.tuple #[.slice adp np capp, .bool okp]) rfl rfl (by kernel_rfl) (by kernel_rfl) (by kernel_rfl) (fun _ _ _ h => h) rfl (fun _ => by go_simp) ?_
      simp only [Act.put, List.setIfInBounds_toArray, List.set_cons_zero, List.set_cons_succ]
      refine take_at 7 (some 37) (.slice adp np capp) rfl rfl (by kernel_rfl) (by kernel_rfl) (by kernel_rfl) (fun _ _ _ h => h) rfl (fun _ => by go_simp) ?_
      simp only [Act.put, List.setIfInBounds_toArray, List.set_cons_zero, List.set_cons_succ]
      refine take_at 8 (some 38) (.bool okp) rfl rfl (by kernel_rfl) (by kernel_rfl) (by kernel_rfl) (fun _ _ _ h => h) rfl (fun _ => by go_simp) ?_
      simp only [Act.put, List.setIfInBounds_toArray, List.set_cons_zero, List.set_cons_succ]
      refine take_at 9 (some 39) (.pointer (some ⟨w.heap.size + 1, 5, none⟩)) rfl rfl (by kernel_rfl) (by kernel_rfl) (by kernel_rfl) (fun _ _ _ h => h) rfl (fun _ => by go_simp) ?_
      simp only [Act.put, List.setIfInBounds_toArray, List.set_cons_zero, List.set_cons_succ]
      refine next_one 10 rfl (by kernel_rfl) rfl (fun K hK => ?_)
      refine at_store_c rfl (WA.setCell ⟨w.heap.size + 1, 5, none⟩ (.slice adp np capp)) (by have cc := RA.a4.cell 5; have zz := RA.a4.frozen 5; go_simp) ?_
      refine hK _ _ ?_
      clear hK K
      have RB : RS w b #[.int .i64 (z1 : Int), .int .i64 (z2 : Int), .int .i64 n3, .slice none 0 0, .slice adl nl capl, .slice adp np capp] (WA.setCell ⟨w.heap.size + 1, 5, none⟩ (.slice adp np capp)) := RA.set 5 _
      have GB := GA.only lr_kept (Only.set (w.heap.size + 1) 5 WA (.slice adp np capp)) (by omega)
      refine take_at 11 (some 5) (.bool okp) rfl rfl (by kernel_rfl) (by kernel_rfl) (by kernel_rfl) (fun _ _ _ h => h) rfl (fun _ => by go_simp) ?_
      simp only [Act.put, List.setIfInBounds_toArray, List.set_cons_zero, List.set_cons_succ]
      refine wpAny_done (by kernel_rfl) ?_ _
      obtain ⟨O7, hO7⟩ : ∃ o, rList z2 C2 l4 e4 = o := ⟨_, rfl⟩
      rw [hO7] at qA pA HP
      clear hO7
      cases O7 with
      | none =>
        obtain ⟨rfl, _⟩ := pA rfl
        have HN : Hid (O = none) := Lib.hid HP.out
        clear qA pA HP RA GA GB
        generalize WA.setCell ⟨w.heap.size + 1, 5, none⟩ (.slice adp np capp) = WB at *
        go_wp2_with (refine wpList_store_row rfl 26 _ _ rfl w.heap.size _ rfl rfl 26 _ RB.a2 szSide rfl zone ?_)
        have RF := RB.fin #[.int .i64 0, .int .i64 0, .int .i64 0, .slice none 0 0, .slice none 0 0, .slice none 0 0]
        refine bodyPost_ret (results_row_tmp rfl _ _ w.heap.size 26 _ rfl RF.2 Tryd.underlying26 rfl szSide) rfl ?_
        exact ⟨noneL, _, _, _, false, rfl, RF.1, none_fsr _ _, fun s l' e' h => by rw [HN.out] at h; simp at h, fun _ => rfl⟩
      | some t7 =>
        obtain ⟨ps, l5, e5⟩ := t7
        obtain ⟨rfl, rA, _, FA⟩ := qA ps l5 e5 rfl
        have PA : Far LR (w.heap.size + 2) WA (.slice adp np capp) ps := Far.less FA szA
        have rB := RA.rst rA hlt 5 (.slice adp np capp)
        have PB := PA.only lr_kept (Only.set (w.heap.size + 1) 5 WA (.slice adp np capp)) (by omega)
        simp only at HP
        clear qA pA RA GA FA PA rA
        generalize WA.setCell ⟨w.heap.size + 1, 5, none⟩ (.slice adp np capp) = WB at *
        have c4 := RB.a4.cell 4
        go_wp2_with fail
        clear c4
        have hrl := rList_len 32 C1 l3 e3 ls l4 e4 HL6.out
        refine (root_any _ ls WB (RB.o.k hK hb0) GB.now (by omega) (fun m hm => by have := hrl.2 m hm; omega)).mono ?_
        rintro e WC ⟨vr, rfl, xC, oC⟩
        have RC := RB.ext xC
        have rC := rB.below xC
        have GC := GB.ext lr_kept xC
        have PC := PB.ext lr_kept xC
        have QC : Far Src (w.heap.size + 2) WC vr (rootL ls) := Far.less (own_far oC) RB.sz
        clear RB rB GB PB xC oC hrl
        obtain ⟨adr, capr, ev⟩ := QC.now.len
        subst ev
        obtain ⟨nr, hnr⟩ : ∃ n, n = (rootL ls).length := ⟨_, rfl⟩
        rw [← hnr] at QC ⊢
        have Hnr := Lib.hid hnr; clear hnr
        have c3 := RC.a4.cell 3
        have z3 := RC.a4.frozen 3
        have RD : RS w b #[.int .i64 (z1 : Int), .int .i64 (z2 : Int), .int .i64 n3, .slice adr nr capr, .slice adl nl capl, .slice adp np capp] (WC.setCell ⟨w.heap.size + 1, 3, none⟩ (.slice adr nr capr)) := RC.set 3 _
        have rD := RC.rst rC hlt 3 (.slice adr nr capr)
        have oD := Only.set (w.heap.size + 1) 3 WC (.slice adr nr capr)
        have GD := GC.only lr_kept oD (by omega)
        have PD := PC.only lr_kept oD (by omega)
        have QD := QC.only src_kept oD (by omega)
        clear RC rC GC PC QC oD
        go_upto_region 15 with (fail)
        clear c3 z3
        generalize WC.setCell ⟨w.heap.size + 1, 3, none⟩ (.slice adr nr capr) = WD at *
        have one : (#[.int .i64 (z1 : Int), .int .i64 (z2 : Int), .int .i64 n3, .slice adr nr capr, .slice adl nl capl, .slice adp np capp] : Array Value).all (·.oneCell') = true := by simp [Value.oneCell']
        have a4 := RD.a4
        have a2 := RD.a2
        have RF := RD.fin #[.int .i64 (z1 : Int), .int .i64 (z2 : Int), .int .i64 n3, .slice adr nr capr, .slice adl nl capl, .slice adp np capp]
        have oE := Only.setRow w.heap.size WD #[.int .i64 (z1 : Int), .int .i64 (z2 : Int), .int .i64 n3, .slice adr nr capr, .slice adl nl capl, .slice adp np capp]
        have GE := GD.only lr_kept oE (by omega)
        have PE := PD.only lr_kept oE (by omega)
        have QE := QD.only src_kept oE (by omega)
        have rE := rst_grow rD (oE.below (Below.refl w.heap.size WD) (Nat.le_refl _) (by have := RD.sz; omega)) hlt
        have Hf := Lib.hid (And.intro RF (And.intro GE (And.intro PE (And.intro QE rE))))
        clear RF GE PE QE rE oE GD PD QD rD RD
        go_wp2_with (first | (refine wpList_load_row rfl 26 _ rfl (w.heap.size + 1) rfl 26 _ (0, 0) _ a4 Tryd.underlying26 rfl szSide ?_) | (refine wpList_store_row rfl 26 _ _ rfl w.heap.size _ rfl rfl 26 _ a2 szSide rfl one ?_))
        refine bodyPost_ret (results_row_tmp rfl _ _ w.heap.size 26 _ rfl Hf.out.1.2 Tryd.underlying26 rfl szSide) rfl ?_
        obtain ⟨RF, GE, PE, QE, rE⟩ := Hf.out
        refine ⟨⟨z1, z2, n3, rootL ls, ls, ps⟩, _, _, _, true, rfl, RF.1, ⟨QE.less (by omega), GE.less (by omega), PE.less (by omega)⟩, fun s l' e' h => ?_, fun h => by rw [HP.out] at h; simp at h⟩
        rw [HP.out] at h
        injection h with h
        injection h with h1 h2
        injection h2 with h2 h3
        subst h1 h2 h3
        exact ⟨rfl, rfl, rE⟩
end Go.Proofs.YtfhgoedonjcekaaDoor
