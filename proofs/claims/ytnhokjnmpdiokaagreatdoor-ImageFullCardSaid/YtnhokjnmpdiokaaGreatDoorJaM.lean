/- What Open does on a new store, whole; the law's fresh. No conditions but those named: contracts. The document's own SameRef, SameRefs, of what is alike. No conditions but those named: contracts. What All and Get answer. No conditions but those named: contracts. The law's shows, where the archive shows the image. No conditions but those named: contracts. -/
import Derived.Test.YtnhokjnmpdiokaaGreatDoorIrM
import Derived.Test.YtnhokjnmpdiokaaGreatDoorVHM
import Derived.Test.YtnhokjnmpdiokaaGreatDoorIf
import Derived.Test.YtnhokjnmpdiokaaGreatDoorInM
import Derived.Test.YtnhokjnmpdiokaaGreatDoorSaM
namespace Go.Proofs.YtnhokjnmpdiokaaGreatDoor
open Go.RowKit Go.Sha Go.Pth
set_option linter.unusedSimpArgs false
set_option linter.unusedVariables false

set_option maxRecDepth 100000 in
set_option maxHeartbeats 8000000 in
theorem settle_new {w : World} {sb ab : Nat} {S : V.SV} {W : V.SW} {L : Nat → Option V.Role} {n : Nat} (A : Arc w sb ab S W L 0 (.slice none 0 0) []) (h : Nul S n) (hn : n ≤ 10000) :
    Calls Tryz.prog 43 #[V.ptr ab] w fun e w' => e = .returned (.int .i64 0) ∧ NwP w sb ab (n + 2) L w' := by
  have MH := Lib.hid (makeHome_new A h hn)
  have CL := Lib.hid (fun (d : Nat) (W1 : V.SW) (L1 : Nat → Option V.Role) (w1 : World) (A1 : Arc w1 sb ab (S.beg.made d V.homeB 2) W1 L1 0 (.slice none 0 0) []) => clear_new h hn A1)
  clear A h
  unfold V.ptr at MH CL ⊢
  go_enter Tryz.func43, Tryz.ntmps43
  go_wp2_with fail
  refine (MH.out).mono ?_
  rintro e w1 ⟨rfl, d, W1, L1, A1, M1⟩
  have c1 : w1.cell? ⟨ab, 1, none⟩ = some (.int .i64 0) := A1.c.2.1
  have CK := Lib.hid (CL.out d W1 L1 w1 A1)
  have HM1 := Lib.hid M1
  clear A1 M1 MH CL
  go_wp2_with fail
  refine (CK.out).mono ?_
  rintro e w2 ⟨rfl, S2, W2, L2, d2, A2, MD2, M2⟩
  have SC := Lib.hid (scrub_zero A2)
  have H2 := Lib.hid (And.intro A2 (And.intro MD2 (HM1.out.trans M2)))
  unfold V.ptr at SC
  clear A2 MD2 M2 CK c1
  go_wp2_with fail
  refine (SC.out).mono ?_
  rintro e w3 ⟨rfl, e3⟩
  have F := Lib.hid (show NwP w sb ab (n + 2) L w3 from ⟨S2, W2, L2, d2, H2.out.1.ext e3, H2.out.2.1, H2.out.2.2.trans (Mv.of_ext e3)⟩)
  clear e3 SC
  go_wp2
  go_ret
  exact ⟨rfl, F.out⟩
def FrP (w : World) (n : Nat) (w' : World) (sb ab : Nat) : Prop := ∃ S W L d, Arc w' sb ab S W L 0 (.slice none 0 0) [] ∧ V.Mt S n d [] ∧ Ext w w' ∧ (∀ i, L i ≠ none → w.heap.size ≤ i) ∧ w.heap.size ≤ ab
set_option maxRecDepth 100000 in
set_option maxHeartbeats 8000000 in
theorem open_new {w0 w : World} {sb : Nat} {S : V.SV} {W : V.SW} {L : Nat → Option V.Role} {n : Nat} (r : V.Rep w sb S W L) (h : Nul S n) (hn : n ≤ 10000) (hK : KAt w) (e0 : Ext w0 w) (hL : ∀ i, L i ≠ none → w0.heap.size ≤ i) :
    Calls Tryz.prog 19 #[V.ptr sb] w fun e w' => ∃ ab, e = .returned (.tuple #[V.ptr ab, .int .i64 0]) ∧ FrP w0 (n + 2) w' sb ab := by
  have VO := Lib.hid (voted_new sb S W L w r h.names hK)
  have HR := Lib.hid r
  have HN := Lib.hid h
  have HL := Lib.hid hL
  have H0 := Lib.hid e0
  clear r h hK e0 hL
  unfold V.ptr at VO ⊢
  go_enter Tryz.func19, Tryz.ntmps19
  go_wp2_with fail
  refine (VO.out).mono ?_
  rintro e w1 ⟨ab, rfl, e1, hab, a1⟩
  have A1 : Arc w1 sb ab S W L 0 (.slice none 0 0) [] := ⟨HR.out.ext e1, by
    cases e : L ab with
    | none => rfl
    | some q => have := HR.out.lt ab (by rw [e]; simp); omega, a1, RR.nil _ _⟩
  have ST := Lib.hid (settle_new A1 HN.out hn)
  have HAB := Lib.hid (And.intro hab e1)
  unfold V.ptr at ST
  clear A1 VO hab e1 a1
  go_wp2_with fail
  refine (ST.out).mono ?_
  rintro e w2 ⟨rfl, S2, W2, L2, d, A2, MD2, M2⟩
  have F := Lib.hid (show FrP w0 (n + 2) w2 sb ab from by
    have hs := H0.out.size
    have hs1 := HAB.out.2.size
    have hl := HAB.out.1
    have b := M2.below (n := w0.heap.size) HL.out (by omega) (by omega)
    exact ⟨S2, W2, L2, d, A2, MD2, Below.trans (H0.out.trans HAB.out.2) b.1, b.2, by omega⟩)
  clear A2 MD2 M2 ST
  go_wp2
  go_ret2
  exact ⟨ab, rfl, F.out⟩
set_option maxRecDepth 100000 in
set_option maxHeartbeats 8000000 in
theorem fresh_any (room : Int) (w : World) (hK : KAt w) (h0 : 1000000 ≤ room) (h1 : room ≤ 1099511627776) :
    Calls Tryz.prog 10 #[.int .i64 room] w fun e w' => ∃ sb ab, e = .returned (.tuple #[V.ptr sb, V.ptr ab, .bool true]) ∧ FrP w 2 w' sb ab := by
  have NW := Lib.hid (V.new_ok room w (by omega) h1)
  have HK := Lib.hid hK
  clear hK
  unfold V.ptr at NW ⊢
  go_enter Tryz.func10, Tryz.ntmps10
  go_wp2_with fail
  refine (NW.out).mono ?_
  rintro e w1 ⟨rfl, e1, W1, L1, r1, hL⟩
  have OP := Lib.hid (open_new (w0 := w) (n := 0) r1 ⟨rfl, rfl, rfl, rfl, ⟨Int.le_refl _, Int.le_refl _⟩, ⟨Int.le_refl _, Int.le_refl _⟩, ⟨Int.le_refl _, by show (0 : Int) ≤ 9223372036854775807; omega⟩, h0⟩ (by omega) (HK.out.below e1 HK.out.lt) e1 hL)
  unfold V.ptr at OP
  clear r1 hL NW e1
  go_wp2_with fail
  refine (OP.out).mono ?_
  rintro e w2 ⟨ab, rfl, fr⟩
  have F := Lib.hid fr
  clear fr OP
  go_wp2
  go_ret3
  exact ⟨_, _, rfl, F.out⟩
end Go.Proofs.YtnhokjnmpdiokaaGreatDoor

namespace Go.Proofs.YtnhokjnmpdiokaaGreatDoor
open Go.RowKit Go.Sha Go.Pth
set_option linter.unusedSimpArgs false
set_option linter.unusedVariables false

set_option maxRecDepth 100000 in
set_option maxHeartbeats 8000000 in
theorem sameRef_eq (p : ByteArray) (xk z m t : Int) (r : List Int) (adx ady : Option Addr) (R capx capy : Nat) (w : World) (hR : R = r.length) (sx : Sha.Src w (.slice adx R capx) r w.heap.size) (sy : Sha.Src w (.slice ady R capy) r w.heap.size) (hr : r.length ≤ 1000000) :
    Calls Tryz.prog 36 #[.agg #[.string p, .int .i64 xk, .int .i64 z, .int .i64 m, .int .u64 t, .slice adx R capx], .agg #[.string p, .int .i64 xk, .int .i64 z, .int .i64 m, .int .u64 t, .slice ady R capy]] w fun e w' => e = .returned (.bool true) ∧ Ext w w' := by
  have e2 : Ext w ((w.alloc (.cells #[.string p, .int .i64 xk, .int .i64 z, .int .i64 m, .int .u64 t, .slice adx R capx] 52)).alloc (.cells #[.string p, .int .i64 xk, .int .i64 z, .int .i64 m, .int .u64 t, .slice ady R capy] 52)) := (Ext.alloc w _).trans (Ext.alloc _ _)
  have a1 : At ((w.alloc (.cells #[.string p, .int .i64 xk, .int .i64 z, .int .i64 m, .int .u64 t, .slice adx R capx] 52)).alloc (.cells #[.string p, .int .i64 xk, .int .i64 z, .int .i64 m, .int .u64 t, .slice ady R capy] 52)) w.heap.size #[.string p, .int .i64 xk, .int .i64 z, .int .i64 m, .int .u64 t, .slice adx R capx] 52 := (At.new w _ _).alloc _
  have a2 := At.new1 w (.cells #[.string p, .int .i64 xk, .int .i64 z, .int .i64 m, .int .u64 t, .slice adx R capx] 52) #[.string p, .int .i64 xk, .int .i64 z, .int .i64 m, .int .u64 t, .slice ady R capy] 52
  have f0 := a1.cell 0
  have f1 := a1.cell 1
  have f2 := a1.cell 2
  have f3 := a1.cell 3
  have f4 := a1.cell 4
  have f5 := a1.cell 5
  have g0 := a2.cell 0
  have g1 := a2.cell 1
  have g2 := a2.cell 2
  have g3 := a2.cell 3
  have g4 := a2.cell 4
  have g5 := a2.cell 5
  have v1 := convB (sx.below e2)
  have v2 := convB (sy.below e2)
  have E2 := Lib.hid e2
  clear a1 a2 e2 sx sy hR
  go_enter Tryz.func36, Tryz.ntmps36
  go_wp2
  go_ret
  exact ⟨rfl, E2.out⟩
def InvSr (w : World) (n : Nat) (i : Value) (wr : World) : Prop := ∃ k : Nat, k ≤ n ∧ i = .int .i64 k ∧ Ext w wr
set_option maxRecDepth 100000 in
set_option maxHeartbeats 8000000 in
theorem sameRefs_eq (X X' : Nat → Prop) (v v' : Value) (l l' : List RV) (w : World) (h : RR X w v l) (h' : RR X' w v' l') (hd : l.map RV.d = l'.map RV.d) (hl : l.length ≤ 1000000) (hr : ∀ x ∈ l, x.r.length ≤ 1000000) :
    Calls Tryz.prog 35 #[v, v'] w fun e w' => e = .returned (.bool true) ∧ Ext w w' := by
  obtain ⟨ad, cap, b, o, h⟩ := h
  obtain ⟨ad', cap', b', o', h'⟩ := h'
  have ev := h.val
  have ev' := h'.val
  have hll : l'.length = l.length := by have := congrArg List.length hd; simpa using this.symm
  have hcap := h.cap_
  have hcap' := h'.cap_
  rw [hll] at ev' hcap'
  subst ev ev'
  have HR := Lib.hid h
  have HR' := Lib.hid h'
  have hadr := Lib.hid h.adr
  have hadr' := Lib.hid h'.adr
  have HB := Lib.hid hr
  have HD := Lib.hid hd
  have HL' := Lib.hid hll
  obtain ⟨n, hn⟩ : ∃ n, n = l.length := ⟨_, rfl⟩
  have HN := Lib.hid hn
  rw [← hn] at hcap hcap' hl ⊢
  clear hn h h' hd hr hll
  go_enter Tryz.func35, Tryz.ntmps35
  go_wp2
  go_loopw [5] (fun i wr => InvSr w n i wr) (fun i _ => n - (intOf i).toNat)
  case atStart => exact ⟨0, by omega, rfl, Ext.refl w⟩
  case round =>
    obtain ⟨k, hk, rfl, ex⟩ := hrel
    by_cases hlt : k < n
    · have i0 : (k : Int) < (n : Int) := by omega
      have i1 : (0 : Int) ≤ (k : Int) := by omega
      obtain ⟨x, hx⟩ : ∃ x, l[k]? = some x := ⟨_, List.getElem?_eq_getElem (by rw [← HN.out]; exact hlt)⟩
      obtain ⟨y, hy⟩ : ∃ y, l'[k]? = some y := ⟨_, List.getElem?_eq_getElem (by rw [HL'.out, ← HN.out]; exact hlt)⟩
      have hxy : x.d = y.d := by
        have := congrArg (fun q => q[k]?) HD.out
        simp only [List.getElem?_map, hx, hy, Option.map_some, Option.some.injEq] at this
        exact this
      have ea := hadr.out (by rw [← HN.out]; omega)
      have ea' := hadr'.out (by rw [HL'.out, ← HN.out]; omega)
      subst ea ea'
      obtain ⟨c0, c1, c2, c3, c4, c5⟩ := HR.out.cells k x hx
      obtain ⟨e0, e1, e2, e3, e4, e5⟩ := HR'.out.cells k y hy
      have S1 := HR.out.src x (List.mem_of_getElem? hx)
      have S2 := HR'.out.src y (List.mem_of_getElem? hy)
      have HRL := Lib.hid (HB.out x (List.mem_of_getElem? hx))
      obtain ⟨p, xk, z, m, t, vv, r⟩ := x
      obtain ⟨p', xk', z', m', t', vv', r'⟩ := y
      simp only [RV.d, RD.mk.injEq] at hxy
      obtain ⟨h1, h2, h3, h4, h5, h6⟩ := hxy
      subst h1 h2 h3 h4 h5 h6
      simp only at c0 c1 c2 c3 c4 c5 S1 e0 e1 e2 e3 e4 e5 S2
      obtain ⟨adx, capx, evx, -⟩ := S1.val
      obtain ⟨ady, capy, evy, -⟩ := S2.val
      obtain ⟨R, hR⟩ : ∃ n, n = r.length := ⟨_, rfl⟩
      rw [← hR] at evx evy
      have HRr := Lib.hid hR
      clear hR
      subst evx evy
      replace c0 := Lib.hid (ext_cell ex c0)
      replace c1 := Lib.hid (ext_cell ex c1)
      replace c2 := Lib.hid (ext_cell ex c2)
      replace c3 := Lib.hid (ext_cell ex c3)
      replace c4 := Lib.hid (ext_cell ex c4)
      replace c5 := Lib.hid (ext_cell ex c5)
      replace e0 := Lib.hid (ext_cell ex e0)
      replace e1 := Lib.hid (ext_cell ex e1)
      replace e2 := Lib.hid (ext_cell ex e2)
      replace e3 := Lib.hid (ext_cell ex e3)
      replace e4 := Lib.hid (ext_cell ex e4)
      replace e5 := Lib.hid (ext_cell ex e5)
      have SX := Lib.hid (fun (W : World) (hW : Ext wr W) => (S1.now.now (ex.trans hW)))
      have SY := Lib.hid (fun (W : World) (hW : Ext wr W) => (S2.now.now (ex.trans hW)))
      have EX := Lib.hid ex
      clear hx hy S1 S2 ex hlt
      go_upto_region 6 with fail
      refine wp_region_held (S := Ext wr) (by kernel_rfl) ?_
      change wpAnyH _ _ _ _ _ _ _ _ wr.drew
      have S0 : Ext wr wr.drew := Below.drew (Below.refl _ _)
      generalize wr.drew = W at *
      refine tkS 0 (some 17) (.slice (some ⟨b, o, none⟩) n cap) S0 ?_
      simp only [pt0, pt4, pt1, pt2, pt3]
      refine tkS 1 (some 18) (.int .i64 (k : Int)) S0 ?_
      simp only [pt0, pt4, pt1, pt2, pt3]
      refine tkS 2 (some 19) (.pointer (some ⟨b, o + k * 6, none⟩)) S0 ?_
      simp only [pt0, pt4, pt1, pt2, pt3]
      refine tkS 3 (some 20) (.agg #[.string p, .int .i64 xk, .int .i64 z, .int .i64 m, .int .u64 t, .slice adx R capx]) S0 ?_ (hy := fun w' hw' => by have q0 := ext_cell hw' c0.out; have q1 := ext_cell hw' c1.out; have q2 := ext_cell hw' c2.out; have q3 := ext_cell hw' c3.out; have q4 := ext_cell hw' c4.out; have q5 := ext_cell hw' c5.out; go_simp)
      simp only [pt0, pt4, pt1, pt2, pt3]
      refine tkS 4 (some 21) (.slice (some ⟨b', o', none⟩) n cap') S0 ?_
      simp only [pt0, pt4, pt1, pt2, pt3]
      refine tkS 5 (some 22) (.int .i64 (k : Int)) S0 ?_
      simp only [pt0, pt4, pt1, pt2, pt3]
      refine tkS 6 (some 23) (.pointer (some ⟨b', o' + k * 6, none⟩)) S0 ?_
      simp only [pt0, pt4, pt1, pt2, pt3]
      refine tkS 7 (some 24) (.agg #[.string p, .int .i64 xk, .int .i64 z, .int .i64 m, .int .u64 t, .slice ady R capy]) S0 ?_ (hy := fun w' hw' => by have q0 := ext_cell hw' e0.out; have q1 := ext_cell hw' e1.out; have q2 := ext_cell hw' e2.out; have q3 := ext_cell hw' e3.out; have q4 := ext_cell hw' e4.out; have q5 := ext_cell hw' e5.out; go_simp)
      simp only [pt0, pt4, pt1, pt2, pt3]
      refine nextS 8 rfl (by kernel_rfl) rfl (callS (some 25) rfl 36 #[.agg #[.string p, .int .i64 xk, .int .i64 z, .int .i64 m, .int .u64 t, .slice adx R capx], .agg #[.string p, .int .i64 xk, .int .i64 z, .int .i64 m, .int .u64 t, .slice ady R capy]] (by go_simp) (fun v w' => v = .bool true ∧ Ext wr w') (((sameRef_eq p xk z m t r adx ady R capx capy W HRr.out (SX.out W S0) (SY.out W S0) (by have := HRL.out; omega)).mono fun _ _ he => ⟨_, he.1, rfl, S0.trans he.2⟩)) ?_)
      rintro v1 W1 ⟨rfl, S1⟩
      simp only [pt0, pt4, pt1, pt2, pt3]
      refine ⟨S1, ?_⟩
      refine tkS 9 (some 26) (.bool false) S1 ?_
      simp only [pt0, pt4, pt1, pt2, pt3]
      refine wpAnyH_done (by kernel_rfl) ?_ _
      have F := Lib.hid (EX.out.trans S1)
      clear S1 S0
      go_wp2
      exact ⟨⟨k + 1, by omega, by go_num, F.out⟩, by simp [intOf]; omega⟩
    · have d0 : decide ((k : Int) < (n : Int)) = false := by simp; omega
      obtain rfl : k = n := by omega
      have F := Lib.hid ex
      clear hlt ex
      go_wp2
      go_ret
      exact ⟨rfl, F.out⟩
end Go.Proofs.YtnhokjnmpdiokaaGreatDoor

namespace Go.Proofs.YtnhokjnmpdiokaaGreatDoor
open Go.RowKit Go.Sha Go.Pth
set_option linter.unusedSimpArgs false
set_option linter.unusedVariables false

theorem small_image {l : List RV} (h : imageL (l.map RV.d) = true) : l.length ≤ 100 ∧ ∀ x ∈ l, x.r.length ≤ 1000000 := by
  refine ⟨by have := (image_all h).1; simpa using this, fun x hx => ?_⟩
  have := (mayR_len ((mayR_iff _).1 (image_may h x.d (List.mem_map_of_mem hx)))).2
  have e : x.d.r = x.r := rfl
  rw [e] at this; omega
set_option maxRecDepth 100000 in
set_option maxHeartbeats 8000000 in
theorem all_any {w : World} {sb ab g : Nat} {v : Value} {l : List RV} {S : V.SV} {W : V.SW} {L : Nat → Option V.Role} (A : Arc w sb ab S W L g v l) (hi : imageL (l.map RV.d) = true) :
    Calls Tryz.prog 22 #[V.ptr ab] w (ClPost w (l.map RV.d)) := by
  obtain ⟨_, _, _, _, hrr⟩ := A.refs
  obtain ⟨adv, capv, ev⟩ : ∃ ad cap, v = .slice ad l.length cap := ⟨_, _, hrr.val⟩
  have CL := Lib.hid (cloned_any _ v l w A.refs (by have := (small_image hi).1; omega) (small_image hi).2)
  obtain ⟨NV, hNV⟩ : ∃ n, n = l.length := ⟨_, rfl⟩
  rw [← hNV] at ev
  subst ev
  have HE := Lib.hid (held_any w ab adv NV capv A.c.2.2.1)
  clear A hi hrr hNV
  unfold V.ptr at HE ⊢
  go_enter Tryz.func22, Tryz.ntmps22
  go_wp2_with fail
  refine (HE.out).mono ?_
  rintro e w1 ⟨rfl, rfl⟩
  go_wp2_with fail
  refine (CL.out).mono ?_
  rintro e w1 ⟨u, l', rfl, e1, o1, hd⟩
  have F := Lib.hid (show ClPost w (l.map RV.d) (.returned u) w1 from ⟨u, l', rfl, e1, o1, hd⟩)
  obtain ⟨adu, capu, eu⟩ := o1.len
  obtain ⟨NU, hNU⟩ : ∃ n, n = l'.length := ⟨_, rfl⟩
  rw [← hNU] at eu
  clear e1 o1 hd hNU CL HE
  subst eu
  go_wp2
  go_ret
  exact F.out
def GtP (w : World) (o : Option RD) (e : Ending) (w' : World) : Prop := Ext w w' ∧ match o with
  | none => ∃ q0 q1 q2 q3 q4 ad n cap, e = .returned (.tuple #[.agg #[.string q0, .int .i64 q1, .int .i64 q2, .int .i64 q3, .int .u64 q4, .slice ad n cap], .bool false])
  | some x => ∃ ad cap, e = .returned (.tuple #[.agg #[.string x.p, .int .i64 x.k, .int .i64 x.z, .int .i64 x.m, .int .u64 x.t, .slice ad x.r.length cap], .bool true]) ∧ Sha.Src w' (.slice ad x.r.length cap) x.r w'.heap.size
def InvGt (w : World) (ds : List RD) (n : Nat) (q : ByteArray) (i : Value) (wr : World) : Prop := ∃ k : Nat, k ≤ n ∧ i = .int .i64 k ∧ Ext w wr ∧ At wr w.heap.size #[.string ⟨#[]⟩, .int .i64 0, .int .i64 0, .int .i64 0, .int .u64 0, .slice none 0 0] 52 ∧ (ds.take k).find? (fun x => x.p.toList == q.toList) = none
set_option maxRecDepth 100000 in
set_option maxHeartbeats 16000000 in
theorem get_any {w : World} {sb ab g : Nat} {v : Value} {l : List RV} {S : V.SV} {W : V.SW} {L : Nat → Option V.Role} (A : Arc w sb ab S W L g v l) (hi : imageL (l.map RV.d) = true) (q : ByteArray) :
    Calls Tryz.prog 21 #[V.ptr ab, .string q] w (GtP w ((l.map RV.d).find? (fun x => x.p.toList == q.toList))) := by
  obtain ⟨OO, hOO⟩ : ∃ o, o = (l.map RV.d).find? (fun x => x.p.toList == q.toList) := ⟨_, rfl⟩
  rw [← hOO]
  have e0 : Ext w (w.alloc (.cells #[.string ⟨#[]⟩, .int .i64 0, .int .i64 0, .int .i64 0, .int .u64 0, .slice none 0 0] 52)) := Ext.alloc w _
  have a0 := At.new w #[.string ⟨#[]⟩, .int .i64 0, .int .i64 0, .int .i64 0, .int .u64 0, .slice none 0 0] 52
  obtain ⟨ad, cap, b, o, hrr⟩ := A.refs
  have ev := hrr.val
  have hcap := hrr.cap_
  have hadr := Lib.hid hrr.adr
  have HR := Lib.hid hrr
  have SI := Lib.hid (small_image hi)
  obtain ⟨n, hn⟩ : ∃ n, n = l.length := ⟨_, rfl⟩
  have hn100 : n ≤ 100 := by rw [hn]; exact SI.out.1
  have HN := Lib.hid hn
  have HM := Lib.hid (show (l.map RV.d).length = n by rw [List.length_map]; exact hn.symm)
  rw [← hn] at ev hcap
  subst ev
  have HE := Lib.hid (held_any (w.alloc (.cells #[.string ⟨#[]⟩, .int .i64 0, .int .i64 0, .int .i64 0, .int .u64 0, .slice none 0 0] 52)) ab ad n cap (A.ext e0).c.2.2.1)
  have HO := Lib.hid hOO
  have H0 := Lib.hid (And.intro e0 a0)
  clear A hi hrr hn e0 a0 hOO
  unfold V.ptr at HE ⊢
  go_enter Tryz.func21, Tryz.ntmps21
  go_wp2_with fail
  refine (HE.out).mono ?_
  rintro e w1 ⟨rfl, rfl⟩
  go_wp2
  go_loopw [11] (fun i wr => InvGt w (l.map RV.d) n q i wr) (fun i _ => n - (intOf i).toNat)
  case atStart => exact ⟨0, by omega, rfl, H0.out.1, H0.out.2, rfl⟩
  case round =>
    obtain ⟨k, hk, rfl, ex, aw, hf⟩ := hrel
    by_cases hlt : k < n
    · have i0 : (k : Int) < (n : Int) := by omega
      have i1 : (0 : Int) ≤ (k : Int) := by omega
      obtain ⟨x, hx⟩ : ∃ x, l[k]? = some x := ⟨_, List.getElem?_eq_getElem (by rw [← HN.out]; exact hlt)⟩
      have hxd : (l.map RV.d)[k]? = some x.d := by rw [List.getElem?_map, hx]; rfl
      have hst : ((l.map RV.d).take (k + 1)).find? (fun x => x.p.toList == q.toList) = if x.p.toList == q.toList then some x.d else none := by
        rw [List.take_add_one, hxd, List.find?_append, hf]
        simp [RV.d]
      have hfin : (x.p.toList == q.toList) = true → OO = some x.d := fun h => by
        rw [HO.out, ← List.take_append_drop (k + 1) (l.map RV.d), List.find?_append, hst, if_pos h]; rfl
      have ea := hadr.out (by rw [← HN.out]; omega)
      subst ea
      obtain ⟨c0, c1, c2, c3, c4, c5⟩ := HR.out.cells k x hx
      have S1 := HR.out.src x (List.mem_of_getElem? hx)
      have hrl := Lib.hid (SI.out.2 x (List.mem_of_getElem? hx))
      obtain ⟨p, xk, z, m, t, vv, r⟩ := x
      simp only at c0 c1 c2 c3 c4 c5 S1 hst hfin
      obtain ⟨adx, capx, evx, -⟩ := S1.val
      obtain ⟨R, hR⟩ : ∃ n, n = r.length := ⟨_, rfl⟩
      rw [← hR] at evx
      have HRr := Lib.hid hR
      clear hR
      subst evx
      replace c0 := ext_cell ex c0
      replace c1 := ext_cell ex c1
      replace c2 := ext_cell ex c2
      replace c3 := ext_cell ex c3
      replace c4 := ext_cell ex c4
      replace c5 := ext_cell ex c5
      have e4 : Ext wr (wr.alloc (.cells #[.string ⟨#[]⟩, .int .i64 0, .int .i64 0, .int .i64 0, .int .u64 0, .slice none 0 0] 52)) := Ext.alloc wr _
      have a4 := At.new wr #[.string ⟨#[]⟩, .int .i64 0, .int .i64 0, .int .i64 0, .int .u64 0, .slice none 0 0] 52
      have one : (#[.string p, .int .i64 xk, .int .i64 z, .int .i64 m, .int .u64 t, .slice adx R capx] : Array Value).all (·.oneCell') = true := by simp [Value.oneCell']
      have sz2 : (Tryz.prog.info? 52).map (·.size) = some (#[.string p, .int .i64 xk, .int .i64 z, .int .i64 m, .int .u64 t, .slice adx R capx] : Array Value).size := szRef
      have e5 := ext_only' e4 (Only.setRow wr.heap.size _ #[.string p, .int .i64 xk, .int .i64 z, .int .i64 m, .int .u64 t, .slice adx R capx]) (Nat.le_refl _)
      have a5 : At ((wr.alloc (.cells #[.string ⟨#[]⟩, .int .i64 0, .int .i64 0, .int .i64 0, .int .u64 0, .slice none 0 0] 52)).setRow wr.heap.size #[.string p, .int .i64 xk, .int .i64 z, .int .i64 m, .int .u64 t, .slice adx R capx]) wr.heap.size #[.string p, .int .i64 xk, .int .i64 z, .int .i64 m, .int .u64 t, .slice adx R capx] 52 := a4.row _
      have HST := Lib.hid hst
      have HFI := Lib.hid hfin
      clear hx hxd hst hfin hlt hf
      go_upto_region 4 with (refine wpList_store_row rfl 52 _ _ rfl wr.heap.size _ rfl rfl 52 _ a4 sz2 rfl one ?_)
      clear e4 a4 c0 c1 c2 c3 c4 c5 one sz2
      generalize (wr.alloc (.cells #[.string ⟨#[]⟩, .int .i64 0, .int .i64 0, .int .i64 0, .int .u64 0, .slice none 0 0] 52)).setRow wr.heap.size #[.string p, .int .i64 xk, .int .i64 z, .int .i64 m, .int .u64 t, .slice adx R capx] = w5 at *
      obtain ⟨g5, hg5⟩ : ∃ g, g = wr.heap.size := ⟨_, rfl⟩
      rw [← hg5] at a5 ⊢
      have f50 := a5.cell 0
      have EX := Lib.hid (ex.trans e5)
      have AW := Lib.hid (at_ext aw e5)
      have S5 := Lib.hid (S1.ext (ex.trans e5))
      clear ex e5 aw hg5 S1
      cases hq : p.toList == q.toList with
      | false =>
        have HS := Lib.hid (show ((l.map RV.d).take (k + 1)).find? (fun x => x.p.toList == q.toList) = none by rw [HST.out, hq]; rfl)
        clear a5
        go_wp2
        exact ⟨⟨k + 1, by omega, by go_num, EX.out, AW.out, HS.out⟩, by simp [intOf]; omega⟩
      | true =>
        have HS := Lib.hid (HFI.out hq)
        have e6 : Ext w5 (w5.alloc (.cells #[.string p, .int .i64 xk, .int .i64 z, .int .i64 m, .int .u64 t, .slice adx R capx] 52)) := Ext.alloc w5 _
        have a6 := At.new w5 #[.string p, .int .i64 xk, .int .i64 z, .int .i64 m, .int .u64 t, .slice adx R capx] 52
        have R6 : RR (fun _ => False) (w5.alloc (.cells #[.string p, .int .i64 xk, .int .i64 z, .int .i64 m, .int .u64 t, .slice adx R capx] 52)) (.slice (some ⟨w5.heap.size, 0, none⟩) 1 1) [⟨p, xk, z, m, t, .slice adx R capx, r⟩] := by
          refine ⟨_, 1, w5.heap.size, 0, rfl, by simp, fun _ => rfl, fun _ => ⟨id, a6.lt⟩, fun j y hj c u hu => ?_, fun y hy => ?_⟩
          · match j, hj with
            | 0, hj =>
              simp at hj; subst hj
              rw [show 0 + 0 * 6 + c = c by omega, a6.cell]
              simpa [rcs] using hu
          · obtain rfl := List.mem_singleton.1 hy
            exact fun bh hb => by
              rcases hb with hb | hb
              · exact hb.elim
              · exact (S5.out bh (Or.inr (Nat.le_trans e6.size hb))).below e6
        have CL := Lib.hid (cloned_any _ _ _ _ R6 (by simp) (fun y hy => by obtain rfl := List.mem_singleton.1 hy; exact hrl.out))
        have E6 := Lib.hid (EX.out.trans e6)
        have AW6 := Lib.hid (at_ext AW.out e6)
        have f51 := a5.cell 1
        have f52 := a5.cell 2
        have f53 := a5.cell 3
        have f54 := a5.cell 4
        have f55 := a5.cell 5
        clear e6 a6 R6
        go_wp2_with fail
        refine (CL.out).mono ?_
        rintro e w7 ⟨v7, l7, rfl, e7, o7, hd7⟩
        obtain ⟨y, rfl⟩ : ∃ y, l7 = [y] := by
          have := congrArg List.length hd7
          simp at this
          exact List.length_eq_one_iff.1 this
        simp only [List.map_cons, List.map_nil, List.cons.injEq, and_true] at hd7
        obtain ⟨ad7, cap7, b7, o7', h7⟩ := o7.rr (X := fun _ => False) (fun _ k => k.elim)
        have ev7 := h7.val
        have ea7 := h7.adr (by simp)
        have hc7 := h7.cap_
        obtain ⟨y0, y1, y2, y3, y4, y5⟩ := h7.cells 0 y rfl
        have S7 := (h7.src y (by simp)).now
        have S70 := o7.2 y (by simp) w.heap.size (Or.inl (by have := E6.out.size; have := AW6.out.lt; omega))
        simp only [List.length_singleton] at ev7 hc7
        obtain ⟨p', xk', z', m', t', vv', r'⟩ := y
        simp only [RV.d, RD.mk.injEq] at hd7
        obtain ⟨h1, h2, h3, h4, h5, h6⟩ := hd7
        replace h1 := h1.symm
        replace h2 := h2.symm
        replace h3 := h3.symm
        replace h4 := h4.symm
        replace h5 := h5.symm
        replace h6 := h6.symm
        subst h1 h2 h3 h4 h5 h6
        subst ea7
        subst ev7
        simp only [Nat.zero_mul, Nat.add_zero] at y0 y1 y2 y3 y4 y5 S7 S70
        obtain ⟨ady, capy, evy⟩ := S7.len
        rw [← HRr.out] at evy
        subst evy
        have E7 := Lib.hid (E6.out.trans e7)
        have aw7 := at_ext AW6.out e7
        have one : (#[.string p, .int .i64 xk, .int .i64 z, .int .i64 m, .int .u64 t, .slice ady R capy] : Array Value).all (·.oneCell') = true := by simp [Value.oneCell']
        have sz2 : (Tryz.prog.info? 52).map (·.size) = some (#[.string p, .int .i64 xk, .int .i64 z, .int .i64 m, .int .u64 t, .slice ady R capy] : Array Value).size := szRef
        have S7H := Lib.hid (And.intro S7 S70)
        have oS := Only.setRow w.heap.size w7 #[.string p, .int .i64 xk, .int .i64 z, .int .i64 m, .int .u64 t, .slice ady R capy]
        have aS := aw7.row #[.string p, .int .i64 xk, .int .i64 z, .int .i64 m, .int .u64 t, .slice ady R capy]
        have F := Lib.hid (show Ext w (w7.setRow w.heap.size #[.string p, .int .i64 xk, .int .i64 z, .int .i64 m, .int .u64 t, .slice ady R capy]) from ext_only' E7.out oS (Nat.le_refl _))
        have AS := Lib.hid aS
        have SF := Lib.hid (src_keep S7H.out.2 S7H.out.1 oS)
        clear S7 S70 e7 o7 h7 CL a5 oS aS
        go_wp2_with (refine wpList_store_row rfl 52 _ _ rfl w.heap.size _ rfl rfl 52 _ aw7 sz2 rfl one ?_)
        refine bodyPost_ret (results_row_tmp rfl _ _ w.heap.size 52 _ rfl AS.out Tryz.underlying52 rfl szRef) rfl ?_
        refine ⟨F.out, ?_⟩
        rw [HS.out]
        refine ⟨ady, capy, ?_, ?_⟩
        · show _ = Ending.returned (.tuple #[.agg #[.string p, .int .i64 xk, .int .i64 z, .int .i64 m, .int .u64 t, .slice ady r.length capy], .bool true])
          rw [← HRr.out]; rfl
        · show Sha.Src _ (.slice ady r.length capy) r _
          rw [size_setRow, ← HRr.out]
          exact SF.out
    · have d0 : decide ((k : Int) < (n : Int)) = false := by simp; omega
      obtain rfl : k = n := by omega
      rw [List.take_of_length_le (by rw [HM.out]; exact Nat.le_refl _)] at hf
      have HF := Lib.hid (HO.out.trans hf)
      have EX := Lib.hid ex
      have one : (#[.string ⟨#[]⟩, .int .i64 0, .int .i64 0, .int .i64 0, .int .u64 0, .slice none 0 0] : Array Value).all (·.oneCell') = true := by simp [Value.oneCell']
      have sz2 : (Tryz.prog.info? 52).map (·.size) = some (#[.string ⟨#[]⟩, .int .i64 0, .int .i64 0, .int .i64 0, .int .u64 0, .slice none 0 0] : Array Value).size := szRef
      have oS := Only.setRow w.heap.size wr #[.string ⟨#[]⟩, .int .i64 0, .int .i64 0, .int .i64 0, .int .u64 0, .slice none 0 0]
      have F := Lib.hid (show Ext w (wr.setRow w.heap.size #[.string ⟨#[]⟩, .int .i64 0, .int .i64 0, .int .i64 0, .int .u64 0, .slice none 0 0]) from ext_only' EX.out oS (Nat.le_refl _))
      have AS := Lib.hid (aw.row #[.string ⟨#[]⟩, .int .i64 0, .int .i64 0, .int .i64 0, .int .u64 0, .slice none 0 0])
      clear hlt hf ex oS
      go_wp2_with (refine wpList_store_row rfl 52 _ _ rfl w.heap.size _ rfl rfl 52 _ aw sz2 rfl one ?_)
      refine bodyPost_ret (results_row_tmp rfl _ _ w.heap.size 52 _ rfl AS.out Tryz.underlying52 rfl szRef) rfl ?_
      refine ⟨F.out, ?_⟩
      rw [HF.out]
      exact ⟨_, _, _, _, _, _, _, _, rfl⟩
end Go.Proofs.YtnhokjnmpdiokaaGreatDoor

namespace Go.Proofs.YtnhokjnmpdiokaaGreatDoor
open Go.RowKit Go.Sha Go.Pth
set_option linter.unusedSimpArgs false
set_option linter.unusedVariables false

theorem find_path {ds : List RD} (h : imageL ds = true) (k : Nat) (y : RD) (hy : ds[k]? = some y) : ds.find? (fun x => x.p.toList == y.p.toList) = some y := by
 rw [List.find?_eq_some_iff_append]
 refine ⟨by simp, ds.take k, ds.drop (k + 1), ?_, fun x hx => ?_⟩
 ·have hk := (List.getElem?_eq_some_iff.1 hy).1
  have e : ds[k] = y := by rw [List.getElem?_eq_getElem hk] at hy; injection hy
  rw [← e, List.append_cons, List.take_append_getElem hk, List.take_append_drop]
 ·obtain ⟨i, hi, e⟩ := List.mem_iff_getElem.1 hx
  have hik : i < k := by simp at hi; omega
  have hx2 : ds[i]? = some x := by
   rw [List.getElem_take] at e
   rw [List.getElem?_eq_getElem (by simp at hi; omega), e]
  have := image_path h k i x y (by omega) hx2 hy
  simp only [Bool.not_eq_true', beq_eq_false_iff_ne, ne_eq]
  exact fun q => this (V.tx_inj q)
theorem find_none {ds : List RD} (h : imageL ds = true) : ds.find? (fun x => x.p.toList == (⟨#[47, 47]⟩ : ByteArray).toList) = none := by
 rw [List.find?_eq_none]
 intro x hx hq
 have e : x.p.toList = [47, 47] := by rw [beq_iff_eq] at hq; rw [hq]; exact ByteArray.toList_mk _
 have hv := ((mayR_iff x).1 (image_may h x hx)).v
 rw [e] at hv
 exact absurd hv (by decide)
def InvSh (w : World) (n : Nat) (i : Value) (wr : World) : Prop := ∃ k : Nat, k ≤ n ∧ i = .int .i64 k ∧ Ext w wr
set_option maxRecDepth 100000 in
set_option maxHeartbeats 16000000 in
theorem shows_ok {w : World} {sb ab g : Nat} {v : Value} {l : List RV} {S : V.SV} {W : V.SW} {L : Nat → Option V.Role} (A : Arc w sb ab S W L g v l) (hi : imageL (l.map RV.d) = true) (X : Nat → Prop) (u : Value) (lu : List RV) (h : RR X w u lu) (hd : l.map RV.d = lu.map RV.d) :
  Calls Tryz.prog 13 #[V.ptr ab, u, .int .i64 (g : Int)] w fun e w' => e = .returned (.bool true) ∧ Ext w w' := by
 have AL := Lib.hid (all_any A hi)
 have GE := Lib.hid (fun w1 (e1 : Ext w w1) => gen_any w1 ab g (A.ext e1).c.2.1)
 have GT := Lib.hid (fun w1 (e1 : Ext w w1) (q : ByteArray) => get_any (A.ext e1) hi q)
 have hi2 : imageL (lu.map RV.d) = true := by rw [← hd]; exact hi
 have SI := Lib.hid (small_image hi2)
 have HRX := Lib.hid h
 obtain ⟨ad, cap, b, o, hrr⟩ := h
 have ev := hrr.val
 have hcap := hrr.cap_
 have hadr := Lib.hid hrr.adr
 have HR := Lib.hid hrr
 have HD := Lib.hid hd
 have HI2 := Lib.hid hi2
 have FN := Lib.hid (find_none hi)
 obtain ⟨n, hn⟩ : ∃ n, n = lu.length := ⟨_, rfl⟩
 have hn100 : n ≤ 100 := by rw [hn]; exact SI.out.1
 have HN := Lib.hid hn
 rw [← hn] at ev hcap
 subst ev
 clear A hi hrr hn hd hi2
 unfold V.ptr at AL GE GT ⊢
 go_enter Tryz.func13, Tryz.ntmps13
 go_wp2_with fail
 refine (AL.out).mono ?_
 rintro e w1 ⟨v1, l1, rfl, e1, o1, hd1⟩
 have R1 := o1.rr (X := fun _ => False) (fun _ k => k.elim)
 have hdd : l1.map RV.d = lu.map RV.d := hd1.trans HD.out
 have hi1 : imageL (l1.map RV.d) = true := by rw [hdd]; exact HI2.out
 have SR := Lib.hid (sameRefs_eq _ _ v1 (.slice ad n cap) l1 lu w1 R1 (HRX.out.ext e1) hdd (by have := (small_image hi1).1; omega) (small_image hi1).2)
 obtain ⟨ad1, cap1, ev1⟩ := o1.len
 have hl1 : l1.length = n := by have := congrArg List.length hdd; simp at this; rw [this]; exact HN.out.symm
 rw [hl1] at ev1
 have E1 := Lib.hid e1
 clear e1 o1 hd1 R1 hdd hi1 hl1 AL
 subst ev1
 go_wp2_with fail
 refine (SR.out).mono ?_
 rintro e w2 ⟨rfl, e2⟩
 have E2 := Lib.hid (E1.out.trans e2)
 have GE2 := Lib.hid (GE.out w2 (E1.out.trans e2))
 have g0 : (0 : Int) ≤ (g : Int) := by omega
 clear e2 SR E1 GE
 go_wp2_with fail
 refine (GE2.out).mono ?_
 rintro e w3 ⟨rfl, rfl⟩
 clear GE2
 go_wp2
 go_loopw [7] (fun i wr => InvSh w2 n i wr) (fun i _ => n - (intOf i).toNat)
 case atStart => exact ⟨0, by omega, rfl, Ext.refl _⟩
 case round =>
  obtain ⟨k, hk, rfl, ex⟩ := hrel
  have EW := Lib.hid (E2.out.trans ex)
  have EX := Lib.hid ex
  by_cases hlt : k < n
  ·have i0 : (k : Int) < (n : Int) := by omega
   have i1 : (0 : Int) ≤ (k : Int) := by omega
   obtain ⟨y, hy⟩ : ∃ y, lu[k]? = some y := ⟨_, List.getElem?_eq_getElem (by rw [← HN.out]; exact hlt)⟩
   have hyd : (lu.map RV.d)[k]? = some y.d := by rw [List.getElem?_map, hy]; rfl
   have fp := find_path HI2.out k y.d hyd
   rw [← HD.out] at fp
   have ea := hadr.out (by rw [← HN.out]; omega)
   subst ea
   obtain ⟨e0, e1, e2, e3, e4, e5⟩ := HR.out.cells k y hy
   have S2 := HR.out.src y (List.mem_of_getElem? hy)
   have HRL := Lib.hid (SI.out.2 y (List.mem_of_getElem? hy))
   obtain ⟨p, xk, z, m, t, vv, r⟩ := y
   simp only at e0 e1 e2 e3 e4 e5 S2
   simp only [RV.d] at fp
   obtain ⟨ady, capy, evy, -⟩ := S2.val
   obtain ⟨R, hR⟩ : ∃ n, n = r.length := ⟨_, rfl⟩
   rw [← hR] at evy
   have HRr := Lib.hid hR
   clear hR
   subst evy
   replace e0 := Lib.hid (ext_cell EW.out e0)
   replace e1 := Lib.hid (ext_cell EW.out e1)
   replace e2 := Lib.hid (ext_cell EW.out e2)
   replace e3 := Lib.hid (ext_cell EW.out e3)
   replace e4 := Lib.hid (ext_cell EW.out e4)
   replace e5 := Lib.hid (ext_cell EW.out e5)
   have GK := GT.out wr EW.out p
   rw [fp] at GK
   have GKH := Lib.hid GK
   have SYH := Lib.hid (S2.now.now EW.out)
   have f0 := e0.out
   clear hy hyd fp GK S2 ex hlt
   go_wp2_with fail
   refine (GKH.out).mono ?_
   rintro e w4 ⟨e6, adx, capx, rfl, s4⟩
   simp only at s4
   rw [← HRr.out] at s4 ⊢
   have S4 := Lib.hid s4
   have E4 := Lib.hid e6
   clear s4 e6 GKH f0
   have ea : Ext w4 (w4.alloc (.cells #[.string ⟨#[]⟩, .int .i64 0, .int .i64 0, .int .i64 0, .int .u64 0, .slice none 0 0] 52)) := Ext.alloc w4 _
   have aa := At.new w4 #[.string ⟨#[]⟩, .int .i64 0, .int .i64 0, .int .i64 0, .int .u64 0, .slice none 0 0] 52
   have one : (#[.string p, .int .i64 xk, .int .i64 z, .int .i64 m, .int .u64 t, .slice adx R capx] : Array Value).all (·.oneCell') = true := by simp [Value.oneCell']
   have sz : (Tryz.prog.info? 52).map (·.size) = some (#[.string p, .int .i64 xk, .int .i64 z, .int .i64 m, .int .u64 t, .slice adx R capx] : Array Value).size := szRef
   have Ew5 := ext_only' ea (Only.setRow w4.heap.size _ #[.string p, .int .i64 xk, .int .i64 z, .int .i64 m, .int .u64 t, .slice adx R capx]) (Nat.le_refl _)
   have A5 : At ((w4.alloc (.cells #[.string ⟨#[]⟩, .int .i64 0, .int .i64 0, .int .i64 0, .int .u64 0, .slice none 0 0] 52)).setRow w4.heap.size #[.string p, .int .i64 xk, .int .i64 z, .int .i64 m, .int .u64 t, .slice adx R capx]) w4.heap.size #[.string p, .int .i64 xk, .int .i64 z, .int .i64 m, .int .u64 t, .slice adx R capx] 52 := aa.row _
   go_upto_region 7 with (refine wpList_store_row rfl 52 _ _ rfl w4.heap.size _ rfl rfl 52 _ aa sz rfl one ?_)
   clear ea aa sz one
   generalize (w4.alloc (.cells #[.string ⟨#[]⟩, .int .i64 0, .int .i64 0, .int .i64 0, .int .u64 0, .slice none 0 0] 52)).setRow w4.heap.size #[.string p, .int .i64 xk, .int .i64 z, .int .i64 m, .int .u64 t, .slice adx R capx] = w5 at *
   obtain ⟨g8, hg8⟩ : ∃ g, g = w4.heap.size := ⟨_, rfl⟩
   rw [← hg8] at A5 ⊢
   have HG := Lib.hid (fun w' (hw' : Ext w5 w') => at_ext A5 hw')
   have EX5 := Lib.hid (EX.out.trans (E4.out.trans Ew5))
   have SX := Lib.hid (fun (W : World) (hW : Ext w5 W) => (S4.out.now Ew5).now hW)
   have SY := Lib.hid (fun (W : World) (hW : Ext w5 W) => ((SYH.out.now E4.out).now Ew5).now hW)
   replace e0 := Lib.hid (ext_cell (E4.out.trans Ew5) e0.out)
   replace e1 := Lib.hid (ext_cell (E4.out.trans Ew5) e1.out)
   replace e2 := Lib.hid (ext_cell (E4.out.trans Ew5) e2.out)
   replace e3 := Lib.hid (ext_cell (E4.out.trans Ew5) e3.out)
   replace e4 := Lib.hid (ext_cell (E4.out.trans Ew5) e4.out)
   replace e5 := Lib.hid (ext_cell (E4.out.trans Ew5) e5.out)
   clear A5 Ew5 hg8
   refine wp_region_held (S := Ext w5) (by kernel_rfl) ?_
   change wpAnyH _ _ _ _ _ _ _ _ w5.drew
   have S0 : Ext w5 w5.drew := Below.drew (Below.refl _ _)
   generalize w5.drew = W at *
   refine tkS 0 (some 47) (.bool true) S0 ?_
   simp only [pt0, pt4, pt1, pt2, pt3]
   refine tkS 1 (some 48) (.bool false) S0 ?_
   simp only [pt0, pt4, pt1, pt2, pt3]
   refine tkS 2 (some 49) (.bool false) S0 ?_
   simp only [pt0, pt4, pt1, pt2, pt3]
   refine takeS 3 (some 50) (.agg #[.string p, .int .i64 xk, .int .i64 z, .int .i64 m, .int .u64 t, .slice adx R capx]) rfl rfl (by kernel_rfl) (by kernel_rfl) (by kernel_rfl) (fun _ _ _ h => h) rfl S0 (fun w' hw' => exec_load_row 52 _ rfl g8 rfl 52 _ (HG.out w' hw') Tryz.underlying52 rfl (by kernel_rfl)) ?_
   simp only [pt0, pt4, pt1, pt2, pt3]
   refine tkS 4 (some 51) (.slice (some ⟨b, o, none⟩) n cap) S0 ?_
   simp only [pt0, pt4, pt1, pt2, pt3]
   refine tkS 5 (some 52) (.int .i64 (k : Int)) S0 ?_
   simp only [pt0, pt4, pt1, pt2, pt3]
   refine tkS 6 (some 53) (.pointer (some ⟨b, o + k * 6, none⟩)) S0 ?_
   simp only [pt0, pt4, pt1, pt2, pt3]
   refine tkS 7 (some 54) (.agg #[.string p, .int .i64 xk, .int .i64 z, .int .i64 m, .int .u64 t, .slice ady R capy]) S0 ?_ (hy := fun w' hw' => by have q0 := ext_cell hw' e0.out; have q1 := ext_cell hw' e1.out; have q2 := ext_cell hw' e2.out; have q3 := ext_cell hw' e3.out; have q4 := ext_cell hw' e4.out; have q5 := ext_cell hw' e5.out; go_simp)
   simp only [pt0, pt4, pt1, pt2, pt3]
   refine nextS 8 rfl (by kernel_rfl) rfl (callS (some 55) rfl 36 #[.agg #[.string p, .int .i64 xk, .int .i64 z, .int .i64 m, .int .u64 t, .slice adx R capx], .agg #[.string p, .int .i64 xk, .int .i64 z, .int .i64 m, .int .u64 t, .slice ady R capy]] (by go_simp) (fun v w' => v = .bool true ∧ Ext w5 w') (((sameRef_eq p xk z m t r adx ady R capx capy W HRr.out (SX.out W S0) (SY.out W S0) (by have := HRL.out; omega)).mono fun _ _ he => ⟨_, he.1, rfl, S0.trans he.2⟩)) ?_)
   rintro v1 W1 ⟨rfl, S1⟩
   simp only [pt0, pt4, pt1, pt2, pt3]
   refine ⟨S1, ?_⟩
   refine tkS 9 (some 56) (.bool false) S1 ?_
   simp only [pt0, pt4, pt1, pt2, pt3]
   refine tkS 10 (some 57) (.bool false) S1 ?_
   simp only [pt0, pt4, pt1, pt2, pt3]
   refine wpAnyH_done (by kernel_rfl) ?_ _
   have F := Lib.hid (EX5.out.trans S1)
   clear S1 S0
   go_wp2
   exact ⟨⟨k + 1, by omega, by go_num, F.out⟩, by simp [intOf]; omega⟩
  ·have d0 : decide ((k : Int) < (n : Int)) = false := by simp; omega
   obtain rfl : k = n := by omega
   have GK := GT.out wr EW.out ⟨#[47, 47]⟩
   rw [FN.out] at GK
   have GKH := Lib.hid GK
   clear hlt ex GK
   go_wp2_with fail
   refine (GKH.out).mono ?_
   rintro e w4 ⟨e6, q0, q1, q2, q3, q4, qa, qn, qc, rfl⟩
   have E4 := Lib.hid (EW.out.trans e6)
   clear e6 GKH
   have ea : Ext w4 (w4.alloc (.cells #[.string ⟨#[]⟩, .int .i64 0, .int .i64 0, .int .i64 0, .int .u64 0, .slice none 0 0] 52)) := Ext.alloc w4 _
   have aa := At.new w4 #[.string ⟨#[]⟩, .int .i64 0, .int .i64 0, .int .i64 0, .int .u64 0, .slice none 0 0] 52
   have one : (#[.string q0, .int .i64 q1, .int .i64 q2, .int .i64 q3, .int .u64 q4, .slice qa qn qc] : Array Value).all (·.oneCell') = true := by simp [Value.oneCell']
   have sz : (Tryz.prog.info? 52).map (·.size) = some (#[.string q0, .int .i64 q1, .int .i64 q2, .int .i64 q3, .int .u64 q4, .slice qa qn qc] : Array Value).size := szRef
   have Ew5 := ext_only' ea (Only.setRow w4.heap.size _ #[.string q0, .int .i64 q1, .int .i64 q2, .int .i64 q3, .int .u64 q4, .slice qa qn qc]) (Nat.le_refl _)
   have A5 : At ((w4.alloc (.cells #[.string ⟨#[]⟩, .int .i64 0, .int .i64 0, .int .i64 0, .int .u64 0, .slice none 0 0] 52)).setRow w4.heap.size #[.string q0, .int .i64 q1, .int .i64 q2, .int .i64 q3, .int .u64 q4, .slice qa qn qc]) w4.heap.size #[.string q0, .int .i64 q1, .int .i64 q2, .int .i64 q3, .int .u64 q4, .slice qa qn qc] 52 := aa.row _
   go_upto_region 10 with (refine wpList_store_row rfl 52 _ _ rfl w4.heap.size _ rfl rfl 52 _ aa sz rfl one ?_)
   clear ea aa sz one
   generalize (w4.alloc (.cells #[.string ⟨#[]⟩, .int .i64 0, .int .i64 0, .int .i64 0, .int .u64 0, .slice none 0 0] 52)).setRow w4.heap.size #[.string q0, .int .i64 q1, .int .i64 q2, .int .i64 q3, .int .u64 q4, .slice qa qn qc] = w5 at *
   have F := Lib.hid (E4.out.trans Ew5)
   clear A5 Ew5
   go_wp2
   go_ret
   exact ⟨rfl, F.out⟩
end Go.Proofs.YtnhokjnmpdiokaaGreatDoor
