/- The contract of Fix (the code's). -/
import Derived.Test.YtdohngjhfonifaaDoorQd
namespace Go.Proofs.YtdohngjhfonifaaDoor
open Go.RowKit Go.Sha
set_option linter.unusedSimpArgs false

/-- What is healed, and what stays bad. -/
def FPost (w : World) (f l : List Int) (e : Ending) (w' : World) : Prop := ∃ v u, e = .returned (.tuple #[v, u]) ∧ Ext w w' ∧ Src w' v f w'.heap.size ∧ IR w' u l
/-- What is being healed: bytes of the call's own. -/
def Fx (w : World) (base : Nat) (v : Value) (f : List Int) : Prop := (f = [] ∧ OwnB w base v []) ∨ ∃ g cap, v = .slice (some ⟨g, 0, none⟩) f.length cap ∧ base ≤ g ∧ f.length ≤ cap ∧ Buf w g f
theorem Fx.of_own {w : World} {base : Nat} {v : Value} {m : List Int} (h : OwnB w base v m) : Fx w base v m := by
  by_cases h0 : 0 < m.length
  · obtain ⟨g, cap, h1, h2, h3, h4⟩ := OwnB.buf h h0
    exact Or.inr ⟨g, cap, h1, h2, h3, h4⟩
  · have : m = [] := List.length_eq_zero_iff.1 (by omega)
    subst this
    exact Or.inl ⟨rfl, h⟩
theorem Fx.src {w : World} {base : Nat} {v : Value} {f : List Int} (h : Fx w base v f) : Src w v f w.heap.size := by
  rcases h with ⟨rfl, h⟩ | ⟨g, cap, rfl, _, h2, h3⟩
  · exact h.srcs _ (Or.inr (Nat.le_refl _))
  · exact h3.src _ (by have := h3.lt; omega) _ _ rfl h2
theorem Fx.ext {w w' : World} {base : Nat} {v : Value} {f : List Int} (h : Fx w base v f) (he : Ext w w') : Fx w' base v f := by
  rcases h with ⟨rfl, h⟩ | ⟨g, cap, rfl, h1, h2, h3⟩
  · exact Or.inl ⟨rfl, h.ext he⟩
  · exact Or.inr ⟨g, cap, rfl, h1, h2, h3.ext he⟩
/-- Bytes copied over others. -/
theorem Buf.put {w : World} {g : Nat} {f : List Int} (h : Buf w g f) (o : Nat) (x : List Int) (ho : o + x.length ≤ f.length) : Buf (w.setCells g o (x.map (Value.int .u8))) g (putAt f o x) ∧ Only g w (w.setCells g o (x.map (Value.int .u8))) := by
  refine ⟨?_, Only.cells g _ o w⟩
  obtain ⟨cur, a, b, c⟩ := h
  have a' : At w g cur.toList.toArray 5 := by simpa using a
  have h1 := At.cells (t := 5) (x.map (Value.int .u8)) cur.toList o w a' (by simp; omega)
  have hpl := putAt_length f o x ho
  refine ⟨_, h1, ?_, fun j hj => ?_⟩
  · rw [hpl]
    simp [splice]
    omega
  · rw [hpl] at hj
    rw [← Array.getElem?_toList]
    show (splice cur.toList o (x.map (Value.int .u8)))[j]? = _
    unfold splice putAt
    have ht : (cur.toList.take o).length = o := by simp; omega
    have ht2 : (f.take o).length = o := by simp; omega
    by_cases h2 : j < o
    · have l1 : (cur.toList.take o ++ x.map (Value.int .u8) ++ cur.toList.drop (o + (x.map (Value.int .u8)).length))[j]? = cur.toList[j]? := by
        rw [List.append_assoc, List.getElem?_append_left (by omega), List.getElem?_take_of_lt h2]
      have l2 : (f.take o ++ x ++ f.drop (o + x.length))[j]? = f[j]? := by
        rw [List.append_assoc, List.getElem?_append_left (by omega), List.getElem?_take_of_lt h2]
      rw [l1, l2, Array.getElem?_toList]
      exact c j hj
    · by_cases h3 : j < o + x.length
      · have l1 : (cur.toList.take o ++ x.map (Value.int .u8) ++ cur.toList.drop (o + (x.map (Value.int .u8)).length))[j]? = (x.map (Value.int .u8))[j - o]? := by
          rw [List.append_assoc, List.getElem?_append_right (by omega), ht, List.getElem?_append_left (by rw [List.length_map]; omega)]
        have l2 : (f.take o ++ x ++ f.drop (o + x.length))[j]? = x[j - o]? := by
          rw [List.append_assoc, List.getElem?_append_right (by omega), ht2, List.getElem?_append_left (by omega)]
        rw [l1, l2, List.getElem?_map, List.getElem?_eq_getElem (by omega)]
        rfl
      · have l1 : (cur.toList.take o ++ x.map (Value.int .u8) ++ cur.toList.drop (o + (x.map (Value.int .u8)).length))[j]? = cur.toList[j]? := by
          rw [List.append_assoc, List.getElem?_append_right (by omega), ht, List.getElem?_append_right (by rw [List.length_map]; omega), List.getElem?_drop, List.length_map]
          congr 1; omega
        have l2 : (f.take o ++ x ++ f.drop (o + x.length))[j]? = f[j]? := by
          rw [List.append_assoc, List.getElem?_append_right (by omega), ht2, List.getElem?_append_right (by omega), List.getElem?_drop]
          congr 1; omega
        rw [l1, l2, Array.getElem?_toList]
        exact c j hj

theorem grp_lt (s B : Int) (c k : Nat) (hc : 1 ≤ c) (hc2 : c ≤ 8) (h : (k : Int) < grpsN s B c) : ((k * c : Nat) : Int) < cntL s B := by
  unfold grpsN at h
  rw [if_neg (by omega)] at h
  have h1 := (Int.le_ediv_iff_mul_le (c := (c : Int)) (a := (k + 1 : Int)) (b := cntL s B + c - 1) (by omega)).1 (by omega)
  rw [Int.add_mul] at h1
  have e : ((k * c : Nat) : Int) = (k : Int) * c := by push_cast; rfl
  omega

def InvFx (w : World) (m : List Int) (b c : Nat) (leaves par : List (List Int)) (n : Nat) (vf i : Value) (wr : World) : Prop :=
  ∃ k : Nat, k ≤ n ∧ i = .int .i64 k ∧ Ext w wr ∧ Fx wr w.heap.size vf (healN m b c leaves par k)
def InvSr (w : World) (m : List Int) (b : Nat) (leaves : List (List Int)) (c k T U : Nat) (bad i : Value) (wr : World) : Prop :=
  ∃ (j : Nat) (bd : Int), T + j ≤ U ∧ i = .int .i64 ((T + j : Nat) : Int) ∧ bad = .int .i64 bd ∧ BadSt (gbJ m b leaves c k j) bd ∧ Ext w wr

set_option maxHeartbeats 8000000 in
theorem fix_any (vd vl vp : Value) (m : List Int) (b c : Nat) (leaves par : List (List Int)) (w : World) (hK : KAt w) (hs : Src w vd m w.heap.size) (hl : LR w vl leaves w.heap.size) (hp : LR w vp par w.heap.size)
    (hm : m.length ≤ 1048576) (hll : leaves.length ≤ 1000000000) (hpl : par.length ≤ 1000000000) (hpb : ∀ x ∈ par, Byt x) (hb1 : 1 ≤ b) (hb2 : b ≤ 4096) (hc1 : 1 ≤ c) (hc2 : c ≤ 8) :
    Calls Tryd.prog 60 #[vd, .int .i64 b, .int .i64 c, vl, vp] w (FPost w (fixL m b c leaves par) (badL (fixL m b c leaves par) b leaves)) := by
  obtain ⟨ad, cap, ev⟩ := hs.len
  subst ev
  obtain ⟨adl, capl, ev⟩ := hl.len
  subst ev
  obtain ⟨adp, capp, ev⟩ := hp.len
  subst ev
  obtain ⟨C, hC⟩ : ∃ n : Nat, cntL m.length b = n := Int.eq_ofNat_of_zero_le (cntL_nonneg _ _)
  obtain ⟨G, hG⟩ : ∃ n : Nat, grpsN m.length b c = n := Int.eq_ofNat_of_zero_le (grpsN_nonneg _ _ _)
  have hCb : C ≤ 1048576 := by have := cntL_le m.length b; omega
  have hGb : G ≤ 1048584 := by have := grpsN_le m.length b c; omega
  obtain ⟨P, hP⟩ : ∃ P, P = par.length := ⟨_, rfl⟩
  have HP := Lib.hid hP
  obtain ⟨n, hn⟩ : ∃ n, n = min G P := ⟨_, rfl⟩
  have hfx : fixL m b c leaves par = healN m b c leaves par n := by
    unfold fixL healC
    rw [hG, ← hP, Int.toNat_natCast, Int.toNat_natCast, hn]
  rw [hfx]
  clear hfx
  have hmin : ∀ w, (Builtin.min_ #[3, 3] 3 #[.int .i64 (G : Int), .int .i64 (P : Int)]).run Tryd.prog w = .ok (.int .i64 (n : Int)) w := fun w => by
    rw [run_min_int2]
    have : (if (P : Int) < (G : Int) then (P : Int) else (G : Int)) = (n : Int) := by split <;> omega
    rw [this]
  have hnG : n ≤ G := by omega
  have hnP : n ≤ P := by omega
  rw [← hP] at hp hpl ⊢
  clear hP hn
  have HC := Lib.hid hC; clear hC
  have HG := Lib.hid hG; clear hG
  have HPb := Lib.hid hpb; clear hpb
  have HPr := Lib.hid hp; clear hp
  have HLv := Lib.hid hl; clear hl
  obtain ⟨N, hN⟩ : ∃ N, N = leaves.length := ⟨_, rfl⟩
  have HN := Lib.hid hN
  rw [← hN] at HLv hll ⊢
  clear hN
  obtain ⟨L, hL⟩ : ∃ L, L = m.length := ⟨_, rfl⟩
  have HL := Lib.hid hL
  rw [← hL] at hs hm ⊢
  clear hL
  have HS := Lib.hid hs; clear hs
  go_enter Tryd.func60, Tryd.ntmps60
  go_wp2
  go_step3
  go_wp2_with fail
  refine (clone_any _ m w HS.out (by rw [← HL.out]; omega)).mono ?_
  rintro e w1 ⟨vf, rfl, e1, o1⟩
  go_wp2_with fail
  refine (cntM L b w1).mono ?_
  rintro e w' ⟨rfl, rfl⟩
  rw [HL.out, HC.out, ← HL.out]
  go_wp2
  go_step3
  go_wp2_with fail
  refine (groups_any L b c w1).mono ?_
  rintro e w' ⟨rfl, rfl⟩
  rw [HL.out, HG.out, ← HL.out]
  have f1 : Fx w1 w.heap.size vf (healN m b c leaves par 0) := Fx.of_own o1
  clear o1
  obtain ⟨adf, capf, ef⟩ := f1.src.len
  subst ef
  rw [healN_length, ← HL.out] at f1 ⊢
  go_wp2
  go_loopw [31] (fun i wr => InvFx w m b c leaves par n (.slice adf L capf) i wr) (fun i _ => n - (intOf i).toNat)
  case atStart => exact ⟨0, by omega, rfl, e1, f1⟩
  case round =>
    obtain ⟨k, hk, rfl, ex, fx⟩ := hrel
    obtain ⟨wa, rfl⟩ : ∃ wa, wa = wr := ⟨wr, rfl⟩
    by_cases hlt : k < n
    · have i0 : (k : Int) < (n : Int) := by omega
      have hT0 := grp_lt m.length b c k hc1 hc2 (by rw [HG.out]; omega)
      rw [HC.out] at hT0
      have hkc : k * c ≤ 8388672 := Nat.le_trans (Nat.mul_le_mul (show k ≤ 1048584 by omega) hc2) (by omega)
      obtain ⟨T, hT⟩ : ∃ T, T = k * c := ⟨_, rfl⟩
      have hT1 : (k : Int) * (c : Int) = (T : Int) := by rw [hT]; push_cast; rfl
      rw [← hT] at hT0 hkc
      have HT := Lib.hid hT; clear hT
      obtain ⟨U, hU⟩ : ∃ U, U = min (T + c) C := ⟨_, rfl⟩
      have hmin2 : ∀ w, (Builtin.min_ #[3, 3] 3 #[.int .i64 ((T : Int) + (c : Int)), .int .i64 (C : Int)]).run Tryd.prog w = .ok (.int .i64 (U : Int)) w := fun w => by
        rw [run_min_int2]
        have : (if (C : Int) < (T : Int) + (c : Int) then (C : Int) else (T : Int) + (c : Int)) = (U : Int) := by split <;> omega
        rw [this]
      have hU1 : U ≤ T + c := by omega
      have hU2 : U ≤ C := by omega
      have hU3 : T < U := by omega
      have HU := Lib.hid hU; clear hU
      obtain ⟨p, hp⟩ : ∃ p, par[k]? = some p := ⟨_, List.getElem?_eq_getElem (by rw [← HP.out]; omega)⟩
      have hl' := HPr.out
      rw [HP.out] at hl'
      obtain ⟨cap1, pb, po, ev1, _, hc1'⟩ := lr_at hl' (by rw [← HP.out]; omega)
      injection ev1 with q1 _ q2
      subst q1 q2
      obtain ⟨x, cx, sx⟩ := hc1' k p hp
      obtain ⟨adx, capx, exx⟩ := sx.len
      subst exx
      have hpb := HPb.out p (List.mem_of_getElem? hp)
      have cx' : ∀ w', Ext w w' → w'.cell? ⟨pb, po + k, none⟩ = some (.slice adx p.length capx) := fun w' h => by rw [Below.cell (p := ⟨pb, po + k, none⟩) h (World.block_lt_of_cell? w _ cx)]; exact cx
      have HCX := Lib.hid cx'
      have cxa := cx' wa ex
      have Hp := Lib.hid hp
      have HSx := Lib.hid sx
      have Hpb := Lib.hid hpb
      clear cx cx' hl' hc1' hp sx hpb
      have j0 : (k : Int) < (P : Int) := by omega
      have Hsucc := Lib.hid (healN_succ m b c leaves par k)
      by_cases hpl2 : p.length = b
      · have HPL := Lib.hid hpl2
        rw [hpl2] at cxa HCX HSx
        have t3 : ((b : Int) != (b : Int)) = false := by simp
        clear hpl2
        go_wp2
        go_loopw [14, 15] (fun bad i wr => InvSr wa m b leaves c k T U bad i wr) (fun _ i _ => U - (intOf i).toNat)
        case atStart => exact ⟨0, -1, by omega, rfl, rfl, Or.inl ⟨rfl, rfl⟩, Ext.refl _⟩
        case round =>
          obtain ⟨j, bd, hj, rfl, rfl, hst, e2⟩ := hrel
          by_cases hlt2 : T + j < U
          · have i2 : ((T + j : Nat) : Int) < (U : Int) := by omega
            have ex2 := ex.trans e2
            have hsr : Src wr (.slice ad L cap) m wr.heap.size := HS.out.now ex2
            have hlr : LR wr (.slice adl N capl) leaves wr.heap.size := HLv.out.now ex2
            have kr := hK.below ex2 hK.lt
            have hbt := blockT_length m (b : Int) ((T + j : Nat) : Int)
            rw [Int.toNat_natCast] at hbt
            obtain ⟨E, hE⟩ : ∃ E, E = goodL (blockT m b ((T + j : Nat) : Int)) (T + j) leaves := ⟨_, rfl⟩
            have hg := gbJ_succ m b leaves c k j
            rw [← HT.out] at hg
            have hP : (decide (((T + j : Nat) : Int) < cntL m.length b) && badB m b leaves (T + j)) = !E := by
              rw [HC.out, decide_eq_true (show ((T + j : Nat) : Int) < (C : Int) by omega), Bool.true_and]
              unfold badB
              rw [hE]
            rw [hP] at hg
            have Hg := Lib.hid hg
            have HE := Lib.hid hE
            clear hg hP hE
            go_wp2_with fail
            refine (block_any _ m b ((T + j : Nat) : Int) wr hsr (by rw [← HL.out]; exact hm)).mono ?_
            rintro e w2 ⟨v2, rfl, e3, o3⟩
            go_wp2_with fail
            refine (isGood_any v2 _ (T + j) _ leaves w2 (kr.below e3 kr.lt) (o3.srcs _ (Or.inr (Nat.le_refl _))) (hlr.now e3) (by omega) (by omega) (by rw [← HN.out]; exact hll)).mono ?_
            rintro e w3 ⟨rfl, e4⟩
            rw [← HE.out]
            have e5 : Ext wa w3 := (e2.trans e3).trans e4
            clear o3 e3 e4 e2 hsr hlr kr HE ex2
            cases E with
            | true =>
              have Hg2 : gbJ m b leaves c k (j + 1) = gbJ m b leaves c k j := by rw [Hg.out]; simp
              have HG2 := Lib.hid Hg2; clear Hg2
              have Hst := Lib.hid hst; clear hst
              go_wp2
              exact ⟨⟨j + 1, bd, by omega, by go_num, rfl, by rw [HG2.out]; exact Hst.out, e5⟩, by simp [intOf]; omega⟩
            | false =>
              rcases hst with ⟨h0, rfl⟩ | ⟨x, h0, rfl⟩
              · have Hg2 : gbJ m b leaves c k (j + 1) = [T + j] := by rw [Hg.out, h0]; simp
                have HG2 := Lib.hid Hg2; clear Hg2 h0
                go_wp2
                exact ⟨⟨j + 1, ((T + j : Nat) : Int), by omega, by go_num, by go_num, Or.inr ⟨T + j, HG2.out, rfl⟩, e5⟩, by simp [intOf]; omega⟩
              · have Hg2 : gbJ m b leaves c k (j + 1) = [x, T + j] := by rw [Hg.out, h0]; simp
                have hmore := gbJ_more m b leaves c k (j + 1) (c - (j + 1))
                rw [show j + 1 + (c - (j + 1)) = c by omega, Hg2] at hmore
                have hh := heal_none m b c leaves par (healN m b c leaves par k) k (by rw [gbJ_full]; simp at hmore; omega)
                have Hh := Lib.hid hh; clear hh hmore Hg2 h0
                have x0 : (0 : Int) ≤ (x : Int) := by omega
                go_wp2
                exact ⟨⟨k + 1, by omega, by go_num, ex.trans e5, by rw [Hsucc.out, Hh.out]; exact fx.ext e5⟩, by simp [intOf]; omega⟩
          · have hje : T + j = U := by omega
            have i2 : ¬ (((T + j : Nat) : Int) < (U : Int)) := by omega
            have hfull : gbad m b leaves c k = gbJ m b leaves c k j := by
              rw [gbJ_full]
              by_cases h : T + c ≤ C
              · have : j = c := by have := HU.out; omega
                rw [this]
              · have h2 := gbJ_end m b leaves c k j (by rw [HC.out, ← HT.out]; have := HU.out; omega) (c - j)
                rw [show j + (c - j) = c by omega] at h2
                exact h2
            have ex2 := ex.trans e2
            rcases hst with ⟨h0, rfl⟩ | ⟨x, h0, rfl⟩
            · have hh := heal_none m b c leaves par (healN m b c leaves par k) k (by rw [hfull, h0]; simp)
              have Hh := Lib.hid hh; clear hh hfull h0
              go_wp2
              exact ⟨⟨k + 1, by omega, by go_num, ex2, by rw [Hsucc.out, Hh.out]; exact fx.ext e2⟩, by simp [intOf]; omega⟩
            · obtain ⟨j1, hj1, hx, hxC, _⟩ := gbad_mem m b leaves c k x (by rw [hfull, h0]; simp)
              rw [← HT.out] at hx
              subst hx
              rw [h0] at hfull
              have hone := heal_one m b c leaves par (healN m b c leaves par k) k (T + j1) p Hp.out (by rw [HPL.out]) hfull
              rw [Int.toNat_natCast] at hone
              have Hone := Lib.hid hone; clear hone hfull h0
              obtain ⟨_, _, hin, hlb, hl0⟩ := block_in m b (T + j1) hxC
              have hml := madeL_length p m b c k (T + j1) (by rw [HPL.out]; exact hlb)
              obtain ⟨M, hM⟩ : ∃ M, M = madeL p m b c k (T + j1) := ⟨_, rfl⟩
              rw [← hM] at hml Hone
              rw [← hml] at hin hlb hl0
              clear hml
              have hsr : Src wr (.slice ad L cap) m wr.heap.size := HS.out.now ex2
              have hsp : Src wr (.slice adx b capx) p wr.heap.size := HSx.out.now ex2
              have hlr : LR wr (.slice adl N capl) leaves wr.heap.size := HLv.out.now ex2
              have kr := hK.below ex2 hK.lt
              have cxr := HCX.out wr ex2
              have fxr := fx.ext e2
              have R := remade_any _ _ m p b c k j1 wr hsr hsp (by rw [← HL.out]; exact hm) hb1 hb2 hc1 hc2 HPL.out Hpb.out hj1 (by omega)
              rw [← HT.out, ← hM] at R
              have HM := Lib.hid hM; clear hM
              have RR := Lib.hid R; clear R
              obtain ⟨E, hE⟩ : ∃ E, E = goodL M (T + j1) leaves := ⟨_, rfl⟩
              rw [← hE] at Hone
              have HE := Lib.hid hE; clear hE
              have x0 : ¬ (((T + j1 : Nat) : Int) < 0) := by omega
              have d0 : decide (((T + j1 : Nat) : Int) < 0) = false := by simp; omega
              clear hsr hsp e2 hxC
              go_wp2_with fail
              refine RR.out.mono ?_
              rintro e w2 ⟨v2, rfl, e3, s3⟩
              have s4 := s3 w2.heap.size (Or.inr (Nat.le_refl _))
              have hMl : M.length ≤ 4096 := by omega
              go_wp2_with fail
              refine (isGood_any v2 M (T + j1) _ leaves w2 (kr.below e3 kr.lt) s4 (hlr.now e3) (by omega) (by omega) (by rw [← HN.out]; exact hll)).mono ?_
              rintro e w3 ⟨rfl, e4⟩
              rw [← HE.out]
              have ex5 := (ex2.trans e3).trans e4
              have fx5 := (fxr.ext e3).ext e4
              have s5 := s4.now e4
              clear e3 e4 s3 s4 hlr kr fxr ex2 cxr RR HE
              cases E with
              | false =>
                have Hh : heal m b c leaves par (healN m b c leaves par k) k = healN m b c leaves par k := by rw [Hone.out]; rfl
                have HH := Lib.hid Hh; clear Hh
                go_wp2
                exact ⟨⟨k + 1, by omega, by go_num, ex5, by rw [Hsucc.out, HH.out]; exact fx5⟩, by simp [intOf]; omega⟩
              | true =>
                have Hh : heal m b c leaves par (healN m b c leaves par k) k = putAt (healN m b c leaves par k) ((T + j1) * b) M := by rw [Hone.out]; rfl
                have hfl := healN_length m b c leaves par k
                rcases fx5 with ⟨h0, _⟩ | ⟨g, capg, ev, hgw, hcapg, bf⟩
                · rw [h0] at hfl
                  simp at hfl
                  omega
                · rw [hfl, ← HL.out] at ev hcapg
                  injection ev with q1 _ q2
                  subst q1 q2
                  obtain ⟨adv, capv, sb, so, ev2, y2, y3, y4, y5, y6⟩ := s5
                  subst ev2
                  obtain rfl := y3 hl0
                  obtain ⟨O, hO⟩ : ∃ O, O = (T + j1) * b := ⟨_, rfl⟩
                  have hO1 : ((T + j1 : Nat) : Int) * (b : Int) = (O : Int) := by rw [hO]; push_cast; rfl
                  have hO2 : ((T : Int) + (j1 : Int)) * (b : Int) = (O : Int) := by rw [← hO1]; push_cast; rfl
                  rw [← hO] at Hh hin
                  rw [← HL.out] at hin
                  obtain ⟨bp, op⟩ := bf.put O M (by rw [hfl, ← HL.out]; exact hin)
                  have HH := Lib.hid Hh
                  obtain ⟨X, hX⟩ : ∃ X, X = M.length := ⟨_, rfl⟩
                  rw [← hX] at hin hl0 y2 y5 ⊢
                  have HX := Lib.hid hX
                  have hsrc : ∀ t u, (M.map (Value.int .u8))[t]? = some u → w3.cell? ((⟨sb, so, none⟩ : Addr).add t) = some u := by
                    intro t u hu
                    have ht : t < M.length := by simpa using (List.getElem?_eq_some_iff.1 hu).1
                    rw [Addr.add_mid, y5 t (by omega), ← hu, List.getElem?_map, List.getElem?_eq_getElem ht]; rfl
                  have hth : w3.there g O X := fun t ht => ⟨by rw [bf.cell (O + t) (by rw [hfl, ← HL.out]; omega)]; rfl, bf.frozen (O + t)⟩
                  have S := Lib.hid hsrc
                  have Th := Lib.hid hth
                  have z3 := ex5.size
                  clear hsrc hth y3 y4 y5 y6 Hh hX hO bf
                  have c1 : O ≤ L := by omega
                  have c2 : ¬ (capf = O) := by omega
                  have c3 : O ≤ capf := by omega
                  go_wp2_with (refine list_copy rfl (.tmp 84) (.tmp 85) 22 22 rfl 5 Tryd.underlying22 sz5b g O (L - O) (capf - O) ⟨sb, so, none⟩ X capv rfl rfl (M.map (Value.int .u8)) X (by rw [List.length_map]; exact HX.out.symm) (by show X = min X (L - O); omega) S.out Th.out (by simp [Value.oneCell']) ?_)
                  have e6 : Ext w _ := op.below ex5 hgw z3
                  have hpt : (putAt (healN m b c leaves par k) O M).length = L := by rw [putAt_length _ _ _ (by rw [hfl, ← HL.out, ← HX.out]; exact hin), hfl, HL.out]
                  exact ⟨⟨k + 1, by omega, by go_num, e6, by rw [Hsucc.out, HH.out]; exact Or.inr ⟨g, capf, by rw [hpt], hgw, by rw [hpt]; exact hcapg, bp⟩⟩, by simp [intOf]; omega⟩
      · have t3 : ((p.length : Int) != (b : Int)) = true := by simp; omega
        have hh := heal_len m b c leaves par (healN m b c leaves par k) k p Hp.out (by omega)
        have Hh := Lib.hid hh; clear hh hpl2
        go_wp2
        exact ⟨⟨k + 1, by omega, by go_num, ex, by rw [Hsucc.out, Hh.out]; exact fx⟩, by simp [intOf]; omega⟩
    · obtain rfl : k = n := by omega
      have i0 : ¬ ((k : Int) < (k : Int)) := by omega
      have sf := fx.src
      have kr := hK.below ex hK.lt
      have hlv : LR wa (.slice adl N capl) leaves wa.heap.size := HLv.out.now ex
      have hfl := healN_length m b c leaves par k
      go_wp2_with fail
      refine (bad_any _ (healN m b c leaves par k) b _ leaves wa kr sf hlv (by rw [hfl, ← HL.out]; exact hm) (by rw [← HN.out]; exact hll)).mono ?_
      rintro e w2 ⟨u, rfl, e2, ir⟩
      have s2 := sf.now e2
      have e3 := ex.trans e2
      clear hlv kr
      go_wp2
      simp only [Exit.noGoto]
      go_ret2
      exact ⟨_, _, rfl, e3, s2, ir⟩
end Go.Proofs.YtdohngjhfonifaaDoor
