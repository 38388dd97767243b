/- Crash, whatever names are held: the walk. -/
import Derived.Test.YtbneedmfpldpfaaGreatDoorSjM
set_option linter.unusedSimpArgs false
set_option linter.unusedVariables false
namespace Go.Proofs.YtbneedmfpldpfaaGreatDoor
open Go.RowKit Go.Pth

set_option maxRecDepth 100000 in
set_option maxHeartbeats 16000000 in
theorem crash_all (b : Nat) (S : SV) (V : SW) (L : Nat → Option Role) (vp : Value) (xs0 : List Int) (w : World) (h : Rep w b S V L) (hs : Sound S) (hp : IntsIn w vp xs0) (hx0 : ∀ x ∈ xs0, -9223372036854775808 ≤ x ∧ x ≤ 9223372036854775807) :
    Calls Tryz.prog 15 #[ptr b, vp] w (CrPost2 w S) := by
  have c0 := Lib.hid (show w.cell? ⟨b, 0, none⟩ = some (.int .i64 S.room) by rw [h.c 0]; rfl)
  have c1 := Lib.hid (show w.cell? ⟨b, 1, none⟩ = some (.int .u64 S.clock) by rw [h.c 1]; rfl)
  have ND := Lib.hid h.nd
  have HSd := Lib.hid hs
  have HX0 := Lib.hid hx0
  have IDS := Lib.hid (fun (q : Nat) => (fold_ids (S.acts.take q) S.kept S.ids (legal_take _ _ _ hs.legal) h.rk (fun a ha => hs.made a (List.mem_of_mem_take ha)) : ∀ x ∈ foldN S.kept (S.acts.take q), x.2 ∈ S.ids))
  obtain ⟨W1, hW1⟩ : ∃ W1, W1 = w.drew.alloc (.cells #[.int .i64 S.room, .int .u64 S.clock, .slice none 0 0, .slice none 0 0, .slice none 0 0, .int .i64 0, .int .i64 0, .int .i64 0] 57) := ⟨_, rfl⟩
  have NR := new_rep w.drew S.room S.clock
  rw [← hW1] at NR
  have E1 : Ext w W1 := by rw [hW1]; exact (Ext.drew w).trans (Ext.alloc _ _)
  obtain ⟨V1, L1, R1, hL1, hVn1⟩ := NR
  have hsz : w.drew.heap.size = w.heap.size := rfl
  rw [hsz] at R1 hL1
  have HR1 := Lib.hid R1
  have HVn1 := Lib.hid (And.intro hVn1.1 (And.intro hVn1.2 hL1))
  have HW1 := Lib.hid hW1
  have HE1 := Lib.hid E1
  have HP := Lib.hid hp
  have HH := Lib.hid (fun (pick : Int) (w' : World) (he : Ext w w') => held_all b S V L pick w' (h.ext he) hs)
  have HN1 := Lib.hid (next_base vp xs0 w W1 hp E1)
  clear h hW1 R1 E1 hp hsz hL1 hs hx0 hVn1
  obtain ⟨adp, kp, bp, op_, hins⟩ := HP.out
  have hvp := hins.val
  clear hins
  subst hvp
  obtain ⟨rm, hrm⟩ : ∃ r, r = S.room := ⟨_, rfl⟩
  obtain ⟨ck, hck⟩ : ∃ r, r = S.clock := ⟨_, rfl⟩
  rw [← hrm] at c0 HR1 HW1
  rw [← hck] at c1 HR1 HW1
  have HRC := Lib.hid (And.intro hrm hck)
  clear hrm hck
  obtain ⟨np, hnp⟩ : ∃ n, n = xs0.length := ⟨_, rfl⟩
  rw [← hnp] at HN1 ⊢
  clear hnp
  unfold ptr at *
  go_enter Tryz.func15, Tryz.ntmps15
  go_upto_region 3 with fail
  have hS : Ext w w.drew := Ext.drew w
  have d0 := c0.out
  have d1 := c1.out
  refine wp_region_held (S := fun w' => Ext w w') (by kernel_rfl) ?_
  change wpAnyH _ _ _ _ _ _ _ _ (World.drew _)
  refine takeS 0 (some 11) (.pointer (some ⟨b, 0, none⟩)) rfl rfl (by kernel_rfl) (by kernel_rfl) (by kernel_rfl) (fun _ _ _ h => h) rfl hS (fun w' hw' => by go_simp) ?_
  simp only [Act.put, List.setIfInBounds_toArray, List.set_cons_zero, List.set_cons_succ]
  refine takeS 1 (some 12) (.pointer (some ⟨b, 0, none⟩)) rfl rfl (by kernel_rfl) (by kernel_rfl) (by kernel_rfl) (fun _ _ _ h => h) rfl hS (fun w' hw' => by go_simp) ?_
  simp only [Act.put, List.setIfInBounds_toArray, List.set_cons_zero, List.set_cons_succ]
  refine takeS 2 (some 13) (.pointer (some ⟨b, 0, none⟩)) rfl rfl (by kernel_rfl) (by kernel_rfl) (by kernel_rfl) (fun _ _ _ h => h) rfl hS (fun w' hw' => by go_simp) ?_
  simp only [Act.put, List.setIfInBounds_toArray, List.set_cons_zero, List.set_cons_succ]
  refine takeS 3 (some 14) (.int .i64 rm) rfl rfl (by kernel_rfl) (by kernel_rfl) (by kernel_rfl) (fun _ _ _ h => h) rfl hS (fun w' hw' => by have := hw'.cell d0; go_simp) ?_
  simp only [Act.put, List.setIfInBounds_toArray, List.set_cons_zero, List.set_cons_succ]
  refine takeS 4 (some 15) (.pointer (some ⟨b, 0, none⟩)) rfl rfl (by kernel_rfl) (by kernel_rfl) (by kernel_rfl) (fun _ _ _ h => h) rfl hS (fun w' hw' => by go_simp) ?_
  simp only [Act.put, List.setIfInBounds_toArray, List.set_cons_zero, List.set_cons_succ]
  refine takeS 5 (some 16) (.pointer (some ⟨b, 0, none⟩)) rfl rfl (by kernel_rfl) (by kernel_rfl) (by kernel_rfl) (fun _ _ _ h => h) rfl hS (fun w' hw' => by go_simp) ?_
  simp only [Act.put, List.setIfInBounds_toArray, List.set_cons_zero, List.set_cons_succ]
  refine takeS 6 (some 17) (.pointer (some ⟨b, 1, none⟩)) rfl rfl (by kernel_rfl) (by kernel_rfl) (by kernel_rfl) (fun _ _ _ h => h) rfl hS (fun w' hw' => by go_simp) ?_
  simp only [Act.put, List.setIfInBounds_toArray, List.set_cons_zero, List.set_cons_succ]
  refine takeS 7 (some 18) (.int .u64 ck) rfl rfl (by kernel_rfl) (by kernel_rfl) (by kernel_rfl) (fun _ _ _ h => h) rfl hS (fun w' hw' => by have := hw'.cell d1; go_simp) ?_
  simp only [Act.put, List.setIfInBounds_toArray, List.set_cons_zero, List.set_cons_succ]
  refine takeS 8 (some 19) (.agg #[.int .i64 rm, .int .u64 ck, .slice none 0 0, .slice none 0 0, .slice none 0 0, .int .i64 0, .int .i64 0, .int .i64 0]) rfl rfl (by kernel_rfl) (by kernel_rfl) (by kernel_rfl) (fun _ _ _ h => h) rfl hS (fun w' hw' => by go_simp) ?_
  simp only [Act.put, List.setIfInBounds_toArray, List.set_cons_zero, List.set_cons_succ]
  refine nextS 9 rfl (by kernel_rfl) rfl ?_
  refine runV (some 20) rfl (.pointer (some ⟨w.heap.size, 0, none⟩)) W1 (by have h1 := HW1.out; go_simp) ?_
  refine ⟨HE1.out, ?_⟩
  simp only [Act.put, List.setIfInBounds_toArray, List.set_cons_zero, List.set_cons_succ]
  refine takeS 10 (some 5) (.pointer (some ⟨w.heap.size, 0, none⟩)) rfl rfl (by kernel_rfl) (by kernel_rfl) (by kernel_rfl) (fun _ _ _ h => h) rfl HE1.out (fun w' hw' => by go_simp) ?_
  simp only [Act.put, List.setIfInBounds_toArray, List.set_cons_zero, List.set_cons_succ]
  refine wpAnyH_done (by kernel_rfl) ?_ _
  clear hS d0 d1 c0 c1
  go_wp2_with fail
  refine (HN1.out).mono ?_
  rintro e w2 ⟨vq, rfl, iq, e2⟩
  obtain ⟨adq, kq, bq, oq, hinq⟩ := iq
  have hvq := hinq.val
  have HQ := Lib.hid (⟨_, _, _, _, hinq⟩ : IntsIn w vq xs0.tail)
  have HXT := Lib.hid (fun x (hx : x ∈ xs0.tail) => HX0.out x (List.mem_of_mem_tail hx))
  subst hvq
  obtain ⟨nq, hnq⟩ : ∃ n, n = xs0.tail.length := ⟨_, rfl⟩
  rw [← hnq] at HQ ⊢
  clear hnq
  have HE2 := Lib.hid (HE1.out.trans e2)
  have R2 := Lib.hid (HR1.out.ext e2)
  obtain ⟨x0, hx0⟩ : ∃ x, x = xs0.headD 0 := ⟨_, rfl⟩
  rw [← hx0]
  clear hinq e2 HN1 HR1 hx0
  go_wp2_with fail
  refine (HH.out x0 _ HE2.out).mono ?_
  rintro e w3 ⟨pk, vh, hpk, rfl, th, e3, hfrh⟩
  obtain ⟨m, hm⟩ : ∃ m, m = foldN S.kept (S.acts.take pk) := ⟨_, rfl⟩
  rw [← hm] at th
  have HPM := Lib.hid (And.intro hpk hm)
  have hmt : Tree m := by rw [hm]; exact fold_tree _ _ (legal_take _ _ _ HSd.out.legal) HSd.out.tree
  have hml : m.length ≤ 20000 := by
    rw [hm]
    have h1 := fold_len (S.acts.take pk) S.kept (legal_take _ _ _ HSd.out.legal)
    rw [List.length_take] at h1
    have h2 := HSd.out.few
    omega
  have MID := Lib.hid (fun x (hx : x ∈ m) => IDS.out pk x (by rw [← hm]; exact hx))
  have MT := Lib.hid hmt
  obtain ⟨dh, kh, bh, oh, th⟩ := th
  have hvh := th.val
  have TH := Lib.hid th
  subst hvh
  obtain ⟨M, hM⟩ : ∃ n, n = m.length := ⟨_, rfl⟩
  have HM := Lib.hid hM
  rw [← hM] at hml ⊢
  have HE3 := Lib.hid (HE2.out.trans e3)
  have R3 := Lib.hid (R2.out.ext e3)
  have Q3 := Lib.hid HQ.out
  obtain ⟨gg, hg⟩ : ∃ gg, gg = w.heap.size := ⟨_, rfl⟩
  have hlt3 : gg < w3.heap.size := by rw [hg]; exact R3.out.cell.lt
  have GL2 := Lib.hid (show gg < w2.heap.size by rw [hg]; exact R2.out.cell.lt)
  have FRH := Lib.hid hfrh
  clear hfrh
  have GW := Lib.hid (show w.heap.size ≤ gg by omega)
  have GL := Lib.hid hlt3
  rw [← hg] at R3 ⊢
  have INI := Lib.hid (show InvCr2 w w3 gg S rm ck m (.slice adq nq kq) (.int .i64 0) w3 from ⟨0, xs0.tail, [], [], (fun _ => newN 0 0), V1, L1, by omega, rfl, Q3.out, HXT.out, by simp, fun q hq => by simp at hq, R3.out, ⟨fun g hg => by rw [HVn1.out.1] at hg; (cases hg), HVn1.out.2.1, fun i hi => by rw [hg]; exact HVn1.out.2.2 i hi⟩, Chg.refl _ _⟩)
  clear th e3 R2 HQ HH hM hm hpk hmt hg hlt3 Q3 HXT HVn1
  go_wp2
  go_loopw [1, 6, 30] (fun s1 s6 s30 wr => InvCr2 w w3 gg S rm ck m s1 s30 wr) (fun _ _ s30 _ => M - (intOf s30).toNat)
  case atStart => exact INI.out
  case round =>
    clear INI
    obtain ⟨k, xs, ps, idr, ndr, Vr, Lr, hk, rfl, hq, hxs, hmk, hcp, hR, hO, hC⟩ := hrel
    rw [← HM.out] at hk
    have HXS := Lib.hid hxs
    have HR := Lib.hid hR
    have HQ := Lib.hid hq
    obtain ⟨adz, kz, bz, oz, hinz⟩ := hq
    have hvz := hinz.val
    subst hvz
    obtain ⟨nz, hnz⟩ : ∃ n, n = xs.length := ⟨_, rfl⟩
    rw [← hnz] at HQ ⊢
    have hpl : ps.length = k := by
      have := congrArg List.length hmk
      rw [List.length_take, List.length_map, ← HM.out] at this
      omega
    have HST := Lib.hid (And.intro hmk (And.intro hcp (And.intro hO (And.intro hC hpl))))
    clear hinz hnz hxs hmk hcp hO hR hpl
    by_cases hlt : k < M
    · have i0 : (k : Int) < (M : Int) := by omega
      have i1 : (0 : Int) ≤ (k : Int) := by omega
      have hkm : k < m.length := by rw [← HM.out]; exact hlt
      have hadh := TH.out.adr (by omega)
      subst hadh
      have n0 := TH.out.nm k hkm
      have n1 := TH.out.nd k hkm
      obtain ⟨⟨p, a⟩, hx⟩ : ∃ x, m[k] = x := ⟨_, rfl⟩
      have hx? : m[k]? = some (p, a) := by rw [List.getElem?_eq_getElem hkm, hx]
      rw [hx] at n0 n1
      simp only at n0 n1
      have hbg : ¬ bh = gg := fun e => by
        have h1 := FRH.out bh rfl
        have h2 := GL2.out
        omega
      have m0 := hC.cell n0 hbg
      have m1 := hC.cell n1 hbg
      have haS : a ∈ S.ids := MID.out (p, a) (by rw [← hx]; exact List.getElem_mem hkm)
      have nda := ND.out a haS
      have hEw : Ext w wr := ((Chg.of_ext (X := fun _ => False) HE3.out).trans hC (fun i hi e => by have := GW.out; omega)).ext
      have hrn : Row wr 78 2 Vr.n (cpN ps).length (ents (cpN ps)) := HR.out.nm
      rw [cpN_len, HST.out.2.2.2.2] at hrn
      obtain ⟨dn, kn, hvn, -⟩ := hrn.shape
      have HVN := Lib.hid hvn
      have hbeL : Lr wr.heap.size = none := Classical.byContradiction fun e => Nat.lt_irrefl _ (HR.out.lt _ e)
      have HBL := Lib.hid hbeL
      have HXQ := Lib.hid hx?
      have HKM := Lib.hid hkm
      clear hrn hvn hbeL n0 n1 hx? hkm hx haS
      unfold ptr at m1
      obtain ⟨W4, hW4⟩ : ∃ W4, W4 = wr.alloc (.cells #[.string (tx p), .pointer (some ⟨a, 0, none⟩)] 78) := ⟨_, rfl⟩
      have e4 : Ext wr W4 := by rw [hW4]; exact Ext.alloc _ _
      have hat4 : At W4 wr.heap.size #[.string (tx p), .pointer (some ⟨a, 0, none⟩)] 78 := by rw [hW4]; exact At.new _ _ _
      have nd4 := nda.1.ext (hEw.trans e4)
      have OKA := Lib.hid nda.2
      have R4 := Lib.hid (HR.out.ext e4)
      have c5 : W4.cell? ⟨a, 5, none⟩ = some (V.nv a).l := by rw [nd4.c 5]; rfl
      rw [hW4] at c5
      have CN := Lib.hid (contains_any (V.nv a).l (S.nd a).loose W4 nd4.l (by rw [nda.2.ll]; have := nda.2.len; unfold secs; omega))
      have NX := Lib.hid (next_base (.slice adz nz kz) xs w W4 HQ.out (hEw.trans e4))
      have HW4 := Lib.hid hW4
      have N4 := Lib.hid nd4
      have C4 := Lib.hid (hC.trans (Chg.of_ext e4) (fun _ _ q => q))
      have X0 := Lib.hid (show W4.cell? ⟨wr.heap.size, 0, none⟩ = some (.string (tx p)) by rw [hat4.cell]; rfl)
      have X1 := Lib.hid (show W4.cell? ⟨wr.heap.size, 1, none⟩ = some (.pointer (some ⟨a, 0, none⟩)) by rw [hat4.cell]; rfl)
      have hbl4 : wr.heap.size < W4.heap.size := hat4.lt
      have HB4 := Lib.hid hbl4
      obtain ⟨b0, hb0⟩ : ∃ b0, b0 = (S.nd a).loose.any id := ⟨_, rfl⟩
      rw [← hb0] at CN
      clear hat4 e4 nd4 hW4 hC hb0 hbl4 nda hEw
      go_wp2_with fail
      rw [← HW4.out]
      refine (CN.out).mono ?_
      rintro e w' ⟨rfl, rfl⟩
      clear c5
      cases b0
      case false =>
        have HX1 := Lib.hid (show -9223372036854775808 ≤ (0 : Int) ∧ (0 : Int) ≤ 9223372036854775807 by omega)
        have Q5 := Lib.hid HQ.out
        have XT := Lib.hid HXS.out
        have N5 := Lib.hid N4.out
        have C5 := Lib.hid C4.out
        have R5 := Lib.hid R4.out
        have HB5 := Lib.hid HB4.out
        have y0 := X0.out
        have y1 := X1.out
        have CR := Lib.hid (crashed_any a (S.nd a) (V.nv a) 0)
        have yb : W4.cell? ⟨gg, 2, none⟩ = some (.slice dn k kn) := by rw [R5.out.c 2]; simp only [scells]; rw [HVN.out]; rfl
        clear X0 X1 N4 R4 NX CN HR C4 HB4 HW4
        clear m0 m1
        generalize wr.heap.size = be at *
        go_upto_region 11 with fail
        have hS : W4.drew.cell? ⟨be, 0, none⟩ = some (.string (tx p)) ∧ W4.drew.cell? ⟨be, 1, none⟩ = some (.pointer (some ⟨a, 0, none⟩)) := ⟨y0, y1⟩
        have yb2 : W4.drew.cell? ⟨gg, 2, none⟩ = some (.slice dn k kn) := yb
        have N6 := Lib.hid (N5.out.ext (Ext.drew W4))
        have R6 := Lib.hid (R5.out.ext (Ext.drew W4))
        have CR2 := Lib.hid (CR.out W4.drew N6.out OKA.out HX1.out)
        have C6 := Lib.hid (C5.out.trans (Chg.of_ext (Ext.drew W4)) (fun _ _ q => q))
        have FN := Lib.hid (fun (a' : Nat) (V9 : Vs) (w6 : World) (n6 : NdIn w6 a' ((S.nd a).crash 0) V9) (e6 : Ext W4.drew w6) (f6 : ∀ i, Foot a' V9 i → W4.drew.heap.size ≤ i) => crash_fin2 (be := be) R6.out HVN.out HST.out.2.2.2.2 (by omega) HST.out.1 HXQ.out MT.out.srt HST.out.2.1 HST.out.2.2.1 C6.out OKA.out HB5.out HBL.out n6 e6 f6)
        clear CR N5 N6 R5 R6 C5 C6 yb y0 y1
        refine wp_region_held (S := fun w' => w'.cell? ⟨be, 0, none⟩ = some (.string (tx p)) ∧ w'.cell? ⟨be, 1, none⟩ = some (.pointer (some ⟨a, 0, none⟩))) (by kernel_rfl) ?_
        change wpAnyH _ _ _ _ _ _ _ _ (World.drew _)
        refine takeS 0 (some 45) (.pointer (some ⟨gg, 0, none⟩)) rfl rfl (by kernel_rfl) (by kernel_rfl) (by kernel_rfl) (fun _ _ _ h => h) rfl hS (fun w' hw' => by go_simp) ?_
        simp only [Act.put, List.setIfInBounds_toArray, List.set_cons_zero, List.set_cons_succ]
        refine takeS 1 (some 46) (.pointer (some ⟨gg, 0, none⟩)) rfl rfl (by kernel_rfl) (by kernel_rfl) (by kernel_rfl) (fun _ _ _ h => h) rfl hS (fun w' hw' => by go_simp) ?_
        simp only [Act.put, List.setIfInBounds_toArray, List.set_cons_zero, List.set_cons_succ]
        refine takeS 2 (some 47) (.pointer (some ⟨gg, 0, none⟩)) rfl rfl (by kernel_rfl) (by kernel_rfl) (by kernel_rfl) (fun _ _ _ h => h) rfl hS (fun w' hw' => by go_simp) ?_
        simp only [Act.put, List.setIfInBounds_toArray, List.set_cons_zero, List.set_cons_succ]
        refine takeS 3 (some 48) (.pointer (some ⟨gg, 2, none⟩)) rfl rfl (by kernel_rfl) (by kernel_rfl) (by kernel_rfl) (fun _ _ _ h => h) rfl hS (fun w' hw' => by go_simp) ?_
        simp only [Act.put, List.setIfInBounds_toArray, List.set_cons_zero, List.set_cons_succ]
        refine takeS 5 (some 50) (.pointer (some ⟨be, 0, none⟩)) rfl rfl (by kernel_rfl) (by kernel_rfl) (by kernel_rfl) (fun _ _ _ h => h) rfl hS (fun w' hw' => by go_simp) ?_
        simp only [Act.put, List.setIfInBounds_toArray, List.set_cons_zero, List.set_cons_succ]
        refine takeS 6 (some 51) (.string (tx p)) rfl rfl (by kernel_rfl) (by kernel_rfl) (by kernel_rfl) (fun _ _ _ h => h) rfl hS (fun w' hw' => by have := hw'.1; go_simp) ?_
        simp only [Act.put, List.setIfInBounds_toArray, List.set_cons_zero, List.set_cons_succ]
        refine takeS 7 (some 52) (.pointer (some ⟨be, 1, none⟩)) rfl rfl (by kernel_rfl) (by kernel_rfl) (by kernel_rfl) (fun _ _ _ h => h) rfl hS (fun w' hw' => by go_simp) ?_
        simp only [Act.put, List.setIfInBounds_toArray, List.set_cons_zero, List.set_cons_succ]
        refine takeS 8 (some 53) (.pointer (some ⟨a, 0, none⟩)) rfl rfl (by kernel_rfl) (by kernel_rfl) (by kernel_rfl) (fun _ _ _ h => h) rfl hS (fun w' hw' => by have := hw'.2; go_simp) ?_
        simp only [Act.put, List.setIfInBounds_toArray, List.set_cons_zero, List.set_cons_succ]
        refine takeS 9 (some 54) (.int .i64 0) rfl rfl (by kernel_rfl) (by kernel_rfl) (by kernel_rfl) (fun _ _ _ h => h) rfl hS (fun w' hw' => by go_simp) ?_
        simp only [Act.put, List.setIfInBounds_toArray, List.set_cons_zero, List.set_cons_succ]
        refine nextS2 4 10 rfl rfl (by kernel_rfl) rfl rfl ?_ ?_
        · skip
          refine runL (some 49) rfl (.slice dn k kn) (by have := yb2; go_simp) ?_
          refine ⟨hS, ?_⟩
          simp only [Act.put, List.setIfInBounds_toArray, List.set_cons_zero, List.set_cons_succ]
          refine nextS 10 rfl (by kernel_rfl) rfl ?_
          refine callS (some 55) rfl 49 #[.pointer (some ⟨a, 0, none⟩), .int .i64 0] (by go_simp) (fun v w' => ∃ a' V9, v = .pointer (some ⟨a', 0, none⟩) ∧ NdIn w' a' ((S.nd a).crash 0) V9 ∧ Ext W4.drew w' ∧ ∀ i, Foot a' V9 i → W4.drew.heap.size ≤ i) ((CR2.out).mono fun e w' ⟨a', V9, he, h1, h2, h3⟩ => ⟨_, he, a', V9, rfl, h1, h2, h3⟩) ?_
          rintro v6 w6 ⟨a', V9, rfl, n6, e6, f6⟩
          have hS6 := And.intro (e6.cell hS.1) (e6.cell hS.2)
          have yb6 := e6.cell yb2
          obtain ⟨d8, k8, W8, hrun, hk8, hC8, hR8, hcp8, c8, f8, hbg8⟩ := FN.out a' V9 w6 n6 e6 f6
          refine ⟨hS6, ?_⟩
          simp only [Act.put, List.setIfInBounds_toArray, List.set_cons_zero, List.set_cons_succ]
          refine takeS 11 (some 56) (.agg #[.string (tx p), .pointer (some ⟨a', 0, none⟩)]) rfl rfl (by kernel_rfl) (by kernel_rfl) (by kernel_rfl) (fun _ _ _ h => h) rfl hS6 (fun w' hw' => by go_simp) ?_
          simp only [Act.put, List.setIfInBounds_toArray, List.set_cons_zero, List.set_cons_succ]
          refine nextS 12 rfl (by kernel_rfl) rfl ?_
          have e7 := Ext.alloc w6 (.cells #[.string (tx p), .pointer (some ⟨a', 0, none⟩)] 78)
          refine runV (some 57) rfl (.slice (some ⟨w6.heap.size, 0, none⟩) 1 1) (w6.alloc (.cells #[.string (tx p), .pointer (some ⟨a', 0, none⟩)] 78)) (by go_simp) ?_
          have hS7 := And.intro (e7.cell hS6.1) (e7.cell hS6.2)
          have yb7 := e7.cell yb6
          refine ⟨hS7, ?_⟩
          simp only [Act.put, List.setIfInBounds_toArray, List.set_cons_zero, List.set_cons_succ]
          refine nextS 13 rfl (by kernel_rfl) rfl ?_
          refine Lib.wp_append_run _ (.tmp 49) (.tmp 57) 54 54 rfl (.slice dn k kn) (.slice (some ⟨w6.heap.size, 0, none⟩) 1 1) rfl rfl _ _ hrun ?_
          have hS8 := And.intro (hk8 0 _ hS6.1) (hk8 1 _ hS6.2)
          refine ⟨hS8, ?_⟩
          simp only [Act.put, List.setIfInBounds_toArray, List.set_cons_zero, List.set_cons_succ]
          refine takeS 14 (some 59) (.pointer (some ⟨gg, 0, none⟩)) rfl rfl (by kernel_rfl) (by kernel_rfl) (by kernel_rfl) (fun _ _ _ h => h) rfl hS8 (fun w' hw' => by go_simp) ?_
          simp only [Act.put, List.setIfInBounds_toArray, List.set_cons_zero, List.set_cons_succ]
          refine takeS 15 (some 60) (.pointer (some ⟨gg, 2, none⟩)) rfl rfl (by kernel_rfl) (by kernel_rfl) (by kernel_rfl) (fun _ _ _ h => h) rfl hS8 (fun w' hw' => by go_simp) ?_
          simp only [Act.put, List.setIfInBounds_toArray, List.set_cons_zero, List.set_cons_succ]
          refine nextS 16 rfl (by kernel_rfl) rfl ?_
          refine runN rfl (W8.setCell ⟨gg, 2, none⟩ (.slice d8 (k + 1) k8)) (by go_simp) ?_
          have hcg := Chg.setCell W8 gg 2 (.slice d8 (k + 1) k8)
          refine ⟨⟨hcg.cell hS8.1 hbg8, hcg.cell hS8.2 hbg8⟩, ?_⟩
          refine wpAnyH_done (by kernel_rfl) ?_ _
          obtain ⟨V', L', hR9, hO9⟩ := hR8
          have HF := Lib.hid (show InvCr2 w w3 gg S rm ck m (.slice adz nz kz) (.int .i64 ((k : Int) + 1)) (W8.setCell ⟨gg, 2, none⟩ (.slice d8 (k + 1) k8)) from ⟨k + 1, xs, ps ++ [((p, a), a')], a' :: idr, upd ndr a' ((S.nd a).crash 0), V', L', HKM.out, by simp, Q5.out, XT.out, by rw [List.take_add_one, HXQ.out, HST.out.1, List.map_append]; rfl, hcp8, hR9, hO9, hC8⟩)
          clear hR9 hO9 hC8 hcp8 hk8 c8 f8 hrun hcg hS8 n6 e6 f6
          go_wp2
          exact ⟨HF.out, by simp only [intOf]; omega⟩
        · skip
          refine callS (some 55) rfl 49 #[.pointer (some ⟨a, 0, none⟩), .int .i64 0] (by go_simp) (fun v w' => ∃ a' V9, v = .pointer (some ⟨a', 0, none⟩) ∧ NdIn w' a' ((S.nd a).crash 0) V9 ∧ Ext W4.drew w' ∧ ∀ i, Foot a' V9 i → W4.drew.heap.size ≤ i) ((CR2.out).mono fun e w' ⟨a', V9, he, h1, h2, h3⟩ => ⟨_, he, a', V9, rfl, h1, h2, h3⟩) ?_
          rintro v6 w6 ⟨a', V9, rfl, n6, e6, f6⟩
          have hS6 := And.intro (e6.cell hS.1) (e6.cell hS.2)
          have yb6 := e6.cell yb2
          obtain ⟨d8, k8, W8, hrun, hk8, hC8, hR8, hcp8, c8, f8, hbg8⟩ := FN.out a' V9 w6 n6 e6 f6
          refine ⟨hS6, ?_⟩
          simp only [Act.put, List.setIfInBounds_toArray, List.set_cons_zero, List.set_cons_succ]
          refine takeS 11 (some 56) (.agg #[.string (tx p), .pointer (some ⟨a', 0, none⟩)]) rfl rfl (by kernel_rfl) (by kernel_rfl) (by kernel_rfl) (fun _ _ _ h => h) rfl hS6 (fun w' hw' => by go_simp) ?_
          simp only [Act.put, List.setIfInBounds_toArray, List.set_cons_zero, List.set_cons_succ]
          refine nextS2 4 12 rfl rfl (by kernel_rfl) rfl rfl ?_ ?_
          · skip
            refine runL (some 49) rfl (.slice dn k kn) (by have := yb6; go_simp) ?_
            refine ⟨hS6, ?_⟩
            simp only [Act.put, List.setIfInBounds_toArray, List.set_cons_zero, List.set_cons_succ]
            refine nextS 12 rfl (by kernel_rfl) rfl ?_
            have e7 := Ext.alloc w6 (.cells #[.string (tx p), .pointer (some ⟨a', 0, none⟩)] 78)
            refine runV (some 57) rfl (.slice (some ⟨w6.heap.size, 0, none⟩) 1 1) (w6.alloc (.cells #[.string (tx p), .pointer (some ⟨a', 0, none⟩)] 78)) (by go_simp) ?_
            have hS7 := And.intro (e7.cell hS6.1) (e7.cell hS6.2)
            have yb7 := e7.cell yb6
            refine ⟨hS7, ?_⟩
            simp only [Act.put, List.setIfInBounds_toArray, List.set_cons_zero, List.set_cons_succ]
            refine nextS 13 rfl (by kernel_rfl) rfl ?_
            refine Lib.wp_append_run _ (.tmp 49) (.tmp 57) 54 54 rfl (.slice dn k kn) (.slice (some ⟨w6.heap.size, 0, none⟩) 1 1) rfl rfl _ _ hrun ?_
            have hS8 := And.intro (hk8 0 _ hS6.1) (hk8 1 _ hS6.2)
            refine ⟨hS8, ?_⟩
            simp only [Act.put, List.setIfInBounds_toArray, List.set_cons_zero, List.set_cons_succ]
            refine takeS 14 (some 59) (.pointer (some ⟨gg, 0, none⟩)) rfl rfl (by kernel_rfl) (by kernel_rfl) (by kernel_rfl) (fun _ _ _ h => h) rfl hS8 (fun w' hw' => by go_simp) ?_
            simp only [Act.put, List.setIfInBounds_toArray, List.set_cons_zero, List.set_cons_succ]
            refine takeS 15 (some 60) (.pointer (some ⟨gg, 2, none⟩)) rfl rfl (by kernel_rfl) (by kernel_rfl) (by kernel_rfl) (fun _ _ _ h => h) rfl hS8 (fun w' hw' => by go_simp) ?_
            simp only [Act.put, List.setIfInBounds_toArray, List.set_cons_zero, List.set_cons_succ]
            refine nextS 16 rfl (by kernel_rfl) rfl ?_
            refine runN rfl (W8.setCell ⟨gg, 2, none⟩ (.slice d8 (k + 1) k8)) (by go_simp) ?_
            have hcg := Chg.setCell W8 gg 2 (.slice d8 (k + 1) k8)
            refine ⟨⟨hcg.cell hS8.1 hbg8, hcg.cell hS8.2 hbg8⟩, ?_⟩
            refine wpAnyH_done (by kernel_rfl) ?_ _
            obtain ⟨V', L', hR9, hO9⟩ := hR8
            have HF := Lib.hid (show InvCr2 w w3 gg S rm ck m (.slice adz nz kz) (.int .i64 ((k : Int) + 1)) (W8.setCell ⟨gg, 2, none⟩ (.slice d8 (k + 1) k8)) from ⟨k + 1, xs, ps ++ [((p, a), a')], a' :: idr, upd ndr a' ((S.nd a).crash 0), V', L', HKM.out, by simp, Q5.out, XT.out, by rw [List.take_add_one, HXQ.out, HST.out.1, List.map_append]; rfl, hcp8, hR9, hO9, hC8⟩)
            clear hR9 hO9 hC8 hcp8 hk8 c8 f8 hrun hcg hS8 n6 e6 f6
            go_wp2
            exact ⟨HF.out, by simp only [intOf]; omega⟩
          · skip
            have e7 := Ext.alloc w6 (.cells #[.string (tx p), .pointer (some ⟨a', 0, none⟩)] 78)
            refine runV (some 57) rfl (.slice (some ⟨w6.heap.size, 0, none⟩) 1 1) (w6.alloc (.cells #[.string (tx p), .pointer (some ⟨a', 0, none⟩)] 78)) (by go_simp) ?_
            have hS7 := And.intro (e7.cell hS6.1) (e7.cell hS6.2)
            have yb7 := e7.cell yb6
            refine ⟨hS7, ?_⟩
            simp only [Act.put, List.setIfInBounds_toArray, List.set_cons_zero, List.set_cons_succ]
            refine nextS 4 rfl (by kernel_rfl) rfl ?_
            refine runL (some 49) rfl (.slice dn k kn) (by have := yb7; go_simp) ?_
            refine ⟨hS7, ?_⟩
            simp only [Act.put, List.setIfInBounds_toArray, List.set_cons_zero, List.set_cons_succ]
            refine nextS 13 rfl (by kernel_rfl) rfl ?_
            refine Lib.wp_append_run _ (.tmp 49) (.tmp 57) 54 54 rfl (.slice dn k kn) (.slice (some ⟨w6.heap.size, 0, none⟩) 1 1) rfl rfl _ _ hrun ?_
            have hS8 := And.intro (hk8 0 _ hS6.1) (hk8 1 _ hS6.2)
            refine ⟨hS8, ?_⟩
            simp only [Act.put, List.setIfInBounds_toArray, List.set_cons_zero, List.set_cons_succ]
            refine takeS 14 (some 59) (.pointer (some ⟨gg, 0, none⟩)) rfl rfl (by kernel_rfl) (by kernel_rfl) (by kernel_rfl) (fun _ _ _ h => h) rfl hS8 (fun w' hw' => by go_simp) ?_
            simp only [Act.put, List.setIfInBounds_toArray, List.set_cons_zero, List.set_cons_succ]
            refine takeS 15 (some 60) (.pointer (some ⟨gg, 2, none⟩)) rfl rfl (by kernel_rfl) (by kernel_rfl) (by kernel_rfl) (fun _ _ _ h => h) rfl hS8 (fun w' hw' => by go_simp) ?_
            simp only [Act.put, List.setIfInBounds_toArray, List.set_cons_zero, List.set_cons_succ]
            refine nextS 16 rfl (by kernel_rfl) rfl ?_
            refine runN rfl (W8.setCell ⟨gg, 2, none⟩ (.slice d8 (k + 1) k8)) (by go_simp) ?_
            have hcg := Chg.setCell W8 gg 2 (.slice d8 (k + 1) k8)
            refine ⟨⟨hcg.cell hS8.1 hbg8, hcg.cell hS8.2 hbg8⟩, ?_⟩
            refine wpAnyH_done (by kernel_rfl) ?_ _
            obtain ⟨V', L', hR9, hO9⟩ := hR8
            have HF := Lib.hid (show InvCr2 w w3 gg S rm ck m (.slice adz nz kz) (.int .i64 ((k : Int) + 1)) (W8.setCell ⟨gg, 2, none⟩ (.slice d8 (k + 1) k8)) from ⟨k + 1, xs, ps ++ [((p, a), a')], a' :: idr, upd ndr a' ((S.nd a).crash 0), V', L', HKM.out, by simp, Q5.out, XT.out, by rw [List.take_add_one, HXQ.out, HST.out.1, List.map_append]; rfl, hcp8, hR9, hO9, hC8⟩)
            clear hR9 hO9 hC8 hcp8 hk8 c8 f8 hrun hcg hS8 n6 e6 f6
            go_wp2
            exact ⟨HF.out, by simp only [intOf]; omega⟩
      case true =>
        go_wp2_with fail
        refine (NX.out).mono ?_
        rintro e w5 ⟨vr, rfl, iq5, e5⟩
        obtain ⟨x1, hx1⟩ : ∃ x, x = xs.headD 0 := ⟨_, rfl⟩
        have HX1 := Lib.hid (show -9223372036854775808 ≤ x1 ∧ x1 ≤ 9223372036854775807 by rw [hx1]; exact headD_in xs HXS.out)
        rw [← hx1]
        clear hx1
        have Q5 := Lib.hid iq5
        have XT := Lib.hid (fun x (hx : x ∈ xs.tail) => HXS.out x (List.mem_of_mem_tail hx))
        have N5 := Lib.hid (N4.out.ext e5)
        have C5 := Lib.hid (C4.out.trans (Chg.of_ext e5) (fun _ _ q => q))
        have R5 := Lib.hid (R4.out.ext e5)
        have HB5 := Lib.hid (Nat.lt_of_lt_of_le HB4.out e5.size)
        have y0 := e5.cell X0.out
        have y1 := e5.cell X1.out
        clear iq5 e5
        have CR := Lib.hid (crashed_any a (S.nd a) (V.nv a) x1)
        have yb : w5.cell? ⟨gg, 2, none⟩ = some (.slice dn k kn) := by rw [R5.out.c 2]; simp only [scells]; rw [HVN.out]; rfl
        clear X0 X1 N4 R4 NX CN HR C4 HB4 HW4
        clear m0 m1
        generalize wr.heap.size = be at *
        go_upto_region 11 with fail
        have hS : w5.drew.cell? ⟨be, 0, none⟩ = some (.string (tx p)) ∧ w5.drew.cell? ⟨be, 1, none⟩ = some (.pointer (some ⟨a, 0, none⟩)) := ⟨y0, y1⟩
        have yb2 : w5.drew.cell? ⟨gg, 2, none⟩ = some (.slice dn k kn) := yb
        have N6 := Lib.hid (N5.out.ext (Ext.drew w5))
        have R6 := Lib.hid (R5.out.ext (Ext.drew w5))
        have CR2 := Lib.hid (CR.out w5.drew N6.out OKA.out HX1.out)
        have C6 := Lib.hid (C5.out.trans (Chg.of_ext (Ext.drew w5)) (fun _ _ q => q))
        have FN := Lib.hid (fun (a' : Nat) (V9 : Vs) (w6 : World) (n6 : NdIn w6 a' ((S.nd a).crash x1) V9) (e6 : Ext w5.drew w6) (f6 : ∀ i, Foot a' V9 i → w5.drew.heap.size ≤ i) => crash_fin2 (be := be) R6.out HVN.out HST.out.2.2.2.2 (by omega) HST.out.1 HXQ.out MT.out.srt HST.out.2.1 HST.out.2.2.1 C6.out OKA.out HB5.out HBL.out n6 e6 f6)
        clear CR N5 N6 R5 R6 C5 C6 yb y0 y1
        refine wp_region_held (S := fun w' => w'.cell? ⟨be, 0, none⟩ = some (.string (tx p)) ∧ w'.cell? ⟨be, 1, none⟩ = some (.pointer (some ⟨a, 0, none⟩))) (by kernel_rfl) ?_
        change wpAnyH _ _ _ _ _ _ _ _ (World.drew _)
        refine takeS 0 (some 45) (.pointer (some ⟨gg, 0, none⟩)) rfl rfl (by kernel_rfl) (by kernel_rfl) (by kernel_rfl) (fun _ _ _ h => h) rfl hS (fun w' hw' => by go_simp) ?_
        simp only [Act.put, List.setIfInBounds_toArray, List.set_cons_zero, List.set_cons_succ]
        refine takeS 1 (some 46) (.pointer (some ⟨gg, 0, none⟩)) rfl rfl (by kernel_rfl) (by kernel_rfl) (by kernel_rfl) (fun _ _ _ h => h) rfl hS (fun w' hw' => by go_simp) ?_
        simp only [Act.put, List.setIfInBounds_toArray, List.set_cons_zero, List.set_cons_succ]
        refine takeS 2 (some 47) (.pointer (some ⟨gg, 0, none⟩)) rfl rfl (by kernel_rfl) (by kernel_rfl) (by kernel_rfl) (fun _ _ _ h => h) rfl hS (fun w' hw' => by go_simp) ?_
        simp only [Act.put, List.setIfInBounds_toArray, List.set_cons_zero, List.set_cons_succ]
        refine takeS 3 (some 48) (.pointer (some ⟨gg, 2, none⟩)) rfl rfl (by kernel_rfl) (by kernel_rfl) (by kernel_rfl) (fun _ _ _ h => h) rfl hS (fun w' hw' => by go_simp) ?_
        simp only [Act.put, List.setIfInBounds_toArray, List.set_cons_zero, List.set_cons_succ]
        refine takeS 5 (some 50) (.pointer (some ⟨be, 0, none⟩)) rfl rfl (by kernel_rfl) (by kernel_rfl) (by kernel_rfl) (fun _ _ _ h => h) rfl hS (fun w' hw' => by go_simp) ?_
        simp only [Act.put, List.setIfInBounds_toArray, List.set_cons_zero, List.set_cons_succ]
        refine takeS 6 (some 51) (.string (tx p)) rfl rfl (by kernel_rfl) (by kernel_rfl) (by kernel_rfl) (fun _ _ _ h => h) rfl hS (fun w' hw' => by have := hw'.1; go_simp) ?_
        simp only [Act.put, List.setIfInBounds_toArray, List.set_cons_zero, List.set_cons_succ]
        refine takeS 7 (some 52) (.pointer (some ⟨be, 1, none⟩)) rfl rfl (by kernel_rfl) (by kernel_rfl) (by kernel_rfl) (fun _ _ _ h => h) rfl hS (fun w' hw' => by go_simp) ?_
        simp only [Act.put, List.setIfInBounds_toArray, List.set_cons_zero, List.set_cons_succ]
        refine takeS 8 (some 53) (.pointer (some ⟨a, 0, none⟩)) rfl rfl (by kernel_rfl) (by kernel_rfl) (by kernel_rfl) (fun _ _ _ h => h) rfl hS (fun w' hw' => by have := hw'.2; go_simp) ?_
        simp only [Act.put, List.setIfInBounds_toArray, List.set_cons_zero, List.set_cons_succ]
        refine takeS 9 (some 54) (.int .i64 x1) rfl rfl (by kernel_rfl) (by kernel_rfl) (by kernel_rfl) (fun _ _ _ h => h) rfl hS (fun w' hw' => by go_simp) ?_
        simp only [Act.put, List.setIfInBounds_toArray, List.set_cons_zero, List.set_cons_succ]
        refine nextS2 4 10 rfl rfl (by kernel_rfl) rfl rfl ?_ ?_
        · skip
          refine runL (some 49) rfl (.slice dn k kn) (by have := yb2; go_simp) ?_
          refine ⟨hS, ?_⟩
          simp only [Act.put, List.setIfInBounds_toArray, List.set_cons_zero, List.set_cons_succ]
          refine nextS 10 rfl (by kernel_rfl) rfl ?_
          refine callS (some 55) rfl 49 #[.pointer (some ⟨a, 0, none⟩), .int .i64 x1] (by go_simp) (fun v w' => ∃ a' V9, v = .pointer (some ⟨a', 0, none⟩) ∧ NdIn w' a' ((S.nd a).crash x1) V9 ∧ Ext w5.drew w' ∧ ∀ i, Foot a' V9 i → w5.drew.heap.size ≤ i) ((CR2.out).mono fun e w' ⟨a', V9, he, h1, h2, h3⟩ => ⟨_, he, a', V9, rfl, h1, h2, h3⟩) ?_
          rintro v6 w6 ⟨a', V9, rfl, n6, e6, f6⟩
          have hS6 := And.intro (e6.cell hS.1) (e6.cell hS.2)
          have yb6 := e6.cell yb2
          obtain ⟨d8, k8, W8, hrun, hk8, hC8, hR8, hcp8, c8, f8, hbg8⟩ := FN.out a' V9 w6 n6 e6 f6
          refine ⟨hS6, ?_⟩
          simp only [Act.put, List.setIfInBounds_toArray, List.set_cons_zero, List.set_cons_succ]
          refine takeS 11 (some 56) (.agg #[.string (tx p), .pointer (some ⟨a', 0, none⟩)]) rfl rfl (by kernel_rfl) (by kernel_rfl) (by kernel_rfl) (fun _ _ _ h => h) rfl hS6 (fun w' hw' => by go_simp) ?_
          simp only [Act.put, List.setIfInBounds_toArray, List.set_cons_zero, List.set_cons_succ]
          refine nextS 12 rfl (by kernel_rfl) rfl ?_
          have e7 := Ext.alloc w6 (.cells #[.string (tx p), .pointer (some ⟨a', 0, none⟩)] 78)
          refine runV (some 57) rfl (.slice (some ⟨w6.heap.size, 0, none⟩) 1 1) (w6.alloc (.cells #[.string (tx p), .pointer (some ⟨a', 0, none⟩)] 78)) (by go_simp) ?_
          have hS7 := And.intro (e7.cell hS6.1) (e7.cell hS6.2)
          have yb7 := e7.cell yb6
          refine ⟨hS7, ?_⟩
          simp only [Act.put, List.setIfInBounds_toArray, List.set_cons_zero, List.set_cons_succ]
          refine nextS 13 rfl (by kernel_rfl) rfl ?_
          refine Lib.wp_append_run _ (.tmp 49) (.tmp 57) 54 54 rfl (.slice dn k kn) (.slice (some ⟨w6.heap.size, 0, none⟩) 1 1) rfl rfl _ _ hrun ?_
          have hS8 := And.intro (hk8 0 _ hS6.1) (hk8 1 _ hS6.2)
          refine ⟨hS8, ?_⟩
          simp only [Act.put, List.setIfInBounds_toArray, List.set_cons_zero, List.set_cons_succ]
          refine takeS 14 (some 59) (.pointer (some ⟨gg, 0, none⟩)) rfl rfl (by kernel_rfl) (by kernel_rfl) (by kernel_rfl) (fun _ _ _ h => h) rfl hS8 (fun w' hw' => by go_simp) ?_
          simp only [Act.put, List.setIfInBounds_toArray, List.set_cons_zero, List.set_cons_succ]
          refine takeS 15 (some 60) (.pointer (some ⟨gg, 2, none⟩)) rfl rfl (by kernel_rfl) (by kernel_rfl) (by kernel_rfl) (fun _ _ _ h => h) rfl hS8 (fun w' hw' => by go_simp) ?_
          simp only [Act.put, List.setIfInBounds_toArray, List.set_cons_zero, List.set_cons_succ]
          refine nextS 16 rfl (by kernel_rfl) rfl ?_
          refine runN rfl (W8.setCell ⟨gg, 2, none⟩ (.slice d8 (k + 1) k8)) (by go_simp) ?_
          have hcg := Chg.setCell W8 gg 2 (.slice d8 (k + 1) k8)
          refine ⟨⟨hcg.cell hS8.1 hbg8, hcg.cell hS8.2 hbg8⟩, ?_⟩
          refine wpAnyH_done (by kernel_rfl) ?_ _
          obtain ⟨V', L', hR9, hO9⟩ := hR8
          have HF := Lib.hid (show InvCr2 w w3 gg S rm ck m vr (.int .i64 ((k : Int) + 1)) (W8.setCell ⟨gg, 2, none⟩ (.slice d8 (k + 1) k8)) from ⟨k + 1, xs.tail, ps ++ [((p, a), a')], a' :: idr, upd ndr a' ((S.nd a).crash x1), V', L', HKM.out, by simp, Q5.out, XT.out, by rw [List.take_add_one, HXQ.out, HST.out.1, List.map_append]; rfl, hcp8, hR9, hO9, hC8⟩)
          clear hR9 hO9 hC8 hcp8 hk8 c8 f8 hrun hcg hS8 n6 e6 f6
          go_wp2
          exact ⟨HF.out, by simp only [intOf]; omega⟩
        · skip
          refine callS (some 55) rfl 49 #[.pointer (some ⟨a, 0, none⟩), .int .i64 x1] (by go_simp) (fun v w' => ∃ a' V9, v = .pointer (some ⟨a', 0, none⟩) ∧ NdIn w' a' ((S.nd a).crash x1) V9 ∧ Ext w5.drew w' ∧ ∀ i, Foot a' V9 i → w5.drew.heap.size ≤ i) ((CR2.out).mono fun e w' ⟨a', V9, he, h1, h2, h3⟩ => ⟨_, he, a', V9, rfl, h1, h2, h3⟩) ?_
          rintro v6 w6 ⟨a', V9, rfl, n6, e6, f6⟩
          have hS6 := And.intro (e6.cell hS.1) (e6.cell hS.2)
          have yb6 := e6.cell yb2
          obtain ⟨d8, k8, W8, hrun, hk8, hC8, hR8, hcp8, c8, f8, hbg8⟩ := FN.out a' V9 w6 n6 e6 f6
          refine ⟨hS6, ?_⟩
          simp only [Act.put, List.setIfInBounds_toArray, List.set_cons_zero, List.set_cons_succ]
          refine takeS 11 (some 56) (.agg #[.string (tx p), .pointer (some ⟨a', 0, none⟩)]) rfl rfl (by kernel_rfl) (by kernel_rfl) (by kernel_rfl) (fun _ _ _ h => h) rfl hS6 (fun w' hw' => by go_simp) ?_
          simp only [Act.put, List.setIfInBounds_toArray, List.set_cons_zero, List.set_cons_succ]
          refine nextS2 4 12 rfl rfl (by kernel_rfl) rfl rfl ?_ ?_
          · skip
            refine runL (some 49) rfl (.slice dn k kn) (by have := yb6; go_simp) ?_
            refine ⟨hS6, ?_⟩
            simp only [Act.put, List.setIfInBounds_toArray, List.set_cons_zero, List.set_cons_succ]
            refine nextS 12 rfl (by kernel_rfl) rfl ?_
            have e7 := Ext.alloc w6 (.cells #[.string (tx p), .pointer (some ⟨a', 0, none⟩)] 78)
            refine runV (some 57) rfl (.slice (some ⟨w6.heap.size, 0, none⟩) 1 1) (w6.alloc (.cells #[.string (tx p), .pointer (some ⟨a', 0, none⟩)] 78)) (by go_simp) ?_
            have hS7 := And.intro (e7.cell hS6.1) (e7.cell hS6.2)
            have yb7 := e7.cell yb6
            refine ⟨hS7, ?_⟩
            simp only [Act.put, List.setIfInBounds_toArray, List.set_cons_zero, List.set_cons_succ]
            refine nextS 13 rfl (by kernel_rfl) rfl ?_
            refine Lib.wp_append_run _ (.tmp 49) (.tmp 57) 54 54 rfl (.slice dn k kn) (.slice (some ⟨w6.heap.size, 0, none⟩) 1 1) rfl rfl _ _ hrun ?_
            have hS8 := And.intro (hk8 0 _ hS6.1) (hk8 1 _ hS6.2)
            refine ⟨hS8, ?_⟩
            simp only [Act.put, List.setIfInBounds_toArray, List.set_cons_zero, List.set_cons_succ]
            refine takeS 14 (some 59) (.pointer (some ⟨gg, 0, none⟩)) rfl rfl (by kernel_rfl) (by kernel_rfl) (by kernel_rfl) (fun _ _ _ h => h) rfl hS8 (fun w' hw' => by go_simp) ?_
            simp only [Act.put, List.setIfInBounds_toArray, List.set_cons_zero, List.set_cons_succ]
            refine takeS 15 (some 60) (.pointer (some ⟨gg, 2, none⟩)) rfl rfl (by kernel_rfl) (by kernel_rfl) (by kernel_rfl) (fun _ _ _ h => h) rfl hS8 (fun w' hw' => by go_simp) ?_
            simp only [Act.put, List.setIfInBounds_toArray, List.set_cons_zero, List.set_cons_succ]
            refine nextS 16 rfl (by kernel_rfl) rfl ?_
            refine runN rfl (W8.setCell ⟨gg, 2, none⟩ (.slice d8 (k + 1) k8)) (by go_simp) ?_
            have hcg := Chg.setCell W8 gg 2 (.slice d8 (k + 1) k8)
            refine ⟨⟨hcg.cell hS8.1 hbg8, hcg.cell hS8.2 hbg8⟩, ?_⟩
            refine wpAnyH_done (by kernel_rfl) ?_ _
            obtain ⟨V', L', hR9, hO9⟩ := hR8
            have HF := Lib.hid (show InvCr2 w w3 gg S rm ck m vr (.int .i64 ((k : Int) + 1)) (W8.setCell ⟨gg, 2, none⟩ (.slice d8 (k + 1) k8)) from ⟨k + 1, xs.tail, ps ++ [((p, a), a')], a' :: idr, upd ndr a' ((S.nd a).crash x1), V', L', HKM.out, by simp, Q5.out, XT.out, by rw [List.take_add_one, HXQ.out, HST.out.1, List.map_append]; rfl, hcp8, hR9, hO9, hC8⟩)
            clear hR9 hO9 hC8 hcp8 hk8 c8 f8 hrun hcg hS8 n6 e6 f6
            go_wp2
            exact ⟨HF.out, by simp only [intOf]; omega⟩
          · skip
            have e7 := Ext.alloc w6 (.cells #[.string (tx p), .pointer (some ⟨a', 0, none⟩)] 78)
            refine runV (some 57) rfl (.slice (some ⟨w6.heap.size, 0, none⟩) 1 1) (w6.alloc (.cells #[.string (tx p), .pointer (some ⟨a', 0, none⟩)] 78)) (by go_simp) ?_
            have hS7 := And.intro (e7.cell hS6.1) (e7.cell hS6.2)
            have yb7 := e7.cell yb6
            refine ⟨hS7, ?_⟩
            simp only [Act.put, List.setIfInBounds_toArray, List.set_cons_zero, List.set_cons_succ]
            refine nextS 4 rfl (by kernel_rfl) rfl ?_
            refine runL (some 49) rfl (.slice dn k kn) (by have := yb7; go_simp) ?_
            refine ⟨hS7, ?_⟩
            simp only [Act.put, List.setIfInBounds_toArray, List.set_cons_zero, List.set_cons_succ]
            refine nextS 13 rfl (by kernel_rfl) rfl ?_
            refine Lib.wp_append_run _ (.tmp 49) (.tmp 57) 54 54 rfl (.slice dn k kn) (.slice (some ⟨w6.heap.size, 0, none⟩) 1 1) rfl rfl _ _ hrun ?_
            have hS8 := And.intro (hk8 0 _ hS6.1) (hk8 1 _ hS6.2)
            refine ⟨hS8, ?_⟩
            simp only [Act.put, List.setIfInBounds_toArray, List.set_cons_zero, List.set_cons_succ]
            refine takeS 14 (some 59) (.pointer (some ⟨gg, 0, none⟩)) rfl rfl (by kernel_rfl) (by kernel_rfl) (by kernel_rfl) (fun _ _ _ h => h) rfl hS8 (fun w' hw' => by go_simp) ?_
            simp only [Act.put, List.setIfInBounds_toArray, List.set_cons_zero, List.set_cons_succ]
            refine takeS 15 (some 60) (.pointer (some ⟨gg, 2, none⟩)) rfl rfl (by kernel_rfl) (by kernel_rfl) (by kernel_rfl) (fun _ _ _ h => h) rfl hS8 (fun w' hw' => by go_simp) ?_
            simp only [Act.put, List.setIfInBounds_toArray, List.set_cons_zero, List.set_cons_succ]
            refine nextS 16 rfl (by kernel_rfl) rfl ?_
            refine runN rfl (W8.setCell ⟨gg, 2, none⟩ (.slice d8 (k + 1) k8)) (by go_simp) ?_
            have hcg := Chg.setCell W8 gg 2 (.slice d8 (k + 1) k8)
            refine ⟨⟨hcg.cell hS8.1 hbg8, hcg.cell hS8.2 hbg8⟩, ?_⟩
            refine wpAnyH_done (by kernel_rfl) ?_ _
            obtain ⟨V', L', hR9, hO9⟩ := hR8
            have HF := Lib.hid (show InvCr2 w w3 gg S rm ck m vr (.int .i64 ((k : Int) + 1)) (W8.setCell ⟨gg, 2, none⟩ (.slice d8 (k + 1) k8)) from ⟨k + 1, xs.tail, ps ++ [((p, a), a')], a' :: idr, upd ndr a' ((S.nd a).crash x1), V', L', HKM.out, by simp, Q5.out, XT.out, by rw [List.take_add_one, HXQ.out, HST.out.1, List.map_append]; rfl, hcp8, hR9, hO9, hC8⟩)
            clear hR9 hO9 hC8 hcp8 hk8 c8 f8 hrun hcg hS8 n6 e6 f6
            go_wp2
            exact ⟨HF.out, by simp only [intOf]; omega⟩
    · have CT := Lib.hid (clonet_any Vr.n (cpN ps) wr HR.out.nm (by rw [cpN_len, HST.out.2.2.2.2]; omega))
      have c2b : wr.cell? ⟨gg, 2, none⟩ = some Vr.n := by rw [HR.out.c 2]; rfl
      have hME := Lib.hid (show m = ps.map (·.1) by rw [← HST.out.1, List.take_of_length_le (by rw [← HM.out]; omega)])
      go_wp2_with fail
      refine (CT.out).mono ?_
      rintro e w9 ⟨v9, rfl, r9, e9, f9⟩
      obtain ⟨d9, c9, hv9, -⟩ := r9.shape
      obtain ⟨n9, hn9⟩ : ∃ n, n = (cpN ps).length := ⟨_, rfl⟩
      have ST := HR.out.setKept (w1 := w9) (v' := v9) (l' := cpN ps) r9 ⟨Chg.of_ext e9, by
        rw [HST.out.2.2.1.2.1]
        cases h9 : v9.ownBlock with
        | none => exact Or.inl rfl
        | some g => exact Or.inr ⟨g, rfl, f9 g h9⟩⟩ HR.out.sn HR.out.rn
      rw [← hn9] at hv9
      subst hv9
      have EF := Lib.hid (show Ext w (w9.setCell ⟨gg, 3, none⟩ (.slice d9 n9 c9)) from ((((Chg.of_ext (X := fun _ => False) HE3.out).trans HST.out.2.2.2.1 (fun i hi e => by have := GW.out; omega)).trans (Chg.of_ext (X := fun _ => False) e9) (fun _ _ q => q)).trans (Chg.setCell w9 gg 3 _) (fun i hi e => by have := GW.out; omega)).ext)
      have at9 := HR.out.cell.ext e9
      have k3 : w9.cell? ⟨gg, 3, none⟩ = some Vr.k := by rw [at9.cell]; rfl
      have fz3 := at9.frozen 3
      have SR := Lib.hid (show ∃ V' L', Rep (w9.setCell ⟨gg, 3, none⟩ (.slice d9 n9 c9)) gg (SV.left1 S.room S.clock idr ndr (cpN ps) (cpN ps)) V' L' ∧ ∀ i, L' i ≠ none → w.heap.size ≤ i by rw [← HRC.out.1, ← HRC.out.2]; exact ⟨_, _, ST.1, fun i hi => by
        rcases ST.2.lab i hi with u | u
        · have h1 := HST.out.2.2.1.2.2 i u
          have h2 := GW.out
          omega
        · have h1 := HR.out.cell.lt
          have h2 := GW.out
          omega⟩)
      clear ST at9 r9 e9 f9 c2b CT HR hn9
      go_wp2
      go_ret
      obtain ⟨V', L', hX⟩ := SR.out
      exact ⟨pk, ps, gg, idr, ndr, V', L', HPM.out.1, rfl, EF.out, by rw [← HPM.out.2]; exact hME.out, HST.out.2.1, hX⟩
end Go.Proofs.YtbneedmfpldpfaaGreatDoor
