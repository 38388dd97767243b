/- What is written, and read, as plain values, for whatever sidecar and bytes. The walk of the law SidecarForms. -/
import Derived.Test.YtfhgoedonjcekaaDoorGl
import Derived.Test.YtfhgoedonjcekaaDoorSeM
import Derived.Test.YtfhgoedonjcekaaDoorWiM
import Derived.Test.YtfhgoedonjcekaaDoorSg
namespace Go.Proofs.YtfhgoedonjcekaaDoor
open Go.RowKit Go.Sha
set_option linter.unusedSimpArgs false
set_option linter.unusedVariables false

/-- A sidecar, written. -/
def encO (s : Sd) : Option (List Int) := if soundL s then some (sealL (encS s.size.toNat s.block.toNat s.k.toNat s.leaves s.parity)) else none
def encV (o : Option (List Int)) : List Int := o.getD []
def encE (o : Option (List Int)) : Int := if o.isSome then 0 else 1
def VPost (w : World) (m : List Int) (n : Int) (e : Ending) (w' : World) : Prop := ∃ v, e = .returned (.tuple #[v, .int .i64 n]) ∧ Ext w w' ∧ Src w' v m w'.heap.size
theorem EPost.norm {w w' : World} {o : Option (List Int)} {e : Ending} (h : EPost w o e w') : VPost w (encV o) (encE o) e w' := by
  obtain ⟨v, n, rfl, ex, h1, h2⟩ := h
  cases o with
  | none =>
    obtain ⟨rfl, rfl⟩ := h2 rfl
    exact ⟨_, rfl, ex, src_nil _ _⟩
  | some m =>
    obtain ⟨rfl, hs⟩ := h1 m rfl
    exact ⟨_, rfl, ex, hs⟩
theorem flat_twice (ls : List (List Int)) (h : ∀ m ∈ ls, 2 ≤ m.length) (T : Nat) (ht : (ls.map fun m => m.length + 1).sum ≤ T) : (encLs ls).length ≤ 2 * T := by
  induction ls generalizing T with
  | nil => simp [encLs]
  | cons m r ih =>
    simp only [List.map_cons, List.sum_cons] at ht
    have h1 := h m (by simp)
    have h2 := ih (fun x hx => h x (by simp [hx])) (T - (m.length + 1)) (by omega)
    have e : encLs (m :: r) = encB m ++ encLs r := by simp [encLs]
    rw [e, List.length_append, encB_len]
    omega
theorem encS_short (n b k : Nat) (rt : List Int) (ls ps : List (List Int)) (so : soundL (⟨(n : Int), (b : Int), (k : Int), rt, ls, ps⟩ : Sd) = true) (hl : (ls.map fun m => m.length + 1).sum ≤ 6000) (hp : (ps.map fun m => m.length + 1).sum ≤ 6000) : (encS n b k ls ps).length ≤ 30000 := by
  unfold soundL at so
  simp only [Bool.and_eq_true] at so
  obtain ⟨⟨⟨hmay, hal⟩, hap⟩, _⟩ := so
  have hm6 := (mayL_iff _ _ _).1 hmay
  have h1 := flat_twice ls (fun m hm => by have := (allL_len hal).2 m hm; omega) 6000 hl
  have h2 := flat_twice ps (fun m hm => by have := (allL_len hap).2 m hm; omega) 6000 hp
  unfold encS
  rw [List.length_append, List.length_append, encH_len]
  omega
theorem sum_len (ls : List (List Int)) (T : Nat) (h : (ls.map fun m => m.length + 1).sum ≤ T) : ls.length ≤ T := by
  induction ls generalizing T with
  | nil => simp
  | cons m r ih =>
    simp only [List.map_cons, List.sum_cons] at h
    have := ih (T - (m.length + 1)) (by omega)
    simp only [List.length_cons]
    omega
theorem tot_sum (ps : List (Value × List Int)) : ((ps.map (·.2)).map fun m => m.length + 1).sum = tot ps := by
  unfold tot
  rw [List.map_map]
  rfl
theorem sound_nat {s : Sd} (so : soundL s = true) : s = ⟨(s.size.toNat : Int), (s.block.toNat : Int), (s.k.toNat : Int), s.root, s.leaves, s.parity⟩ := by
  have so' := so
  unfold soundL at so'
  simp only [Bool.and_eq_true] at so'
  have hm6 := (mayL_iff _ _ _).1 so'.1.1.1
  obtain ⟨z, b, k, rt, ls, ps⟩ := s
  simp only at hm6 ⊢
  rw [Int.toNat_of_nonneg (by omega), Int.toNat_of_nonneg (by omega), Int.toNat_of_nonneg (by omega)]
theorem encode_all (s : Sd) (vr vl vp : Value) (w : World) (hK : KAt w) (h : SR w s vr vl vp) (hl : (s.leaves.map fun m => m.length + 1).sum ≤ 6000) (hp : (s.parity.map fun m => m.length + 1).sum ≤ 6000) :
    Calls Tryd.prog 13 #[.agg #[.int .i64 s.size, .int .i64 s.block, .int .i64 s.k, vr, vl, vp]] w (VPost w (encV (encO s)) (encE (encO s))) := by
  have l1 := sum_len _ _ hl
  have l2 := sum_len _ _ hp
  cases so : soundL s with
  | false =>
    have e : encO s = none := by unfold encO; rw [so]; rfl
    rw [e]
    exact (encode_not s vr vl vp w hK h (by omega) (by omega) so).mono fun _ _ h => h.norm
  | true =>
    have e : encO s = some (sealL (encS s.size.toNat s.block.toNat s.k.toNat s.leaves s.parity)) := by unfold encO; rw [so]; rfl
    rw [e]
    have hs := sound_nat so
    have so2 := so
    have h2 := h
    rw [hs] at so2 h2
    have hb := encS_short _ _ _ _ _ _ so2 hl hp
    have C := encode_ok s.size.toNat s.block.toNat s.k.toNat s.root s.leaves s.parity vr vl vp w hK h2 so2 (by omega)
    have q := congrArg (fun t : Sd => (#[.agg #[.int .i64 t.size, .int .i64 t.block, .int .i64 t.k, vr, vl, vp]] : Array Value)) hs
    simp only at q
    rw [q]
    exact C.mono fun _ _ h => h.norm
theorem rencode_all (s : Sd) (vr vl vp : Value) (w : World) (h : SR w s vr vl vp) (hl : (s.leaves.map fun m => m.length + 1).sum ≤ 6000) (hp : (s.parity.map fun m => m.length + 1).sum ≤ 6000) :
    Calls Tryd.prog 15 #[.agg #[.int .i64 s.size, .int .i64 s.block, .int .i64 s.k, vr, vl, vp]] w (VPost w (encV (encO s)) (encE (encO s))) := by
  have l1 := sum_len _ _ hl
  have l2 := sum_len _ _ hp
  cases so : soundL s with
  | false =>
    have e : encO s = none := by unfold encO; rw [so]; rfl
    rw [e]
    exact (rencode_not s vr vl vp w h (by omega) (by omega) so).mono fun _ _ h => h.norm
  | true =>
    have e : encO s = some (sealL (encS s.size.toNat s.block.toNat s.k.toNat s.leaves s.parity)) := by unfold encO; rw [so]; rfl
    rw [e]
    have hs := sound_nat so
    have so2 := so
    have h2 := h
    rw [hs] at so2 h2
    have hb := encS_short _ _ _ _ _ _ so2 hl hp
    have C := rencode_ok s.size.toNat s.block.toNat s.k.toNat s.root s.leaves s.parity vr vl vp w h2 so2 hb
    have q := congrArg (fun t : Sd => (#[.agg #[.int .i64 t.size, .int .i64 t.block, .int .i64 t.k, vr, vl, vp]] : Array Value)) hs
    simp only at q
    rw [q]
    exact C.mono fun _ _ h => h.norm
/-- A sidecar that was read, or none. -/
def decV (o : Option Sd) : Sd := o.getD noneL
def decE (o : Option Sd) : Int := if o.isSome then 0 else 2
theorem DcPost.norm {w w' : World} {o : Option Sd} {e : Ending} (h : DcPost w o e w') : MPost w (decV o) (decE o) e w' := by
  cases o with
  | none => exact h.2 rfl
  | some s => exact h.1 s rfl
theorem dec_lens (b : List Int) (hb : Byt b) (hl : b.length ≤ 8000) : (decV (rdecL b)).leaves.length ≤ 9223372036854775807 ∧ (decV (rdecL b)).parity.length ≤ 9223372036854775807 := by
  cases h : rdecL b with
  | none => simp [decV, noneL]
  | some s =>
    show s.leaves.length ≤ _ ∧ s.parity.length ≤ _
    unfold rdecL at h
    split at h
    · cases h
    · rename_i x hx
      split at h
      · cases h
      · split at h
        · split at h
          · cases h
          · rename_i fs l2 hf
            split at h
            · injection h with h
              subst h
              have bx := uns_byt hb hx
              have hxl := uns_len hx
              have := rFld_len _ _ (bx.drop 12) fs l2 hf
              have h5 := encLs_ge fs
              rw [List.length_drop] at this
              simp only [List.length_take, List.length_drop]
              omega
            · cases h
        · cases h
end Go.Proofs.YtfhgoedonjcekaaDoor

namespace Go.Proofs.YtfhgoedonjcekaaDoor
open Go.RowKit Go.Sha
set_option linter.unusedSimpArgs false
set_option linter.unusedVariables false

set_option maxHeartbeats 8000000 in
set_option maxRecDepth 100000 in
theorem forms_any (z y x z2 y2 x2 : Int) (rt rt2 : List Int) (pl pp pl2 pp2 : List (Value × List Int)) (vr vl vp vr2 vl2 vp2 v : Value) (b : List Int) (w : World) (hK : KAt w) (hS : ArgS w rt pl pp vr vl vp) (hT : ArgS w rt2 pl2 pp2 vr2 vl2 vp2) (hs : Src w v b w.heap.size) (hb : Byt b) :
    Calls Tryd.prog 4 #[.agg #[.int .i64 z, .int .i64 y, .int .i64 x, vr, vl, vp], .agg #[.int .i64 z2, .int .i64 y2, .int .i64 x2, vr2, vl2, vp2], v] w fun e w' => e = .returned (.bool true) ∧ Ext w w' := by
  obtain ⟨adr, capr, ev⟩ := hS.r.len
  subst ev
  obtain ⟨adl, capl, ev⟩ := Srcs.len hS.l.1
  subst ev
  obtain ⟨adp, capp, ev⟩ := Srcs.len hS.p.1
  subst ev
  obtain ⟨bdr, dapr, ev⟩ := hT.r.len
  subst ev
  obtain ⟨bdl, dapl, ev⟩ := Srcs.len hT.l.1
  subst ev
  obtain ⟨bdp, dapp, ev⟩ := Srcs.len hT.p.1
  subst ev
  obtain ⟨ad, cap, ev⟩ := hs.len
  subst ev
  obtain ⟨nr, hnr⟩ : ∃ n, n = rt.length := ⟨_, rfl⟩
  obtain ⟨nl, hnl⟩ : ∃ n, n = pl.length := ⟨_, rfl⟩
  obtain ⟨np, hnp⟩ : ∃ n, n = pp.length := ⟨_, rfl⟩
  obtain ⟨mr, hmr⟩ : ∃ n, n = rt2.length := ⟨_, rfl⟩
  obtain ⟨ml, hml⟩ : ∃ n, n = pl2.length := ⟨_, rfl⟩
  obtain ⟨mp, hmp⟩ : ∃ n, n = pp2.length := ⟨_, rfl⟩
  obtain ⟨M, hM⟩ : ∃ n, n = b.length := ⟨_, rfl⟩
  rw [← hnr, ← hnl, ← hnp] at hS ⊢
  rw [← hmr, ← hml, ← hmp] at hT ⊢
  rw [← hM] at hs ⊢
  have HM := Lib.hid hM
  clear hnr hnl hnp hmr hml hmp hM
  have e0 : Ext w ((w.alloc (.cells #[.int .i64 z, .int .i64 y, .int .i64 x, .slice adr nr capr, .slice adl nl capl, .slice adp np capp] 30)).alloc (.cells #[.int .i64 z2, .int .i64 y2, .int .i64 x2, .slice bdr mr dapr, .slice bdl ml dapl, .slice bdp mp dapp] 30)) := (Ext.alloc w _).trans (Ext.alloc _ _)
  have a3 : At ((w.alloc (.cells #[.int .i64 z, .int .i64 y, .int .i64 x, .slice adr nr capr, .slice adl nl capl, .slice adp np capp] 30)).alloc (.cells #[.int .i64 z2, .int .i64 y2, .int .i64 x2, .slice bdr mr dapr, .slice bdl ml dapl, .slice bdp mp dapp] 30)) w.heap.size #[.int .i64 z, .int .i64 y, .int .i64 x, .slice adr nr capr, .slice adl nl capl, .slice adp np capp] 30 := (At.new w _ _).alloc _
  have a4 := At.new1 w (.cells #[.int .i64 z, .int .i64 y, .int .i64 x, .slice adr nr capr, .slice adl nl capl, .slice adp np capp] 30) #[.int .i64 z2, .int .i64 y2, .int .i64 x2, .slice bdr mr dapr, .slice bdl ml dapl, .slice bdp mp dapp] 30
  have f0 := a3.cell 0
  have f1 := a3.cell 1
  have f2 := a3.cell 2
  have f3 := a3.cell 3
  have f4 := a3.cell 4
  have f5 := a3.cell 5
  go_enter Tryd.func4, Tryd.ntmps4
  go_wp2_with fail
  clear f0 f1 f2 f3 f4 f5
  generalize (w.alloc (.cells #[.int .i64 z, .int .i64 y, .int .i64 x, .slice adr nr capr, .slice adl nl capl, .slice adp np capp] 30)).alloc (.cells #[.int .i64 z2, .int .i64 y2, .int .i64 x2, .slice bdr mr dapr, .slice bdl ml dapl, .slice bdp mp dapp] 30) = w0 at *
  refine (small_any z y x rt pl pp _ _ _ _ (hS.ext e0)).mono ?_
  rintro e w1 ⟨c1, rfl, hc, e1⟩
  replace a3 := at_ext a3 e1
  replace a4 := at_ext a4 e1
  replace e0 := e0.trans e1
  clear e1
  cases c1
  · clear hc
    go_wp2_with fail
    refine (awake_any _ (hK.below e0 hK.lt)).mono ?_
    rintro e w9 ⟨rfl, e9⟩
    go_wp2
    go_ret
    exact ⟨rfl, e0.trans e9⟩
  obtain ⟨t1, t2, t3⟩ := hc rfl
  clear hc
  have f0 := a4.cell 0
  have f1 := a4.cell 1
  have f2 := a4.cell 2
  have f3 := a4.cell 3
  have f4 := a4.cell 4
  have f5 := a4.cell 5
  go_wp2_with fail
  clear f0 f1 f2 f3 f4 f5
  refine (small_any z2 y2 x2 rt2 pl2 pp2 _ _ _ _ (hT.ext e0)).mono ?_
  rintro e w2 ⟨c1, rfl, hc, e1⟩
  replace a3 := at_ext a3 e1
  replace a4 := at_ext a4 e1
  replace e0 := e0.trans e1
  clear e1
  cases c1
  · clear hc t1 t2 t3
    go_wp2_with fail
    refine (awake_any _ (hK.below e0 hK.lt)).mono ?_
    rintro e w9 ⟨rfl, e9⟩
    go_wp2
    go_ret
    exact ⟨rfl, e0.trans e9⟩
  obtain ⟨t4, t5, t6⟩ := hc rfl
  clear hc
  have s1 := sum_len _ _ (Nat.le_of_eq (tot_sum pl))
  have s2 := sum_len _ _ (Nat.le_of_eq (tot_sum pp))
  have s3 := sum_len _ _ (Nat.le_of_eq (tot_sum pl2))
  have s4 := sum_len _ _ (Nat.le_of_eq (tot_sum pp2))
  have HL : Hid ((pl.map (·.2)).length ≤ 9223372036854775807 ∧ (pp.map (·.2)).length ≤ 9223372036854775807 ∧ (pl2.map (·.2)).length ≤ 9223372036854775807 ∧ (pp2.map (·.2)).length ≤ 9223372036854775807) := Lib.hid ⟨by omega, by omega, by omega, by omega⟩
  rw [← tot_sum] at t1 t2
  have Ht := Lib.hid (And.intro t1 t2)
  clear t1 t2 t3 t4 t5 t6 s1 s2 s3 s4
  have S0 := hS.sr z y x
  have T0 := hT.sr z2 y2 x2
  clear hS hT
  generalize pl.map (·.2) = ls at *
  generalize pp.map (·.2) = ps at *
  generalize pl2.map (·.2) = ls2 at *
  generalize pp2.map (·.2) = ps2 at *
  by_cases c1 : 8000 < M
  · have d1 : decide (8000 < M) = true := by simpa using c1
    have d1' : decide ((8000 : Int) < (M : Int)) = true := by simp; omega
    clear c1
    go_wp2_with fail
    refine (awake_any _ (hK.below e0 hK.lt)).mono ?_
    rintro e w9 ⟨rfl, e9⟩
    go_wp2
    go_ret
    exact ⟨rfl, e0.trans e9⟩
  have d1 : decide (8000 < M) = false := by simpa using c1
  have d1' : decide ((8000 : Int) < (M : Int)) = false := by simp; omega
  have hb8 : b.length ≤ 8000 := by have := HM.out; omega
  clear c1
  have f0 := a3.cell 0
  have f1 := a3.cell 1
  have f2 := a3.cell 2
  have f3 := a3.cell 3
  have f4 := a3.cell 4
  have f5 := a3.cell 5
  go_wp2_with fail
  clear d1 d1' f0 f1 f2 f3 f4 f5
  refine (made_any z y x adr adl adp nr capr nl capl np capp _).mono ?_
  rintro e w3 ⟨rfl, e1⟩
  replace a3 := at_ext a3 e1
  replace a4 := at_ext a4 e1
  replace e0 := e0.trans e1
  clear e1
  go_wp2_with fail
  refine (encode_all (⟨z, y, x, rt, ls, ps⟩ : Sd) _ _ _ w3 (hK.below e0 hK.lt) (S0.ext e0) Ht.out.1 Ht.out.2).mono ?_
  rintro e w4 ⟨v7, rfl, e1, s7⟩
  have R := fun (W : World) (h : SR W (⟨z, y, x, rt, ls, ps⟩ : Sd) (.slice adr nr capr) (.slice adl nl capl) (.slice adp np capp)) => rencode_all (⟨z, y, x, rt, ls, ps⟩ : Sd) (.slice adr nr capr) (.slice adl nl capl) (.slice adp np capp) W h Ht.out.1 Ht.out.2
  have HR := Lib.hid R
  clear R
  generalize encV (encO (⟨z, y, x, rt, ls, ps⟩ : Sd)) = E at *
  generalize encE (encO (⟨z, y, x, rt, ls, ps⟩ : Sd)) = ee at *
  obtain ⟨ad7, cap7, ev⟩ := s7.len
  subst ev
  replace a3 := at_ext a3 e1
  replace a4 := at_ext a4 e1
  replace e0 := e0.trans e1
  clear e1
  have f0 := a3.cell 0
  have f1 := a3.cell 1
  have f2 := a3.cell 2
  have f3 := a3.cell 3
  have f4 := a3.cell 4
  have f5 := a3.cell 5
  go_wp2_with fail
  clear f0 f1 f2 f3 f4 f5
  refine (HR.out w4 (S0.ext e0)).mono ?_
  rintro e w5 ⟨v9, rfl, e1, s9⟩
  obtain ⟨ad9, cap9, ev⟩ := s9.len
  subst ev
  obtain ⟨NE, hNE⟩ : ∃ n, n = E.length := ⟨_, rfl⟩
  rw [← hNE] at s7 s9 ⊢
  replace a3 := at_ext a3 e1
  replace a4 := at_ext a4 e1
  replace e0 := e0.trans e1
  replace s7 := s7.now e1
  clear e1 HR hNE
  have DL := dec_lens b hb hb8
  have HD := Lib.hid DL
  clear DL
  go_wp2_with fail
  have DE := decode_any _ b w5 (hK.below e0 hK.lt) (hs.now e0) hb (by omega)
  rw [dec_eq b hb] at DE
  refine DE.mono ?_
  intro e w6 hp
  obtain ⟨ur, ul, up, rfl, e1, p1⟩ := hp.norm
  clear hp DE
  have RD := fun (W : World) (h : Src W (.slice ad M cap) b W.heap.size) => rdecode_any _ b W h hb hb8
  have HRD := Lib.hid RD
  clear RD
  replace a3 := at_ext a3 e1
  replace a4 := at_ext a4 e1
  replace e0 := e0.trans e1
  replace s7 := s7.now e1
  replace s9 := s9.now e1
  clear e1
  obtain ⟨O, hO⟩ : ∃ o, o = rdecL b := ⟨_, rfl⟩
  rw [← hO] at HRD HD p1 ⊢
  clear hO
  have HRN : Hid (∀ (W : World), Src W (.slice ad M cap) b W.heap.size → Calls Tryd.prog 17 #[.slice ad M cap] W (MPost W (decV O) (decE O))) := Lib.hid (fun W h => (HRD.out W h).mono fun _ _ h => h.norm)
  clear HRD
  generalize decE O = de at *
  obtain ⟨dz, dy, dx, drt, dls, dps, hDV⟩ : ∃ dz dy dx drt dls dps, decV O = (⟨dz, dy, dx, drt, dls, dps⟩ : Sd) := ⟨_, _, _, _, _, _, rfl⟩
  rw [hDV] at HRN HD p1 ⊢
  clear hDV O
  simp only
  obtain ⟨cdr, eapr, ev⟩ := p1.r.len
  subst ev
  obtain ⟨cdl, eapl, ev⟩ := p1.l.len
  subst ev
  obtain ⟨cdp, eapp, ev⟩ := p1.p.len
  subst ev
  simp only at p1 HD ⊢
  obtain ⟨kr, hkr⟩ : ∃ n, n = drt.length := ⟨_, rfl⟩
  obtain ⟨kl, hkl⟩ : ∃ n, n = dls.length := ⟨_, rfl⟩
  obtain ⟨kp, hkp⟩ : ∃ n, n = dps.length := ⟨_, rfl⟩
  rw [← hkr, ← hkl, ← hkp] at p1 ⊢
  have Hk := Lib.hid (And.intro hkr (And.intro hkl hkp))
  clear hkr hkl hkp
  have e1 : Ext w6 (w6.alloc (.cells #[.int .i64 dz, .int .i64 dy, .int .i64 dx, .slice cdr kr eapr, .slice cdl kl eapl, .slice cdp kp eapp] 26)) := Ext.alloc w6 _
  have a11 := At.new w6 #[.int .i64 dz, .int .i64 dy, .int .i64 dx, .slice cdr kr eapr, .slice cdl kl eapl, .slice cdp kp eapp] 26
  replace a3 := at_ext a3 e1
  replace a4 := at_ext a4 e1
  replace e0 := e0.trans e1
  replace s7 := s7.now e1
  replace s9 := s9.now e1
  replace p1 := p1.ext e1
  clear e1
  go_wp2_with fail
  obtain ⟨g11, hg11⟩ : ∃ g, g = w6.heap.size := ⟨_, rfl⟩
  generalize w6.alloc (.cells #[.int .i64 dz, .int .i64 dy, .int .i64 dx, .slice cdr kr eapr, .slice cdl kl eapl, .slice cdp kp eapp] 26) = w7 at *
  rw [← hg11] at a11 ⊢
  clear hg11
  refine (HRN.out w7 (hs.now e0)).mono ?_
  rintro e w8 ⟨tr, tl, tp, rfl, e1, q1⟩
  simp only at q1 ⊢
  obtain ⟨ddr, fapr, ev⟩ := q1.r.len
  subst ev
  obtain ⟨ddl, fapl, ev⟩ := q1.l.len
  subst ev
  obtain ⟨ddp, fapp, ev⟩ := q1.p.len
  subst ev
  simp only [← Hk.out.1, ← Hk.out.2.1, ← Hk.out.2.2] at q1 ⊢
  replace a3 := at_ext a3 e1
  replace a4 := at_ext a4 e1
  replace a11 := at_ext a11 e1
  replace e0 := e0.trans e1
  replace s7 := s7.now e1
  replace s9 := s9.now e1
  replace p1 := p1.ext e1
  clear e1 HRN
  have e1 : Ext w8 (w8.alloc (.cells #[.int .i64 dz, .int .i64 dy, .int .i64 dx, .slice ddr kr fapr, .slice ddl kl fapl, .slice ddp kp fapp] 30)) := Ext.alloc w8 _
  have a13 := At.new w8 #[.int .i64 dz, .int .i64 dy, .int .i64 dx, .slice ddr kr fapr, .slice ddl kl fapl, .slice ddp kp fapp] 30
  replace a3 := at_ext a3 e1
  replace a4 := at_ext a4 e1
  replace a11 := at_ext a11 e1
  replace e0 := e0.trans e1
  replace s7 := s7.now e1
  replace s9 := s9.now e1
  replace p1 := p1.ext e1
  replace q1 := q1.ext e1
  clear e1
  go_upto_region 7 with (fail)
  obtain ⟨g13, hg13⟩ : ∃ g, g = w8.heap.size := ⟨_, rfl⟩
  generalize w8.alloc (.cells #[.int .i64 dz, .int .i64 dy, .int .i64 dx, .slice ddr kr fapr, .slice ddl kl fapl, .slice ddp kp fapp] 30) = w9 at *
  rw [← hg13] at a13 ⊢
  clear hg13
  obtain ⟨g3, hg3⟩ : ∃ g, g = w.heap.size := ⟨_, rfl⟩
  rw [← hg3] at a3 a4 ⊢
  clear hg3
  replace S0 := S0.ext e0
  replace T0 := T0.ext e0
  have k0 := hK.below e0 hK.lt
  have HA := Lib.hid (fun (w' : World) (hw' : Ext w9 w') => at_ext a3 hw')
  have HB := Lib.hid (fun (w' : World) (hw' : Ext w9 w') => at_ext a4 hw')
  have HP := Lib.hid (fun (w' : World) (hw' : Ext w9 w') => at_ext a11 hw')
  have HQ := Lib.hid (fun (w' : World) (hw' : Ext w9 w') => at_ext a13 hw')
  have HC7 := Lib.hid (fun (w' : World) (hw' : Ext w9 w') => conv_src (P := Tryd.prog) 22 9 5 Tryd.underlying22 Tryd.underlying5 Tryd.underlying9 (s7.now hw'))
  have HC9 := Lib.hid (fun (w' : World) (hw' : Ext w9 w') => conv_src (P := Tryd.prog) 22 9 5 Tryd.underlying22 Tryd.underlying5 Tryd.underlying9 (s9.now hw'))
  have HSR := Lib.hid (fun (w' : World) (hw' : Ext w9 w') => S0.ext hw')
  have HTR := Lib.hid (fun (w' : World) (hw' : Ext w9 w') => T0.ext hw')
  have HPR := Lib.hid (fun (w' : World) (hw' : Ext w9 w') => p1.ext hw')
  have HQR := Lib.hid (fun (w' : World) (hw' : Ext w9 w') => q1.ext hw')
  have HKK := Lib.hid (fun (w' : World) (hw' : Ext w9 w') => k0.below hw' k0.lt)
  clear a3 a4 a11 a13 s7 s9 S0 T0 p1 q1 k0 hs hK Ht
  obtain ⟨so, hso⟩ : ∃ s, soundL (⟨z, y, x, rt, ls, ps⟩ : Sd) = s := ⟨_, rfl⟩
  obtain ⟨sa, hsa⟩ : ∃ s, sameL (⟨z, y, x, rt, ls, ps⟩ : Sd) (⟨z2, y2, x2, rt2, ls2, ps2⟩ : Sd) = s := ⟨_, rfl⟩
  have Hso := Lib.hid hso
  have Hsa := Lib.hid hsa
  clear hso hsa
  generalize strOfNums E = XE at *
  refine wp_region_held (S := Ext w9) (by kernel_rfl) ?_
  change wpAnyH _ _ _ _ _ _ _ _ w9.drew
  have S0 : Ext w9 w9.drew := Below.drew (Below.refl _ _)
  generalize w9.drew = W0 at *
  refine takeS 0 (some 50) (.agg #[.int .i64 z, .int .i64 y, .int .i64 x, .slice adr nr capr, .slice adl nl capl, .slice adp np capp]) rfl rfl (by kernel_rfl) (by kernel_rfl) (by kernel_rfl) (fun _ _ _ h => h) rfl S0 (fun w' hw' => exec_load_row 30 _ rfl g3 rfl 30 _ (HA.out w' hw') Tryd.underlying30 rfl (by kernel_rfl)) ?_
  simp only [Act.put, List.setIfInBounds_toArray, List.set_cons_zero, List.set_cons_succ]
  refine takeS 3 (some 53) (.agg #[.int .i64 z, .int .i64 y, .int .i64 x, .slice adr nr capr, .slice adl nl capl, .slice adp np capp]) rfl rfl (by kernel_rfl) (by kernel_rfl) (by kernel_rfl) (fun _ _ _ h => h) rfl S0 (fun w' hw' => exec_load_row 30 _ rfl g3 rfl 30 _ (HA.out w' hw') Tryd.underlying30 rfl (by kernel_rfl)) ?_
  simp only [Act.put, List.setIfInBounds_toArray, List.set_cons_zero, List.set_cons_succ]
  refine nextS 1 rfl (by kernel_rfl) rfl (callS (some 51) rfl 14 #[.agg #[.int .i64 z, .int .i64 y, .int .i64 x, .slice adr nr capr, .slice adl nl capl, .slice adp np capp]] (by go_simp) (fun v w' => v = .agg #[.int .i64 z, .int .i64 y, .int .i64 x, .slice adr nr capr, .slice adl nl capl, .slice adp np capp] ∧ Ext W0 w') ((made_any _ _ _ _ _ _ _ _ _ _ _ _ W0).mono fun _ _ he => ⟨_, he.1, rfl, he.2⟩) ?_)
  rintro v_ W1 ⟨rfl, x_⟩
  simp only [Act.put, List.setIfInBounds_toArray, List.set_cons_zero, List.set_cons_succ]
  have S1 := S0.trans x_
  clear x_
  refine ⟨S1, ?_⟩
  refine nextS 2 rfl (by kernel_rfl) rfl (callS (some 52) rfl 11 #[.agg #[.int .i64 z, .int .i64 y, .int .i64 x, .slice adr nr capr, .slice adl nl capl, .slice adp np capp]] (by go_simp) (fun v w' => v = .bool so ∧ Ext W1 w') ((sound_any (⟨z, y, x, rt, ls, ps⟩ : Sd) _ _ _ W1 (HKK.out W1 S1) (HSR.out W1 S1) HL.out.1 HL.out.2.1).mono fun _ _ he => ⟨_, he.1.trans (by rw [Hso.out]), rfl, he.2⟩) ?_)
  rintro v_ W2 ⟨rfl, x_⟩
  simp only [Act.put, List.setIfInBounds_toArray, List.set_cons_zero, List.set_cons_succ]
  have S2 := S1.trans x_
  clear x_
  refine ⟨S2, ?_⟩
  refine nextS 4 rfl (by kernel_rfl) rfl (callS (some 54) rfl 18 #[.agg #[.int .i64 z, .int .i64 y, .int .i64 x, .slice adr nr capr, .slice adl nl capl, .slice adp np capp]] (by go_simp) (fun v w' => v = .bool so ∧ Ext W2 w') ((rsound_any (⟨z, y, x, rt, ls, ps⟩ : Sd) _ _ _ W2 (HSR.out W2 S2) HL.out.1 HL.out.2.1).mono fun _ _ he => ⟨_, he.1.trans (by rw [Hso.out]), rfl, he.2⟩) ?_)
  rintro v_ W3 ⟨rfl, x_⟩
  simp only [Act.put, List.setIfInBounds_toArray, List.set_cons_zero, List.set_cons_succ]
  have S3 := S2.trans x_
  clear x_
  refine ⟨S3, ?_⟩
  refine takeS 5 (some 55) (.bool true) rfl rfl (by kernel_rfl) (by kernel_rfl) (by kernel_rfl) (fun _ _ _ h => h) rfl S3 (fun w' hw' => by go_simp) ?_
  simp only [Act.put, List.setIfInBounds_toArray, List.set_cons_zero, List.set_cons_succ]
  refine takeS 6 (some 56) (.bool true) rfl rfl (by kernel_rfl) (by kernel_rfl) (by kernel_rfl) (fun _ _ _ h => h) rfl S3 (fun w' hw' => by go_simp) ?_
  simp only [Act.put, List.setIfInBounds_toArray, List.set_cons_zero, List.set_cons_succ]
  refine takeS 7 (some 57) (.slice ad7 NE cap7) rfl rfl (by kernel_rfl) (by kernel_rfl) (by kernel_rfl) (fun _ _ _ h => h) rfl S3 (fun w' hw' => by go_simp) ?_
  simp only [Act.put, List.setIfInBounds_toArray, List.set_cons_zero, List.set_cons_succ]
  refine takeS 8 (some 58) (.string XE) rfl rfl (by kernel_rfl) (by kernel_rfl) (by kernel_rfl) (fun _ _ _ h => h) rfl S3 (fun w' hw' => by have cc := HC7.out w' hw'; go_simp) ?_
  simp only [Act.put, List.setIfInBounds_toArray, List.set_cons_zero, List.set_cons_succ]
  refine takeS 9 (some 59) (.slice ad9 NE cap9) rfl rfl (by kernel_rfl) (by kernel_rfl) (by kernel_rfl) (fun _ _ _ h => h) rfl S3 (fun w' hw' => by go_simp) ?_
  simp only [Act.put, List.setIfInBounds_toArray, List.set_cons_zero, List.set_cons_succ]
  refine takeS 10 (some 60) (.string XE) rfl rfl (by kernel_rfl) (by kernel_rfl) (by kernel_rfl) (fun _ _ _ h => h) rfl S3 (fun w' hw' => by have cc := HC9.out w' hw'; go_simp) ?_
  simp only [Act.put, List.setIfInBounds_toArray, List.set_cons_zero, List.set_cons_succ]
  refine takeS 11 (some 61) (.bool true) rfl rfl (by kernel_rfl) (by kernel_rfl) (by kernel_rfl) (fun _ _ _ h => h) rfl S3 (fun w' hw' => by go_simp) ?_
  simp only [Act.put, List.setIfInBounds_toArray, List.set_cons_zero, List.set_cons_succ]
  refine takeS 12 (some 62) (.bool true) rfl rfl (by kernel_rfl) (by kernel_rfl) (by kernel_rfl) (fun _ _ _ h => h) rfl S3 (fun w' hw' => by go_simp) ?_
  simp only [Act.put, List.setIfInBounds_toArray, List.set_cons_zero, List.set_cons_succ]
  refine takeS 13 (some 63) (.bool true) rfl rfl (by kernel_rfl) (by kernel_rfl) (by kernel_rfl) (fun _ _ _ h => h) rfl S3 (fun w' hw' => by go_simp) ?_
  simp only [Act.put, List.setIfInBounds_toArray, List.set_cons_zero, List.set_cons_succ]
  refine takeS 14 (some 64) (.int .i64 ee) rfl rfl (by kernel_rfl) (by kernel_rfl) (by kernel_rfl) (fun _ _ _ h => h) rfl S3 (fun w' hw' => by go_simp) ?_
  simp only [Act.put, List.setIfInBounds_toArray, List.set_cons_zero, List.set_cons_succ]
  refine takeS 15 (some 65) (.int .i64 ee) rfl rfl (by kernel_rfl) (by kernel_rfl) (by kernel_rfl) (fun _ _ _ h => h) rfl S3 (fun w' hw' => by go_simp) ?_
  simp only [Act.put, List.setIfInBounds_toArray, List.set_cons_zero, List.set_cons_succ]
  refine takeS 16 (some 66) (.bool true) rfl rfl (by kernel_rfl) (by kernel_rfl) (by kernel_rfl) (fun _ _ _ h => h) rfl S3 (fun w' hw' => by go_simp) ?_
  simp only [Act.put, List.setIfInBounds_toArray, List.set_cons_zero, List.set_cons_succ]
  refine takeS 17 (some 67) (.bool true) rfl rfl (by kernel_rfl) (by kernel_rfl) (by kernel_rfl) (fun _ _ _ h => h) rfl S3 (fun w' hw' => by go_simp) ?_
  simp only [Act.put, List.setIfInBounds_toArray, List.set_cons_zero, List.set_cons_succ]
  refine takeS 18 (some 68) (.bool true) rfl rfl (by kernel_rfl) (by kernel_rfl) (by kernel_rfl) (fun _ _ _ h => h) rfl S3 (fun w' hw' => by go_simp) ?_
  simp only [Act.put, List.setIfInBounds_toArray, List.set_cons_zero, List.set_cons_succ]
  refine takeS 19 (some 69) (.agg #[.int .i64 dz, .int .i64 dy, .int .i64 dx, .slice cdr kr eapr, .slice cdl kl eapl, .slice cdp kp eapp]) rfl rfl (by kernel_rfl) (by kernel_rfl) (by kernel_rfl) (fun _ _ _ h => h) rfl S3 (fun w' hw' => exec_load_row 26 _ rfl g11 rfl 26 _ (HP.out w' hw') Tryd.underlying26 rfl (by kernel_rfl)) ?_
  simp only [Act.put, List.setIfInBounds_toArray, List.set_cons_zero, List.set_cons_succ]
  refine takeS 21 (some 71) (.agg #[.int .i64 dz, .int .i64 dy, .int .i64 dx, .slice ddr kr fapr, .slice ddl kl fapl, .slice ddp kp fapp]) rfl rfl (by kernel_rfl) (by kernel_rfl) (by kernel_rfl) (fun _ _ _ h => h) rfl S3 (fun w' hw' => exec_load_row 30 _ rfl g13 rfl 30 _ (HQ.out w' hw') Tryd.underlying30 rfl (by kernel_rfl)) ?_
  simp only [Act.put, List.setIfInBounds_toArray, List.set_cons_zero, List.set_cons_succ]
  refine nextS 20 rfl (by kernel_rfl) rfl (callS (some 70) rfl 10 #[.agg #[.int .i64 dz, .int .i64 dy, .int .i64 dx, .slice cdr kr eapr, .slice cdl kl eapl, .slice cdp kp eapp]] (by go_simp) (fun v w' => v = .agg #[.int .i64 dz, .int .i64 dy, .int .i64 dx, .slice cdr kr eapr, .slice cdl kl eapl, .slice cdp kp eapp] ∧ Ext W3 w') ((flat_any _ _ _ _ _ _ _ _ _ _ _ _ W3).mono fun _ _ he => ⟨_, he.1, rfl, he.2⟩) ?_)
  rintro v_ W4 ⟨rfl, x_⟩
  simp only [Act.put, List.setIfInBounds_toArray, List.set_cons_zero, List.set_cons_succ]
  have S4 := S3.trans x_
  clear x_
  refine ⟨S4, ?_⟩
  refine nextS 22 rfl (by kernel_rfl) rfl (callS (some 72) rfl 9 #[.agg #[.int .i64 dz, .int .i64 dy, .int .i64 dx, .slice cdr kr eapr, .slice cdl kl eapl, .slice cdp kp eapp], .agg #[.int .i64 dz, .int .i64 dy, .int .i64 dx, .slice ddr kr fapr, .slice ddl kl fapl, .slice ddp kp fapp]] (by go_simp) (fun v w' => v = .bool true ∧ Ext W4 w') ((rsame_any (⟨dz, dy, dx, drt, dls, dps⟩ : Sd) (⟨dz, dy, dx, drt, dls, dps⟩ : Sd) _ _ _ _ _ _ W4 (HPR.out W4 S4) (HQR.out W4 S4) HD.out.1 HD.out.2 HD.out.1 HD.out.2).mono fun _ _ he => ⟨_, he.1.trans (by rw [sameL_self]), rfl, he.2⟩) ?_)
  rintro v_ W5 ⟨rfl, x_⟩
  simp only [Act.put, List.setIfInBounds_toArray, List.set_cons_zero, List.set_cons_succ]
  have S5 := S4.trans x_
  clear x_
  refine ⟨S5, ?_⟩
  refine takeS 23 (some 73) (.bool true) rfl rfl (by kernel_rfl) (by kernel_rfl) (by kernel_rfl) (fun _ _ _ h => h) rfl S5 (fun w' hw' => by go_simp) ?_
  simp only [Act.put, List.setIfInBounds_toArray, List.set_cons_zero, List.set_cons_succ]
  refine takeS 24 (some 74) (.bool true) rfl rfl (by kernel_rfl) (by kernel_rfl) (by kernel_rfl) (fun _ _ _ h => h) rfl S5 (fun w' hw' => by go_simp) ?_
  simp only [Act.put, List.setIfInBounds_toArray, List.set_cons_zero, List.set_cons_succ]
  refine takeS 25 (some 75) (.int .i64 de) rfl rfl (by kernel_rfl) (by kernel_rfl) (by kernel_rfl) (fun _ _ _ h => h) rfl S5 (fun w' hw' => by go_simp) ?_
  simp only [Act.put, List.setIfInBounds_toArray, List.set_cons_zero, List.set_cons_succ]
  refine takeS 26 (some 76) (.int .i64 de) rfl rfl (by kernel_rfl) (by kernel_rfl) (by kernel_rfl) (fun _ _ _ h => h) rfl S5 (fun w' hw' => by go_simp) ?_
  simp only [Act.put, List.setIfInBounds_toArray, List.set_cons_zero, List.set_cons_succ]
  refine takeS 27 (some 77) (.bool true) rfl rfl (by kernel_rfl) (by kernel_rfl) (by kernel_rfl) (fun _ _ _ h => h) rfl S5 (fun w' hw' => by go_simp) ?_
  simp only [Act.put, List.setIfInBounds_toArray, List.set_cons_zero, List.set_cons_succ]
  refine takeS 28 (some 78) (.bool true) rfl rfl (by kernel_rfl) (by kernel_rfl) (by kernel_rfl) (fun _ _ _ h => h) rfl S5 (fun w' hw' => by go_simp) ?_
  simp only [Act.put, List.setIfInBounds_toArray, List.set_cons_zero, List.set_cons_succ]
  refine takeS 29 (some 79) (.bool true) rfl rfl (by kernel_rfl) (by kernel_rfl) (by kernel_rfl) (fun _ _ _ h => h) rfl S5 (fun w' hw' => by go_simp) ?_
  simp only [Act.put, List.setIfInBounds_toArray, List.set_cons_zero, List.set_cons_succ]
  refine takeS 30 (some 80) (.agg #[.int .i64 z, .int .i64 y, .int .i64 x, .slice adr nr capr, .slice adl nl capl, .slice adp np capp]) rfl rfl (by kernel_rfl) (by kernel_rfl) (by kernel_rfl) (fun _ _ _ h => h) rfl S5 (fun w' hw' => exec_load_row 30 _ rfl g3 rfl 30 _ (HA.out w' hw') Tryd.underlying30 rfl (by kernel_rfl)) ?_
  simp only [Act.put, List.setIfInBounds_toArray, List.set_cons_zero, List.set_cons_succ]
  refine takeS 32 (some 82) (.agg #[.int .i64 z2, .int .i64 y2, .int .i64 x2, .slice bdr mr dapr, .slice bdl ml dapl, .slice bdp mp dapp]) rfl rfl (by kernel_rfl) (by kernel_rfl) (by kernel_rfl) (fun _ _ _ h => h) rfl S5 (fun w' hw' => exec_load_row 30 _ rfl ((g3 + 1)) rfl 30 _ (HB.out w' hw') Tryd.underlying30 rfl (by kernel_rfl)) ?_
  simp only [Act.put, List.setIfInBounds_toArray, List.set_cons_zero, List.set_cons_succ]
  refine takeS 35 (some 85) (.agg #[.int .i64 z, .int .i64 y, .int .i64 x, .slice adr nr capr, .slice adl nl capl, .slice adp np capp]) rfl rfl (by kernel_rfl) (by kernel_rfl) (by kernel_rfl) (fun _ _ _ h => h) rfl S5 (fun w' hw' => exec_load_row 30 _ rfl g3 rfl 30 _ (HA.out w' hw') Tryd.underlying30 rfl (by kernel_rfl)) ?_
  simp only [Act.put, List.setIfInBounds_toArray, List.set_cons_zero, List.set_cons_succ]
  refine takeS 36 (some 86) (.agg #[.int .i64 z2, .int .i64 y2, .int .i64 x2, .slice bdr mr dapr, .slice bdl ml dapl, .slice bdp mp dapp]) rfl rfl (by kernel_rfl) (by kernel_rfl) (by kernel_rfl) (fun _ _ _ h => h) rfl S5 (fun w' hw' => exec_load_row 30 _ rfl ((g3 + 1)) rfl 30 _ (HB.out w' hw') Tryd.underlying30 rfl (by kernel_rfl)) ?_
  simp only [Act.put, List.setIfInBounds_toArray, List.set_cons_zero, List.set_cons_succ]
  refine nextS 31 rfl (by kernel_rfl) rfl (callS (some 81) rfl 14 #[.agg #[.int .i64 z, .int .i64 y, .int .i64 x, .slice adr nr capr, .slice adl nl capl, .slice adp np capp]] (by go_simp) (fun v w' => v = .agg #[.int .i64 z, .int .i64 y, .int .i64 x, .slice adr nr capr, .slice adl nl capl, .slice adp np capp] ∧ Ext W5 w') ((made_any _ _ _ _ _ _ _ _ _ _ _ _ W5).mono fun _ _ he => ⟨_, he.1, rfl, he.2⟩) ?_)
  rintro v_ W6 ⟨rfl, x_⟩
  simp only [Act.put, List.setIfInBounds_toArray, List.set_cons_zero, List.set_cons_succ]
  have S6 := S5.trans x_
  clear x_
  refine ⟨S6, ?_⟩
  refine nextS 33 rfl (by kernel_rfl) rfl (callS (some 83) rfl 14 #[.agg #[.int .i64 z2, .int .i64 y2, .int .i64 x2, .slice bdr mr dapr, .slice bdl ml dapl, .slice bdp mp dapp]] (by go_simp) (fun v w' => v = .agg #[.int .i64 z2, .int .i64 y2, .int .i64 x2, .slice bdr mr dapr, .slice bdl ml dapl, .slice bdp mp dapp] ∧ Ext W6 w') ((made_any _ _ _ _ _ _ _ _ _ _ _ _ W6).mono fun _ _ he => ⟨_, he.1, rfl, he.2⟩) ?_)
  rintro v_ W7 ⟨rfl, x_⟩
  simp only [Act.put, List.setIfInBounds_toArray, List.set_cons_zero, List.set_cons_succ]
  have S7 := S6.trans x_
  clear x_
  refine ⟨S7, ?_⟩
  refine nextS 34 rfl (by kernel_rfl) rfl (callS (some 84) rfl 19 #[.agg #[.int .i64 z, .int .i64 y, .int .i64 x, .slice adr nr capr, .slice adl nl capl, .slice adp np capp], .agg #[.int .i64 z2, .int .i64 y2, .int .i64 x2, .slice bdr mr dapr, .slice bdl ml dapl, .slice bdp mp dapp]] (by go_simp) (fun v w' => v = .bool sa ∧ Ext W7 w') ((same_any (⟨z, y, x, rt, ls, ps⟩ : Sd) (⟨z2, y2, x2, rt2, ls2, ps2⟩ : Sd) _ _ _ _ _ _ W7 (HSR.out W7 S7) (HTR.out W7 S7) HL.out.1 HL.out.2.1 HL.out.2.2.1 HL.out.2.2.2).mono fun _ _ he => ⟨_, he.1.trans (by rw [Hsa.out]), rfl, he.2⟩) ?_)
  rintro v_ W8 ⟨rfl, x_⟩
  simp only [Act.put, List.setIfInBounds_toArray, List.set_cons_zero, List.set_cons_succ]
  have S8 := S7.trans x_
  clear x_
  refine ⟨S8, ?_⟩
  refine nextS 37 rfl (by kernel_rfl) rfl (callS (some 87) rfl 9 #[.agg #[.int .i64 z, .int .i64 y, .int .i64 x, .slice adr nr capr, .slice adl nl capl, .slice adp np capp], .agg #[.int .i64 z2, .int .i64 y2, .int .i64 x2, .slice bdr mr dapr, .slice bdl ml dapl, .slice bdp mp dapp]] (by go_simp) (fun v w' => v = .bool sa ∧ Ext W8 w') ((rsame_any (⟨z, y, x, rt, ls, ps⟩ : Sd) (⟨z2, y2, x2, rt2, ls2, ps2⟩ : Sd) _ _ _ _ _ _ W8 (HSR.out W8 S8) (HTR.out W8 S8) HL.out.1 HL.out.2.1 HL.out.2.2.1 HL.out.2.2.2).mono fun _ _ he => ⟨_, he.1.trans (by rw [Hsa.out]), rfl, he.2⟩) ?_)
  rintro v_ W9 ⟨rfl, x_⟩
  simp only [Act.put, List.setIfInBounds_toArray, List.set_cons_zero, List.set_cons_succ]
  have S9 := S8.trans x_
  clear x_
  refine ⟨S9, ?_⟩
  refine takeS 38 (some 88) (.bool true) rfl rfl (by kernel_rfl) (by kernel_rfl) (by kernel_rfl) (fun _ _ _ h => h) rfl S9 (fun w' hw' => by go_simp) ?_
  simp only [Act.put, List.setIfInBounds_toArray, List.set_cons_zero, List.set_cons_succ]
  refine takeS 39 (some 89) (.bool true) rfl rfl (by kernel_rfl) (by kernel_rfl) (by kernel_rfl) (fun _ _ _ h => h) rfl S9 (fun w' hw' => by go_simp) ?_
  simp only [Act.put, List.setIfInBounds_toArray, List.set_cons_zero, List.set_cons_succ]
  refine takeS 40 (some 90) (.bool true) rfl rfl (by kernel_rfl) (by kernel_rfl) (by kernel_rfl) (fun _ _ _ h => h) rfl S9 (fun w' hw' => by go_simp) ?_
  simp only [Act.put, List.setIfInBounds_toArray, List.set_cons_zero, List.set_cons_succ]
  refine nextS 41 rfl (by kernel_rfl) rfl (callS (some 91) rfl 6 #[] (by go_simp) (fun v w' => v = .bool true ∧ Ext W9 w') ((awake_any W9 (HKK.out W9 S9)).mono fun _ _ he => ⟨_, he.1, rfl, he.2⟩) ?_)
  rintro v_ W10 ⟨rfl, x_⟩
  simp only [Act.put, List.setIfInBounds_toArray, List.set_cons_zero, List.set_cons_succ]
  have S10 := S9.trans x_
  clear x_
  refine ⟨S10, ?_⟩
  refine takeS 42 (some 92) (.bool true) rfl rfl (by kernel_rfl) (by kernel_rfl) (by kernel_rfl) (fun _ _ _ h => h) rfl S10 (fun w' hw' => by go_simp) ?_
  simp only [Act.put, List.setIfInBounds_toArray, List.set_cons_zero, List.set_cons_succ]
  refine takeS 43 (some 6) (.bool true) rfl rfl (by kernel_rfl) (by kernel_rfl) (by kernel_rfl) (fun _ _ _ h => h) rfl S10 (fun w' hw' => by go_simp) ?_
  simp only [Act.put, List.setIfInBounds_toArray, List.set_cons_zero, List.set_cons_succ]
  refine wpAnyH_done (by kernel_rfl) ?_ _
  go_wp2
  go_ret
  exact ⟨rfl, e0.trans S10⟩
theorem forms_all (vr vl vp vr2 vl2 vp2 v : Value) (z y x : Int) (rt : List Int) (pl pp : List (Value × List Int)) (z2 y2 x2 : Int) (rt2 : List Int) (pl2 pp2 : List (Value × List Int)) (b : List Int) (w : World) (hK : KAt w) (hS : ArgS w rt pl pp vr vl vp) (hT : ArgS w rt2 pl2 pp2 vr2 vl2 vp2) (hs : Src w v b w.heap.size) (hb : Byt b) (_ : b.length ≤ 9223372036854775807) :
    Calls Tryd.prog 4 #[.agg #[.int .i64 z, .int .i64 y, .int .i64 x, vr, vl, vp], .agg #[.int .i64 z2, .int .i64 y2, .int .i64 x2, vr2, vl2, vp2], v] w fun e w' => e = .returned (.bool true) ∧ Ext w w' :=
  forms_any z y x z2 y2 x2 rt rt2 pl pp pl2 pp2 vr vl vp vr2 vl2 vp2 v b w hK hS hT hs hb
end Go.Proofs.YtfhgoedonjcekaaDoor
