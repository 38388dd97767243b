/- Contracts of the document's own store: sectors, Used, Fit; what a call leaves, put together. linnetref5's apply of an act that makes a name, and names, where nothing stands. -/
import Derived.Test.YtbneedmfpldpfaaGreatDoorBeM
import Derived.Test.YtbneedmfpldpfaaGreatDoorReM
set_option linter.unusedSimpArgs false
set_option linter.unusedVariables false
namespace Go.Proofs.YtbneedmfpldpfaaGreatDoor
open Go.RowKit Go.Pth

def sliceLen : Value → Nat | .slice _ n _ => n | _ => 0
set_option maxHeartbeats 4000000 in
theorem rsect_any (n : Nat) (w : World) (hn : n ≤ 1000000) : Calls Tryz.prog 68 #[.int .i64 n] w fun e w' => e = .returned (.int .i64 (secs n)) ∧ w = w' := by
  have h1 : ((n : Int) + 16 - 1).tdiv 16 = (secs n : Int) := by
    rw [Int.tdiv_eq_ediv_of_nonneg (by omega)]; unfold secs; omega
  have h2 : ((n : Int) + 16 - 1) / 16 = (secs n : Int) := by unfold secs; omega
  go_enter Tryz.func68, Tryz.ntmps68
  go_wp2
  go_ret
  exact ⟨retv (by first | rfl | (rw [← h2]; rfl)), rfl⟩

def InvUs (n : Nat) (w : World) (s3 s4 : Value) (wr : World) : Prop := ∃ (j : Nat) (t : Int), j ≤ n ∧ s4 = .int .i64 j ∧ s3 = .int .i64 t ∧ 0 ≤ t ∧ t ≤ j * 65536 ∧ Ext w wr
set_option maxRecDepth 100000 in
set_option maxHeartbeats 4000000 in
theorem rused_any (g : Nat) (R : RV) (F : Nat → Prop) (k : Nat) (w : World) (h : RRep w g R F k) (hk : k ≤ 1000) :
    Calls Tryz.prog 66 #[ptr g] w fun e w' => (∃ t : Int, e = .returned (.int .i64 t) ∧ 0 ≤ t ∧ t ≤ 100000000) ∧ Ext w w' := by
  obtain ⟨ad, cap, b, o, hn⟩ := RNs.of_row h.nr
  obtain ⟨fd, fcap, fb, fo, hf⟩ := RFs.of_row h.fr
  have hln := h.ln
  have hlf := h.lf
  have C2 := Lib.hid (fun w' (e : Ext w w') => e.cell (show w.cell? ⟨g, 2, none⟩ = some R.fs from h.c 2))
  have C3 := Lib.hid (fun w' (e : Ext w w') => e.cell (show w.cell? ⟨g, 3, none⟩ = some R.nw from h.c 3))
  have CF2 : Hid (∀ w', Ext w w' → ∀ j, j < R.names.length → ∃ q : Nat, w'.cell? ⟨b, o + j * 2 + 1, none⟩ = some (.int .i64 q) ∧ q < R.files.length) := Lib.hid fun w' e j hj => ⟨_, e.cell (hn.nf j hj), h.rn _ (List.getElem_mem hj)⟩
  have CK2 : Hid (∀ w', Ext w w' → ∀ j, j < R.files.length → ∃ (d : Option Addr) (q c : Nat), w'.cell? ⟨fb, fo + j * 6 + 3, none⟩ = some (.slice d q c) ∧ q ≤ 65536) := Lib.hid fun w' e j hj => by
    have hx := h.ff _ (List.getElem_mem hj)
    obtain ⟨l, hl, hr⟩ := hx.b
    obtain ⟨d, c, hv, -⟩ := hr.shape
    refine ⟨d, R.files[j].n, c, ?_, hx.nl⟩
    rw [← hv]
    exact e.cell (hf.cl j hj 3 (by omega))
  have hv := hn.val
  have hw := hf.val
  have HAD := Lib.hid hn.adr
  have HFA := Lib.hid hf.adr
  rw [hv] at C3
  rw [hw] at C2
  clear hv hw hn hf h
  generalize R.names.length = n at *
  generalize R.files.length = m at *
  unfold ptr
  go_enter Tryz.func66, Tryz.ntmps66
  go_wp2
  go_loopw [3, 4] (fun s3 s4 wr => InvUs n w s3 s4 wr) (fun _ s4 _ => n - (intOf s4).toNat)
  case atStart => exact ⟨0, 0, by omega, rfl, rfl, by omega, by omega, Ext.refl _⟩
  case round =>
    obtain ⟨j, t, hj, rfl, rfl, ht0, ht1, he⟩ := hrel
    have c2 := C2.out _ he
    have c3 := C3.out _ he
    by_cases hlt : j < n
    · have i0 : (0 : Int) ≤ (j : Int) := by omega
      have i1 : (j : Int) < (n : Int) := by omega
      obtain ⟨q, cq, hq⟩ := CF2.out _ he j hlt
      obtain ⟨d, nb, cb, ck, hnb⟩ := CK2.out _ he q hq
      have a1 := HAD.out (by omega)
      have a2 := HFA.out (by omega)
      subst a1 a2
      have j0 : (0 : Int) ≤ (q : Int) := by omega
      have j1 : (q : Int) < (m : Int) := by omega
      have hw : IntKind.i64.wrap (t + (nb : Int)) = t + (nb : Int) := by rw [IntKind.wrap_i64]; omega
      have HE := Lib.hid he
      have HT := Lib.hid (show 0 ≤ t + (nb : Int) ∧ t + (nb : Int) ≤ ((j + 1 : Nat) : Int) * 65536 from by omega)
      clear he ht0 ht1
      go_wp2_with fail
      go_quiet (fail)
      go_wp2
      refine ⟨⟨j + 1, t + nb, by omega, by rw [Int.natCast_add]; rfl, rfl, HT.out.1, HT.out.2, HE.out.trans ?_⟩, by simp [intOf]; omega⟩
      first | exact Ext.refl _ | exact Ext.drew _ | exact Ext.drewN _ _
    · obtain rfl : j = n := by omega
      have HT := Lib.hid (show 0 ≤ t ∧ t ≤ 100000000 from by omega)
      clear hlt ht0 ht1
      go_wp2
      go_ret
      exact ⟨⟨_, rfl, HT.out⟩, he⟩

theorem byte_more (w : World) {v : Value} {l : List Int} (hr : Row w 5 1 v l.length (bts l)) (x : Int) (hm : l.length ≤ 100000) :
    ∃ v' w', (Builtin.append_ #[22, 22] 22 #[v, .slice (some ⟨w.heap.size, 0, none⟩) 1 1]).run Tryz.prog (w.alloc (.cells #[.int .u8 x] 5)) = .ok v' w' ∧ Row w' 5 1 v' (l ++ [x]).length (bts (l ++ [x])) ∧
      ∀ w0, Ext w0 w → (∀ i, v.ownBlock = some i → w0.heap.size ≤ i) → Ext w0 w' ∧ ∀ i, v'.ownBlock = some i → w0.heap.size ≤ i := by
  have hat := At.new w #[.int .u8 x] 5
  obtain ⟨v', w', h1, h2, h3⟩ := row_copy 22 Tryz.underlying22 info5 rfl (hr.ext (Ext.alloc w (.cells #[.int .u8 x] 5))) (Src.ofSlice (w.alloc (.cells #[.int .u8 x] 5)) Tryz.underlying22 ⟨w.heap.size, 0, none⟩ 1 1 [.int .u8 x] rfl (fun u y hx => by rw [Addr.add_lit, Nat.zero_add, hat.cell, ← hx]; simp) (by simp [Value.oneCell'])) (by omega) (by omega)
  have e : bts l ++ [.int .u8 x] = bts (l ++ [x]) := by simp [bts]
  rw [e] at h2
  refine ⟨v', w', h1, by rw [List.length_append]; exact h2, fun w0 e0 hz => Grew.fresh h3 (e0.trans (Ext.alloc w _)) hz⟩
/-- What Fit answers. -/
def FitR (w : World) (m : Nat) (v : Value) (w' : World) : Prop := ∃ l : List Int, l.length = m ∧ Row w' 5 1 v m (bts l) ∧ Ext w w' ∧ ∀ i, v.ownBlock = some i → w.heap.size ≤ i
def InvFt (w : World) (m : Nat) (s5 : Value) (wr : World) : Prop := ∃ (n : Nat) (l : List Int) (ad : Option Addr) (cap : Nat), n = l.length ∧ n ≤ m ∧ s5 = .slice ad n cap ∧ Row wr 5 1 (.slice ad n cap) l.length (bts l) ∧ Ext w wr ∧ ∀ i, (Value.slice ad n cap).ownBlock = some i → w.heap.size ≤ i
set_option maxRecDepth 100000 in
set_option maxHeartbeats 4000000 in
theorem rfit_any (v : Value) (l : List Int) (m : Nat) (w : World) (hr : Row w 5 1 v l.length (bts l)) (hl : l.length ≤ 65536) (hm : m ≤ 65536) :
    Calls Tryz.prog 67 #[v, .int .i64 m] w fun e w' => ∃ v', e = .returned v' ∧ FitR w m v' w' := by
  obtain ⟨ad, cap, rfl, hc1, hc2, -⟩ := hr.shape
  obtain ⟨q, hq⟩ : ∃ q, q = min l.length m := ⟨_, rfl⟩
  have hq1 : q ≤ l.length := by omega
  have hql : (l.take q).length = q := by rw [List.length_take]; omega
  have AP : Hid (∃ d4 c4 w4, (Builtin.append_ #[22, 22] 22 #[.slice (some ⟨w.heap.size, 0, none⟩) 0 0, .slice ad q cap]).run Tryz.prog (w.alloc (.cells #[] 5)) = .ok (.slice d4 q c4) w4 ∧ InvFt w m (.slice d4 q c4) w4) := Lib.hid (by
    have e0 := Ext.alloc w (.cells #[] 5)
    obtain ⟨v', w', h1, h2, h3⟩ := row_copy 22 Tryz.underlying22 info5 rfl (empty_row w 5 1) (row_front (hr.ext e0) (bts_one l) Tryz.underlying22 q cap hq1) (by omega) (by omega)
    have f := fresh2 h3
    have e : [] ++ (bts l).take (q * 1) = bts (l.take q) := by rw [List.nil_append, Nat.mul_one]; simp [bts, List.map_take]
    rw [e, Nat.zero_add] at h2
    obtain ⟨d4, c4, rfl, -⟩ := h2.shape
    exact ⟨d4, c4, w', h1, q, l.take q, d4, c4, hql.symm, by omega, rfl, by rw [hql]; exact h2, f.1, f.2⟩)
  simp only [maxLen] at hc2
  have m1 : min (l.length : Int) (m : Int) = (q : Int) := by omega
  have m2 : (if (l.length : Int) ≤ (m : Int) then (l.length : Int) else (m : Int)) = (q : Int) := by split <;> omega
  have m3 : (if (m : Int) < (l.length : Int) then (m : Int) else (l.length : Int)) = (q : Int) := by split <;> omega
  have q0 : (0 : Int) ≤ (q : Int) := by omega
  have q1 : (q : Int) ≤ (cap : Int) := by omega
  have q2 : (q : Int) ≤ (l.length : Int) := by omega
  obtain ⟨d4, c4, w4, hrun, hinv⟩ := AP.out
  have R1 := Lib.hid hrun
  clear hr hql AP hrun hq
  generalize l.length = n at *
  go_enter Tryz.func67, Tryz.ntmps67
  go_wp2_with (at_builtin; refine Lib.wpList_append_run _ rfl _ _ _ _ rfl _ _ rfl rfl _ _ R1.out ?_)
  have I0 := Lib.hid hinv
  clear hinv R1 m1 m2 m3 q0 q1 q2 hq1
  go_loopw [5] (fun s5 wr => InvFt w m s5 wr) (fun s5 _ => m - sliceLen s5)
  case atStart => exact I0.out
  case round =>
    clear I0
    obtain ⟨n', l', d8, k8, hnl, hnm, rfl, hrow, he, hz⟩ := hrel
    have HNL := Lib.hid hnl
    clear hnl
    by_cases hlt : n' < m
    · have i1 : (n' : Int) < (m : Int) := by omega
      have hlen : (l' ++ [0]).length = n' + 1 := by rw [List.length_append, HNL.out]; rfl
      obtain ⟨v', w', h1, h2, h3⟩ := byte_more _ hrow 0 (by have := HNL.out; omega)
      obtain ⟨f1, f2⟩ := h3 w he hz
      rw [hlen] at h2
      obtain ⟨d5, c5, rfl, -⟩ := h2.shape
      have R2 := Lib.hid h1
      have F := Lib.hid (show InvFt w m (.slice d5 (n' + 1) c5) w' from ⟨n' + 1, l' ++ [0], d5, c5, hlen.symm, by omega, rfl, by rw [hlen]; exact h2, f1, f2⟩)
      clear hrow he hz h1 h2 h3 f1 f2 hlen
      go_wp2_with (at_builtin; refine Lib.wpList_append_run _ rfl _ _ _ _ rfl _ _ rfl rfl _ _ R2.out ?_)
      exact ⟨F.out, by (try simp [sliceLen]); omega⟩
    · obtain rfl : n' = m := by omega
      have F := Lib.hid (show FitR w n' (.slice d8 n' k8) wr from ⟨l', HNL.out.symm, by rw [← HNL.out] at hrow; exact hrow, he, hz⟩)
      clear hrow he hz hlt
      go_wp2
      go_ret
      exact ⟨_, rfl, F.out⟩
end Go.Proofs.YtbneedmfpldpfaaGreatDoor

namespace Go.Proofs.YtbneedmfpldpfaaGreatDoor
open Go.RowKit Go.Pth
set_option linter.unusedSimpArgs false
set_option linter.unusedVariables false

theorem nextR3 {P : Program} {md : Region.Mode} {ops : Array Oper} {Q : Exit → Act → World → Prop} {S : World → Prop} (i j k : Nat) {oi oj ok : Oper} {fuel : Nat} {listed : Array Bool} {a : Act} {w : World} (hi : ops[i]? = some oi) (hj : ops[j]? = some oj) (hk : ops[k]? = some ok)
    (hr : Region.ready md ops listed = [i, j, k]) (hwi : Region.wanted oi (yielded ops a.tmps) = true) (hwj : Region.wanted oj (yielded ops a.tmps) = true) (hwk : Region.wanted ok (yielded ops a.tmps) = true)
    (h1 : oi.wp P a w (fun a' w' => S w' ∧ wpAnyH P md ops Q S fuel (listed.setIfInBounds i true) a' w') Q)
    (h2 : oj.wp P a w (fun a' w' => S w' ∧ wpAnyH P md ops Q S fuel (listed.setIfInBounds j true) a' w') Q)
    (h3 : ok.wp P a w (fun a' w' => S w' ∧ wpAnyH P md ops Q S fuel (listed.setIfInBounds k true) a' w') Q) : wpAnyH P md ops Q S (fuel + 1) listed a w := by
  refine wpAnyH_all hr (by simp) fun q hq => ?_
  have hq : q = i ∨ q = j ∨ q = k := by simpa using hq
  rcases hq with rfl | rfl | rfl
  · refine wpOp_step hi fun K hK => ?_
    rw [if_pos hwi]
    exact Oper.wp_mono (fun a' w' h' => hK a' w' h') h1
  · refine wpOp_step hj fun K hK => ?_
    rw [if_pos hwj]
    exact Oper.wp_mono (fun a' w' h' => hK a' w' h') h2
  · refine wpOp_step hk fun K hK => ?_
    rw [if_pos hwk]
    exact Oper.wp_mono (fun a' w' h' => hK a' w' h') h3
theorem storeR {P : Program} {op : Oper} {a : Act} {w w1 : World} {K : Act → World → Prop} {Q : Exit → Act → World → Prop}
    (hx : (execOp a.eval op).run P w = .ok .skip w1) (h : K (a.put op.dst undef) w1) : op.wp P a w K Q := by
  unfold Oper.wp
  rw [hx]
  exact h

end Go.Proofs.YtbneedmfpldpfaaGreatDoor
