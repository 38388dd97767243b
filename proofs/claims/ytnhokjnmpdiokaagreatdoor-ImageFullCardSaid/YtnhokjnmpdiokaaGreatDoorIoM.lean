/- What image's Commit does. No conditions but those named: contracts. Which copies are not the page: image's bad. No conditions but those named: contracts. What image's Scrub does. No conditions but those named: contracts. -/
import Derived.Test.YtnhokjnmpdiokaaGreatDoorIm
import Derived.Test.YtnhokjnmpdiokaaGreatDoorInM
namespace Go.Proofs.YtnhokjnmpdiokaaGreatDoor
open Go.RowKit Go.Sha Go.Pth
set_option linter.unusedSimpArgs false
set_option linter.unusedVariables false

theorem Arc.setg {w : World} {sb ab : Nat} {S : V.SV} {W : V.SW} {L : Nat → Option V.Role} {g : Nat} {v : Value} {l : List RV} (h : Arc w sb ab S W L g v l) (g' : Nat) :
    Arc (w.setCell ⟨ab, 1, none⟩ (.int .i64 (g' : Int))) sb ab S W L g' v l ∧ Mv w (w.setCell ⟨ab, 1, none⟩ (.int .i64 (g' : Int))) ab L L := by
  have c := V.Chg.setCell w ab 1 (.int .i64 (g' : Int))
  exact ⟨⟨h.rep.keep (fun i hi => c.block i (h.rep.lt i hi) fun k => hi (by rw [k]; exact h.nab)) c.size, h.nab, h.cell.set 1 (.int .i64 (g' : Int)), h.refs.chg c fun i k => Or.inl (Or.inr k)⟩, ⟨c.mono fun i _ k => Or.inr k, fun _ k => Or.inl k⟩⟩
theorem Arc.setr {w : World} {sb ab : Nat} {S : V.SV} {W : V.SW} {L : Nat → Option V.Role} {g : Nat} {v v' : Value} {l l' : List RV} (h : Arc w sb ab S W L g v l) (r : RR (XL L ab) w v' l') :
    Arc (w.setCell ⟨ab, 2, none⟩ v') sb ab S W L g v' l' ∧ Mv w (w.setCell ⟨ab, 2, none⟩ v') ab L L := by
  have c := V.Chg.setCell w ab 2 v'
  exact ⟨⟨h.rep.keep (fun i hi => c.block i (h.rep.lt i hi) fun k => hi (by rw [k]; exact h.nab)) c.size, h.nab, h.cell.set 2 v', r.chg c fun i k => Or.inl (Or.inr k)⟩, ⟨c.mono fun i _ k => Or.inr k, fun _ k => Or.inl k⟩⟩
theorem RR.mv {w w' : World} {ab : Nat} {L L' : Nat → Option V.Role} {v : Value} {l : List RV} (h : RR (XL L ab) w v l) (m : Mv w w' ab L L') : RR (XL L' ab) w' v l := by
  refine ((h.mono (X' := fun i => XL L ab i ∨ w.heap.size ≤ i) (fun i k => k)).chg m.chg fun i k => Or.inl (Or.inl k)).mono fun i k => ?_
  rcases k with k | k
  · rcases m.lab i k with q | q
    · exact Or.inl (Or.inl (Or.inl q))
    · exact Or.inl (Or.inr q)
  · exact Or.inl (Or.inl (Or.inr k))
theorem Arc.xlt {w : World} {sb ab : Nat} {S : V.SV} {W : V.SW} {L : Nat → Option V.Role} {g : Nat} {v : Value} {l : List RV} (h : Arc w sb ab S W L g v l) (i : Nat) (k : XL L ab i) : i < w.heap.size := by
  rcases k with k | k
  · exact h.rep.lt i k
  · rw [k]; exact h.lt
theorem byb_own {L : Nat → Option V.Role} {ab : Nat} {w : World} {base : Nat} {v : Value} {m : List Int} (h : OwnB w base v m) (hm : 0 < m.length) (hx : ∀ i, XL L ab i → i < base) (hb : Byt m) : ∃ ad cap bb o, Byb L ab w v m ad cap bb o := by
  have s := h.srcs _ (Or.inr (Nat.le_refl _))
  obtain ⟨ad, cap, sb, so, h1, h2, h3, h4, h5, h6⟩ := s
  have lt : sb < w.heap.size := by have := World.block_lt_of_cell? w _ (h5 0 hm); simpa using this
  have ob : v.ownBlock = some sb ∨ True := Or.inr trivial
  refine ⟨ad, cap, sb, so, ⟨h1, h3, fun j u hu => ?_⟩, fun k => ?_, lt, hb⟩
  · have hj : j < m.length := by have := (List.getElem?_eq_some_iff.1 hu).1; simpa [V.bts] using this
    rw [h5 j hj, ← hu]
    unfold V.bts
    rw [List.getElem?_map, List.getElem?_eq_getElem hj]; rfl
  · have h0 := h.srcs sb (Or.inl (hx sb k))
    obtain ⟨ad', cap', sb', so', h1', h2', h3', h4', h5', h6'⟩ := h0
    rw [h1] at h1'
    injection h1' with ha
    rw [h3 hm, h3' hm] at ha
    injection ha with ha
    injection ha with ha
    exact h4' ha.symm
theorem cps_new (w : World) : Cps (w.alloc (.cells #[.string (cpT 0), .string (cpT 1), .string (cpT 2)] 9)) (.slice (some ⟨w.heap.size, 0, none⟩) 3 3) [0, 1, 2] (some ⟨w.heap.size, 0, none⟩) 3 w.heap.size 0 := by
  have a := At.new w #[.string (cpT 0), .string (cpT 1), .string (cpT 2)] 9
  refine ⟨rfl, fun _ => rfl, fun i j hj => ?_⟩
  rw [Nat.zero_add, a.cell]
  match i, hj with
  | 0, hj => simp at hj; subst hj; rfl
  | 1, hj => simp at hj; subst hj; rfl
  | 2, hj => simp at hj; subst hj; rfl
theorem page_len (g : Nat) {ds : List RD} (h : imageL ds = true) : 0 < (pageI g ds).length ∧ (pageI g ds).length ≤ 16000 := by
  have h1 := image_body h
  have h2 : (pageI g ds).length = (encP g (bodyL ds)).length + 32 := by
    unfold pageI sealL
    rw [List.length_append, shaL_length]
  rw [h2, encP_len]; omega
def CmP (w : World) (sb ab : Nat) (L : Nat → Option V.Role) (g n d : Nat) (ds : List RD) (w' : World) : Prop :=
  ∃ S' W' L' v' l' ids', Arc w' sb ab S' W' L' g v' l' ∧ l'.map RV.d = ds ∧ V.Md S' n d ids' ids'.length ∧ V.Con S' ids' (fun _ => pageI g ds) ∧ ids'.length = 3 ∧ Mv w w' ab L L'

set_option maxRecDepth 100000 in
set_option maxHeartbeats 16000000 in
theorem commit_ok {w : World} {sb ab g : Nat} {v : Value} {l : List RV} {S : V.SV} {W : V.SW} {L : Nat → Option V.Role} {n d : Nat} {ids : List Nat} {con : Nat → List Int} (A : Arc w sb ab S W L g v l) (MD : V.Md S n d ids ids.length) (CN : V.Con S ids con) (h3 : ids.length = 3 ∨ ids = []) (hn : n ≤ 20000)
    (hK : KAt w) {u : Value} {lu : List RV} (hr : RR (XL L ab) w u lu) (hi : imageL (lu.map RV.d) = true) (hb : BytR (lu.map RV.d)) (hg : g ≤ 1000000) :
    Calls Tryz.prog 12 #[V.ptr ab, u] w fun e w' => e = .returned (.int .i64 0) ∧ CmP w sb ab L (g + 1) (n + 24) d (lu.map RV.d) w' := by
  have MY := Lib.hid (may_any _ u lu w hr (by have := (image_all hi).1; rw [List.length_map] at this; omega))
  rw [hi] at MY
  have HA := Lib.hid A
  have HMD := Lib.hid MD
  have HCN := Lib.hid CN
  have HR := Lib.hid hr
  have HI := Lib.hid hi
  have HB := Lib.hid hb
  have HK := Lib.hid hK
  have H3 := Lib.hid h3
  obtain ⟨_, _, _, _, hrr⟩ := hr
  obtain ⟨adu, capu, eu⟩ : ∃ ad cap, u = .slice ad lu.length cap := ⟨_, _, hrr.val⟩
  obtain ⟨NU, hNU⟩ : ∃ n, n = lu.length := ⟨_, rfl⟩
  rw [← hNU] at eu
  have HNU := Lib.hid hNU
  clear A MD CN hi hb hK h3 hrr hNU
  subst eu
  unfold V.ptr
  go_enter Tryz.func12, Tryz.ntmps12
  go_wp2_with fail
  refine (MY.out).mono ?_
  rintro e w1 ⟨rfl, e1⟩
  have A1 := Lib.hid (HA.out.ext e1)
  have E1 := Lib.hid e1
  have DD := Lib.hid (dead_any w1 ab A1.out.c.2.2.2)
  unfold V.ptr at DD
  clear e1 MY
  go_wp2_with fail
  refine (DD.out).mono ?_
  rintro e w1' ⟨rfl, rfl⟩
  have c1 := A1.out.c.2.1
  have wg : IntKind.i64.wrap ((g : Int) + 1) = (g : Int) + 1 := IntWalk.i64_in _ (by omega)
  have PG := Lib.hid (pageOf_any _ (.slice adu NU capu) lu (g + 1) w1 (HK.out.below E1.out HK.out.lt) (HR.out.ext E1.out) HI.out ⟨by omega, by omega⟩)
  rw [show (((g + 1 : Nat) : Int)) = (g : Int) + 1 by omega] at PG
  clear DD
  go_wp2_with fail
  refine (PG.out).mono ?_
  rintro e w2 ⟨pv, rfl, e2, o2⟩
  have A2 := Lib.hid (A1.out.ext e2)
  have E2 := Lib.hid (E1.out.trans e2)
  have PL := page_len (g + 1) HI.out
  obtain ⟨pad, pcap, pb, po, byb⟩ := byb_own (L := L) (ab := ab) o2 PL.1 (fun i k => A1.out.xlt i k) (pageI_byt (g + 1) HB.out)
  have BY := Lib.hid byb
  have PLH := Lib.hid PL
  have ep := byb.bin.val
  obtain ⟨PN, hPN⟩ : ∃ n, n = (pageI (g + 1) (lu.map RV.d)).length := ⟨_, rfl⟩
  rw [← hPN] at ep
  have CO := Lib.hid (copies_any w2)
  clear e2 o2 PG c1 wg byb PL hPN A1
  subst ep
  go_wp2_with fail
  refine (CO.out).mono ?_
  rintro e w3 ⟨rfl, rfl⟩
  have A3 := Lib.hid (A2.out.ext (Ext.alloc w2 (.cells #[.string (cpT 0), .string (cpT 1), .string (cpT 2)] 9)))
  have E3 := Lib.hid (E2.out.trans (Ext.alloc w2 (.cells #[.string (cpT 0), .string (cpT 1), .string (cpT 2)] 9)))
  have WR := Lib.hid (write_any (js := [0, 1, 2]) A3.out HMD.out HCN.out ⟨H3.out.imp_right fun h => ⟨h, rfl⟩, by simp, by simp⟩ (by omega) (cps_new w2) (fun k => by have := A2.out.xlt _ k; omega) (BY.out.ext (Ext.alloc w2 (.cells #[.string (cpT 0), .string (cpT 1), .string (cpT 2)] 9))) PLH.out.1 PLH.out.2)
  unfold V.ptr at WR
  generalize w2.alloc (.cells #[.string (cpT 0), .string (cpT 1), .string (cpT 2)] 9) = w3 at *
  clear CO A2 E2
  go_wp2_with fail
  refine (WR.out).mono ?_
  rintro e w4 ⟨rfl, ids4, ⟨S4, W4, L4, A4, M4, MD4, CN4⟩, il4, -⟩
  have H4 := Lib.hid (And.intro A4 (And.intro M4 (And.intro MD4 (And.intro CN4 il4))))
  have c1 := A4.c.2.1
  have z1 := A4.fz 1
  have wg : IntKind.i64.wrap ((g : Int) + 1) = (g : Int) + 1 := IntWalk.i64_in _ (by omega)
  have SG := A4.setg (g + 1)
  rw [show (((g + 1 : Nat) : Int)) = (g : Int) + 1 by omega] at SG
  have M5 := Lib.hid (((Mv.of_ext (L := L) E3.out).trans M4).trans SG.2)
  have A5 := Lib.hid SG.1
  have CL := Lib.hid (cloned_any _ (.slice adu NU capu) lu (w4.setCell ⟨ab, 1, none⟩ (.int .i64 ((g : Int) + 1))) (HR.out.mv M5.out) (by have := (image_all HI.out).1; rw [List.length_map] at this; omega) (fun x hx => by
    have := (mayR_len ((mayR_iff _).1 (image_may HI.out x.d (List.mem_map_of_mem hx)))).2
    have e : x.d.r = x.r := rfl
    rw [e] at this; omega))
  clear A4 M4 MD4 CN4 il4 WR SG A3 E3
  go_wp2_with fail
  refine (CL.out).mono ?_
  rintro e w6 ⟨v6, l6, rfl, e6, o6, hd6⟩
  have A6 := Lib.hid (A5.out.ext e6)
  have R6 := Lib.hid (o6.rr (X := XL L4 ab) fun i k => A5.out.xlt i k)
  obtain ⟨ad6, cap6, ev6⟩ := o6.len
  have c2 := A6.out.c.2.2.1
  have z2 := A6.out.fz 2
  have SR := A6.out.setr R6.out
  obtain ⟨N6, hN6⟩ : ∃ n, n = l6.length := ⟨_, rfl⟩
  rw [← hN6] at ev6
  have F := Lib.hid (show CmP w sb ab L (g + 1) (n + 24) d (lu.map RV.d) (w6.setCell ⟨ab, 2, none⟩ v6) from ⟨S4, W4, L4, v6, l6, ids4, SR.1, hd6, H4.out.2.2.1, fun i a ha => by
    have := H4.out.2.2.2.1 i a ha
    rw [this]
    have hl : i < ids4.length := (List.getElem?_eq_some_iff.1 ha).1
    have h5 : ids4.length = max ids.length 3 := H4.out.2.2.2.2
    have h6 : i < 3 := by
      rcases H3.out with h | h
      · omega
      · rw [h] at h5; simp at h5; omega
    show conK [0, 1, 2] _ con 3 i = _
    unfold conK
    rw [if_pos]
    match i, h6 with
    | 0, _ => simp
    | 1, _ => simp
    | 2, _ => simp, by
    have h5 : ids4.length = max ids.length 3 := H4.out.2.2.2.2
    rcases H3.out with h | h
    · omega
    · rw [h] at h5; simpa using h5, (M5.out.trans (Mv.of_ext e6)).trans SR.2⟩)
  clear o6 hd6 e6 SR CL hN6
  subst ev6
  go_wp2
  go_ret
  exact ⟨rfl, F.out⟩
end Go.Proofs.YtnhokjnmpdiokaaGreatDoor

namespace Go.Proofs.YtnhokjnmpdiokaaGreatDoor
open Go.RowKit Go.Sha Go.Pth
set_option linter.unusedSimpArgs false
set_option linter.unusedVariables false

theorem own_row {w : World} {base : Nat} {v : Value} {m : List Int} (h : V.Row w 5 1 v m.length (V.bts m)) (hb : ∀ q, v.ownBlock = some q → base ≤ q) : OwnB w base v m := by
  obtain ⟨h1, h2⟩ := h
  refine ⟨h1, ?_⟩
  rcases h2 with h2 | ⟨g, cap, cur, hv, hg, r⟩
  · exact Or.inl h2
  · exact Or.inr ⟨g, cap, cur, hv, hb g (by rw [hv]; rfl), r⟩
def badL (con : Nat → List Int) (page : List Int) (k : Nat) : List Nat := (List.range k).filter fun j => !eqS (con j) page
theorem badL_succ (con : Nat → List Int) (page : List Int) (k : Nat) : badL con page (k + 1) = badL con page k ++ if eqS (con k) page then [] else [k] := by
  unfold badL
  rw [List.range_succ, List.filter_append]
  congr 1
  cases h : eqS (con k) page <;> simp [h]
theorem badL_len (con : Nat → List Int) (page : List Int) (k : Nat) : (badL con page k).length ≤ k := by
  unfold badL
  have := List.length_filter_le (fun j => !eqS (con j) page) (List.range k)
  simpa using this
theorem badL_lt (con : Nat → List Int) (page : List Int) (k j : Nat) (h : j ∈ badL con page k) : j < k := by
  unfold badL at h
  exact List.mem_range.1 (List.mem_filter.1 h).1
theorem own_cps {w : World} {base : Nat} {v : Value} {js : List Nat} (h : V.Own w base v (js.map V.cpB)) (hb : base ≤ w.heap.size) : ∃ ad cap b o, Cps w v js ad cap b o ∧ base ≤ b := by
  have hbk := h
  obtain ⟨_, ⟨rfl, h0⟩ | ⟨g, cap, cur, rfl, hg, hw, hn, _, _, hx⟩⟩ := h
  · have : js = [] := by simpa using h0
    subst this
    exact ⟨none, 0, w.heap.size, 0, ⟨rfl, fun h => by simp at h, fun i j h => by simp at h⟩, hb⟩
  · refine ⟨some ⟨g, 0, none⟩, cap, g, 0, ⟨by rw [List.length_map], fun _ => rfl, fun i j hj => ?_⟩, hg⟩
    have hw' : w.heap[g]? = some (.cells cur 9 (0, 0)) := hw
    have hi : i < js.length := (List.getElem?_eq_some_iff.1 hj).1
    have e : cur.toList[i]? = some (.string (cpT j)) := by
      rw [← List.getElem?_take_of_lt (by rw [List.length_map]; omega : i < (js.map V.cpB).length * 1), hx, List.getElem?_map, List.getElem?_map, hj]; rfl
    rw [Nat.zero_add]
    simp only [World.cell?, hw']
    rw [← Array.getElem?_toList, e]
    rfl
theorem own_lessT {w : World} {base base' : Nat} {v : Value} {l : List B} (h : V.Own w base v l) (hb : base' ≤ base) : V.Own w base' v l := by
  obtain ⟨h1, h2⟩ := h
  refine ⟨h1, ?_⟩
  rcases h2 with h2 | ⟨g, cap, cur, hv, hg, r⟩
  · exact Or.inl h2
  · exact Or.inr ⟨g, cap, cur, hv, by omega, r⟩
def InvBd (w2 : World) (base : Nat) (con : Nat → List Int) (page : List Int) (v i : Value) (wr : World) : Prop := ∃ k : Nat, k ≤ 3 ∧ i = .int .i64 k ∧ V.Own wr base v ((badL con page k).map V.cpB) ∧ Ext w2 wr
def BdP (w : World) (con : Nat → List Int) (page : List Int) (e : Ending) (w' : World) : Prop := ∃ pv cl, e = .returned (.tuple #[pv, cl]) ∧ Ext w w' ∧ OwnB w' w.heap.size pv page ∧ V.Own w' w.heap.size cl ((badL con page 3).map V.cpB)
set_option maxRecDepth 100000 in
set_option maxHeartbeats 16000000 in
theorem bad_gen {w : World} {sb ab g : Nat} {v : Value} {l : List RV} {S : V.SV} {W : V.SW} {L : Nat → Option V.Role} {con : Nat → List Int} (A : Arc w sb ab S W L g v l) (RD0 : ∀ w1, Ext w w1 → ∀ k, k < 3 → Calls Tryz.prog 61 #[V.ptr sb, .string (cpT k)] w1 fun e w2 => ∃ x, e = .returned (.tuple #[x, .int .i64 0]) ∧ OwnB w2 w1.heap.size x (con k) ∧ Ext w1 w2)
    (hK : KAt w) (hi : imageL (l.map RV.d) = true) (hg : 1 ≤ g ∧ g ≤ 2000000) :
    Calls Tryz.prog 41 #[V.ptr ab] w (BdP w con (pageI g (l.map RV.d))) := by
  obtain ⟨page, hpage⟩ : ∃ p, p = pageI g (l.map RV.d) := ⟨_, rfl⟩
  have PG := Lib.hid (fun w1 (e1 : Ext w w1) => pageOf_any _ v l g w1 (hK.below e1 hK.lt) (A.refs.ext e1) hi ⟨hg.1, by omega⟩)
  rw [← hpage] at PG ⊢
  obtain ⟨PN, hPN⟩ : ∃ n, n = page.length := ⟨_, rfl⟩
  have HPN := Lib.hid hPN
  obtain ⟨_, _, _, _, hrr⟩ := A.refs
  obtain ⟨adv, capv, ev⟩ : ∃ ad cap, v = .slice ad l.length cap := ⟨_, _, hrr.val⟩
  obtain ⟨NV, hNV⟩ : ∃ n, n = l.length := ⟨_, rfl⟩
  rw [← hNV] at ev
  subst ev
  have HA := Lib.hid A
  have HC := Lib.hid (fun w' (hw' : Ext w w') => (A.cell.ext hw' : At w' ab (acell sb g (.slice adv NV capv) false) 68))
  unfold acell V.ptr at HC
  have RDO := Lib.hid RD0
  have c0 := A.c.1
  have c1 := A.c.2.1
  have g0 : ((g : Int) == 0) = false := by simp; omega
  clear A RD0 hK hi hpage hPN hrr hNV hg
  unfold V.ptr at c0 RDO ⊢
  go_enter Tryz.func41, Tryz.ntmps41
  go_upto_region 3 with fail
  refine wp_region_held (S := Ext w) (by kernel_rfl) ?_
  change wpAnyH _ _ _ _ _ _ _ _ w.drew
  have S0 : Ext w w.drew := Below.drew (Below.refl _ _)
  generalize w.drew = W at *
  refine tkS 0 (some 14) (.pointer (some ⟨ab, 0, none⟩)) S0 ?_
  simp only [pt0, pt4, pt1, pt2, pt3]
  refine tkS 1 (some 15) (.pointer (some ⟨ab, 0, none⟩)) S0 ?_
  simp only [pt0, pt4, pt1, pt2, pt3]
  refine tkS 2 (some 16) (.pointer (some ⟨ab, 1, none⟩)) S0 ?_
  simp only [pt0, pt4, pt1, pt2, pt3]
  refine tkS 3 (some 17) (.int .i64 (g : Int)) S0 ?_ (hy := fun w' hw' => by have cc : w'.cell? ⟨ab, 1, none⟩ = some (.int .i64 (g : Int)) := ((HC.out w' hw').cell 1).trans rfl; go_simp)
  simp only [pt0, pt4, pt1, pt2, pt3]
  refine tkS 4 (some 18) (.pointer (some ⟨ab, 0, none⟩)) S0 ?_
  simp only [pt0, pt4, pt1, pt2, pt3]
  refine tkS 5 (some 19) (.pointer (some ⟨ab, 0, none⟩)) S0 ?_
  simp only [pt0, pt4, pt1, pt2, pt3]
  refine tkS 6 (some 20) (.pointer (some ⟨ab, 2, none⟩)) S0 ?_
  simp only [pt0, pt4, pt1, pt2, pt3]
  refine tkS 7 (some 21) (.slice adv NV capv) S0 ?_ (hy := fun w' hw' => by have cc : w'.cell? ⟨ab, 2, none⟩ = some (.slice adv NV capv) := ((HC.out w' hw').cell 2).trans rfl; go_simp)
  simp only [pt0, pt4, pt1, pt2, pt3]
  refine nextS 8 rfl (by kernel_rfl) rfl (callS (some 22) rfl 32 #[.int .i64 (g : Int), .slice adv NV capv] (by go_simp) (fun v w' => ∃ pad pcap, v = .tuple #[.slice pad PN pcap, .int .i64 0] ∧ Ext w w' ∧ OwnB w' w.heap.size (.slice pad PN pcap) page) (((PG.out W (S0)).mono fun _ _ he => by obtain ⟨u, h1, h2, h3⟩ := he; obtain ⟨pad, pcap, eu⟩ := h3.len; rw [← HPN.out] at eu; subst eu; exact ⟨_, h1, pad, pcap, rfl, S0.trans h2, own_less h3 S0.size⟩)) ?_)
  rintro v1 W1 ⟨pad, pcap, rfl, S1, O1⟩
  simp only [pt0, pt4, pt1, pt2, pt3]
  refine ⟨S1, ?_⟩
  refine tkS 9 (some 13) (.tuple #[.slice pad PN pcap, .int .i64 0]) S1 ?_
  simp only [pt0, pt4, pt1, pt2, pt3]
  refine tkS 10 (some 23) (.slice pad PN pcap) S1 ?_
  simp only [pt0, pt4, pt1, pt2, pt3]
  refine tkS 11 (some 24) (.int .i64 0) S1 ?_
  simp only [pt0, pt4, pt1, pt2, pt3]
  refine tkS 12 (some 2) (.slice pad PN pcap) S1 ?_
  simp only [pt0, pt4, pt1, pt2, pt3]
  refine wpAnyH_done (by kernel_rfl) ?_ _
  have CO := Lib.hid (copies_any W1)
  have EX1 := Lib.hid S1
  have OP := Lib.hid O1
  clear S1 O1 c0 c1 g0 PG
  go_wp2_with fail
  refine (CO.out).mono ?_
  rintro e w3 ⟨rfl, rfl⟩
  have E3 := Lib.hid (EX1.out.trans (Ext.alloc W1 (.cells #[.string (cpT 0), .string (cpT 1), .string (cpT 2)] 9)))
  have C3 := Lib.hid (cps_new W1)
  have OP3 := Lib.hid (OwnB.ext OP.out (Ext.alloc W1 (.cells #[.string (cpT 0), .string (cpT 1), .string (cpT 2)] 9)))
  generalize W1.alloc (.cells #[.string (cpT 0), .string (cpT 1), .string (cpT 2)] 9) = w3 at *
  obtain ⟨b3, hb3⟩ : ∃ b, b = W1.heap.size := ⟨_, rfl⟩
  rw [← hb3] at C3 ⊢
  clear CO OP EX1 hb3
  go_wp2
  go_loopw [3, 27] (fun v i wr => InvBd w3 w3.heap.size con page v i wr) (fun _ i _ => 3 - (intOf i).toNat)
  case atStart => exact ⟨0, by omega, rfl, V.Own.nil _ _, Ext.refl _⟩
  case round =>
    obtain ⟨k, hk, rfl, ow, ex⟩ := hrel
    by_cases hlt : k < 3
    · have i0 : (k : Int) < 3 := by omega
      have i1 : (0 : Int) ≤ (k : Int) := by omega
      have ck := ext_cell ex (C3.out.cell k k (by
        match k, hlt with
        | 0, _ => rfl
        | 1, _ => rfl
        | 2, _ => rfl))
      rw [Nat.zero_add] at ck
      have EW := Lib.hid (E3.out.trans ex)
      have d0 := (HC.out wr EW.out).cell 0
      have RD := Lib.hid (RDO.out wr EW.out k hlt)
      have BS := Lib.hid (badL_succ con page k)
      have BLN := Lib.hid (badL_len con page k)
      have PS := Lib.hid (OP3.out.ext ex)
      obtain ⟨adl, capl, bl, el, -, -⟩ := ow.txt
      obtain ⟨LL, hLL⟩ : ∃ n, n = ((badL con page k).map V.cpB).length := ⟨_, rfl⟩
      have HLL := Lib.hid (show LL ≤ 3 by rw [hLL, List.length_map]; have := badL_len con page k; omega)
      rw [← hLL] at el
      have HLE := Lib.hid hLL
      have OW := Lib.hid ow
      have EXH := Lib.hid ex
      clear hLL ow ex
      subst el
      go_wp2_with fail
      refine (RD.out).mono ?_
      rintro e w4 ⟨x, rfl, o4, e4⟩
      obtain ⟨adx, capx, exx⟩ := o4.len
      obtain ⟨XL4, hXL4⟩ : ∃ n, n = (con k).length := ⟨_, rfl⟩
      rw [← hXL4] at exx
      clear hXL4
      have EQ := Lib.hid (beq_any x (.slice pad PN pcap) (con k) page w4 (o4.srcs _ (Or.inr (Nat.le_refl _))) ((OwnB.ext PS.out e4).srcs _ (Or.inr (Nat.le_refl _))))
      have E4 := Lib.hid e4
      subst exx
      clear o4 e4 RD d0 ck
      cases hq : eqS (con k) page with
      | true =>
        rw [hq] at EQ
        go_wp2_with fail
        refine (EQ.out).mono ?_
        rintro e w5 ⟨rfl, rfl⟩
        go_wp2
        exact ⟨⟨k + 1, by omega, by go_num, by rw [BS.out, hq]; simpa using OW.out.ext (v_ext E4.out), EXH.out.trans E4.out⟩, by simp [intOf]; omega⟩
      | false =>
        rw [hq] at EQ
        have OW4 := Lib.hid (OW.out.ext (v_ext (E4.out.trans (Ext.alloc w4 (.cells #[.string (cpT k)] 9)))))
        have CN := Lib.hid (show (w4.alloc (.cells #[.string (cpT k)] 9)).cell? ⟨w4.heap.size, 0, none⟩ = some (.string (cpT k)) from (At.new w4 #[.string (cpT k)] 9).cell 0)
        have HB := Lib.hid (show w3.heap.size ≤ (w4.alloc (.cells #[.string (cpT k)] 9)).heap.size by have := EXH.out.size; have := E4.out.size; rw [V.size_alloc]; omega)
        have HF := Lib.hid (show ((badL con page k).map V.cpB).length ≤ 1000 by rw [← HLE.out]; have := HLL.out; omega)
        go_wp2_with fail
        refine (EQ.out).mono ?_
        rintro e w5 ⟨rfl, rfl⟩
        go_wp2_with (refine V.list_append_txt rfl (.tmp 44) (.tmp 46) 35 rfl Tryz.underlying35 V.strzero w3.heap.size (.slice adl LL capl) ((badL con page k).map V.cpB) rfl OW4.out w4.heap.size 1 (cpT k) rfl CN.out HF.out HB.out ?_; intro vx w6 ox b6)
        refine ⟨⟨k + 1, by omega, by go_num, ?_, ?_⟩, by simp [intOf]; omega⟩
        · rw [BS.out, hq, List.map_append]
          rw [cpT_list] at ox
          exact ox
        · exact Below.trans (EXH.out.trans (E4.out.trans (Ext.alloc w4 (.cells #[.string (cpT k)] 9)))) b6
    · have d0 : decide ((k : Int) < 3) = false := by simp; omega
      obtain rfl : k = 3 := by omega
      have F := Lib.hid (And.intro ow (And.intro (OP3.out.ext ex) (E3.out.trans ex)))
      clear ow ex hlt
      go_wp2
      go_ret2
      exact ⟨_, _, rfl, F.out.2.2, F.out.2.1, own_lessT F.out.1 E3.out.size⟩
theorem bad_ok {w : World} {sb ab g : Nat} {v : Value} {l : List RV} {S : V.SV} {W : V.SW} {L : Nat → Option V.Role} {n d : Nat} {ids : List Nat} {con : Nat → List Int} (A : Arc w sb ab S W L g v l) (MD : V.Md S n d ids ids.length) (CN : V.Con S ids con) (h3 : ids.length = 3) (hn : n ≤ 50000)
    (hK : KAt w) (hi : imageL (l.map RV.d) = true) (hg : 1 ≤ g ∧ g ≤ 2000000) :
    Calls Tryz.prog 41 #[V.ptr ab] w (BdP w con (pageI g (l.map RV.d))) := by
  refine bad_gen A (fun w' hw' k hk => ?_) hK hi hg
  obtain ⟨a, ha⟩ : ∃ a, ids[k]? = some a := ⟨_, List.getElem?_eq_getElem (by omega)⟩
  have ff : S.file (cpT k).toList = (some a, 0) := by rw [cpT_list]; exact MD.filea k a hk ha
  have := (V.read_ok sb S W L (cpT k) a w' (A.rep.ext hw') (by have := (MD.fit (by omega)).names; omega) ff).mono fun e w2 ⟨x, h1, h2, h3, h4⟩ => (⟨x, h1, own_row h2 h4, h3⟩ : ∃ x, e = Ending.returned (.tuple #[x, .int .i64 0]) ∧ OwnB w2 w'.heap.size x (S.nd a).now ∧ Ext w' w2)
  rw [CN k a ha] at this
  exact this
end Go.Proofs.YtnhokjnmpdiokaaGreatDoor

namespace Go.Proofs.YtnhokjnmpdiokaaGreatDoor
open Go.RowKit Go.Sha Go.Pth
set_option linter.unusedSimpArgs false
set_option linter.unusedVariables false

set_option maxRecDepth 100000 in
set_option maxHeartbeats 16000000 in
theorem scrub_ok {w : World} {sb ab g : Nat} {v : Value} {l : List RV} {S : V.SV} {W : V.SW} {L : Nat → Option V.Role} {n d : Nat} {ids : List Nat} {con : Nat → List Int} (A : Arc w sb ab S W L g v l) (MD : V.Md S n d ids ids.length) (CN : V.Con S ids con) (h3 : ids.length = 3) (hn : n ≤ 30000)
    (hK : KAt w) (hi : imageL (l.map RV.d) = true) (hb : BytR (l.map RV.d)) (hg : 1 ≤ g ∧ g ≤ 2000000) :
    Calls Tryz.prog 18 #[V.ptr ab] w fun e w' => e = .returned (.tuple #[.int .i64 ((badL con (pageI g (l.map RV.d)) 3).length : Int), .int .i64 0]) ∧ CmP w sb ab L g (n + 24) d (l.map RV.d) w' := by
  obtain ⟨page, hpage⟩ : ∃ p, p = pageI g (l.map RV.d) := ⟨_, rfl⟩
  have BD := Lib.hid (bad_ok A MD CN h3 (by omega) hK hi hg)
  have DD := Lib.hid (dead_any w ab A.c.2.2.2)
  rw [← hpage] at BD ⊢
  have PL := page_len g hi
  have PB := pageI_byt g hb
  rw [← hpage] at PL PB
  have HPG := Lib.hid hpage
  have WRC := Lib.hid (fun (w1 : World) (e1 : Ext w w1) (pv cl : Value) (op : OwnB w1 w.heap.size pv page) (oc : V.Own w1 w.heap.size cl ((badL con page 3).map V.cpB)) => (by
    obtain ⟨pad, pcap, pb, po, byb⟩ := byb_own (L := L) (ab := ab) op PL.1 (fun i k => A.xlt i k) PB
    obtain ⟨cad, ccap, cb, co, hc, hcb⟩ := own_cps oc e1.size
    have WR := write_any (A.ext e1) MD CN ⟨Or.inl h3, fun j hj => badL_lt _ _ _ _ hj, badL_len _ _ _⟩ (by omega) hc (fun k => by have := A.xlt _ k; omega) byb PL.1 PL.2
    refine WR.mono fun e w2 ⟨h1, ids1, ⟨S1, W1, L1, A1, M1, MD1, CN1⟩, il, i3⟩ => ⟨h1, ?_⟩
    have e3 : ids1 = ids := i3 h3
    subst e3
    refine ⟨S1, W1, L1, v, l, ids1, A1, rfl, MD1, fun i a ha => ?_, h3, (Mv.of_ext e1).trans M1⟩
    rw [CN1 i a ha]
    show conK (badL con page 3) page con (badL con page 3).length i = pageI g _
    rw [← HPG.out]
    unfold conK
    rw [List.take_length]
    split
    · rfl
    · rename_i hm
      have hi3 : i < 3 := by have := (List.getElem?_eq_some_iff.1 ha).1; omega
      have hq : eqS (con i) page = true := by
        cases q : eqS (con i) page with
        | true => rfl
        | false => exact absurd (List.mem_filter.2 ⟨List.mem_range.2 hi3, by rw [q]; rfl⟩) hm
      have hbc : Byt (con i) := by
        rw [← CN i a ha]
        exact fun x hx => (A.rep.nd a (MD.mem a (List.mem_of_getElem? ha))).2.bn x hx
      exact (eqS_byt hbc PB).1 hq : Calls Tryz.prog 33 #[V.ptr ab, cl, pv] w1 fun e w2 => e = .returned (.int .i64 0) ∧ CmP w sb ab L g (n + 24) d (l.map RV.d) w2))
  clear A MD CN h3 hn hK hi hb hg hpage PL PB
  obtain ⟨NB, hNB⟩ : ∃ n, n = (badL con page 3).length := ⟨_, rfl⟩
  rw [← hNB]
  have HNB := Lib.hid hNB
  clear hNB
  unfold V.ptr at BD DD WRC ⊢
  go_enter Tryz.func18, Tryz.ntmps18
  go_wp2_with fail
  refine (DD.out).mono ?_
  rintro e w1' ⟨rfl, rfl⟩
  go_wp2_with fail
  refine (BD.out).mono ?_
  rintro e w1 ⟨pv, cl, rfl, e1, op, oc⟩
  have WR := Lib.hid (WRC.out w1 e1 pv cl op oc)
  obtain ⟨cad, ccap, cbl, ecl, -, -⟩ := oc.txt
  obtain ⟨pad, pcap, ep⟩ := op.len
  rw [List.length_map, ← HNB.out] at ecl
  obtain ⟨PN, hPN⟩ : ∃ n, n = page.length := ⟨_, rfl⟩
  rw [← hPN] at ep
  clear BD DD WRC e1 op oc hPN
  subst ecl ep
  go_wp2_with fail
  refine (WR.out).mono ?_
  rintro e w2 ⟨rfl, hc⟩
  have F := Lib.hid hc
  clear hc WR
  go_wp2
  go_ret2
  exact ⟨rfl, F.out⟩

theorem bad_zero (w : World) (ab : Nat) (h : w.cell? ⟨ab, 1, none⟩ = some (.int .i64 0)) : Calls Tryz.prog 41 #[V.ptr ab] w fun e w' => e = .returned (.tuple #[.slice none 0 0, .slice none 0 0]) ∧ w = w' := by
  unfold V.ptr
  go_enter Tryz.func41, Tryz.ntmps41
  go_wp2
  go_ret2
  exact ⟨rfl, rfl⟩
theorem roomFor_none (w : World) (p : Value) : Calls Tryz.prog 57 #[p, .slice none 0 0, .int .i64 0] w fun e w' => e = .returned (.tuple #[.int .i64 0, .int .i64 0]) ∧ w = w' := by
  go_enter Tryz.func57, Tryz.ntmps57
  go_wp2
  go_loopw [8, 16] (fun r i wr => r = .int .i64 0 ∧ i = .int .i64 0 ∧ w = wr) (fun _ _ _ => 0)
  case atStart => exact ⟨rfl, rfl, rfl⟩
  case round =>
    obtain ⟨rfl, rfl, rfl⟩ := hrel
    go_wp2
    go_ret2
    exact ⟨rfl, rfl⟩
set_option maxRecDepth 100000 in
set_option maxHeartbeats 8000000 in
theorem write_none {w : World} {sb ab g : Nat} {v : Value} {l : List RV} {S : V.SV} {W : V.SW} {L : Nat → Option V.Role} (A : Arc w sb ab S W L g v l) :
    Calls Tryz.prog 33 #[V.ptr ab, .slice none 0 0, .slice none 0 0] w fun e w' => e = .returned (.int .i64 0) ∧ Ext w w' := by
  have RN := Lib.hid (roomFor_none w (V.ptr ab))
  have HA := Lib.hid A
  clear A
  unfold V.ptr at RN ⊢
  go_enter Tryz.func33, Tryz.ntmps33
  go_wp2
  go_step3
  go_wp2_with fail
  refine (RN.out).mono ?_
  rintro e w1 ⟨rfl, rfl⟩
  have hmk : ∀ w, (Instr.makeSlice 50 (.int .i64 0) (.int .i64 0)).run Tryz.prog w = .ok (.slice (some ⟨w.heap.size, 0, none⟩) 0 0) (w.alloc (.cells (madeCells #[Value.int .u8 0] 0) 5)) := fun w => run_make_row' (P := Tryz.prog) 50 5 (.int .u8 0) 1 Tryz.underlying50 u8zero rfl .i64 .i64 0 (by omega) (by omega) w
  have e2 : Ext w (w.alloc (.cells (madeCells #[Value.int .u8 0] 0) 5)) := Ext.alloc w _
  have A2 := Lib.hid (HA.out.ext e2)
  have E2 := Lib.hid e2
  clear e2
  have hcp : ∀ (d : Option Addr) (w : World), (Builtin.copy_ #[50, 50] 3 #[.slice d 0 0, .slice none 0 0]).run Tryz.prog w = .ok (.int .i64 0) w := fun d w => run_copy_none (P := Tryz.prog) w 50 50 3 5 d none 0 0 0 0 Tryz.underlying50 sz5' (by simp)
  go_wp2
  go_step3
  go_wp2
  generalize w.alloc (.cells (madeCells #[Value.int .u8 0] 0) 5) = w2 at *
  go_loopw [8, 9, 32] (fun e b i wr => e = .int .i64 0 ∧ i = .int .i64 0 ∧ w2 = wr) (fun _ _ _ _ => 0)
  case atStart => exact ⟨rfl, rfl, rfl⟩
  case round =>
    obtain ⟨rfl, rfl, rfl⟩ := hrel
    have c3 := A2.out.c.2.2.2
    have z3 := A2.out.fz 3
    have E3 := Lib.hid (V.At.set_same A2.out.cell (j := 3) (v := .bool false) rfl)
    go_wp2
    rw [E3.out]
    try rw [Exit.noGoto_ret]
    go_ret
    exact ⟨rfl, E2.out⟩
theorem scrub_zero {w : World} {sb ab : Nat} {v : Value} {l : List RV} {S : V.SV} {W : V.SW} {L : Nat → Option V.Role} (A : Arc w sb ab S W L 0 v l) :
    Calls Tryz.prog 18 #[V.ptr ab] w fun e w' => e = .returned (.tuple #[.int .i64 0, .int .i64 0]) ∧ Ext w w' := by
  have BD := Lib.hid (bad_zero w ab A.c.2.1)
  have DD := Lib.hid (dead_any w ab A.c.2.2.2)
  have WR := Lib.hid (write_none A)
  clear A
  unfold V.ptr at BD DD WR ⊢
  go_enter Tryz.func18, Tryz.ntmps18
  go_wp2_with fail
  refine (DD.out).mono ?_
  rintro e w1' ⟨rfl, rfl⟩
  go_wp2_with fail
  refine (BD.out).mono ?_
  rintro e w1 ⟨rfl, rfl⟩
  go_wp2_with fail
  refine (WR.out).mono ?_
  rintro e w2 ⟨rfl, e2⟩
  have F := Lib.hid e2
  clear e2 WR
  go_wp2
  go_ret2
  exact ⟨rfl, F.out⟩
end Go.Proofs.YtnhokjnmpdiokaaGreatDoor
