/- Commit once more: what the archive holds then lies apart from all that was there. No conditions: a contract. The law's refs once more: what it tells may be written over. No conditions but those named: contracts. What the law writes over, and the archive beside it. No conditions but those named: definitions, lemmas, contracts. -/
import Derived.Test.YtnhokjnmpdiokaaGreatDoorKg
import Derived.Test.YtnhokjnmpdiokaaGreatDoorKo
namespace Go.Proofs.YtnhokjnmpdiokaaGreatDoor
open Go.RowKit Go.Sha Go.Pth
set_option linter.unusedSimpArgs false
set_option linter.unusedVariables false

def CmO (w : World) (sb ab : Nat) (L : Nat → Option V.Role) (g n d : Nat) (ds : List RD) (w' : World) : Prop :=
  ∃ S' W' L' v' l' ids', Arc w' sb ab S' W' L' g v' l' ∧ l'.map RV.d = ds ∧ V.Md S' n d ids' ids'.length ∧ V.Con S' ids' (fun _ => pageI g ds) ∧ ids'.length = 3 ∧ Mv w w' ab L L' ∧ ∀ X : Nat → Prop, (∀ i, X i → i < w.heap.size) → RR (fun i => X i ∨ XL L' ab i) w' v' l'
set_option maxRecDepth 100000 in
set_option maxHeartbeats 16000000 in
theorem commit_own {w : World} {sb ab g : Nat} {v : Value} {l : List RV} {S : V.SV} {W : V.SW} {L : Nat → Option V.Role} {n d : Nat} {ids : List Nat} {con : Nat → List Int} (A : Arc w sb ab S W L g v l) (MD : V.Md S n d ids ids.length) (CN : V.Con S ids con) (h3 : ids.length = 3 ∨ ids = []) (hn : n ≤ 20000)
    (hK : KAt w) {u : Value} {lu : List RV} (hr : RR (XL L ab) w u lu) (hi : imageL (lu.map RV.d) = true) (hb : BytR (lu.map RV.d)) (hg : g ≤ 1000000) :
    Calls Tryz.prog 12 #[V.ptr ab, u] w fun e w' => e = .returned (.int .i64 0) ∧ CmO w sb ab L (g + 1) (n + 24) d (lu.map RV.d) w' := by
  have MY := Lib.hid (may_any _ u lu w hr (by have := (image_all hi).1; rw [List.length_map] at this; omega))
  rw [hi] at MY
  have HA := Lib.hid A
  have HMD := Lib.hid MD
  have HCN := Lib.hid CN
  have HR := Lib.hid hr
  have HI := Lib.hid hi
  have HB := Lib.hid hb
  have HK := Lib.hid hK
  have H3 := Lib.hid h3
  obtain ⟨_, _, _, _, hrr⟩ := hr
  obtain ⟨adu, capu, eu⟩ : ∃ ad cap, u = .slice ad lu.length cap := ⟨_, _, hrr.val⟩
  obtain ⟨NU, hNU⟩ : ∃ n, n = lu.length := ⟨_, rfl⟩
  rw [← hNU] at eu
  have HNU := Lib.hid hNU
  clear A MD CN hi hb hK h3 hrr hNU
  subst eu
  unfold V.ptr
  go_enter Tryz.func12, Tryz.ntmps12
  go_wp2_with fail
  refine (MY.out).mono ?_
  rintro e w1 ⟨rfl, e1⟩
  have A1 := Lib.hid (HA.out.ext e1)
  have E1 := Lib.hid e1
  have DD := Lib.hid (dead_any w1 ab A1.out.c.2.2.2)
  unfold V.ptr at DD
  clear e1 MY
  go_wp2_with fail
  refine (DD.out).mono ?_
  rintro e w1' ⟨rfl, rfl⟩
  have c1 := A1.out.c.2.1
  have wg : IntKind.i64.wrap ((g : Int) + 1) = (g : Int) + 1 := IntWalk.i64_in _ (by omega)
  have PG := Lib.hid (pageOf_any _ (.slice adu NU capu) lu (g + 1) w1 (HK.out.below E1.out HK.out.lt) (HR.out.ext E1.out) HI.out ⟨by omega, by omega⟩)
  rw [show (((g + 1 : Nat) : Int)) = (g : Int) + 1 by omega] at PG
  clear DD
  go_wp2_with fail
  refine (PG.out).mono ?_
  rintro e w2 ⟨pv, rfl, e2, o2⟩
  have A2 := Lib.hid (A1.out.ext e2)
  have E2 := Lib.hid (E1.out.trans e2)
  have PL := page_len (g + 1) HI.out
  obtain ⟨pad, pcap, pb, po, byb⟩ := byb_own (L := L) (ab := ab) o2 PL.1 (fun i k => A1.out.xlt i k) (pageI_byt (g + 1) HB.out)
  have BY := Lib.hid byb
  have PLH := Lib.hid PL
  have ep := byb.bin.val
  obtain ⟨PN, hPN⟩ : ∃ n, n = (pageI (g + 1) (lu.map RV.d)).length := ⟨_, rfl⟩
  rw [← hPN] at ep
  have CO := Lib.hid (copies_any w2)
  clear e2 o2 PG c1 wg byb PL hPN A1
  subst ep
  go_wp2_with fail
  refine (CO.out).mono ?_
  rintro e w3 ⟨rfl, rfl⟩
  have A3 := Lib.hid (A2.out.ext (Ext.alloc w2 (.cells #[.string (cpT 0), .string (cpT 1), .string (cpT 2)] 9)))
  have E3 := Lib.hid (E2.out.trans (Ext.alloc w2 (.cells #[.string (cpT 0), .string (cpT 1), .string (cpT 2)] 9)))
  have WR := Lib.hid (write_any (js := [0, 1, 2]) A3.out HMD.out HCN.out ⟨H3.out.imp_right fun h => ⟨h, rfl⟩, by simp, by simp⟩ (by omega) (cps_new w2) (fun k => by have := A2.out.xlt _ k; omega) (BY.out.ext (Ext.alloc w2 (.cells #[.string (cpT 0), .string (cpT 1), .string (cpT 2)] 9))) PLH.out.1 PLH.out.2)
  unfold V.ptr at WR
  generalize w2.alloc (.cells #[.string (cpT 0), .string (cpT 1), .string (cpT 2)] 9) = w3 at *
  clear CO A2 E2
  go_wp2_with fail
  refine (WR.out).mono ?_
  rintro e w4 ⟨rfl, ids4, ⟨S4, W4, L4, A4, M4, MD4, CN4⟩, il4, -⟩
  have H4 := Lib.hid (And.intro A4 (And.intro M4 (And.intro MD4 (And.intro CN4 il4))))
  have c1 := A4.c.2.1
  have z1 := A4.fz 1
  have wg : IntKind.i64.wrap ((g : Int) + 1) = (g : Int) + 1 := IntWalk.i64_in _ (by omega)
  have SG := A4.setg (g + 1)
  rw [show (((g + 1 : Nat) : Int)) = (g : Int) + 1 by omega] at SG
  have M5 := Lib.hid (((Mv.of_ext (L := L) E3.out).trans M4).trans SG.2)
  have A5 := Lib.hid SG.1
  have CL := Lib.hid (cloned_any _ (.slice adu NU capu) lu (w4.setCell ⟨ab, 1, none⟩ (.int .i64 ((g : Int) + 1))) (HR.out.mv M5.out) (by have := (image_all HI.out).1; rw [List.length_map] at this; omega) (fun x hx => by
    have := (mayR_len ((mayR_iff _).1 (image_may HI.out x.d (List.mem_map_of_mem hx)))).2
    have e : x.d.r = x.r := rfl
    rw [e] at this; omega))
  clear A4 M4 MD4 CN4 il4 WR SG A3 E3
  go_wp2_with fail
  refine (CL.out).mono ?_
  rintro e w6 ⟨v6, l6, rfl, e6, o6, hd6⟩
  have A6 := Lib.hid (A5.out.ext e6)
  have R6 := Lib.hid (o6.rr (X := XL L4 ab) fun i k => A5.out.xlt i k)
  obtain ⟨ad6, cap6, ev6⟩ := o6.len
  have c2 := A6.out.c.2.2.1
  have z2 := A6.out.fz 2
  have SR := A6.out.setr R6.out
  obtain ⟨N6, hN6⟩ : ∃ n, n = l6.length := ⟨_, rfl⟩
  rw [← hN6] at ev6
  have F := Lib.hid (show CmO w sb ab L (g + 1) (n + 24) d (lu.map RV.d) (w6.setCell ⟨ab, 2, none⟩ v6) from ⟨S4, W4, L4, v6, l6, ids4, SR.1, hd6, H4.out.2.2.1, fun i a ha => by
    have := H4.out.2.2.2.1 i a ha
    rw [this]
    have hl : i < ids4.length := (List.getElem?_eq_some_iff.1 ha).1
    have h5 : ids4.length = max ids.length 3 := H4.out.2.2.2.2
    have h6 : i < 3 := by
      rcases H3.out with h | h
      · omega
      · rw [h] at h5; simp at h5; omega
    show conK [0, 1, 2] _ con 3 i = _
    unfold conK
    rw [if_pos]
    match i, h6 with
    | 0, _ => simp
    | 1, _ => simp
    | 2, _ => simp, by
    have h5 : ids4.length = max ids.length 3 := H4.out.2.2.2.2
    rcases H3.out with h | h
    · omega
    · rw [h] at h5; simpa using h5, (M5.out.trans (Mv.of_ext e6)).trans SR.2, fun X hX => (o6.rr (X := fun i => X i ∨ XL L4 ab i) fun i k => k.elim (fun k => Nat.lt_of_lt_of_le (hX i k) M5.out.chg.size) (fun k => A5.out.xlt i k)).chg (V.Chg.setCell w6 ab 2 v6) fun i k => Or.inl (Or.inr (Or.inr k))⟩)
  clear o6 hd6 e6 SR CL hN6
  subst ev6
  go_wp2
  go_ret
  exact ⟨rfl, F.out⟩
end Go.Proofs.YtnhokjnmpdiokaaGreatDoor
namespace Go.Proofs.YtnhokjnmpdiokaaGreatDoor
open Go.RowKit Go.Sha Go.Pth
set_option linter.unusedSimpArgs false
set_option linter.unusedVariables false

/-- A Root that may be written over: none, or a block of bytes. -/
def Nf (w : World) (x : RV) : Prop := (x.r = [] ∧ x.v = .slice none 0 0) ∨ ∃ g cap cur, x.v = .slice (some ⟨g, 0, none⟩) x.r.length cap ∧ 0 < x.r.length ∧ At w g cur 5
theorem Nf.ext {w w' : World} {x : RV} (h : Nf w x) (e : Ext w w') : Nf w' x := by
  rcases h with h | ⟨g, cap, cur, h1, h2, h3⟩
  · exact Or.inl h
  · exact Or.inr ⟨g, cap, cur, h1, h2, at_ext h3 e⟩
def OwnRW (w : World) (base : Nat) (v : Value) (l : List RV) : Prop := OwnR w base v l ∧ ∀ x ∈ l, Nf w x
theorem OwnRW.nil (w : World) (base : Nat) : OwnRW w base (.slice none 0 0) [] := ⟨OwnR.nil w base, fun x hx => by simp at hx⟩
theorem OwnRW.ext {w w' : World} {base : Nat} {v : Value} {l : List RV} (h : OwnRW w base v l) (he : Ext w w') : OwnRW w' base v l := ⟨h.1.ext he, fun x hx => (h.2 x hx).ext he⟩
theorem OwnRW.len {w : World} {base : Nat} {v : Value} {l : List RV} (h : OwnRW w base v l) : ∃ ad cap, v = .slice ad l.length cap := h.1.len
theorem OwnRW.block {w : World} {base : Nat} {v : Value} {l : List RV} (h : OwnRW w base v l) : ∀ g, v.ownBlock = some g → base ≤ g ∧ g < w.heap.size := h.1.block
theorem nf_row {W w' : World} {base g6 : Nat} {nm : ByteArray} {k z m t : Int} {v : Value} {r : List Int} (h : OwnB W base v r) (hr : 0 < r.length) (s : Sha.Src W v r g6) (o : Only g6 W w') : Nf w' ⟨nm, k, z, m, t, v, r⟩ := by
  obtain ⟨_, ⟨rfl, h0⟩ | ⟨g, cap, cur, rfl, hg, hw, _⟩⟩ := h
  · omega
  · refine Or.inr ⟨g, cap, cur, rfl, hr, o.at hw ?_⟩
    obtain ⟨ad, cap', sb, so, k1, _, k3, k4, _⟩ := s
    injection k1 with k1 _ _
    rw [k3 hr] at k1
    injection k1 with k1
    injection k1 with k1
    rw [k1]
    exact k4
theorem run_append_rw (w : World) (t ty : TypeId) (ht : Tryz.prog.underlying t = some (.slice 52)) (base : Nat) (v : Value) (l : List RV) (hown : OwnR w base v l) (hnl : ∀ y ∈ l, Nf w y) (g c : Nat) (x : RV)
    (h0 : ∀ j u, (rcs x)[j]? = some u → w.cell? ⟨g, j, none⟩ = some u) (ho : x.v.oneCell' = true)
    (hn : Nf w x) (hs : ∀ bh, (bh < base ∨ v.ownBlock = some bh ∨ w.heap.size ≤ bh) → Sha.Src w x.v x.r bh) (hl : l.length < 1099511627776) (hbase : base ≤ w.heap.size) :
    ∃ v' w', (Builtin.append_ #[t, t] ty #[v, .slice (some ⟨g, 0, none⟩) 1 c]).run Tryz.prog w = .ok v' w' ∧ (OwnR w' base v' (l ++ [x]) ∧ ∀ y ∈ l ++ [x], Nf w' y) ∧ Below base w w' := by
  obtain ⟨i, hi', hzz⟩ := Option.map_eq_some_iff.1 rinfo
  simp only [Prod.mk.injEq] at hzz
  obtain ⟨hz1, hz2, hz3⟩ := hzz
  obtain ⟨v', w', hr, ho', hgr, _, hat⟩ := run_append_own_at (P := Tryz.prog) w base t ty 52 i _ 6 72 ht hi' hz1 hz2 hz3 rfl (by omega) v l.length (rcells l) hown.1 ⟨g, 0, none⟩ 1 c (rcs x) rfl
    (fun j u hj => by
      cases j with
      | zero => exact h0 0 u hj
      | succ q => simpa [Addr.add] using h0 (q + 1) u hj) (by intro u hu; simp only [rcs, List.mem_cons, List.not_mem_nil, or_false] at hu; rcases hu with h | h | h | h | h | h <;> (subst h; first | rfl | exact ho)) (by unfold maxLen; omega) (by omega) hbase
  refine ⟨v', w', hr, ⟨⟨?_, ?_⟩, ?_⟩, ?_⟩
  · rw [List.length_append, rcells_app]
    have e : rcells [x] = rcs x := by simp [rcells]
    rw [e]
    exact ho'
  · have key : ∀ (y : Value) (q : List Int), (∀ bh, (bh < base ∨ v.ownBlock = some bh ∨ w.heap.size ≤ bh) → Sha.Src w y q bh) → ∀ bh, (bh < base ∨ v'.ownBlock = some bh ∨ w'.heap.size ≤ bh) → Sha.Src w' y q bh := by
      intro y q hq bh hbh
      have hw : bh < base ∨ v.ownBlock = some bh ∨ w.heap.size ≤ bh := by
        rcases hbh with h | h | h
        · exact Or.inl h
        · rcases hat with h' | h'
          · exact Or.inr (Or.inl (h' ▸ h))
          · rw [h'] at h; injection h with h; exact Or.inr (Or.inr (by omega))
        · exact Or.inr (Or.inr (Nat.le_trans hgr.size h))
      cases hv : v.ownBlock with
      | none => exact src_keep (hq bh hw) (hq bh hw) ⟨hgr.os, hgr.tape, hgr.output, hgr.size, fun k hk _ => hgr.block k hk (by rw [hv]; simp)⟩
      | some r => exact src_keep (hq r (Or.inr (Or.inl hv))) (hq bh hw) ⟨hgr.os, hgr.tape, hgr.output, hgr.size, fun k hk hne => hgr.block k hk (by rw [hv]; simpa using hne)⟩
    intro y hy bh hbh
    rcases List.mem_append.1 hy with hy | hy
    · exact key y.v y.r (hown.2 y hy) bh hbh
    · simp at hy; subst hy; exact key y.v y.r hs bh hbh
  · have key : ∀ y : RV, Nf w y → (∀ bh, (bh < base ∨ v.ownBlock = some bh ∨ w.heap.size ≤ bh) → Sha.Src w y.v y.r bh) → Nf w' y := by
      intro y hy hq
      rcases hy with hy | ⟨g, cap, cur, e1, e2, e3⟩
      · exact Or.inl hy
      · refine Or.inr ⟨g, cap, cur, e1, e2, ?_⟩
        have hw : w.heap[g]? = some (.cells cur 5 (0, 0)) := e3
        have hne : some g ≠ v.ownBlock := fun e => by
          obtain ⟨ad, cap', sb, so, k1, _, k3, k4, _⟩ := hq g (Or.inr (Or.inl e.symm))
          rw [e1] at k1
          injection k1 with k1 _ _
          rw [k3 e2] at k1
          injection k1 with k1
          injection k1 with k1
          exact k4 k1.symm
        exact (hgr.block g e3.lt hne).trans hw
    intro y hy
    rcases List.mem_append.1 hy with hy | hy
    · exact key y (hnl y hy) (hown.2 y hy)
    · simp at hy; subst hy; exact key y hn hs
  · refine ⟨hgr.os, hgr.tape, hgr.output, hgr.size, fun k hk => hgr.block k (by omega) fun e => ?_⟩
    have := (hown.1.lt k e.symm).1
    omega
theorem list_append_rw {w : World} {ops : Array Oper} {rest : List Oper} {o : Oper} {a : Act} {Q : Exit → Act → World → Prop} (hgd : o.guard = none) (s x : Operand) (t : TypeId)
    (ho : o.op = .call { callee := .builtin .append, args := #[s, x], argTypes := #[t, t] }) (ht : Tryz.prog.underlying t = some (.slice 52))
    (base : Nat) (v : Value) (l : List RV) (hsv : a.eval s = v) (hown : OwnRW w base v l) (g c : Nat) (p : RV) (hx : a.eval x = .slice (some ⟨g, 0, none⟩) 1 c)
    (h0 : ∀ j u, (rcs p)[j]? = some u → w.cell? ⟨g, j, none⟩ = some u) (hone : p.v.oneCell' = true)
    (hn : Nf w p) (hs : ∀ bh, (bh < base ∨ v.ownBlock = some bh ∨ w.heap.size ≤ bh) → Sha.Src w p.v p.r bh) (hl : l.length < 1099511627776) (hbase : base ≤ w.heap.size)
    (h : ∀ v' w', OwnRW w' base v' (l ++ [p]) → Below base w w' → wpList Tryz.prog ops Q rest (a.put o.dst v') w') : wpList Tryz.prog ops Q (o :: rest) a w :=
  wpList_plain hgd fun _ hK => by
    obtain ⟨v', w', hr, h2, h3⟩ := run_append_rw w t o.type ht base v l hown.1 hown.2 g c p h0 hone hn hs hl hbase
    unfold Oper.wp execOp
    simp only [ho, resolve, invoke, builtin, Sem.run_bind, Sem.run_pure, Result.andThen_ok, List.map_toArray, List.map_cons, List.map_nil, hsv, hx, hr]
    exact hK _ _ (h v' w' h2 h3)
def InvRw (w : World) (ms : List Int) (v i : Value) (wr : World) : Prop := ∃ (k : Nat) (l' : List RV), k ≤ 20 ∧ i = .int .i64 k ∧ OwnRW wr w.heap.size v l' ∧ l'.map RV.d = refsK ms k ∧ Ext w wr
set_option maxRecDepth 100000 in
set_option maxHeartbeats 32000000 in
theorem refs_w (v : Value) (ms : List Int) (w : World) (h : IR w v ms) (hb : ∀ a ∈ ms, -9223372036854775808 ≤ a ∧ a ≤ 9223372036854775807) (hl : ms.length ≤ 9223372036854775807) :
    Calls Tryz.prog 20 #[v] w fun e w' => ∃ v l', e = .returned v ∧ Ext w w' ∧ OwnRW w' w.heap.size v l' ∧ l'.map RV.d = refsK ms 20 := by
  obtain ⟨ad, cap, b, o, ev, hadr, hcell⟩ := h
  obtain ⟨n, hn⟩ : ∃ n, n = ms.length := ⟨_, rfl⟩
  have HN := Lib.hid hn
  rw [← hn] at ev hadr hl
  have HA := Lib.hid hadr
  have HC0 := Lib.hid hcell
  have HB := Lib.hid hb
  clear hn hadr hcell hb
  subst ev
  go_enter Tryz.func20, Tryz.ntmps20
  go_wp2
  go_loopw [3, 4] (fun v i wr => InvRw w ms v i wr) (fun _ i _ => 20 - (intOf i).toNat)
  case atStart => exact ⟨0, [], by omega, rfl, OwnRW.nil w _, rfl, Ext.refl w⟩
  case round =>
    obtain ⟨k, l', hk, rfl, op, hd, ex⟩ := hrel
    have hll : l'.length ≤ 20 := by
      have := congrArg List.length hd
      have h2 := refsK_len ms k
      simp only [List.length_map] at this
      omega
    obtain ⟨adl, capl, el⟩ := op.len
    subst el
    obtain ⟨LL, hLL⟩ : ∃ n, n = l'.length := ⟨_, rfl⟩
    rw [← hLL] at op hll ⊢
    have HLL := Lib.hid hLL
    have OP := Lib.hid op
    have HD := Lib.hid hd
    have EX := Lib.hid ex
    clear hLL op hd ex
    by_cases hlt : k < 20
    · have i0 : (k : Int) < 20 := by omega
      have i1 : (0 : Int) ≤ (k : Int) := by omega
      by_cases hkn : k < n
      · have j0 : (k : Int) < (n : Int) := by omega
        have d0 : decide ((n : Int) ≤ (k : Int)) = false := by simp; omega
        have ea := HA.out (by omega)
        subst ea
        obtain ⟨a, ha⟩ : ∃ a, ms[k]? = some a := ⟨_, List.getElem?_eq_getElem (by rw [← HN.out]; exact hkn)⟩
        have hab := HB.out a (List.mem_of_getElem? ha)
        have CK := Lib.hid (ext_cell EX.out (HC0.out k a ha))
        have ck := CK.out
        by_cases hneg : a < 0
        · have RO := Lib.hid (show refO ms k = [] by unfold refO; rw [ha]; simp [hneg])
          have d1 : decide (a < 0) = true := decide_eq_true hneg
          clear ha
          go_wp2
          exact ⟨⟨k + 1, l', by omega, by go_num, by have := OP.out; exact this, by rw [refsK_succ, RO.out, List.append_nil]; exact HD.out, EX.out⟩, by simp [intOf]; omega⟩
        · have RO := Lib.hid (show refO ms k = [refD k a] by unfold refO; rw [ha]; simp [hneg])
          have d1 : decide (a < 0) = false := decide_eq_false hneg
          have CV64 := Lib.hid (show IntKind.u64.wrap a = a by rw [IntKind.wrap_u64]; omega)
          have CVA := Lib.hid (show IntKind.u8.wrap a = a % 256 from IntKind.wrap_u8' a)
          obtain ⟨nm, hnm⟩ : ∃ nm, nm = nmI k := ⟨_, rfl⟩
          have HNM := Lib.hid (show strOfNums [97 + (k : Int)] = nm from hnm.symm)
          have HNE := Lib.hid hnm
          clear ha hnm
          go_upto_region 6 with fail
          go_cut [5] from 6 to 61 (fun s5 wx => ∃ g6 adr capr, s5 = .pointer (some ⟨g6, 0, none⟩) ∧ wr.heap.size ≤ g6 ∧ Ext wr wx ∧ At wx g6 #[.string nm, .int .i64 1, .int .i64 (a.tmod 100), .int .i64 (a.tmod 7), .int .u64 a, .slice adr 32 capr] 52 ∧ (∀ bh, (bh < wr.heap.size ∨ wx.heap.size ≤ bh) → Sha.Src wx (.slice adr 32 capr) (shaL [a % 256]) bh) ∧ Nf wx ⟨nm, 1, a.tmod 100, a.tmod 7, a, .slice adr 32 capr, shaL [a % 256]⟩)
          case first =>
            refine wp_region_held (S := Ext wr) (by kernel_rfl) ?_
            change wpAnyH _ _ _ _ _ _ _ _ wr.drew
            have S0 : Ext wr wr.drew := Below.drew (Below.refl _ _)
            clear ck
            generalize wr.drew = W at *
            refine takeS 0 (some 21) (.int .i64 (k : Int)) rfl rfl (by kernel_rfl) (by kernel_rfl) (by kernel_rfl) (fun _ _ _ h => h) rfl S0 (fun w' hw' => by go_simp) ?_
            simp only [Act.put, List.setIfInBounds_toArray, List.set_cons_zero, List.set_cons_succ]
            refine takeS 1 (some 22) (.int .i64 (97 + (k : Int))) rfl rfl (by kernel_rfl) (by kernel_rfl) (by kernel_rfl) (fun _ _ _ h => h) rfl S0 (fun w' hw' => by go_simp; rw [IntKind.wrap_i64]; omega) ?_
            simp only [Act.put, List.setIfInBounds_toArray, List.set_cons_zero, List.set_cons_succ]
            refine takeS 2 (some 23) (.int .u8 (97 + (k : Int))) rfl rfl (by kernel_rfl) (by kernel_rfl) (by kernel_rfl) (fun _ _ _ h => h) rfl S0 (fun w' hw' => by go_simp; rw [IntKind.wrap_u8']; omega) ?_
            simp only [Act.put, List.setIfInBounds_toArray, List.set_cons_zero, List.set_cons_succ]
            refine takeS 5 (some 26) (.slice (some ⟨b, o, none⟩) n cap) rfl rfl (by kernel_rfl) (by kernel_rfl) (by kernel_rfl) (fun _ _ _ h => h) rfl S0 (fun w' hw' => by go_simp) ?_
            simp only [Act.put, List.setIfInBounds_toArray, List.set_cons_zero, List.set_cons_succ]
            refine takeS 6 (some 27) (.int .i64 (k : Int)) rfl rfl (by kernel_rfl) (by kernel_rfl) (by kernel_rfl) (fun _ _ _ h => h) rfl S0 (fun w' hw' => by go_simp) ?_
            simp only [Act.put, List.setIfInBounds_toArray, List.set_cons_zero, List.set_cons_succ]
            refine takeS 7 (some 28) (.pointer (some ⟨b, o + k, none⟩)) rfl rfl (by kernel_rfl) (by kernel_rfl) (by kernel_rfl) (fun _ _ _ h => h) rfl S0 (fun w' hw' => by go_simp) ?_
            simp only [Act.put, List.setIfInBounds_toArray, List.set_cons_zero, List.set_cons_succ]
            refine takeS 8 (some 29) (.int .i64 a) rfl rfl (by kernel_rfl) (by kernel_rfl) (by kernel_rfl) (fun _ _ _ h => h) rfl S0 (fun w' hw' => by have cc := ext_cell hw' CK.out; go_simp) ?_
            simp only [Act.put, List.setIfInBounds_toArray, List.set_cons_zero, List.set_cons_succ]
            refine takeS 9 (some 30) (.int .i64 (a.tmod 100)) rfl rfl (by kernel_rfl) (by kernel_rfl) (by kernel_rfl) (fun _ _ _ h => h) rfl S0 (fun w' hw' => by go_simp) ?_
            simp only [Act.put, List.setIfInBounds_toArray, List.set_cons_zero, List.set_cons_succ]
            refine takeS 10 (some 31) (.slice (some ⟨b, o, none⟩) n cap) rfl rfl (by kernel_rfl) (by kernel_rfl) (by kernel_rfl) (fun _ _ _ h => h) rfl S0 (fun w' hw' => by go_simp) ?_
            simp only [Act.put, List.setIfInBounds_toArray, List.set_cons_zero, List.set_cons_succ]
            refine takeS 11 (some 32) (.int .i64 (k : Int)) rfl rfl (by kernel_rfl) (by kernel_rfl) (by kernel_rfl) (fun _ _ _ h => h) rfl S0 (fun w' hw' => by go_simp) ?_
            simp only [Act.put, List.setIfInBounds_toArray, List.set_cons_zero, List.set_cons_succ]
            refine takeS 12 (some 33) (.pointer (some ⟨b, o + k, none⟩)) rfl rfl (by kernel_rfl) (by kernel_rfl) (by kernel_rfl) (fun _ _ _ h => h) rfl S0 (fun w' hw' => by go_simp) ?_
            simp only [Act.put, List.setIfInBounds_toArray, List.set_cons_zero, List.set_cons_succ]
            refine takeS 13 (some 34) (.int .i64 a) rfl rfl (by kernel_rfl) (by kernel_rfl) (by kernel_rfl) (fun _ _ _ h => h) rfl S0 (fun w' hw' => by have cc := ext_cell hw' CK.out; go_simp) ?_
            simp only [Act.put, List.setIfInBounds_toArray, List.set_cons_zero, List.set_cons_succ]
            refine takeS 14 (some 35) (.int .i64 (a.tmod 7)) rfl rfl (by kernel_rfl) (by kernel_rfl) (by kernel_rfl) (fun _ _ _ h => h) rfl S0 (fun w' hw' => by go_simp) ?_
            simp only [Act.put, List.setIfInBounds_toArray, List.set_cons_zero, List.set_cons_succ]
            refine takeS 15 (some 36) (.slice (some ⟨b, o, none⟩) n cap) rfl rfl (by kernel_rfl) (by kernel_rfl) (by kernel_rfl) (fun _ _ _ h => h) rfl S0 (fun w' hw' => by go_simp) ?_
            simp only [Act.put, List.setIfInBounds_toArray, List.set_cons_zero, List.set_cons_succ]
            refine takeS 16 (some 37) (.int .i64 (k : Int)) rfl rfl (by kernel_rfl) (by kernel_rfl) (by kernel_rfl) (fun _ _ _ h => h) rfl S0 (fun w' hw' => by go_simp) ?_
            simp only [Act.put, List.setIfInBounds_toArray, List.set_cons_zero, List.set_cons_succ]
            refine takeS 17 (some 38) (.pointer (some ⟨b, o + k, none⟩)) rfl rfl (by kernel_rfl) (by kernel_rfl) (by kernel_rfl) (fun _ _ _ h => h) rfl S0 (fun w' hw' => by go_simp) ?_
            simp only [Act.put, List.setIfInBounds_toArray, List.set_cons_zero, List.set_cons_succ]
            refine takeS 18 (some 39) (.int .i64 a) rfl rfl (by kernel_rfl) (by kernel_rfl) (by kernel_rfl) (fun _ _ _ h => h) rfl S0 (fun w' hw' => by have cc := ext_cell hw' CK.out; go_simp) ?_
            simp only [Act.put, List.setIfInBounds_toArray, List.set_cons_zero, List.set_cons_succ]
            refine takeS 19 (some 40) (.int .u64 a) rfl rfl (by kernel_rfl) (by kernel_rfl) (by kernel_rfl) (fun _ _ _ h => h) rfl S0 (fun w' hw' => by go_simp; exact CV64.out) ?_
            simp only [Act.put, List.setIfInBounds_toArray, List.set_cons_zero, List.set_cons_succ]
            refine takeS 20 (some 41) (.slice (some ⟨b, o, none⟩) n cap) rfl rfl (by kernel_rfl) (by kernel_rfl) (by kernel_rfl) (fun _ _ _ h => h) rfl S0 (fun w' hw' => by go_simp) ?_
            simp only [Act.put, List.setIfInBounds_toArray, List.set_cons_zero, List.set_cons_succ]
            refine takeS 21 (some 42) (.int .i64 (k : Int)) rfl rfl (by kernel_rfl) (by kernel_rfl) (by kernel_rfl) (fun _ _ _ h => h) rfl S0 (fun w' hw' => by go_simp) ?_
            simp only [Act.put, List.setIfInBounds_toArray, List.set_cons_zero, List.set_cons_succ]
            refine takeS 22 (some 43) (.pointer (some ⟨b, o + k, none⟩)) rfl rfl (by kernel_rfl) (by kernel_rfl) (by kernel_rfl) (fun _ _ _ h => h) rfl S0 (fun w' hw' => by go_simp) ?_
            simp only [Act.put, List.setIfInBounds_toArray, List.set_cons_zero, List.set_cons_succ]
            refine takeS 23 (some 44) (.int .i64 a) rfl rfl (by kernel_rfl) (by kernel_rfl) (by kernel_rfl) (fun _ _ _ h => h) rfl S0 (fun w' hw' => by have cc := ext_cell hw' CK.out; go_simp) ?_
            simp only [Act.put, List.setIfInBounds_toArray, List.set_cons_zero, List.set_cons_succ]
            refine takeS 24 (some 45) (.int .u8 (a % 256)) rfl rfl (by kernel_rfl) (by kernel_rfl) (by kernel_rfl) (fun _ _ _ h => h) rfl S0 (fun w' hw' => by go_simp; exact CVA.out) ?_
            simp only [Act.put, List.setIfInBounds_toArray, List.set_cons_zero, List.set_cons_succ]
            refine nextThree 3 25 28 rfl rfl rfl (by kernel_rfl) rfl rfl rfl ?_ ?_ ?_
            · refine makeS (some 24) rfl (.slice (some ⟨W.heap.size, 0, none⟩) 1 1) (w1 := W.alloc (.cells #[.int .u8 (97 + (k : Int))] 5)) (by go_simp) ?_
              simp only [Act.put, List.setIfInBounds_toArray, List.set_cons_zero, List.set_cons_succ]
              have e1x : Ext W (W.alloc (.cells #[.int .u8 (97 + (k : Int))] 5)) := Ext.alloc _ _
              have A3 := At.new W #[.int .u8 (97 + (k : Int))] 5
              have Q1 := (S0).trans e1x
              generalize hw1 : W.alloc (.cells #[.int .u8 (97 + (k : Int))] 5) = W1 at *
              refine ⟨Q1, ?_⟩
              refine anyH_mono (S' := fun w' => Ext wr w' ∧ At w' W.heap.size #[.int .u8 (97 + (k : Int))] 5) (fun w' h => h.1) _ _ _ _ ?_
              refine takeS 4 (some 25) (.string nm) rfl rfl (by kernel_rfl) (by kernel_rfl) (by kernel_rfl) (fun _ _ _ h => h) rfl ⟨Q1, A3⟩ (fun w' hw' => by have cc := conv_one hw'.2; rw [HNM.out] at cc; go_simp) ?_
              simp only [Act.put, List.setIfInBounds_toArray, List.set_cons_zero, List.set_cons_succ]
              refine nextTwo 25 28 rfl rfl (by kernel_rfl) rfl rfl ?_ ?_
              · refine makeS (some 46) rfl (.slice (some ⟨W1.heap.size, 0, none⟩) 1 1) (w1 := W1.alloc (.cells #[.int .u8 (a % 256)] 5)) (by go_simp) ?_
                simp only [Act.put, List.setIfInBounds_toArray, List.set_cons_zero, List.set_cons_succ]
                have e2x : Ext W1 (W1.alloc (.cells #[.int .u8 (a % 256)] 5)) := Ext.alloc _ _
                have A25 := At.new W1 #[.int .u8 (a % 256)] 5
                replace A3 := at_ext A3 e2x
                have Q2 := (Q1).trans e2x
                generalize hw2 : W1.alloc (.cells #[.int .u8 (a % 256)] 5) = W2 at *
                refine ⟨⟨Q2, A3⟩, ?_⟩
                refine nextTwo 26 28 rfl rfl (by kernel_rfl) rfl rfl ?_ ?_
                · refine callS (some 47) rfl 44 #[.slice (some ⟨W1.heap.size, 0, none⟩) 1 1] (by go_simp) (fun v w' => ∃ adr capr, v = .slice adr 32 capr ∧ Ext W2 w' ∧ OwnB w' W2.heap.size (.slice adr 32 capr) (shaL [(a % 256)])) (sum_one _ _ _ A25) ?_
                  rintro v3 W3 ⟨adr, capr, rfl, e3x, RT0⟩
                  simp only [Act.put, List.setIfInBounds_toArray, List.set_cons_zero, List.set_cons_succ]
                  have Q3 := (Q2).trans e3x
                  have RT := own_less RT0 (Q2).size
                  clear RT0
                  replace A25 := at_ext A25 e3x
                  replace A3 := at_ext A3 e3x
                  refine ⟨⟨Q3, A3⟩, ?_⟩
                  refine takeS 27 (some 48) (.agg #[.string nm, .int .i64 1, .int .i64 (a.tmod 100), .int .i64 (a.tmod 7), .int .u64 a, .slice adr 32 capr]) rfl rfl (by kernel_rfl) (by kernel_rfl) (by kernel_rfl) (fun _ _ _ h => h) rfl ⟨Q3, A3⟩ (fun w' hw' => by go_simp) ?_
                  simp only [Act.put, List.setIfInBounds_toArray, List.set_cons_zero, List.set_cons_succ]
                  refine nextS 28 rfl (by kernel_rfl) rfl ?_
                  refine makeS (some 5) rfl (.pointer (some ⟨W3.heap.size, 0, none⟩)) (w1 := W3.alloc (.cells #[.string ⟨#[]⟩, .int .i64 0, .int .i64 0, .int .i64 0, .int .u64 0, .slice none 0 0] 52)) (by go_simp) ?_
                  simp only [Act.put, List.setIfInBounds_toArray, List.set_cons_zero, List.set_cons_succ]
                  have e4x : Ext W3 (W3.alloc (.cells #[.string ⟨#[]⟩, .int .i64 0, .int .i64 0, .int .i64 0, .int .u64 0, .slice none 0 0] 52)) := Ext.alloc _ _
                  have L6 : wr.heap.size ≤ W3.heap.size := (Q3).size
                  have SG6 := (RT.srcs W3.heap.size (Or.inr (Nat.le_refl _))).below e4x
                  have N36 : W.heap.size ≠ W3.heap.size := Nat.ne_of_lt A3.lt
                  have A6 := At.new W3 #[.string ⟨#[]⟩, .int .i64 0, .int .i64 0, .int .i64 0, .int .u64 0, .slice none 0 0] 52
                  replace A25 := at_ext A25 e4x
                  replace A3 := at_ext A3 e4x
                  replace RT := OwnB.ext RT e4x
                  have Q4 := (Q3).trans e4x
                  generalize hw4 : W3.alloc (.cells #[.string ⟨#[]⟩, .int .i64 0, .int .i64 0, .int .i64 0, .int .u64 0, .slice none 0 0] 52) = W4 at *
                  refine ⟨⟨Q4, A3⟩, ?_⟩
                  have sz : (Tryz.prog.info? 52).map (·.size) = some (#[.string nm, .int .i64 1, .int .i64 (a.tmod 100), .int .i64 (a.tmod 7), .int .u64 a, .slice adr 32 capr] : Array Value).size := szRef
                  have one : (#[.string nm, .int .i64 1, .int .i64 (a.tmod 100), .int .i64 (a.tmod 7), .int .u64 a, .slice adr 32 capr] : Array Value).all (·.oneCell') = true := by simp [Value.oneCell']
                  refine nextS 29 rfl (by kernel_rfl) rfl (wp_store_row 52 (.tmp 5) (.tmp 48) rfl W3.heap.size _ rfl rfl 52 _ A6 sz rfl one ?_)
                  have oS := Only.setRow W3.heap.size W4 #[.string nm, .int .i64 1, .int .i64 (a.tmod 100), .int .i64 (a.tmod 7), .int .u64 a, .slice adr 32 capr]
                  have S9 : Ext wr (W4.setRow W3.heap.size #[.string nm, .int .i64 1, .int .i64 (a.tmod 100), .int .i64 (a.tmod 7), .int .u64 a, .slice adr 32 capr]) := ext_only' Q4 oS L6
                  refine ⟨⟨S9, oS.at A3 N36⟩, ?_⟩
                  refine wpAnyH_done (by kernel_rfl) ?_ _
                  go_wp2
                  go_meet
                  exact ⟨W3.heap.size, adr, capr, rfl, L6, S9, A6.row _, (fun bh hb => src_keep SG6 (RT.srcs bh (by rcases hb with hb | hb; exact Or.inl hb; rw [size_setRow] at hb; exact Or.inr hb)) oS), nf_row RT (by rw [shaL_length]; omega) SG6 oS⟩
                · refine makeS (some 5) rfl (.pointer (some ⟨W2.heap.size, 0, none⟩)) (w1 := W2.alloc (.cells #[.string ⟨#[]⟩, .int .i64 0, .int .i64 0, .int .i64 0, .int .u64 0, .slice none 0 0] 52)) (by go_simp) ?_
                  simp only [Act.put, List.setIfInBounds_toArray, List.set_cons_zero, List.set_cons_succ]
                  have e5x : Ext W2 (W2.alloc (.cells #[.string ⟨#[]⟩, .int .i64 0, .int .i64 0, .int .i64 0, .int .u64 0, .slice none 0 0] 52)) := Ext.alloc _ _
                  have L6 : wr.heap.size ≤ W2.heap.size := (Q2).size
                  have N36 : W.heap.size ≠ W2.heap.size := Nat.ne_of_lt A3.lt
                  have A6 := At.new W2 #[.string ⟨#[]⟩, .int .i64 0, .int .i64 0, .int .i64 0, .int .u64 0, .slice none 0 0] 52
                  replace A25 := at_ext A25 e5x
                  replace A3 := at_ext A3 e5x
                  have Q5 := (Q2).trans e5x
                  generalize hw5 : W2.alloc (.cells #[.string ⟨#[]⟩, .int .i64 0, .int .i64 0, .int .i64 0, .int .u64 0, .slice none 0 0] 52) = W5 at *
                  refine ⟨⟨Q5, A3⟩, ?_⟩
                  refine nextS 26 rfl (by kernel_rfl) rfl ?_
                  refine callS (some 47) rfl 44 #[.slice (some ⟨W1.heap.size, 0, none⟩) 1 1] (by go_simp) (fun v w' => ∃ adr capr, v = .slice adr 32 capr ∧ Ext W5 w' ∧ OwnB w' W5.heap.size (.slice adr 32 capr) (shaL [(a % 256)])) (sum_one _ _ _ A25) ?_
                  rintro v6 W6 ⟨adr, capr, rfl, e6x, RT0⟩
                  simp only [Act.put, List.setIfInBounds_toArray, List.set_cons_zero, List.set_cons_succ]
                  have Q6 := (Q5).trans e6x
                  have SG6 := RT0.srcs W2.heap.size (Or.inl A6.lt)
                  have RT := own_less RT0 (Q5).size
                  clear RT0
                  replace A25 := at_ext A25 e6x
                  replace A3 := at_ext A3 e6x
                  replace A6 := at_ext A6 e6x
                  refine ⟨⟨Q6, A3⟩, ?_⟩
                  refine takeS 27 (some 48) (.agg #[.string nm, .int .i64 1, .int .i64 (a.tmod 100), .int .i64 (a.tmod 7), .int .u64 a, .slice adr 32 capr]) rfl rfl (by kernel_rfl) (by kernel_rfl) (by kernel_rfl) (fun _ _ _ h => h) rfl ⟨Q6, A3⟩ (fun w' hw' => by go_simp) ?_
                  simp only [Act.put, List.setIfInBounds_toArray, List.set_cons_zero, List.set_cons_succ]
                  have sz : (Tryz.prog.info? 52).map (·.size) = some (#[.string nm, .int .i64 1, .int .i64 (a.tmod 100), .int .i64 (a.tmod 7), .int .u64 a, .slice adr 32 capr] : Array Value).size := szRef
                  have one : (#[.string nm, .int .i64 1, .int .i64 (a.tmod 100), .int .i64 (a.tmod 7), .int .u64 a, .slice adr 32 capr] : Array Value).all (·.oneCell') = true := by simp [Value.oneCell']
                  refine nextS 29 rfl (by kernel_rfl) rfl (wp_store_row 52 (.tmp 5) (.tmp 48) rfl W2.heap.size _ rfl rfl 52 _ A6 sz rfl one ?_)
                  have oS := Only.setRow W2.heap.size W6 #[.string nm, .int .i64 1, .int .i64 (a.tmod 100), .int .i64 (a.tmod 7), .int .u64 a, .slice adr 32 capr]
                  have S9 : Ext wr (W6.setRow W2.heap.size #[.string nm, .int .i64 1, .int .i64 (a.tmod 100), .int .i64 (a.tmod 7), .int .u64 a, .slice adr 32 capr]) := ext_only' Q6 oS L6
                  refine ⟨⟨S9, oS.at A3 N36⟩, ?_⟩
                  refine wpAnyH_done (by kernel_rfl) ?_ _
                  go_wp2
                  go_meet
                  exact ⟨W2.heap.size, adr, capr, rfl, L6, S9, A6.row _, (fun bh hb => src_keep SG6 (RT.srcs bh (by rcases hb with hb | hb; exact Or.inl hb; rw [size_setRow] at hb; exact Or.inr hb)) oS), nf_row RT (by rw [shaL_length]; omega) SG6 oS⟩
              · refine makeS (some 5) rfl (.pointer (some ⟨W1.heap.size, 0, none⟩)) (w1 := W1.alloc (.cells #[.string ⟨#[]⟩, .int .i64 0, .int .i64 0, .int .i64 0, .int .u64 0, .slice none 0 0] 52)) (by go_simp) ?_
                simp only [Act.put, List.setIfInBounds_toArray, List.set_cons_zero, List.set_cons_succ]
                have e7x : Ext W1 (W1.alloc (.cells #[.string ⟨#[]⟩, .int .i64 0, .int .i64 0, .int .i64 0, .int .u64 0, .slice none 0 0] 52)) := Ext.alloc _ _
                have L6 : wr.heap.size ≤ W1.heap.size := (Q1).size
                have N36 : W.heap.size ≠ W1.heap.size := Nat.ne_of_lt A3.lt
                have A6 := At.new W1 #[.string ⟨#[]⟩, .int .i64 0, .int .i64 0, .int .i64 0, .int .u64 0, .slice none 0 0] 52
                replace A3 := at_ext A3 e7x
                have Q7 := (Q1).trans e7x
                generalize hw7 : W1.alloc (.cells #[.string ⟨#[]⟩, .int .i64 0, .int .i64 0, .int .i64 0, .int .u64 0, .slice none 0 0] 52) = W7 at *
                refine ⟨⟨Q7, A3⟩, ?_⟩
                refine nextS 25 rfl (by kernel_rfl) rfl ?_
                refine makeS (some 46) rfl (.slice (some ⟨W7.heap.size, 0, none⟩) 1 1) (w1 := W7.alloc (.cells #[.int .u8 (a % 256)] 5)) (by go_simp) ?_
                simp only [Act.put, List.setIfInBounds_toArray, List.set_cons_zero, List.set_cons_succ]
                have e8x : Ext W7 (W7.alloc (.cells #[.int .u8 (a % 256)] 5)) := Ext.alloc _ _
                have A25 := At.new W7 #[.int .u8 (a % 256)] 5
                replace A3 := at_ext A3 e8x
                replace A6 := at_ext A6 e8x
                have Q8 := (Q7).trans e8x
                generalize hw8 : W7.alloc (.cells #[.int .u8 (a % 256)] 5) = W8 at *
                refine ⟨⟨Q8, A3⟩, ?_⟩
                refine nextS 26 rfl (by kernel_rfl) rfl ?_
                refine callS (some 47) rfl 44 #[.slice (some ⟨W7.heap.size, 0, none⟩) 1 1] (by go_simp) (fun v w' => ∃ adr capr, v = .slice adr 32 capr ∧ Ext W8 w' ∧ OwnB w' W8.heap.size (.slice adr 32 capr) (shaL [(a % 256)])) (sum_one _ _ _ A25) ?_
                rintro v9 W9 ⟨adr, capr, rfl, e9x, RT0⟩
                simp only [Act.put, List.setIfInBounds_toArray, List.set_cons_zero, List.set_cons_succ]
                have Q9 := (Q8).trans e9x
                have SG6 := RT0.srcs W1.heap.size (Or.inl A6.lt)
                have RT := own_less RT0 (Q8).size
                clear RT0
                replace A25 := at_ext A25 e9x
                replace A3 := at_ext A3 e9x
                replace A6 := at_ext A6 e9x
                refine ⟨⟨Q9, A3⟩, ?_⟩
                refine takeS 27 (some 48) (.agg #[.string nm, .int .i64 1, .int .i64 (a.tmod 100), .int .i64 (a.tmod 7), .int .u64 a, .slice adr 32 capr]) rfl rfl (by kernel_rfl) (by kernel_rfl) (by kernel_rfl) (fun _ _ _ h => h) rfl ⟨Q9, A3⟩ (fun w' hw' => by go_simp) ?_
                simp only [Act.put, List.setIfInBounds_toArray, List.set_cons_zero, List.set_cons_succ]
                have sz : (Tryz.prog.info? 52).map (·.size) = some (#[.string nm, .int .i64 1, .int .i64 (a.tmod 100), .int .i64 (a.tmod 7), .int .u64 a, .slice adr 32 capr] : Array Value).size := szRef
                have one : (#[.string nm, .int .i64 1, .int .i64 (a.tmod 100), .int .i64 (a.tmod 7), .int .u64 a, .slice adr 32 capr] : Array Value).all (·.oneCell') = true := by simp [Value.oneCell']
                refine nextS 29 rfl (by kernel_rfl) rfl (wp_store_row 52 (.tmp 5) (.tmp 48) rfl W1.heap.size _ rfl rfl 52 _ A6 sz rfl one ?_)
                have oS := Only.setRow W1.heap.size W9 #[.string nm, .int .i64 1, .int .i64 (a.tmod 100), .int .i64 (a.tmod 7), .int .u64 a, .slice adr 32 capr]
                have S9 : Ext wr (W9.setRow W1.heap.size #[.string nm, .int .i64 1, .int .i64 (a.tmod 100), .int .i64 (a.tmod 7), .int .u64 a, .slice adr 32 capr]) := ext_only' Q9 oS L6
                refine ⟨⟨S9, oS.at A3 N36⟩, ?_⟩
                refine wpAnyH_done (by kernel_rfl) ?_ _
                go_wp2
                go_meet
                exact ⟨W1.heap.size, adr, capr, rfl, L6, S9, A6.row _, (fun bh hb => src_keep SG6 (RT.srcs bh (by rcases hb with hb | hb; exact Or.inl hb; rw [size_setRow] at hb; exact Or.inr hb)) oS), nf_row RT (by rw [shaL_length]; omega) SG6 oS⟩
            · refine makeS (some 46) rfl (.slice (some ⟨W.heap.size, 0, none⟩) 1 1) (w1 := W.alloc (.cells #[.int .u8 (a % 256)] 5)) (by go_simp) ?_
              simp only [Act.put, List.setIfInBounds_toArray, List.set_cons_zero, List.set_cons_succ]
              have e10x : Ext W (W.alloc (.cells #[.int .u8 (a % 256)] 5)) := Ext.alloc _ _
              have A25 := At.new W #[.int .u8 (a % 256)] 5
              have Q10 := (S0).trans e10x
              generalize hw10 : W.alloc (.cells #[.int .u8 (a % 256)] 5) = W10 at *
              refine ⟨Q10, ?_⟩
              refine nextThree 3 26 28 rfl rfl rfl (by kernel_rfl) rfl rfl rfl ?_ ?_ ?_
              · refine makeS (some 24) rfl (.slice (some ⟨W10.heap.size, 0, none⟩) 1 1) (w1 := W10.alloc (.cells #[.int .u8 (97 + (k : Int))] 5)) (by go_simp) ?_
                simp only [Act.put, List.setIfInBounds_toArray, List.set_cons_zero, List.set_cons_succ]
                have e11x : Ext W10 (W10.alloc (.cells #[.int .u8 (97 + (k : Int))] 5)) := Ext.alloc _ _
                have A3 := At.new W10 #[.int .u8 (97 + (k : Int))] 5
                replace A25 := at_ext A25 e11x
                have Q11 := (Q10).trans e11x
                generalize hw11 : W10.alloc (.cells #[.int .u8 (97 + (k : Int))] 5) = W11 at *
                refine ⟨Q11, ?_⟩
                refine anyH_mono (S' := fun w' => Ext wr w' ∧ At w' W10.heap.size #[.int .u8 (97 + (k : Int))] 5) (fun w' h => h.1) _ _ _ _ ?_
                refine takeS 4 (some 25) (.string nm) rfl rfl (by kernel_rfl) (by kernel_rfl) (by kernel_rfl) (fun _ _ _ h => h) rfl ⟨Q11, A3⟩ (fun w' hw' => by have cc := conv_one hw'.2; rw [HNM.out] at cc; go_simp) ?_
                simp only [Act.put, List.setIfInBounds_toArray, List.set_cons_zero, List.set_cons_succ]
                refine nextTwo 26 28 rfl rfl (by kernel_rfl) rfl rfl ?_ ?_
                · refine callS (some 47) rfl 44 #[.slice (some ⟨W.heap.size, 0, none⟩) 1 1] (by go_simp) (fun v w' => ∃ adr capr, v = .slice adr 32 capr ∧ Ext W11 w' ∧ OwnB w' W11.heap.size (.slice adr 32 capr) (shaL [(a % 256)])) (sum_one _ _ _ A25) ?_
                  rintro v12 W12 ⟨adr, capr, rfl, e12x, RT0⟩
                  simp only [Act.put, List.setIfInBounds_toArray, List.set_cons_zero, List.set_cons_succ]
                  have Q12 := (Q11).trans e12x
                  have RT := own_less RT0 (Q11).size
                  clear RT0
                  replace A25 := at_ext A25 e12x
                  replace A3 := at_ext A3 e12x
                  refine ⟨⟨Q12, A3⟩, ?_⟩
                  refine takeS 27 (some 48) (.agg #[.string nm, .int .i64 1, .int .i64 (a.tmod 100), .int .i64 (a.tmod 7), .int .u64 a, .slice adr 32 capr]) rfl rfl (by kernel_rfl) (by kernel_rfl) (by kernel_rfl) (fun _ _ _ h => h) rfl ⟨Q12, A3⟩ (fun w' hw' => by go_simp) ?_
                  simp only [Act.put, List.setIfInBounds_toArray, List.set_cons_zero, List.set_cons_succ]
                  refine nextS 28 rfl (by kernel_rfl) rfl ?_
                  refine makeS (some 5) rfl (.pointer (some ⟨W12.heap.size, 0, none⟩)) (w1 := W12.alloc (.cells #[.string ⟨#[]⟩, .int .i64 0, .int .i64 0, .int .i64 0, .int .u64 0, .slice none 0 0] 52)) (by go_simp) ?_
                  simp only [Act.put, List.setIfInBounds_toArray, List.set_cons_zero, List.set_cons_succ]
                  have e13x : Ext W12 (W12.alloc (.cells #[.string ⟨#[]⟩, .int .i64 0, .int .i64 0, .int .i64 0, .int .u64 0, .slice none 0 0] 52)) := Ext.alloc _ _
                  have L6 : wr.heap.size ≤ W12.heap.size := (Q12).size
                  have SG6 := (RT.srcs W12.heap.size (Or.inr (Nat.le_refl _))).below e13x
                  have N36 : W10.heap.size ≠ W12.heap.size := Nat.ne_of_lt A3.lt
                  have A6 := At.new W12 #[.string ⟨#[]⟩, .int .i64 0, .int .i64 0, .int .i64 0, .int .u64 0, .slice none 0 0] 52
                  replace A25 := at_ext A25 e13x
                  replace A3 := at_ext A3 e13x
                  replace RT := OwnB.ext RT e13x
                  have Q13 := (Q12).trans e13x
                  generalize hw13 : W12.alloc (.cells #[.string ⟨#[]⟩, .int .i64 0, .int .i64 0, .int .i64 0, .int .u64 0, .slice none 0 0] 52) = W13 at *
                  refine ⟨⟨Q13, A3⟩, ?_⟩
                  have sz : (Tryz.prog.info? 52).map (·.size) = some (#[.string nm, .int .i64 1, .int .i64 (a.tmod 100), .int .i64 (a.tmod 7), .int .u64 a, .slice adr 32 capr] : Array Value).size := szRef
                  have one : (#[.string nm, .int .i64 1, .int .i64 (a.tmod 100), .int .i64 (a.tmod 7), .int .u64 a, .slice adr 32 capr] : Array Value).all (·.oneCell') = true := by simp [Value.oneCell']
                  refine nextS 29 rfl (by kernel_rfl) rfl (wp_store_row 52 (.tmp 5) (.tmp 48) rfl W12.heap.size _ rfl rfl 52 _ A6 sz rfl one ?_)
                  have oS := Only.setRow W12.heap.size W13 #[.string nm, .int .i64 1, .int .i64 (a.tmod 100), .int .i64 (a.tmod 7), .int .u64 a, .slice adr 32 capr]
                  have S9 : Ext wr (W13.setRow W12.heap.size #[.string nm, .int .i64 1, .int .i64 (a.tmod 100), .int .i64 (a.tmod 7), .int .u64 a, .slice adr 32 capr]) := ext_only' Q13 oS L6
                  refine ⟨⟨S9, oS.at A3 N36⟩, ?_⟩
                  refine wpAnyH_done (by kernel_rfl) ?_ _
                  go_wp2
                  go_meet
                  exact ⟨W12.heap.size, adr, capr, rfl, L6, S9, A6.row _, (fun bh hb => src_keep SG6 (RT.srcs bh (by rcases hb with hb | hb; exact Or.inl hb; rw [size_setRow] at hb; exact Or.inr hb)) oS), nf_row RT (by rw [shaL_length]; omega) SG6 oS⟩
                · refine makeS (some 5) rfl (.pointer (some ⟨W11.heap.size, 0, none⟩)) (w1 := W11.alloc (.cells #[.string ⟨#[]⟩, .int .i64 0, .int .i64 0, .int .i64 0, .int .u64 0, .slice none 0 0] 52)) (by go_simp) ?_
                  simp only [Act.put, List.setIfInBounds_toArray, List.set_cons_zero, List.set_cons_succ]
                  have e14x : Ext W11 (W11.alloc (.cells #[.string ⟨#[]⟩, .int .i64 0, .int .i64 0, .int .i64 0, .int .u64 0, .slice none 0 0] 52)) := Ext.alloc _ _
                  have L6 : wr.heap.size ≤ W11.heap.size := (Q11).size
                  have N36 : W10.heap.size ≠ W11.heap.size := Nat.ne_of_lt A3.lt
                  have A6 := At.new W11 #[.string ⟨#[]⟩, .int .i64 0, .int .i64 0, .int .i64 0, .int .u64 0, .slice none 0 0] 52
                  replace A25 := at_ext A25 e14x
                  replace A3 := at_ext A3 e14x
                  have Q14 := (Q11).trans e14x
                  generalize hw14 : W11.alloc (.cells #[.string ⟨#[]⟩, .int .i64 0, .int .i64 0, .int .i64 0, .int .u64 0, .slice none 0 0] 52) = W14 at *
                  refine ⟨⟨Q14, A3⟩, ?_⟩
                  refine nextS 26 rfl (by kernel_rfl) rfl ?_
                  refine callS (some 47) rfl 44 #[.slice (some ⟨W.heap.size, 0, none⟩) 1 1] (by go_simp) (fun v w' => ∃ adr capr, v = .slice adr 32 capr ∧ Ext W14 w' ∧ OwnB w' W14.heap.size (.slice adr 32 capr) (shaL [(a % 256)])) (sum_one _ _ _ A25) ?_
                  rintro v15 W15 ⟨adr, capr, rfl, e15x, RT0⟩
                  simp only [Act.put, List.setIfInBounds_toArray, List.set_cons_zero, List.set_cons_succ]
                  have Q15 := (Q14).trans e15x
                  have SG6 := RT0.srcs W11.heap.size (Or.inl A6.lt)
                  have RT := own_less RT0 (Q14).size
                  clear RT0
                  replace A25 := at_ext A25 e15x
                  replace A3 := at_ext A3 e15x
                  replace A6 := at_ext A6 e15x
                  refine ⟨⟨Q15, A3⟩, ?_⟩
                  refine takeS 27 (some 48) (.agg #[.string nm, .int .i64 1, .int .i64 (a.tmod 100), .int .i64 (a.tmod 7), .int .u64 a, .slice adr 32 capr]) rfl rfl (by kernel_rfl) (by kernel_rfl) (by kernel_rfl) (fun _ _ _ h => h) rfl ⟨Q15, A3⟩ (fun w' hw' => by go_simp) ?_
                  simp only [Act.put, List.setIfInBounds_toArray, List.set_cons_zero, List.set_cons_succ]
                  have sz : (Tryz.prog.info? 52).map (·.size) = some (#[.string nm, .int .i64 1, .int .i64 (a.tmod 100), .int .i64 (a.tmod 7), .int .u64 a, .slice adr 32 capr] : Array Value).size := szRef
                  have one : (#[.string nm, .int .i64 1, .int .i64 (a.tmod 100), .int .i64 (a.tmod 7), .int .u64 a, .slice adr 32 capr] : Array Value).all (·.oneCell') = true := by simp [Value.oneCell']
                  refine nextS 29 rfl (by kernel_rfl) rfl (wp_store_row 52 (.tmp 5) (.tmp 48) rfl W11.heap.size _ rfl rfl 52 _ A6 sz rfl one ?_)
                  have oS := Only.setRow W11.heap.size W15 #[.string nm, .int .i64 1, .int .i64 (a.tmod 100), .int .i64 (a.tmod 7), .int .u64 a, .slice adr 32 capr]
                  have S9 : Ext wr (W15.setRow W11.heap.size #[.string nm, .int .i64 1, .int .i64 (a.tmod 100), .int .i64 (a.tmod 7), .int .u64 a, .slice adr 32 capr]) := ext_only' Q15 oS L6
                  refine ⟨⟨S9, oS.at A3 N36⟩, ?_⟩
                  refine wpAnyH_done (by kernel_rfl) ?_ _
                  go_wp2
                  go_meet
                  exact ⟨W11.heap.size, adr, capr, rfl, L6, S9, A6.row _, (fun bh hb => src_keep SG6 (RT.srcs bh (by rcases hb with hb | hb; exact Or.inl hb; rw [size_setRow] at hb; exact Or.inr hb)) oS), nf_row RT (by rw [shaL_length]; omega) SG6 oS⟩
              · refine callS (some 47) rfl 44 #[.slice (some ⟨W.heap.size, 0, none⟩) 1 1] (by go_simp) (fun v w' => ∃ adr capr, v = .slice adr 32 capr ∧ Ext W10 w' ∧ OwnB w' W10.heap.size (.slice adr 32 capr) (shaL [(a % 256)])) (sum_one _ _ _ A25) ?_
                rintro v16 W16 ⟨adr, capr, rfl, e16x, RT0⟩
                simp only [Act.put, List.setIfInBounds_toArray, List.set_cons_zero, List.set_cons_succ]
                have Q16 := (Q10).trans e16x
                have RT := own_less RT0 (Q10).size
                clear RT0
                replace A25 := at_ext A25 e16x
                refine ⟨Q16, ?_⟩
                refine nextTwo 3 28 rfl rfl (by kernel_rfl) rfl rfl ?_ ?_
                · refine makeS (some 24) rfl (.slice (some ⟨W16.heap.size, 0, none⟩) 1 1) (w1 := W16.alloc (.cells #[.int .u8 (97 + (k : Int))] 5)) (by go_simp) ?_
                  simp only [Act.put, List.setIfInBounds_toArray, List.set_cons_zero, List.set_cons_succ]
                  have e17x : Ext W16 (W16.alloc (.cells #[.int .u8 (97 + (k : Int))] 5)) := Ext.alloc _ _
                  have A3 := At.new W16 #[.int .u8 (97 + (k : Int))] 5
                  replace A25 := at_ext A25 e17x
                  replace RT := OwnB.ext RT e17x
                  have Q17 := (Q16).trans e17x
                  generalize hw17 : W16.alloc (.cells #[.int .u8 (97 + (k : Int))] 5) = W17 at *
                  refine ⟨Q17, ?_⟩
                  refine anyH_mono (S' := fun w' => Ext wr w' ∧ At w' W16.heap.size #[.int .u8 (97 + (k : Int))] 5) (fun w' h => h.1) _ _ _ _ ?_
                  refine takeS 4 (some 25) (.string nm) rfl rfl (by kernel_rfl) (by kernel_rfl) (by kernel_rfl) (fun _ _ _ h => h) rfl ⟨Q17, A3⟩ (fun w' hw' => by have cc := conv_one hw'.2; rw [HNM.out] at cc; go_simp) ?_
                  simp only [Act.put, List.setIfInBounds_toArray, List.set_cons_zero, List.set_cons_succ]
                  refine takeS 27 (some 48) (.agg #[.string nm, .int .i64 1, .int .i64 (a.tmod 100), .int .i64 (a.tmod 7), .int .u64 a, .slice adr 32 capr]) rfl rfl (by kernel_rfl) (by kernel_rfl) (by kernel_rfl) (fun _ _ _ h => h) rfl ⟨Q17, A3⟩ (fun w' hw' => by go_simp) ?_
                  simp only [Act.put, List.setIfInBounds_toArray, List.set_cons_zero, List.set_cons_succ]
                  refine nextS 28 rfl (by kernel_rfl) rfl ?_
                  refine makeS (some 5) rfl (.pointer (some ⟨W17.heap.size, 0, none⟩)) (w1 := W17.alloc (.cells #[.string ⟨#[]⟩, .int .i64 0, .int .i64 0, .int .i64 0, .int .u64 0, .slice none 0 0] 52)) (by go_simp) ?_
                  simp only [Act.put, List.setIfInBounds_toArray, List.set_cons_zero, List.set_cons_succ]
                  have e18x : Ext W17 (W17.alloc (.cells #[.string ⟨#[]⟩, .int .i64 0, .int .i64 0, .int .i64 0, .int .u64 0, .slice none 0 0] 52)) := Ext.alloc _ _
                  have L6 : wr.heap.size ≤ W17.heap.size := (Q17).size
                  have SG6 := (RT.srcs W17.heap.size (Or.inr (Nat.le_refl _))).below e18x
                  have N36 : W16.heap.size ≠ W17.heap.size := Nat.ne_of_lt A3.lt
                  have A6 := At.new W17 #[.string ⟨#[]⟩, .int .i64 0, .int .i64 0, .int .i64 0, .int .u64 0, .slice none 0 0] 52
                  replace A25 := at_ext A25 e18x
                  replace A3 := at_ext A3 e18x
                  replace RT := OwnB.ext RT e18x
                  have Q18 := (Q17).trans e18x
                  generalize hw18 : W17.alloc (.cells #[.string ⟨#[]⟩, .int .i64 0, .int .i64 0, .int .i64 0, .int .u64 0, .slice none 0 0] 52) = W18 at *
                  refine ⟨⟨Q18, A3⟩, ?_⟩
                  have sz : (Tryz.prog.info? 52).map (·.size) = some (#[.string nm, .int .i64 1, .int .i64 (a.tmod 100), .int .i64 (a.tmod 7), .int .u64 a, .slice adr 32 capr] : Array Value).size := szRef
                  have one : (#[.string nm, .int .i64 1, .int .i64 (a.tmod 100), .int .i64 (a.tmod 7), .int .u64 a, .slice adr 32 capr] : Array Value).all (·.oneCell') = true := by simp [Value.oneCell']
                  refine nextS 29 rfl (by kernel_rfl) rfl (wp_store_row 52 (.tmp 5) (.tmp 48) rfl W17.heap.size _ rfl rfl 52 _ A6 sz rfl one ?_)
                  have oS := Only.setRow W17.heap.size W18 #[.string nm, .int .i64 1, .int .i64 (a.tmod 100), .int .i64 (a.tmod 7), .int .u64 a, .slice adr 32 capr]
                  have S9 : Ext wr (W18.setRow W17.heap.size #[.string nm, .int .i64 1, .int .i64 (a.tmod 100), .int .i64 (a.tmod 7), .int .u64 a, .slice adr 32 capr]) := ext_only' Q18 oS L6
                  refine ⟨⟨S9, oS.at A3 N36⟩, ?_⟩
                  refine wpAnyH_done (by kernel_rfl) ?_ _
                  go_wp2
                  go_meet
                  exact ⟨W17.heap.size, adr, capr, rfl, L6, S9, A6.row _, (fun bh hb => src_keep SG6 (RT.srcs bh (by rcases hb with hb | hb; exact Or.inl hb; rw [size_setRow] at hb; exact Or.inr hb)) oS), nf_row RT (by rw [shaL_length]; omega) SG6 oS⟩
                · refine makeS (some 5) rfl (.pointer (some ⟨W16.heap.size, 0, none⟩)) (w1 := W16.alloc (.cells #[.string ⟨#[]⟩, .int .i64 0, .int .i64 0, .int .i64 0, .int .u64 0, .slice none 0 0] 52)) (by go_simp) ?_
                  simp only [Act.put, List.setIfInBounds_toArray, List.set_cons_zero, List.set_cons_succ]
                  have e19x : Ext W16 (W16.alloc (.cells #[.string ⟨#[]⟩, .int .i64 0, .int .i64 0, .int .i64 0, .int .u64 0, .slice none 0 0] 52)) := Ext.alloc _ _
                  have L6 : wr.heap.size ≤ W16.heap.size := (Q16).size
                  have SG6 := (RT.srcs W16.heap.size (Or.inr (Nat.le_refl _))).below e19x
                  have A6 := At.new W16 #[.string ⟨#[]⟩, .int .i64 0, .int .i64 0, .int .i64 0, .int .u64 0, .slice none 0 0] 52
                  replace A25 := at_ext A25 e19x
                  replace RT := OwnB.ext RT e19x
                  have Q19 := (Q16).trans e19x
                  generalize hw19 : W16.alloc (.cells #[.string ⟨#[]⟩, .int .i64 0, .int .i64 0, .int .i64 0, .int .u64 0, .slice none 0 0] 52) = W19 at *
                  refine ⟨Q19, ?_⟩
                  refine nextS 3 rfl (by kernel_rfl) rfl ?_
                  refine makeS (some 24) rfl (.slice (some ⟨W19.heap.size, 0, none⟩) 1 1) (w1 := W19.alloc (.cells #[.int .u8 (97 + (k : Int))] 5)) (by go_simp) ?_
                  simp only [Act.put, List.setIfInBounds_toArray, List.set_cons_zero, List.set_cons_succ]
                  have e20x : Ext W19 (W19.alloc (.cells #[.int .u8 (97 + (k : Int))] 5)) := Ext.alloc _ _
                  have N36 : W19.heap.size ≠ W16.heap.size := (Nat.ne_of_lt A6.lt).symm
                  have A3 := At.new W19 #[.int .u8 (97 + (k : Int))] 5
                  replace A25 := at_ext A25 e20x
                  replace A6 := at_ext A6 e20x
                  replace RT := OwnB.ext RT e20x
                  replace SG6 := SG6.below e20x
                  have Q20 := (Q19).trans e20x
                  generalize hw20 : W19.alloc (.cells #[.int .u8 (97 + (k : Int))] 5) = W20 at *
                  refine ⟨Q20, ?_⟩
                  refine anyH_mono (S' := fun w' => Ext wr w' ∧ At w' W19.heap.size #[.int .u8 (97 + (k : Int))] 5) (fun w' h => h.1) _ _ _ _ ?_
                  refine takeS 4 (some 25) (.string nm) rfl rfl (by kernel_rfl) (by kernel_rfl) (by kernel_rfl) (fun _ _ _ h => h) rfl ⟨Q20, A3⟩ (fun w' hw' => by have cc := conv_one hw'.2; rw [HNM.out] at cc; go_simp) ?_
                  simp only [Act.put, List.setIfInBounds_toArray, List.set_cons_zero, List.set_cons_succ]
                  refine takeS 27 (some 48) (.agg #[.string nm, .int .i64 1, .int .i64 (a.tmod 100), .int .i64 (a.tmod 7), .int .u64 a, .slice adr 32 capr]) rfl rfl (by kernel_rfl) (by kernel_rfl) (by kernel_rfl) (fun _ _ _ h => h) rfl ⟨Q20, A3⟩ (fun w' hw' => by go_simp) ?_
                  simp only [Act.put, List.setIfInBounds_toArray, List.set_cons_zero, List.set_cons_succ]
                  have sz : (Tryz.prog.info? 52).map (·.size) = some (#[.string nm, .int .i64 1, .int .i64 (a.tmod 100), .int .i64 (a.tmod 7), .int .u64 a, .slice adr 32 capr] : Array Value).size := szRef
                  have one : (#[.string nm, .int .i64 1, .int .i64 (a.tmod 100), .int .i64 (a.tmod 7), .int .u64 a, .slice adr 32 capr] : Array Value).all (·.oneCell') = true := by simp [Value.oneCell']
                  refine nextS 29 rfl (by kernel_rfl) rfl (wp_store_row 52 (.tmp 5) (.tmp 48) rfl W16.heap.size _ rfl rfl 52 _ A6 sz rfl one ?_)
                  have oS := Only.setRow W16.heap.size W20 #[.string nm, .int .i64 1, .int .i64 (a.tmod 100), .int .i64 (a.tmod 7), .int .u64 a, .slice adr 32 capr]
                  have S9 : Ext wr (W20.setRow W16.heap.size #[.string nm, .int .i64 1, .int .i64 (a.tmod 100), .int .i64 (a.tmod 7), .int .u64 a, .slice adr 32 capr]) := ext_only' Q20 oS L6
                  refine ⟨⟨S9, oS.at A3 N36⟩, ?_⟩
                  refine wpAnyH_done (by kernel_rfl) ?_ _
                  go_wp2
                  go_meet
                  exact ⟨W16.heap.size, adr, capr, rfl, L6, S9, A6.row _, (fun bh hb => src_keep SG6 (RT.srcs bh (by rcases hb with hb | hb; exact Or.inl hb; rw [size_setRow] at hb; exact Or.inr hb)) oS), nf_row RT (by rw [shaL_length]; omega) SG6 oS⟩
              · refine makeS (some 5) rfl (.pointer (some ⟨W10.heap.size, 0, none⟩)) (w1 := W10.alloc (.cells #[.string ⟨#[]⟩, .int .i64 0, .int .i64 0, .int .i64 0, .int .u64 0, .slice none 0 0] 52)) (by go_simp) ?_
                simp only [Act.put, List.setIfInBounds_toArray, List.set_cons_zero, List.set_cons_succ]
                have e21x : Ext W10 (W10.alloc (.cells #[.string ⟨#[]⟩, .int .i64 0, .int .i64 0, .int .i64 0, .int .u64 0, .slice none 0 0] 52)) := Ext.alloc _ _
                have L6 : wr.heap.size ≤ W10.heap.size := (Q10).size
                have A6 := At.new W10 #[.string ⟨#[]⟩, .int .i64 0, .int .i64 0, .int .i64 0, .int .u64 0, .slice none 0 0] 52
                replace A25 := at_ext A25 e21x
                have Q21 := (Q10).trans e21x
                generalize hw21 : W10.alloc (.cells #[.string ⟨#[]⟩, .int .i64 0, .int .i64 0, .int .i64 0, .int .u64 0, .slice none 0 0] 52) = W21 at *
                refine ⟨Q21, ?_⟩
                refine nextTwo 3 26 rfl rfl (by kernel_rfl) rfl rfl ?_ ?_
                · refine makeS (some 24) rfl (.slice (some ⟨W21.heap.size, 0, none⟩) 1 1) (w1 := W21.alloc (.cells #[.int .u8 (97 + (k : Int))] 5)) (by go_simp) ?_
                  simp only [Act.put, List.setIfInBounds_toArray, List.set_cons_zero, List.set_cons_succ]
                  have e22x : Ext W21 (W21.alloc (.cells #[.int .u8 (97 + (k : Int))] 5)) := Ext.alloc _ _
                  have N36 : W21.heap.size ≠ W10.heap.size := (Nat.ne_of_lt A6.lt).symm
                  have A3 := At.new W21 #[.int .u8 (97 + (k : Int))] 5
                  replace A25 := at_ext A25 e22x
                  replace A6 := at_ext A6 e22x
                  have Q22 := (Q21).trans e22x
                  generalize hw22 : W21.alloc (.cells #[.int .u8 (97 + (k : Int))] 5) = W22 at *
                  refine ⟨Q22, ?_⟩
                  refine anyH_mono (S' := fun w' => Ext wr w' ∧ At w' W21.heap.size #[.int .u8 (97 + (k : Int))] 5) (fun w' h => h.1) _ _ _ _ ?_
                  refine takeS 4 (some 25) (.string nm) rfl rfl (by kernel_rfl) (by kernel_rfl) (by kernel_rfl) (fun _ _ _ h => h) rfl ⟨Q22, A3⟩ (fun w' hw' => by have cc := conv_one hw'.2; rw [HNM.out] at cc; go_simp) ?_
                  simp only [Act.put, List.setIfInBounds_toArray, List.set_cons_zero, List.set_cons_succ]
                  refine nextS 26 rfl (by kernel_rfl) rfl ?_
                  refine callS (some 47) rfl 44 #[.slice (some ⟨W.heap.size, 0, none⟩) 1 1] (by go_simp) (fun v w' => ∃ adr capr, v = .slice adr 32 capr ∧ Ext W22 w' ∧ OwnB w' W22.heap.size (.slice adr 32 capr) (shaL [(a % 256)])) (sum_one _ _ _ A25) ?_
                  rintro v23 W23 ⟨adr, capr, rfl, e23x, RT0⟩
                  simp only [Act.put, List.setIfInBounds_toArray, List.set_cons_zero, List.set_cons_succ]
                  have Q23 := (Q22).trans e23x
                  have SG6 := RT0.srcs W10.heap.size (Or.inl A6.lt)
                  have RT := own_less RT0 (Q22).size
                  clear RT0
                  replace A25 := at_ext A25 e23x
                  replace A3 := at_ext A3 e23x
                  replace A6 := at_ext A6 e23x
                  refine ⟨⟨Q23, A3⟩, ?_⟩
                  refine takeS 27 (some 48) (.agg #[.string nm, .int .i64 1, .int .i64 (a.tmod 100), .int .i64 (a.tmod 7), .int .u64 a, .slice adr 32 capr]) rfl rfl (by kernel_rfl) (by kernel_rfl) (by kernel_rfl) (fun _ _ _ h => h) rfl ⟨Q23, A3⟩ (fun w' hw' => by go_simp) ?_
                  simp only [Act.put, List.setIfInBounds_toArray, List.set_cons_zero, List.set_cons_succ]
                  have sz : (Tryz.prog.info? 52).map (·.size) = some (#[.string nm, .int .i64 1, .int .i64 (a.tmod 100), .int .i64 (a.tmod 7), .int .u64 a, .slice adr 32 capr] : Array Value).size := szRef
                  have one : (#[.string nm, .int .i64 1, .int .i64 (a.tmod 100), .int .i64 (a.tmod 7), .int .u64 a, .slice adr 32 capr] : Array Value).all (·.oneCell') = true := by simp [Value.oneCell']
                  refine nextS 29 rfl (by kernel_rfl) rfl (wp_store_row 52 (.tmp 5) (.tmp 48) rfl W10.heap.size _ rfl rfl 52 _ A6 sz rfl one ?_)
                  have oS := Only.setRow W10.heap.size W23 #[.string nm, .int .i64 1, .int .i64 (a.tmod 100), .int .i64 (a.tmod 7), .int .u64 a, .slice adr 32 capr]
                  have S9 : Ext wr (W23.setRow W10.heap.size #[.string nm, .int .i64 1, .int .i64 (a.tmod 100), .int .i64 (a.tmod 7), .int .u64 a, .slice adr 32 capr]) := ext_only' Q23 oS L6
                  refine ⟨⟨S9, oS.at A3 N36⟩, ?_⟩
                  refine wpAnyH_done (by kernel_rfl) ?_ _
                  go_wp2
                  go_meet
                  exact ⟨W10.heap.size, adr, capr, rfl, L6, S9, A6.row _, (fun bh hb => src_keep SG6 (RT.srcs bh (by rcases hb with hb | hb; exact Or.inl hb; rw [size_setRow] at hb; exact Or.inr hb)) oS), nf_row RT (by rw [shaL_length]; omega) SG6 oS⟩
                · refine callS (some 47) rfl 44 #[.slice (some ⟨W.heap.size, 0, none⟩) 1 1] (by go_simp) (fun v w' => ∃ adr capr, v = .slice adr 32 capr ∧ Ext W21 w' ∧ OwnB w' W21.heap.size (.slice adr 32 capr) (shaL [(a % 256)])) (sum_one _ _ _ A25) ?_
                  rintro v24 W24 ⟨adr, capr, rfl, e24x, RT0⟩
                  simp only [Act.put, List.setIfInBounds_toArray, List.set_cons_zero, List.set_cons_succ]
                  have Q24 := (Q21).trans e24x
                  have SG6 := RT0.srcs W10.heap.size (Or.inl A6.lt)
                  have RT := own_less RT0 (Q21).size
                  clear RT0
                  replace A25 := at_ext A25 e24x
                  replace A6 := at_ext A6 e24x
                  refine ⟨Q24, ?_⟩
                  refine nextS 3 rfl (by kernel_rfl) rfl ?_
                  refine makeS (some 24) rfl (.slice (some ⟨W24.heap.size, 0, none⟩) 1 1) (w1 := W24.alloc (.cells #[.int .u8 (97 + (k : Int))] 5)) (by go_simp) ?_
                  simp only [Act.put, List.setIfInBounds_toArray, List.set_cons_zero, List.set_cons_succ]
                  have e25x : Ext W24 (W24.alloc (.cells #[.int .u8 (97 + (k : Int))] 5)) := Ext.alloc _ _
                  have N36 : W24.heap.size ≠ W10.heap.size := (Nat.ne_of_lt A6.lt).symm
                  have A3 := At.new W24 #[.int .u8 (97 + (k : Int))] 5
                  replace A25 := at_ext A25 e25x
                  replace A6 := at_ext A6 e25x
                  replace RT := OwnB.ext RT e25x
                  replace SG6 := SG6.below e25x
                  have Q25 := (Q24).trans e25x
                  generalize hw25 : W24.alloc (.cells #[.int .u8 (97 + (k : Int))] 5) = W25 at *
                  refine ⟨Q25, ?_⟩
                  refine anyH_mono (S' := fun w' => Ext wr w' ∧ At w' W24.heap.size #[.int .u8 (97 + (k : Int))] 5) (fun w' h => h.1) _ _ _ _ ?_
                  refine takeS 4 (some 25) (.string nm) rfl rfl (by kernel_rfl) (by kernel_rfl) (by kernel_rfl) (fun _ _ _ h => h) rfl ⟨Q25, A3⟩ (fun w' hw' => by have cc := conv_one hw'.2; rw [HNM.out] at cc; go_simp) ?_
                  simp only [Act.put, List.setIfInBounds_toArray, List.set_cons_zero, List.set_cons_succ]
                  refine takeS 27 (some 48) (.agg #[.string nm, .int .i64 1, .int .i64 (a.tmod 100), .int .i64 (a.tmod 7), .int .u64 a, .slice adr 32 capr]) rfl rfl (by kernel_rfl) (by kernel_rfl) (by kernel_rfl) (fun _ _ _ h => h) rfl ⟨Q25, A3⟩ (fun w' hw' => by go_simp) ?_
                  simp only [Act.put, List.setIfInBounds_toArray, List.set_cons_zero, List.set_cons_succ]
                  have sz : (Tryz.prog.info? 52).map (·.size) = some (#[.string nm, .int .i64 1, .int .i64 (a.tmod 100), .int .i64 (a.tmod 7), .int .u64 a, .slice adr 32 capr] : Array Value).size := szRef
                  have one : (#[.string nm, .int .i64 1, .int .i64 (a.tmod 100), .int .i64 (a.tmod 7), .int .u64 a, .slice adr 32 capr] : Array Value).all (·.oneCell') = true := by simp [Value.oneCell']
                  refine nextS 29 rfl (by kernel_rfl) rfl (wp_store_row 52 (.tmp 5) (.tmp 48) rfl W10.heap.size _ rfl rfl 52 _ A6 sz rfl one ?_)
                  have oS := Only.setRow W10.heap.size W25 #[.string nm, .int .i64 1, .int .i64 (a.tmod 100), .int .i64 (a.tmod 7), .int .u64 a, .slice adr 32 capr]
                  have S9 : Ext wr (W25.setRow W10.heap.size #[.string nm, .int .i64 1, .int .i64 (a.tmod 100), .int .i64 (a.tmod 7), .int .u64 a, .slice adr 32 capr]) := ext_only' Q25 oS L6
                  refine ⟨⟨S9, oS.at A3 N36⟩, ?_⟩
                  refine wpAnyH_done (by kernel_rfl) ?_ _
                  go_wp2
                  go_meet
                  exact ⟨W10.heap.size, adr, capr, rfl, L6, S9, A6.row _, (fun bh hb => src_keep SG6 (RT.srcs bh (by rcases hb with hb | hb; exact Or.inl hb; rw [size_setRow] at hb; exact Or.inr hb)) oS), nf_row RT (by rw [shaL_length]; omega) SG6 oS⟩
            · refine makeS (some 5) rfl (.pointer (some ⟨W.heap.size, 0, none⟩)) (w1 := W.alloc (.cells #[.string ⟨#[]⟩, .int .i64 0, .int .i64 0, .int .i64 0, .int .u64 0, .slice none 0 0] 52)) (by go_simp) ?_
              simp only [Act.put, List.setIfInBounds_toArray, List.set_cons_zero, List.set_cons_succ]
              have e26x : Ext W (W.alloc (.cells #[.string ⟨#[]⟩, .int .i64 0, .int .i64 0, .int .i64 0, .int .u64 0, .slice none 0 0] 52)) := Ext.alloc _ _
              have L6 : wr.heap.size ≤ W.heap.size := (S0).size
              have A6 := At.new W #[.string ⟨#[]⟩, .int .i64 0, .int .i64 0, .int .i64 0, .int .u64 0, .slice none 0 0] 52
              have Q26 := (S0).trans e26x
              generalize hw26 : W.alloc (.cells #[.string ⟨#[]⟩, .int .i64 0, .int .i64 0, .int .i64 0, .int .u64 0, .slice none 0 0] 52) = W26 at *
              refine ⟨Q26, ?_⟩
              refine nextTwo 3 25 rfl rfl (by kernel_rfl) rfl rfl ?_ ?_
              · refine makeS (some 24) rfl (.slice (some ⟨W26.heap.size, 0, none⟩) 1 1) (w1 := W26.alloc (.cells #[.int .u8 (97 + (k : Int))] 5)) (by go_simp) ?_
                simp only [Act.put, List.setIfInBounds_toArray, List.set_cons_zero, List.set_cons_succ]
                have e27x : Ext W26 (W26.alloc (.cells #[.int .u8 (97 + (k : Int))] 5)) := Ext.alloc _ _
                have N36 : W26.heap.size ≠ W.heap.size := (Nat.ne_of_lt A6.lt).symm
                have A3 := At.new W26 #[.int .u8 (97 + (k : Int))] 5
                replace A6 := at_ext A6 e27x
                have Q27 := (Q26).trans e27x
                generalize hw27 : W26.alloc (.cells #[.int .u8 (97 + (k : Int))] 5) = W27 at *
                refine ⟨Q27, ?_⟩
                refine anyH_mono (S' := fun w' => Ext wr w' ∧ At w' W26.heap.size #[.int .u8 (97 + (k : Int))] 5) (fun w' h => h.1) _ _ _ _ ?_
                refine takeS 4 (some 25) (.string nm) rfl rfl (by kernel_rfl) (by kernel_rfl) (by kernel_rfl) (fun _ _ _ h => h) rfl ⟨Q27, A3⟩ (fun w' hw' => by have cc := conv_one hw'.2; rw [HNM.out] at cc; go_simp) ?_
                simp only [Act.put, List.setIfInBounds_toArray, List.set_cons_zero, List.set_cons_succ]
                refine nextS 25 rfl (by kernel_rfl) rfl ?_
                refine makeS (some 46) rfl (.slice (some ⟨W27.heap.size, 0, none⟩) 1 1) (w1 := W27.alloc (.cells #[.int .u8 (a % 256)] 5)) (by go_simp) ?_
                simp only [Act.put, List.setIfInBounds_toArray, List.set_cons_zero, List.set_cons_succ]
                have e28x : Ext W27 (W27.alloc (.cells #[.int .u8 (a % 256)] 5)) := Ext.alloc _ _
                have A25 := At.new W27 #[.int .u8 (a % 256)] 5
                replace A3 := at_ext A3 e28x
                replace A6 := at_ext A6 e28x
                have Q28 := (Q27).trans e28x
                generalize hw28 : W27.alloc (.cells #[.int .u8 (a % 256)] 5) = W28 at *
                refine ⟨⟨Q28, A3⟩, ?_⟩
                refine nextS 26 rfl (by kernel_rfl) rfl ?_
                refine callS (some 47) rfl 44 #[.slice (some ⟨W27.heap.size, 0, none⟩) 1 1] (by go_simp) (fun v w' => ∃ adr capr, v = .slice adr 32 capr ∧ Ext W28 w' ∧ OwnB w' W28.heap.size (.slice adr 32 capr) (shaL [(a % 256)])) (sum_one _ _ _ A25) ?_
                rintro v29 W29 ⟨adr, capr, rfl, e29x, RT0⟩
                simp only [Act.put, List.setIfInBounds_toArray, List.set_cons_zero, List.set_cons_succ]
                have Q29 := (Q28).trans e29x
                have SG6 := RT0.srcs W.heap.size (Or.inl A6.lt)
                have RT := own_less RT0 (Q28).size
                clear RT0
                replace A25 := at_ext A25 e29x
                replace A3 := at_ext A3 e29x
                replace A6 := at_ext A6 e29x
                refine ⟨⟨Q29, A3⟩, ?_⟩
                refine takeS 27 (some 48) (.agg #[.string nm, .int .i64 1, .int .i64 (a.tmod 100), .int .i64 (a.tmod 7), .int .u64 a, .slice adr 32 capr]) rfl rfl (by kernel_rfl) (by kernel_rfl) (by kernel_rfl) (fun _ _ _ h => h) rfl ⟨Q29, A3⟩ (fun w' hw' => by go_simp) ?_
                simp only [Act.put, List.setIfInBounds_toArray, List.set_cons_zero, List.set_cons_succ]
                have sz : (Tryz.prog.info? 52).map (·.size) = some (#[.string nm, .int .i64 1, .int .i64 (a.tmod 100), .int .i64 (a.tmod 7), .int .u64 a, .slice adr 32 capr] : Array Value).size := szRef
                have one : (#[.string nm, .int .i64 1, .int .i64 (a.tmod 100), .int .i64 (a.tmod 7), .int .u64 a, .slice adr 32 capr] : Array Value).all (·.oneCell') = true := by simp [Value.oneCell']
                refine nextS 29 rfl (by kernel_rfl) rfl (wp_store_row 52 (.tmp 5) (.tmp 48) rfl W.heap.size _ rfl rfl 52 _ A6 sz rfl one ?_)
                have oS := Only.setRow W.heap.size W29 #[.string nm, .int .i64 1, .int .i64 (a.tmod 100), .int .i64 (a.tmod 7), .int .u64 a, .slice adr 32 capr]
                have S9 : Ext wr (W29.setRow W.heap.size #[.string nm, .int .i64 1, .int .i64 (a.tmod 100), .int .i64 (a.tmod 7), .int .u64 a, .slice adr 32 capr]) := ext_only' Q29 oS L6
                refine ⟨⟨S9, oS.at A3 N36⟩, ?_⟩
                refine wpAnyH_done (by kernel_rfl) ?_ _
                go_wp2
                go_meet
                exact ⟨W.heap.size, adr, capr, rfl, L6, S9, A6.row _, (fun bh hb => src_keep SG6 (RT.srcs bh (by rcases hb with hb | hb; exact Or.inl hb; rw [size_setRow] at hb; exact Or.inr hb)) oS), nf_row RT (by rw [shaL_length]; omega) SG6 oS⟩
              · refine makeS (some 46) rfl (.slice (some ⟨W26.heap.size, 0, none⟩) 1 1) (w1 := W26.alloc (.cells #[.int .u8 (a % 256)] 5)) (by go_simp) ?_
                simp only [Act.put, List.setIfInBounds_toArray, List.set_cons_zero, List.set_cons_succ]
                have e30x : Ext W26 (W26.alloc (.cells #[.int .u8 (a % 256)] 5)) := Ext.alloc _ _
                have A25 := At.new W26 #[.int .u8 (a % 256)] 5
                replace A6 := at_ext A6 e30x
                have Q30 := (Q26).trans e30x
                generalize hw30 : W26.alloc (.cells #[.int .u8 (a % 256)] 5) = W30 at *
                refine ⟨Q30, ?_⟩
                refine nextTwo 3 26 rfl rfl (by kernel_rfl) rfl rfl ?_ ?_
                · refine makeS (some 24) rfl (.slice (some ⟨W30.heap.size, 0, none⟩) 1 1) (w1 := W30.alloc (.cells #[.int .u8 (97 + (k : Int))] 5)) (by go_simp) ?_
                  simp only [Act.put, List.setIfInBounds_toArray, List.set_cons_zero, List.set_cons_succ]
                  have e31x : Ext W30 (W30.alloc (.cells #[.int .u8 (97 + (k : Int))] 5)) := Ext.alloc _ _
                  have N36 : W30.heap.size ≠ W.heap.size := (Nat.ne_of_lt A6.lt).symm
                  have A3 := At.new W30 #[.int .u8 (97 + (k : Int))] 5
                  replace A25 := at_ext A25 e31x
                  replace A6 := at_ext A6 e31x
                  have Q31 := (Q30).trans e31x
                  generalize hw31 : W30.alloc (.cells #[.int .u8 (97 + (k : Int))] 5) = W31 at *
                  refine ⟨Q31, ?_⟩
                  refine anyH_mono (S' := fun w' => Ext wr w' ∧ At w' W30.heap.size #[.int .u8 (97 + (k : Int))] 5) (fun w' h => h.1) _ _ _ _ ?_
                  refine takeS 4 (some 25) (.string nm) rfl rfl (by kernel_rfl) (by kernel_rfl) (by kernel_rfl) (fun _ _ _ h => h) rfl ⟨Q31, A3⟩ (fun w' hw' => by have cc := conv_one hw'.2; rw [HNM.out] at cc; go_simp) ?_
                  simp only [Act.put, List.setIfInBounds_toArray, List.set_cons_zero, List.set_cons_succ]
                  refine nextS 26 rfl (by kernel_rfl) rfl ?_
                  refine callS (some 47) rfl 44 #[.slice (some ⟨W26.heap.size, 0, none⟩) 1 1] (by go_simp) (fun v w' => ∃ adr capr, v = .slice adr 32 capr ∧ Ext W31 w' ∧ OwnB w' W31.heap.size (.slice adr 32 capr) (shaL [(a % 256)])) (sum_one _ _ _ A25) ?_
                  rintro v32 W32 ⟨adr, capr, rfl, e32x, RT0⟩
                  simp only [Act.put, List.setIfInBounds_toArray, List.set_cons_zero, List.set_cons_succ]
                  have Q32 := (Q31).trans e32x
                  have SG6 := RT0.srcs W.heap.size (Or.inl A6.lt)
                  have RT := own_less RT0 (Q31).size
                  clear RT0
                  replace A25 := at_ext A25 e32x
                  replace A3 := at_ext A3 e32x
                  replace A6 := at_ext A6 e32x
                  refine ⟨⟨Q32, A3⟩, ?_⟩
                  refine takeS 27 (some 48) (.agg #[.string nm, .int .i64 1, .int .i64 (a.tmod 100), .int .i64 (a.tmod 7), .int .u64 a, .slice adr 32 capr]) rfl rfl (by kernel_rfl) (by kernel_rfl) (by kernel_rfl) (fun _ _ _ h => h) rfl ⟨Q32, A3⟩ (fun w' hw' => by go_simp) ?_
                  simp only [Act.put, List.setIfInBounds_toArray, List.set_cons_zero, List.set_cons_succ]
                  have sz : (Tryz.prog.info? 52).map (·.size) = some (#[.string nm, .int .i64 1, .int .i64 (a.tmod 100), .int .i64 (a.tmod 7), .int .u64 a, .slice adr 32 capr] : Array Value).size := szRef
                  have one : (#[.string nm, .int .i64 1, .int .i64 (a.tmod 100), .int .i64 (a.tmod 7), .int .u64 a, .slice adr 32 capr] : Array Value).all (·.oneCell') = true := by simp [Value.oneCell']
                  refine nextS 29 rfl (by kernel_rfl) rfl (wp_store_row 52 (.tmp 5) (.tmp 48) rfl W.heap.size _ rfl rfl 52 _ A6 sz rfl one ?_)
                  have oS := Only.setRow W.heap.size W32 #[.string nm, .int .i64 1, .int .i64 (a.tmod 100), .int .i64 (a.tmod 7), .int .u64 a, .slice adr 32 capr]
                  have S9 : Ext wr (W32.setRow W.heap.size #[.string nm, .int .i64 1, .int .i64 (a.tmod 100), .int .i64 (a.tmod 7), .int .u64 a, .slice adr 32 capr]) := ext_only' Q32 oS L6
                  refine ⟨⟨S9, oS.at A3 N36⟩, ?_⟩
                  refine wpAnyH_done (by kernel_rfl) ?_ _
                  go_wp2
                  go_meet
                  exact ⟨W.heap.size, adr, capr, rfl, L6, S9, A6.row _, (fun bh hb => src_keep SG6 (RT.srcs bh (by rcases hb with hb | hb; exact Or.inl hb; rw [size_setRow] at hb; exact Or.inr hb)) oS), nf_row RT (by rw [shaL_length]; omega) SG6 oS⟩
                · refine callS (some 47) rfl 44 #[.slice (some ⟨W26.heap.size, 0, none⟩) 1 1] (by go_simp) (fun v w' => ∃ adr capr, v = .slice adr 32 capr ∧ Ext W30 w' ∧ OwnB w' W30.heap.size (.slice adr 32 capr) (shaL [(a % 256)])) (sum_one _ _ _ A25) ?_
                  rintro v33 W33 ⟨adr, capr, rfl, e33x, RT0⟩
                  simp only [Act.put, List.setIfInBounds_toArray, List.set_cons_zero, List.set_cons_succ]
                  have Q33 := (Q30).trans e33x
                  have SG6 := RT0.srcs W.heap.size (Or.inl A6.lt)
                  have RT := own_less RT0 (Q30).size
                  clear RT0
                  replace A25 := at_ext A25 e33x
                  replace A6 := at_ext A6 e33x
                  refine ⟨Q33, ?_⟩
                  refine nextS 3 rfl (by kernel_rfl) rfl ?_
                  refine makeS (some 24) rfl (.slice (some ⟨W33.heap.size, 0, none⟩) 1 1) (w1 := W33.alloc (.cells #[.int .u8 (97 + (k : Int))] 5)) (by go_simp) ?_
                  simp only [Act.put, List.setIfInBounds_toArray, List.set_cons_zero, List.set_cons_succ]
                  have e34x : Ext W33 (W33.alloc (.cells #[.int .u8 (97 + (k : Int))] 5)) := Ext.alloc _ _
                  have N36 : W33.heap.size ≠ W.heap.size := (Nat.ne_of_lt A6.lt).symm
                  have A3 := At.new W33 #[.int .u8 (97 + (k : Int))] 5
                  replace A25 := at_ext A25 e34x
                  replace A6 := at_ext A6 e34x
                  replace RT := OwnB.ext RT e34x
                  replace SG6 := SG6.below e34x
                  have Q34 := (Q33).trans e34x
                  generalize hw34 : W33.alloc (.cells #[.int .u8 (97 + (k : Int))] 5) = W34 at *
                  refine ⟨Q34, ?_⟩
                  refine anyH_mono (S' := fun w' => Ext wr w' ∧ At w' W33.heap.size #[.int .u8 (97 + (k : Int))] 5) (fun w' h => h.1) _ _ _ _ ?_
                  refine takeS 4 (some 25) (.string nm) rfl rfl (by kernel_rfl) (by kernel_rfl) (by kernel_rfl) (fun _ _ _ h => h) rfl ⟨Q34, A3⟩ (fun w' hw' => by have cc := conv_one hw'.2; rw [HNM.out] at cc; go_simp) ?_
                  simp only [Act.put, List.setIfInBounds_toArray, List.set_cons_zero, List.set_cons_succ]
                  refine takeS 27 (some 48) (.agg #[.string nm, .int .i64 1, .int .i64 (a.tmod 100), .int .i64 (a.tmod 7), .int .u64 a, .slice adr 32 capr]) rfl rfl (by kernel_rfl) (by kernel_rfl) (by kernel_rfl) (fun _ _ _ h => h) rfl ⟨Q34, A3⟩ (fun w' hw' => by go_simp) ?_
                  simp only [Act.put, List.setIfInBounds_toArray, List.set_cons_zero, List.set_cons_succ]
                  have sz : (Tryz.prog.info? 52).map (·.size) = some (#[.string nm, .int .i64 1, .int .i64 (a.tmod 100), .int .i64 (a.tmod 7), .int .u64 a, .slice adr 32 capr] : Array Value).size := szRef
                  have one : (#[.string nm, .int .i64 1, .int .i64 (a.tmod 100), .int .i64 (a.tmod 7), .int .u64 a, .slice adr 32 capr] : Array Value).all (·.oneCell') = true := by simp [Value.oneCell']
                  refine nextS 29 rfl (by kernel_rfl) rfl (wp_store_row 52 (.tmp 5) (.tmp 48) rfl W.heap.size _ rfl rfl 52 _ A6 sz rfl one ?_)
                  have oS := Only.setRow W.heap.size W34 #[.string nm, .int .i64 1, .int .i64 (a.tmod 100), .int .i64 (a.tmod 7), .int .u64 a, .slice adr 32 capr]
                  have S9 : Ext wr (W34.setRow W.heap.size #[.string nm, .int .i64 1, .int .i64 (a.tmod 100), .int .i64 (a.tmod 7), .int .u64 a, .slice adr 32 capr]) := ext_only' Q34 oS L6
                  refine ⟨⟨S9, oS.at A3 N36⟩, ?_⟩
                  refine wpAnyH_done (by kernel_rfl) ?_ _
                  go_wp2
                  go_meet
                  exact ⟨W.heap.size, adr, capr, rfl, L6, S9, A6.row _, (fun bh hb => src_keep SG6 (RT.srcs bh (by rcases hb with hb | hb; exact Or.inl hb; rw [size_setRow] at hb; exact Or.inr hb)) oS), nf_row RT (by rw [shaL_length]; omega) SG6 oS⟩
          case rest =>
            obtain ⟨g6, adr, capr, rfl, L6, e6, A6, R6, N6⟩ := hcut
            have E6 := Lib.hid (And.intro e6 L6)
            have R6H := Lib.hid R6
            have N6H := Lib.hid N6
            clear N6
            have c6 := ext_cell e6 CK.out
            clear R6 e6 ck L6
            by_cases h54 : a.tmod 5 = 4
            · have t54 : (a.tmod 5 == 4) = true := by simpa using h54
              have t55 : (a % 5 == 4) = true := by rw [← Int.tmod_eq_emod_of_nonneg (by omega)]; exact t54
              have RD2 := Lib.hid (show refD k a = ⟨nm, 2, 0, a.tmod 7, a, []⟩ by unfold refD; rw [if_pos h54, ← HNE.out])
              generalize a.tmod 7 = T7 at *
              generalize a.tmod 100 = T100 at *
              have z1 := A6.cell 1
              have y1 := A6.frozen 1
              have B1 : At (wc.setCell ⟨g6, 1, none⟩ (.int .i64 2)) g6 _ 52 := A6.set 1 (.int .i64 2)
              have z5 := B1.cell 5
              have y5 := B1.frozen 5
              have B2 : At ((wc.setCell ⟨g6, 1, none⟩ (.int .i64 2)).setCell ⟨g6, 5, none⟩ (.slice none 0 0)) g6 _ 52 := B1.set 5 (.slice none 0 0)
              have z2 := B2.cell 2
              have y2 := B2.frozen 2
              have B3 : At (((wc.setCell ⟨g6, 1, none⟩ (.int .i64 2)).setCell ⟨g6, 5, none⟩ (.slice none 0 0)).setCell ⟨g6, 2, none⟩ (.int .i64 0)) g6 #[.string nm, .int .i64 2, .int .i64 0, .int .i64 (T7), .int .u64 a, .slice none 0 0] 52 := B2.set 2 (.int .i64 0)
              have E7 := Lib.hid (show Ext wr (((wc.setCell ⟨g6, 1, none⟩ (.int .i64 2)).setCell ⟨g6, 5, none⟩ (.slice none 0 0)).setCell ⟨g6, 2, none⟩ (.int .i64 0)) from ext_only' (ext_only' (ext_only' E6.out.1 (Only.set g6 1 _ _) E6.out.2) (Only.set g6 5 _ _) E6.out.2) (Only.set g6 2 _ _) E6.out.2)
              clear B1 B2 A6
              go_upto_region 9 with fail
              clear z1 y1 z5 y5 z2 y2 c6
              generalize ((wc.setCell ⟨g6, 1, none⟩ (.int .i64 2)).setCell ⟨g6, 5, none⟩ (.slice none 0 0)).setCell ⟨g6, 2, none⟩ (.int .i64 0) = w7 at *
              have A7 := B3
              clear B3
              have SB := Lib.hid (show ∀ bh, (bh < wr.heap.size ∨ w7.heap.size ≤ bh) → Sha.Src w7 (.slice none 0 0) [] bh from fun bh _ => src_nil w7 bh)
              have NB := Lib.hid (show ∀ w' : World, Nf w' ⟨nm, 2, 0, T7, a, .slice none 0 0, []⟩ from fun _ => Or.inl ⟨rfl, rfl⟩)
              have a8 := At.new w7 #[.string nm, .int .i64 2, .int .i64 0, .int .i64 (T7), .int .u64 a, .slice none 0 0] 52
              have e8 : Ext w7 (w7.alloc (.cells #[.string nm, .int .i64 2, .int .i64 0, .int .i64 (T7), .int .u64 a, .slice none 0 0] 52)) := Ext.alloc _ _
              have OP8 := Lib.hid (OP.out.ext (E7.out.trans e8))
              have HC := Lib.hid (show ∀ j u, (rcs ⟨nm, 2, 0, T7, a, .slice none 0 0, []⟩)[j]? = some u → (w7.alloc (.cells #[.string nm, .int .i64 2, .int .i64 0, .int .i64 (T7), .int .u64 a, .slice none 0 0] 52)).cell? ⟨w7.heap.size, j, none⟩ = some u from fun j u hu => by rw [a8.cell]; simpa [rcs] using hu)
              have HN := Lib.hid (show Nf (w7.alloc (.cells #[.string nm, .int .i64 2, .int .i64 0, .int .i64 (T7), .int .u64 a, .slice none 0 0] 52)) ⟨nm, 2, 0, T7, a, .slice none 0 0, []⟩ from NB.out _)
              have HS := Lib.hid (show ∀ bh, (bh < w.heap.size ∨ (.slice adl LL capl : Value).ownBlock = some bh ∨ (w7.alloc (.cells #[.string nm, .int .i64 2, .int .i64 0, .int .i64 (T7), .int .u64 a, .slice none 0 0] 52)).heap.size ≤ bh) → Sha.Src (w7.alloc (.cells #[.string nm, .int .i64 2, .int .i64 0, .int .i64 (T7), .int .u64 a, .slice none 0 0] 52)) (.slice none 0 0) [] bh from fun bh hbh => by
                refine (SB.out bh ?_).below e8
                rcases hbh with h | h | h
                · exact Or.inl (Nat.lt_of_lt_of_le h EX.out.size)
                · exact Or.inl (OP.out.block bh h).2
                · exact Or.inr (Nat.le_trans e8.size h))
              have HB2 := Lib.hid (EX.out.trans (E7.out.trans e8))
              have HL5 := Lib.hid (show l'.length < 1099511627776 by rw [← HLL.out]; omega)
              clear e8 a8
              go_wp2_with (first | (refine wpList_load_row rfl 52 _ rfl g6 rfl 52 _ (0, 0) _ A7 Tryz.underlying52 rfl szRef ?_) | (refine list_append_rw rfl (.tmp 58) (.tmp 60) 22 rfl Tryz.underlying22 w.heap.size (.slice adl LL capl) l' rfl OP8.out w7.heap.size 1 ⟨nm, 2, 0, T7, a, .slice none 0 0, []⟩ rfl HC.out rfl HN.out HS.out HL5.out HB2.out.size ?_; intro v9 w9 op9 b9))
              exact ⟨⟨k + 1, _, by omega, by go_num, op9, by rw [List.map_append, HD.out, refsK_succ, RO.out, RD2.out]; rfl, Below.trans HB2.out b9⟩, by simp [intOf]; omega⟩
            · have t54 : (a.tmod 5 == 4) = false := by simpa using h54
              have t55 : (a % 5 == 4) = false := by rw [← Int.tmod_eq_emod_of_nonneg (by omega)]; exact t54
              have RD2 := Lib.hid (show refD k a = ⟨nm, 1, a.tmod 100, a.tmod 7, a, shaL [a % 256]⟩ by unfold refD; rw [if_neg h54, ← HNE.out])
              generalize a.tmod 7 = T7 at *
              generalize a.tmod 100 = T100 at *
              have E7 := Lib.hid E6.out.1
              go_upto_region 9 with fail
              clear c6
              have A7 := A6
              clear A6
              generalize wc = w7 at *
              have SB := R6H
              have NB := Lib.hid (show ∀ w' : World, Ext w7 w' → Nf w' ⟨nm, 1, T100, T7, a, .slice adr 32 capr, shaL [a % 256]⟩ from fun _ e => N6H.out.ext e)
              have a8 := At.new w7 #[.string nm, .int .i64 1, .int .i64 (T100), .int .i64 (T7), .int .u64 a, .slice adr 32 capr] 52
              have e8 : Ext w7 (w7.alloc (.cells #[.string nm, .int .i64 1, .int .i64 (T100), .int .i64 (T7), .int .u64 a, .slice adr 32 capr] 52)) := Ext.alloc _ _
              have OP8 := Lib.hid (OP.out.ext (E7.out.trans e8))
              have HC := Lib.hid (show ∀ j u, (rcs ⟨nm, 1, T100, T7, a, .slice adr 32 capr, shaL [a % 256]⟩)[j]? = some u → (w7.alloc (.cells #[.string nm, .int .i64 1, .int .i64 (T100), .int .i64 (T7), .int .u64 a, .slice adr 32 capr] 52)).cell? ⟨w7.heap.size, j, none⟩ = some u from fun j u hu => by rw [a8.cell]; simpa [rcs] using hu)
              have HN := Lib.hid (show Nf (w7.alloc (.cells #[.string nm, .int .i64 1, .int .i64 (T100), .int .i64 (T7), .int .u64 a, .slice adr 32 capr] 52)) ⟨nm, 1, T100, T7, a, .slice adr 32 capr, shaL [a % 256]⟩ from NB.out _ e8)
              have HS := Lib.hid (show ∀ bh, (bh < w.heap.size ∨ (.slice adl LL capl : Value).ownBlock = some bh ∨ (w7.alloc (.cells #[.string nm, .int .i64 1, .int .i64 (T100), .int .i64 (T7), .int .u64 a, .slice adr 32 capr] 52)).heap.size ≤ bh) → Sha.Src (w7.alloc (.cells #[.string nm, .int .i64 1, .int .i64 (T100), .int .i64 (T7), .int .u64 a, .slice adr 32 capr] 52)) (.slice adr 32 capr) (shaL [a % 256]) bh from fun bh hbh => by
                refine (SB.out bh ?_).below e8
                rcases hbh with h | h | h
                · exact Or.inl (Nat.lt_of_lt_of_le h EX.out.size)
                · exact Or.inl (OP.out.block bh h).2
                · exact Or.inr (Nat.le_trans e8.size h))
              have HB2 := Lib.hid (EX.out.trans (E7.out.trans e8))
              have HL5 := Lib.hid (show l'.length < 1099511627776 by rw [← HLL.out]; omega)
              clear e8 a8
              go_wp2_with (first | (refine wpList_load_row rfl 52 _ rfl g6 rfl 52 _ (0, 0) _ A7 Tryz.underlying52 rfl szRef ?_) | (refine list_append_rw rfl (.tmp 58) (.tmp 60) 22 rfl Tryz.underlying22 w.heap.size (.slice adl LL capl) l' rfl OP8.out w7.heap.size 1 ⟨nm, 1, T100, T7, a, .slice adr 32 capr, shaL [a % 256]⟩ rfl HC.out rfl HN.out HS.out HL5.out HB2.out.size ?_; intro v9 w9 op9 b9))
              exact ⟨⟨k + 1, _, by omega, by go_num, op9, by rw [List.map_append, HD.out, refsK_succ, RO.out, RD2.out]; rfl, Below.trans HB2.out b9⟩, by simp [intOf]; omega⟩
      · have d0 : decide ((n : Int) ≤ (k : Int)) = true := by simp; omega
        have RO := Lib.hid (show refO ms k = [] by unfold refO; rw [List.getElem?_eq_none (by rw [← HN.out]; omega)])
        go_wp2
        exact ⟨⟨k + 1, l', by omega, by go_num, OP.out, by rw [refsK_succ, RO.out, List.append_nil]; exact HD.out, EX.out⟩, by simp [intOf]; omega⟩
    · have d0 : decide ((k : Int) < 20) = false := by simp; omega
      obtain rfl : k = 20 := by omega
      clear hlt
      go_wp2
      go_ret
      exact ⟨_, l', rfl, EX.out, OP.out, HD.out⟩
end Go.Proofs.YtnhokjnmpdiokaaGreatDoor
namespace Go.Proofs.YtnhokjnmpdiokaaGreatDoor
open Go.RowKit Go.Sha Go.Pth
set_option linter.unusedSimpArgs false
set_option linter.unusedVariables false

theorem at_ne {w : World} {a b : Nat} {c d : Array Value} (h : At w a c 52) (k : At w b d 5) : a ≠ b := by
  rintro rfl
  have h' : w.heap[a]? = some (.cells c 52 (0, 0)) := h
  have k' : w.heap[a]? = some (.cells d 5 (0, 0)) := k
  rw [h'] at k'
  injection k' with k'
  injection k' with _ e _
  exact absurd e (by decide)
theorem at_keep {w w' : World} {b : Nat} {c : Array Value} {t : TypeId} (h : At w b c t) (e : w'.heap[b]? = w.heap[b]?) : At w' b c t := by
  have h' : w.heap[b]? = some (.cells c t (0, 0)) := h
  exact e.trans h'
theorem set_get {c : Array Value} {i j : Nat} {v u : Value} (h : c[j]? = some u) : (c.setIfInBounds i v)[j]? = if i = j then some v else some u := by
  rw [Array.getElem?_setIfInBounds]
  by_cases e : i = j
  · subst e
    have := (Array.getElem?_eq_some_iff.1 h).1
    simp [this]
  · simp [e, h]
/-- A row of Refs that is being written over, its Roots too; all of it lies in Y. -/
structure Ovr (Y : Nat → Prop) (w : World) (gx NX : Nat) (vs : List Value) : Prop where
  row : 0 < NX → Y gx ∧ ∃ cur, At w gx cur 52 ∧ ∀ k, k < NX → (∃ p, cur[k * 6]? = some (.string p)) ∧ cur[k * 6 + 5]? = vs[k]?
  len : vs.length = NX
  root : ∀ v ∈ vs, v = .slice none 0 0 ∨ ∃ g n cap cur, v = .slice (some ⟨g, 0, none⟩) n cap ∧ n ≤ 1000000 ∧ Y g ∧ At w g cur 5 ∧ ∀ i, i < n → ∃ c, cur[i]? = some (.int .u8 c)
theorem Ovr.keep {Y : Nat → Prop} {w w' : World} {gx NX : Nat} {vs : List Value} (h : Ovr Y w gx NX vs) (e : ∀ i, Y i → w'.heap[i]? = w.heap[i]?) : Ovr Y w' gx NX vs := by
  refine ⟨fun hn => ?_, h.len, fun v hv => ?_⟩
  · obtain ⟨hy, cur, ha, hc⟩ := h.row hn
    exact ⟨hy, cur, at_keep ha (e gx hy), hc⟩
  · rcases h.root v hv with k | ⟨g, n, cap, cur, e1, hb, hy, ha, hc⟩
    · exact Or.inl k
    · exact Or.inr ⟨g, n, cap, cur, e1, hb, hy, at_keep ha (e g hy), hc⟩
theorem Ovr.ext {Y : Nat → Prop} {w w' : World} {gx NX : Nat} {vs : List Value} (h : Ovr Y w gx NX vs) (e : Ext w w') : Ovr Y w' gx NX vs := by
  refine ⟨fun hn => ?_, h.len, fun v hv => ?_⟩
  · obtain ⟨hy, cur, ha, hc⟩ := h.row hn
    exact ⟨hy, cur, at_ext ha e, hc⟩
  · rcases h.root v hv with k | ⟨g, n, cap, cur, e1, hb, hy, ha, hc⟩
    · exact Or.inl k
    · exact Or.inr ⟨g, n, cap, cur, e1, hb, hy, at_ext ha e, hc⟩
theorem Ovr.setp {Y : Nat → Prop} {w : World} {gx NX : Nat} {vs : List Value} (h : Ovr Y w gx NX vs) (k : Nat) (hk : k < NX) (z : ByteArray) : Ovr Y (w.setCell ⟨gx, k * 6, none⟩ (.string z)) gx NX vs := by
  obtain ⟨hy, cur, ha, hc⟩ := h.row (by omega)
  refine ⟨fun _ => ⟨hy, _, ha.set (k * 6) (.string z), fun q hq => ?_⟩, h.len, fun v hv => ?_⟩
  · obtain ⟨⟨p, h1⟩, h2⟩ := hc q hq
    refine ⟨?_, ?_⟩
    · rw [set_get h1]; split
      · exact ⟨_, rfl⟩
      · exact ⟨_, rfl⟩
    · rw [Array.getElem?_setIfInBounds, if_neg (by omega)]; exact h2
  · rcases h.root v hv with k' | ⟨g, n, cap, cur', e1, hb, hy', ha', hc'⟩
    · exact Or.inl k'
    · exact Or.inr ⟨g, n, cap, cur', e1, hb, hy', ha'.set_other gx _ _ (at_ne ha ha').symm, hc'⟩
theorem Ovr.setb {Y : Nat → Prop} {w : World} {gx NX : Nat} {vs : List Value} (h : Ovr Y w gx NX vs) {g n cap : Nat} (hv : Value.slice (some ⟨g, 0, none⟩) n cap ∈ vs) (i : Nat) (c : Int) : Ovr Y (w.setCell ⟨g, i, none⟩ (.int .u8 c)) gx NX vs := by
  have hg : ∃ cur, At w g cur 5 := by
    rcases h.root _ hv with k | ⟨g', n', cap', cur, e1, _, _, ha, _⟩
    · cases k
    · injection e1 with e1 _ _
      injection e1 with e1
      injection e1 with e1
      exact ⟨cur, e1 ▸ ha⟩
  obtain ⟨curg, hg⟩ := hg
  refine ⟨fun hn => ?_, h.len, fun v hv => ?_⟩
  · obtain ⟨hy, cur, ha, hc⟩ := h.row hn
    exact ⟨hy, cur, ha.set_other g _ _ (at_ne ha hg), hc⟩
  · rcases h.root v hv with k' | ⟨g', n', cap', cur', e1, hb, hy', ha', hc'⟩
    · exact Or.inl k'
    · by_cases e : g' = g
      · subst e
        refine Or.inr ⟨g', n', cap', _, e1, hb, hy', ha'.set i (.int .u8 c), fun q hq => ?_⟩
        obtain ⟨c', h1⟩ := hc' q hq
        rw [set_get h1]; split
        · exact ⟨_, rfl⟩
        · exact ⟨_, rfl⟩
      · exact Or.inr ⟨g', n', cap', cur', e1, hb, hy', ha'.set_other g _ _ e, hc'⟩
/-- What refs told may be written over. -/
theorem wx_of {w : World} {base : Nat} {v : Value} {l : List RV} (h : OwnRW w base v l) (hlen : ∀ x ∈ l, x.r.length ≤ 1000000) : ∃ gx cap ad, v = .slice ad l.length cap ∧ (0 < l.length → ad = some ⟨gx, 0, none⟩) ∧ Ovr (fun i => base ≤ i ∧ i < w.heap.size) w gx l.length (l.map RV.v) := by
  have root : ∀ v ∈ l.map RV.v, v = .slice none 0 0 ∨ ∃ g n cap cur, v = .slice (some ⟨g, 0, none⟩) n cap ∧ n ≤ 1000000 ∧ (base ≤ g ∧ g < w.heap.size) ∧ At w g cur 5 ∧ ∀ i, i < n → ∃ c, cur[i]? = some (.int .u8 c) := by
    intro v hv
    obtain ⟨x, hx, rfl⟩ := List.mem_map.1 hv
    rcases h.2 x hx with ⟨_, k⟩ | ⟨g, cap, cur, e1, e2, e3⟩
    · exact Or.inl k
    · have key : ∀ bh, Sha.Src w x.v x.r bh → g ≠ bh ∧ ∀ i, i < x.r.length → ∃ c, cur[i]? = some (.int .u8 c) := fun bh s => by
        obtain ⟨ad, cap', sb, so, k1, _, k3, k4, k5, _⟩ := s
        rw [e1] at k1
        injection k1 with k1 _ _
        rw [k3 e2] at k1
        injection k1 with k1
        injection k1 with k1 k2
        subst k1; subst k2
        refine ⟨k4, fun i hi => ⟨x.r[i]?.getD 0, ?_⟩⟩
        have := k5 i hi
        rw [Nat.zero_add, e3.cell] at this
        exact this
      refine Or.inr ⟨g, _, cap, cur, e1, hlen x hx, ⟨?_, e3.lt⟩, e3, (key _ (h.1.2 x hx _ (Or.inr (Or.inr (Nat.le_refl _))))).2⟩
      by_cases hb : base ≤ g
      · exact hb
      · exact absurd rfl (key g (h.1.2 x hx g (Or.inl (by omega)))).1
  obtain ⟨⟨⟨_, ⟨rfl, h0⟩ | ⟨g, cap, cur, rfl, hg, hw, hn, _, _, hx⟩⟩, _⟩, _⟩ := h
  · exact ⟨0, 0, none, by rw [h0], fun k => by omega, fun k => by omega, by simp, root⟩
  · have hw' : At w g cur 52 := hw
    refine ⟨g, cap, _, rfl, fun _ => rfl, fun _ => ⟨⟨hg, hw'.lt⟩, cur, hw', fun k hk => ?_⟩, by simp, root⟩
    obtain ⟨x, hx'⟩ : ∃ x, l[k]? = some x := ⟨_, List.getElem?_eq_getElem hk⟩
    have key : ∀ q, q < l.length * 6 → cur[q]? = (rcells l)[q]? := fun q hq => by
      rw [← hx, List.getElem?_take_of_lt hq, Array.getElem?_toList]
    refine ⟨⟨x.p, ?_⟩, ?_⟩
    · rw [key _ (by omega)]; exact rcells_get l k x 0 _ hx' rfl
    · rw [key _ (by omega), List.getElem?_map, hx']; exact rcells_get l k x 5 _ hx' rfl
theorem chg_set {Y : Nat → Prop} {w w' : World} (c : V.Chg Y w w') {b : Nat} (hb : Y b) (j : Nat) (v : Value) : V.Chg Y w (w'.setCell ⟨b, j, none⟩ v) := c.trans (V.Chg.setCell w' b j v) fun i _ e => by subst e; exact hb

/-- An archive that lies apart from Y, what it holds too. -/
def LvX (Y : Nat → Prop) (w0 : World) (sb ab g : Nat) (ds : List RD) (n d k : Nat) (con : Nat → List Int) (w : World) : Prop :=
  ∃ S W L v l ids, Arc w sb ab S W L g v l ∧ RR (fun i => Y i ∨ XL L ab i) w v l ∧ (∀ i, Y i → ¬ XL L ab i) ∧ l.map RV.d = ds ∧ V.Md S n d ids ids.length ∧ V.Con S ids con ∧ ids.length = k ∧ (∀ i, L i ≠ none → w0.heap.size ≤ i) ∧ w0.heap.size ≤ ab ∧ Ext w0 w
theorem LvX.ext {Y : Nat → Prop} {w0 w w' : World} {sb ab g n d k : Nat} {ds : List RD} {con : Nat → List Int} (h : LvX Y w0 sb ab g ds n d k con w) (e : Ext w w') : LvX Y w0 sb ab g ds n d k con w' := by
  obtain ⟨S, W, L, v, l, ids, A, R, hd, h1, h2, h3, h4, h5, h6, h7⟩ := h
  exact ⟨S, W, L, v, l, ids, A.ext e, R.ext e, hd, h1, h2, h3, h4, h5, h6, h7.trans e⟩
theorem LvX.cell {Y : Nat → Prop} {w0 w : World} {sb ab g n d k : Nat} {ds : List RD} {con : Nat → List Int} (h : LvX Y w0 sb ab g ds n d k con w) : w.cell? ⟨ab, 1, none⟩ = some (.int .i64 (g : Int)) := by
  obtain ⟨S, W, L, v, l, ids, A, _⟩ := h
  exact A.c.2.1
theorem LvX.e {Y : Nat → Prop} {w0 w : World} {sb ab g n d k : Nat} {ds : List RD} {con : Nat → List Int} (h : LvX Y w0 sb ab g ds n d k con w) : Ext w0 w := by
  obtain ⟨S, W, L, v, l, ids, A, R, hd, h1, h2, h3, h4, h5, h6, h7⟩ := h
  exact h7
/-- What lies in Y is written over: the archive stays. -/
theorem LvX.chg {Y : Nat → Prop} {w0 w w' : World} {sb ab g n d k : Nat} {ds : List RD} {con : Nat → List Int} (h : LvX Y w0 sb ab g ds n d k con w) (c : V.Chg Y w w') (hY : ∀ i, Y i → w0.heap.size ≤ i) : Lv w0 sb ab g ds n d k con w' := by
  obtain ⟨S, W, L, v, l, ids, A, R, hd, h1, h2, h3, h4, h5, h6, h7⟩ := h
  refine ⟨S, W, L, v, l, ids, ⟨A.rep.keep (fun i hi => c.block i (A.rep.lt i hi) fun y => hd i y (Or.inl hi)) c.size, A.nab, c.at A.cell fun y => hd ab y (Or.inr rfl), (R.chg c fun i y => Or.inl (Or.inl y)).mono fun i k => Or.inl (Or.inr k)⟩, h1, h2, h3, h4, h5, h6, ?_⟩
  refine Below.trans h7 ⟨c.os, c.tape, c.output, c.size, fun i hi => c.block i (Nat.lt_of_lt_of_le hi h7.size) fun y => ?_⟩
  have := hY i y
  omega
theorem LvX.of {Y : Nat → Prop} {w0 w w' : World} {sb ab g n d k : Nat} {ds : List RD} {con : Nat → List Int} (h : Lv w0 sb ab g ds n d k con w) (hY : ∀ i, Y i → w.heap.size ≤ i) (e : Ext w w') : LvX Y w0 sb ab g ds n d k con w' := by
  obtain ⟨S, W, L, v, l, ids, A, h1, h2, h3, h4, h5, h6, h7⟩ := h
  refine ⟨S, W, L, v, l, ids, A.ext e, (A.refs.mono fun i k => ?_).ext e, fun i y k => ?_, h1, h2, h3, h4, h5, h6, h7.trans e⟩
  · rcases k with k | k
    · exact Or.inr (hY i k)
    · exact Or.inl k
  · have := hY i y
    have := A.xlt i k
    omega
/-- What was made since is committed. -/
theorem Lv.commitX {w0 w w1 : World} {sb ab g n d k : Nat} {ds : List RD} {con : Nat → List Int} (h : Lv w0 sb ab g ds n d k con w) (hk : k = 3 ∨ k = 0) (hn : n ≤ 20000) (hK : KAt w0) (e1 : Ext w w1) {u : Value} {lu : List RV} (hr : OwnR w1 w.heap.size u lu)
    (hi : imageL (lu.map RV.d) = true) (hb : BytR (lu.map RV.d)) (hg : g ≤ 1000000) :
    Calls Tryz.prog 12 #[V.ptr ab, u] w1 fun e w' => e = .returned (.int .i64 0) ∧ LvX (fun i => w.heap.size ≤ i ∧ i < w1.heap.size) w0 sb ab (g + 1) (lu.map RV.d) (n + 24) d 3 (fun _ => pageI (g + 1) (lu.map RV.d)) w' ∧
      ∀ i, (w.heap.size ≤ i ∧ i < w1.heap.size) → w'.heap[i]? = w1.heap[i]? := by
  obtain ⟨S, W, L, v, l, ids, A, hd, MD, CN, h3, hL, hab, e⟩ := h
  have e' := e.trans e1
  have r1 : RR (XL L ab) w1 u lu := hr.rr fun i hi => A.xlt i hi
  refine (commit_own (A.ext e1) MD CN (hk.imp (fun q => by omega) (fun q => List.length_eq_zero_iff.1 (by omega))) hn (hK.below e' hK.lt) r1 hi hb hg).mono fun _ _ q => ⟨q.1, ?_⟩
  obtain ⟨S', W', L', v', l', ids', A', hd', MD', CN', hk', M, RX⟩ := q.2
  obtain ⟨b1, b2⟩ := M.below hL hab e'.size
  have dis : ∀ i, (w.heap.size ≤ i ∧ i < w1.heap.size) → ¬ XL L ab i := fun i hi k => by have := A.xlt i k; omega
  refine ⟨⟨S', W', L', v', l', ids', A', RX _ fun i hi => hi.2, fun i hi k => ?_, hd', MD', CN', hk', b2, hab, Below.trans e' b1⟩, fun i hi => M.chg.block i hi.2 (dis i hi)⟩
  rcases k with k | k
  · rcases M.lab i k with k | k
    · exact dis i hi (Or.inl k)
    · omega
  · exact dis i hi (Or.inr k)
/-- At the end it is opened: the elder archive shows what it did. -/
theorem Lv.open2 {w0 w : World} {sb ab g n d : Nat} {ds : List RD} (h : Lv w0 sb ab g ds n d 3 (fun _ => pageI g ds) w) (hn : n ≤ 20000) (hK : KAt w0) (hi : imageL ds = true) (hb : BytR ds) (ht : TimR ds) (hg : 1 ≤ g ∧ g ≤ 2000000) :
    Calls Tryz.prog 19 #[V.ptr sb] w fun e w' => ∃ ab', e = .returned (.tuple #[V.ptr ab', .int .i64 0]) ∧ Ext w0 w' ∧ ∀ w2, Ext w' w2 → ∀ (X : Nat → Prop) (u : Value) (lu : List RV), RR X w2 u lu → lu.map RV.d = ds →
      (Calls Tryz.prog 13 #[V.ptr ab, u, .int .i64 (g : Int)] w2 fun e w3 => e = .returned (.bool true) ∧ Ext w2 w3) ∧ (Calls Tryz.prog 13 #[V.ptr ab', u, .int .i64 (g : Int)] w2 fun e w3 => e = .returned (.bool true) ∧ Ext w2 w3) := by
  obtain ⟨S, W, L, v, l, ids, A, hd, MD, CN, h3, hL, hab, e⟩ := h
  refine (open_con A.rep MD CN h3 hn hK e hL g ds hi hb ht hg 0 1 (by omega) (by omega) rfl rfl).mono fun e' w' s => ?_
  obtain ⟨ab', w1, h1, h2, h3', e1, S', W', L', v', l', ids', A', hd', MD', CN', hk', M⟩ := s
  have hsz := e.size
  have hsz1 := e1.size
  have hal := A.lt
  obtain ⟨b1, b2⟩ := M.below (n := w0.heap.size) hL (by omega) (by omega)
  have nab : L' ab = none := by
    cases q : L' ab with
    | none => rfl
    | some x =>
      rcases M.lab ab (by rw [q]; simp) with k | k
      · exact absurd A.nab k
      · omega
  have cel := M.chg.at (A.ext e1).cell (show ¬ XL L ab' ab from fun k => by
    rcases k with k | k
    · exact k A.nab
    · omega)
  have rr1 : RR (fun i => XL L ab i ∨ w.heap.size ≤ i) w v l := A.refs.mono fun i k => k
  have rr2 := (rr1.ext e1).chg M.chg fun i k => by
    rcases k with k | k
    · exact Or.inl (Or.inl (Or.inl k))
    · exact Or.inl (Or.inr (by omega))
  have rr3 : RR (XL L' ab) w' v l := rr2.mono fun i k => by
    rcases k with k | k
    · rcases M.lab i k with q | q
      · exact Or.inl (Or.inl (Or.inl q))
      · exact Or.inl (Or.inr (by omega))
    · exact Or.inl (Or.inl (Or.inr k))
  have Aa : Arc w' sb ab S' W' L' g v l := ⟨A'.rep, nab, cel, rr3⟩
  refine ⟨ab', h1, Below.trans (e.trans e1) b1, fun w2 e2 X u lu hr hu => ⟨shows_ok (Aa.ext e2) (by rw [hd]; exact hi) X u lu hr (by rw [hd, hu]), shows_ok (A'.ext e2) (by rw [hd']; exact hi) X u lu hr (by rw [hd', hu])⟩⟩
/-- Between two rounds of ImageGens. -/
def BG (w0 : World) (sb ab g : Nat) (ds : List RD) (w : World) : Prop :=
  (g = 0 ∧ ∃ d, Lv w0 sb ab 0 [] 2 d 0 (fun _ => []) w) ∨ (1 ≤ g ∧ ∃ d, Lv w0 sb ab g ds (2 + 100 * g) d 3 (fun _ => pageI g ds) w)
theorem BG.e {w0 w : World} {sb ab g : Nat} {ds : List RD} (h : BG w0 sb ab g ds w) : Ext w0 w := by
  rcases h with ⟨_, d, h⟩ | ⟨_, d, h⟩
  · exact h.e
  · exact h.e
theorem Lv.up {w0 w : World} {sb ab g n m d k : Nat} {ds : List RD} {con : Nat → List Int} (h : Lv w0 sb ab g ds n d k con w) (hm : n ≤ m) : Lv w0 sb ab g ds m d k con w := by
  obtain ⟨S, W, L, v, l, ids, A, hd, MD, CN, hk, hL, hb, e⟩ := h
  exact ⟨S, W, L, v, l, ids, A, hd, MD.up hm, CN, hk, hL, hb, e⟩
theorem BG.commit {w0 w w1 : World} {sb ab g k : Nat} {ds : List RD} (h : BG w0 sb ab g ds w) (hgk : g + 1 = k) (hg : g ≤ 8) (hK : KAt w0) (e1 : Ext w w1) {u : Value} {lu : List RV} (hr : OwnR w1 w.heap.size u lu) (hd : lu.map RV.d = ds) (hi : imageL ds = true) (hb : BytR ds) :
    Calls Tryz.prog 12 #[V.ptr ab, u] w1 fun e w' => e = .returned (.int .i64 0) ∧ (∃ n d, n ≤ 2 + 100 * k ∧ LvX (fun i => w.heap.size ≤ i ∧ i < w1.heap.size) w0 sb ab k ds n d 3 (fun _ => pageI k ds) w') ∧
      ∀ i, (w.heap.size ≤ i ∧ i < w1.heap.size) → w'.heap[i]? = w1.heap[i]? := by
  subst hgk
  subst hd
  rcases h with ⟨rfl, d, h⟩ | ⟨_, d, h⟩
  · exact (h.commitX (Or.inr rfl) (by omega) hK e1 hr hi hb (by omega)).mono fun _ _ q => ⟨q.1, ⟨_, d, by omega, q.2.1⟩, q.2.2⟩
  · exact (h.commitX (Or.inl rfl) (by omega) hK e1 hr hi hb (by omega)).mono fun _ _ q => ⟨q.1, ⟨_, d, by omega, q.2.1⟩, q.2.2⟩
theorem Lv.all {w0 w : World} {sb ab g n d k : Nat} {ds : List RD} {con : Nat → List Int} (h : Lv w0 sb ab g ds n d k con w) (hi : imageL ds = true) : Calls Tryz.prog 22 #[V.ptr ab] w (ClPost w ds) := by
  obtain ⟨S, W, L, v, l, ids, A, hd, _⟩ := h
  rw [← hd]
  exact all_any A (by rw [hd]; exact hi)
/-- A row that All told: its Metas may be written over. -/
theorem meta_row {w : World} {base : Nat} {v : Value} {l : List RV} (h : OwnR w base v l) : ∃ gy cap ad, v = .slice ad l.length cap ∧ base ≤ gy ∧ (0 < l.length → ad = some ⟨gy, 0, none⟩) ∧ (0 < l.length → ∃ cur, At w gy cur 52 ∧ ∀ q, q < l.length → ∃ m, cur[q * 6 + 3]? = some (.int .i64 m)) := by
  obtain ⟨⟨_, ⟨rfl, h0⟩ | ⟨g, cap, cur, rfl, hg, hw, hn, _, _, hx⟩⟩, _⟩ := h
  · exact ⟨base, 0, none, by rw [h0], Nat.le_refl _, fun k => by omega, fun k => by omega⟩
  · refine ⟨g, cap, _, rfl, hg, fun _ => rfl, fun _ => ⟨cur, hw, fun k hk => ?_⟩⟩
    obtain ⟨x, hx'⟩ : ∃ x, l[k]? = some x := ⟨_, List.getElem?_eq_getElem hk⟩
    refine ⟨x.m, ?_⟩
    rw [← Array.getElem?_toList, show cur.toList[k * 6 + 3]? = (cur.toList.take (l.length * 6))[k * 6 + 3]? from (List.getElem?_take_of_lt (by omega)).symm, hx]
    exact rcells_get l k x 3 _ hx' rfl
set_option maxRecDepth 100000 in
set_option maxHeartbeats 8000000 in
/-- What is no image is refused. -/
theorem refuse_any (ab : Nat) (X : Nat → Prop) (v : Value) (l : List RV) (w : World) (h : RR X w v l) (hl : l.length ≤ 9223372036854775807) (hi : imageL (l.map RV.d) = false) :
    Calls Tryz.prog 12 #[V.ptr ab, v] w fun e w' => e = .returned (.int .i64 1) ∧ Ext w w' := by
  have MY := Lib.hid (may_any X v l w h hl)
  rw [hi] at MY
  obtain ⟨_, _, _, _, hrr⟩ := h
  obtain ⟨adu, capu, eu⟩ : ∃ ad cap, v = .slice ad l.length cap := ⟨_, _, hrr.val⟩
  obtain ⟨NU, hNU⟩ : ∃ n, n = l.length := ⟨_, rfl⟩
  rw [← hNU] at eu
  clear hi hrr hNU hl
  subst eu
  unfold V.ptr
  go_enter Tryz.func12, Tryz.ntmps12
  go_wp2_with fail
  refine (MY.out).mono ?_
  rintro e w1 ⟨rfl, e1⟩
  have F := Lib.hid e1
  clear MY e1
  go_wp2
  go_ret
  exact ⟨rfl, F.out⟩
/-- The image that is refused. -/
theorem bad_row (w : World) : RR (fun _ => False) (w.alloc (.cells #[.string ⟨#[46, 46]⟩, .int .i64 1, .int .i64 0, .int .i64 0, .int .u64 0, .slice none 0 0] 52)) (.slice (some ⟨w.heap.size, 0, none⟩) 1 1) [⟨⟨#[46, 46]⟩, 1, 0, 0, 0, .slice none 0 0, []⟩] := by
  have a := At.new w #[.string ⟨#[46, 46]⟩, .int .i64 1, .int .i64 0, .int .i64 0, .int .u64 0, .slice none 0 0] 52
  refine ⟨_, 1, w.heap.size, 0, rfl, by simp, fun _ => rfl, fun _ => ⟨fun k => k, a.lt⟩, fun j x hj q u hu => ?_, fun x hx => ?_⟩
  · have hj0 : j = 0 := by have := (List.getElem?_eq_some_iff.1 hj).1; simpa using this
    subst hj0
    simp at hj
    subst hj
    rw [show 0 + 0 * 6 + q = q by omega, a.cell]
    simpa [rcs] using hu
  · simp at hx; subst hx; exact Apt.nil _ _
theorem bad_image : imageL ([(⟨⟨#[46, 46]⟩, 1, 0, 0, 0, .slice none 0 0, []⟩ : RV)].map RV.d) = false := by decide +kernel
end Go.Proofs.YtnhokjnmpdiokaaGreatDoor
