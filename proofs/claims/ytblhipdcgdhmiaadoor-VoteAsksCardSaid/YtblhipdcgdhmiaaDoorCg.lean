/- The contract of the Writer's Done. -/
import Derived.Test.YtblhipdcgdhmiaaDoorCf
namespace Go.Proofs.YtblhipdcgdhmiaaDoor
open Go.RowKit Go.Sha

theorem done_nil (w : World) : Calls Tryd.prog 21 #[.pointer none] w fun e w' => e = .returned (.tuple #[.slice none 0 0, .bool false]) ∧ w = w' := by
  go_enter Tryd.func21, Tryd.ntmps21
  go_wp2
  go_ret2
  exact ⟨rfl, rfl⟩
theorem done_bad (b : Nat) (w : World) (h : WSt w b none) : Calls Tryd.prog 21 #[.pointer (some ⟨b, 0, none⟩)] w fun e w' => e = .returned (.tuple #[.slice none 0 0, .bool false]) ∧ w = w' := by
  have c1 : w.cell? ⟨b, 259, none⟩ = some (.bool true) := Wat.cell_bad (p := .pointer none) h
  clear h
  go_enter Tryd.func21, Tryd.ntmps21
  go_wp2
  go_ret2
  exact ⟨rfl, rfl⟩
def InvD (w : World) (b : Nat) (l : List Int) (g : Nat) (en c : Value) (wr : World) : Prop :=
  ∃ rest suf E, l = rest.reverse.flatten ++ suf ∧ E = 256 * rest.length ∧ en = .int .i64 (E : Nat) ∧ Chain w b c rest ∧ Ext w wr ∧ At wr g (bs (List.replicate E 0 ++ suf)) 5
/-- copy into the middle of a block; where nothing goes over, to whatever address. -/
theorem list_copy2 {P : Program} {w : World} {ops : Array Oper} {rest : List Oper} {o : Oper} {a : Act} {Q : Exit → Act → World → Prop} (hgd : o.guard = none) (d s : Operand) (dT sT : TypeId)
    (ho : o.op = .call { callee := .builtin .copy, args := #[d, s], argTypes := #[dT, sT] }) (elem : TypeId) (hu : P.underlying dT = some (.slice elem)) (hsz : (P.info? elem).map (·.size) = some 1)
    (b off dLen dCap : Nat) (da : Option Addr) (ad : Addr) (sLen sCap : Nat) (hd : a.eval d = .slice da dLen dCap) (hda : 0 < Nat.min sLen dLen → da = some ⟨b, off, none⟩) (hs : a.eval s = .slice (some ad) sLen sCap)
    (cs : List Value) (q : Nat) (hq : cs.length = q) (hn : q = Nat.min sLen dLen) (hsrc : ∀ j v, cs[j]? = some v → w.cell? (ad.add j) = some v) (ht : w.there b off q) (h1 : ∀ v ∈ cs, v.oneCell' = true)
    (h : wpList P ops Q rest (a.put o.dst (.int .i64 q)) (w.setCells b off cs)) : wpList P ops Q (o :: rest) a w := by
  by_cases h0 : 0 < Nat.min sLen dLen
  · rw [hda h0] at hd
    exact list_copy hgd d s dT sT ho elem hu hsz b off dLen dCap ad sLen sCap hd hs cs q hq hn hsrc ht h1 h
  · have h0 : Nat.min sLen dLen = 0 := by omega
    have hc : cs = [] := List.length_eq_zero_iff.1 (by omega)
    subst hc
    rw [h0] at hn
    subst hn
    refine wpList_plain hgd fun K hK => ?_
    have hrun := run_copy_none (P := P) w dT sT o.type elem da (some ad) dLen dCap sLen sCap hu hsz h0
    unfold Oper.wp
    simp [execOp, ho, resolve, invoke, builtin, hd, hs, hrun, Result.andThen]
    exact hK _ _ h
set_option maxHeartbeats 1000000 in
set_option maxRecDepth 100000 in
theorem done_any (b : Nat) (l : List Int) (w : World) (h : WSt w b (some l)) (hl : l.length ≤ 1000000) :
    Calls Tryd.prog 21 #[.pointer (some ⟨b, 0, none⟩)] w fun e w' => ∃ v, e = .returned (.tuple #[v, .bool true]) ∧ Ext w w' ∧ OwnB w' w.heap.size v l := by
  obtain ⟨cs, t, p, hR⟩ := h
  have hlen := hR.len
  have ht := hR.ht
  obtain ⟨pq, rfl⟩ := chain_ptr hR.hc
  have cn := hR.hat.cell_n
  have ck := hR.hat.cell_k
  have cb := hR.hat.cell_bad
  obtain ⟨k, hk⟩ : ∃ k, k = t.length := ⟨_, rfl⟩
  obtain ⟨n, hn⟩ : ∃ n, n = cs.length := ⟨_, rfl⟩
  obtain ⟨E, hE⟩ : ∃ E, E = 256 * n := ⟨_, rfl⟩
  obtain ⟨N, hN⟩ : ∃ N, N = E + k := ⟨_, rfl⟩
  rw [← hk] at ck ht hlen
  rw [← hn] at cn hlen
  have hlt := hR.hat.at_.lt
  have e1 : Ext w (w.alloc (.cells (madeCells #[Value.int .u8 0] N) 5)) := Ext.alloc w _
  have a1 := At.new w (bs (List.replicate N 0)) 5
  rw [← made_bs] at a1
  have hmk := fun w => run_make_row' (P := Tryd.prog) 22 5 (.int .u8 0) 1 Tryd.underlying22 u8zero rfl .i64 .i64 N (by omega) (by omega) w
  have m1 : (n : Int) * 256 = (E : Int) := by omega
  have m2 : (E : Int) + (k : Int) = (N : Int) := by omega
  have w1 : wrap64 (E : Int) = (E : Int) := IntWalk.wrap64_in _ (by omega)
  have w2 : wrap64 (N : Int) = (N : Int) := IntWalk.wrap64_in _ (by omega)
  have Hk := Lib.hid hk; clear hk
  have Hn := Lib.hid hn; clear hn
  have HE := Lib.hid hE; clear hE
  have HN := Lib.hid hN; clear hN
  have Hl := Lib.hid hlen; clear hlen
  have HR := Lib.hid hR; clear hR
  have ck1 : (w.alloc (.cells (madeCells #[Value.int .u8 0] N) 5)).cell? ⟨b, 258, none⟩ = some (.int .i64 k) := by rw [Hk.out]; exact (HR.out.hat.below e1).cell_k
  go_enter Tryd.func21, Tryd.ntmps21
  go_upto_region 5 with fail
  rw [w1, w2]
  rw [made_bs] at a1 e1 ck1 ⊢
  have h1 := HR.out.hat.below e1
  rw [← Hk.out, ← Hn.out] at h1
  clear ck cn cb hmk m1 m2 w1 w2
  have hg : w.heap.size ≤ w.heap.size := Nat.le_refl _
  have hgb : w.heap.size ≠ b := by omega
  generalize w.alloc (.cells (bs (List.replicate N 0)) 5) = W1 at *
  obtain ⟨g, hgg⟩ : ∃ g, g = w.heap.size := ⟨_, rfl⟩
  rw [← hgg] at hgb a1 ⊢
  have Hg := Lib.hid hgg; clear hgg hg hlt
  have hsrc : ∀ i v, (t.map (Value.int .u8))[i]? = some v → W1.drew.cell? ((⟨b, 2, none⟩ : Addr).add i) = some v := fun i v hv => by
    have hi : i < t.length := by simpa using (List.getElem?_eq_some_iff.1 hv).1
    rw [Addr.add_mid]
    refine h1.range_wt i v ?_
    rw [← hv, pad256, List.map_append, List.getElem?_append_left (by simpa using hi)]
  have hl1 : (0 : Int) ≤ (k : Int) := by omega
  have hl2 : (k : Int) ≤ 256 := by omega
  have hE1 : (0 : Int) ≤ (E : Int) := by omega
  have hE2 : (E : Int) ≤ (N : Int) := by have := HN.out; omega
  have hN0 : N - E = k := by have := HN.out; omega
  have hth : W1.drew.there g E k := a1.drew.there_bs E k (by rw [List.length_replicate]; have := HN.out; omega)
  have a2 : At (W1.drew.setCells g E (t.map (Value.int .u8))) g (bs (List.replicate E 0 ++ t)) 5 := by
    have h9 : At W1.drew g (bs (List.replicate (E + t.length) 0 ++ [])) 5 := by rw [← Hk.out, ← HN.out, List.append_nil]; exact a1
    have := At.put_new h9
    rwa [List.append_nil] at this
  have e2 : Ext w (W1.drew.setCells g E (t.map (Value.int .u8))) := ext_cells (ext_drew e1) (by rw [Hg.out]; exact Nat.le_refl _) _ _
  have Hsrc := Lib.hid hsrc; clear hsrc
  have H1 := Lib.hid h1; clear h1
  have Hth := Lib.hid hth; clear hth
  have HA2 := Lib.hid a2; clear a2
  have A1 := Lib.hid a1; clear a1
  have HE2 := Lib.hid e2; clear e2
  go_wp2
  go_still_tail 11, (by kernel_rfl)
  change wpList _ _ _ _ _ W1.drew
  have hd : 0 < Nat.min k k → (if N = E then some (⟨g, 0, none⟩ : Addr) else some ⟨g, E, none⟩) = some ⟨g, E, none⟩ := fun hq => by
    rw [show k.min k = k from Nat.min_self k] at hq
    rw [if_neg (by have := HN.out; omega)]
  have Hd := Lib.hid hd; clear hd
  generalize (if N = E then some (⟨g, 0, none⟩ : Addr) else some ⟨g, E, none⟩) = DA at *
  refine list_copy2 rfl (.tmp 29) (.tmp 37) 22 22 rfl 5 Tryd.underlying22 sz5 g E k k _ ⟨b, 2, none⟩ k 256 rfl Hd.out rfl (t.map (Value.int .u8)) k (by rw [List.length_map, Hk.out]) (by simp) Hsrc.out Hth.out (by simp [Value.oneCell']) ?_
  generalize W1.drew.setCells g E (t.map (Value.int .u8)) = W2 at *
  simp only [Act.put, List.setIfInBounds_toArray, List.set_cons_zero, List.set_cons_succ]
  clear Hsrc H1 Hth A1 ck1 hN0
  have h2 := HR.out.hat.below HE2.out
  have cp := h2.cell_p
  clear h2
  clear Hd
  go_wp2
  go_loopw [4, 6] (fun en c wr => InvD w b l g en c wr) (fun en _ _ => (intOf en).toNat)
  case atStart => exact ⟨cs, t, E, HR.out.hl, by rw [HE.out, Hn.out], rfl, HR.out.hc, HE2.out, HA2.out⟩
  case round =>
    clear cp HA2 HE2
    obtain ⟨rest, suf, E', hl', hE', rfl, hch, he, ha⟩ := hrel
    have hN : N = l.length := by rw [HN.out, HE.out, Hl.out]
    have hN2 : l.length = E' + suf.length := by rw [hl', List.length_append, hch.flat, hE']
    cases rest with
    | nil =>
      obtain rfl : _ = Value.pointer none := hch
      have h0 : E' = 0 := by rw [hE']; rfl
      subst h0
      have hls : suf = l := by rw [hl']; simp
      subst hls
      have ha' : At wr g (bs suf) 5 := by simpa using ha
      have HA := Lib.hid ha'
      have HN' := Lib.hid hN
      clear ha ha' hN hN2 hl' hE'
      go_wp2
      go_ret2
      exact ⟨_, rfl, he, own_of_at (by rw [Hg.out]; exact Nat.le_refl _) HA.out HN'.out.symm (by rw [HN'.out]; exact hl)⟩
    | cons ch r =>
      obtain ⟨cg, cq, rfl, hcb, hc256, hcat, hchr⟩ := hch
      obtain ⟨cq, rfl⟩ := chain_ptr hchr
      have hcw := hcat.below he hcat.lt
      have hcg : cg ≠ g := by have := hcat.lt; rw [Hg.out]; omega
      obtain ⟨E2, hE2⟩ : ∃ E2, E2 = 256 * r.length := ⟨_, rfl⟩
      obtain rfl : E' = E2 + 256 := by rw [hE', List.length_cons, hE2]; omega
      have ha1 : At wr.drew g (bs (List.replicate (E2 + ch.length) 0 ++ suf)) 5 := by rw [hc256]; exact ha
      have ha2 := At.put_new ha1
      have e2 : Ext w (wr.drew.setCells g E2 (ch.map (Value.int .u8))) := ext_cells (ext_drew he) (by rw [Hg.out]; exact Nat.le_refl _) _ _
      have cc2 : (wr.drew.setCells g E2 (ch.map (Value.int .u8))).cell? ⟨cg, 0, none⟩ = some (.pointer cq) := by
        have := (Only.cells g (ch.map (Value.int .u8)) E2 wr.drew).at hcw.drew hcg
        rw [this.cell]; rfl
      have hth : wr.drew.there g E2 256 := ha1.there_bs E2 256 (by rw [List.length_append, List.length_replicate, hc256]; omega)
      have hsrc : ∀ i v, (ch.map (Value.int .u8))[i]? = some v → wr.drew.cell? ((⟨cg, 1, none⟩ : Addr).add i) = some v := fun i v hv => by
        rw [Addr.add_mid]
        show wr.cell? _ = _
        rw [hcw.cell, ← hv, Nat.add_comm]
        simp
      have hl2 : l = r.reverse.flatten ++ (ch ++ suf) := by rw [hl']; simp
      have i1 : (0 : Int) ≤ (E2 : Int) := by omega
      have i2 : (E2 : Int) ≤ (N : Int) := by omega
      have i3 : (E2 : Int) ≤ 1000000 := by omega
      have hne : ¬ (N = E2) := by omega
      have hmin : 256 = Nat.min 256 (N - E2) := by show 256 = min 256 (N - E2); omega
      have Hmin := Lib.hid hmin
      have Hth := Lib.hid hth
      have Hsrc := Lib.hid hsrc
      have Hl2 := Lib.hid hl2
      have HA2 := Lib.hid ha2
      have E22 := Lib.hid hE2
      have Hc := Lib.hid hchr
      have H256 := Lib.hid hc256
      clear hmin hth hsrc hl2 ha2 hE2 hchr hc256 ha1 ha hl' hE' hcw hcat hN hN2
      go_wp2
      go_still_tail 7, (by kernel_rfl)
      change wpList _ _ _ _ _ wr.drew
      refine list_copy rfl (.tmp 53) (.tmp 57) 22 22 rfl 5 Tryd.underlying22 sz5 g E2 (N - E2) (N - E2) ⟨cg, 1, none⟩ 256 256 rfl rfl (ch.map (Value.int .u8)) 256 (by rw [List.length_map]; exact H256.out) Hmin.out Hsrc.out Hth.out (by simp [Value.oneCell']) ?_
      generalize wr.drew.setCells g E2 (ch.map (Value.int .u8)) = W3 at *
      simp only [Act.put, List.setIfInBounds_toArray, List.set_cons_zero, List.set_cons_succ]
      go_wp2
      exact ⟨⟨r, ch ++ suf, E2, Hl2.out, E22.out, rfl, Hc.out, e2, HA2.out⟩, by simp [intOf]; omega⟩
end Go.Proofs.YtblhipdcgdhmiaaDoor
