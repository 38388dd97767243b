/- Contract of moved. -/
import Derived.Test.YtbneedmfpldpfaaDoorGb
set_option linter.unusedSimpArgs false
namespace Go.Proofs.YtbneedmfpldpfaaDoor
open Go.RowKit Go.Pth

/-- Names with another beginning. -/
def mvd (l : List Nm) (f t : B) : List Nm := l.map fun e => (t ++ e.1.drop f.length, e.2)
theorem mvd_len (l : List Nm) (f t : B) : (mvd l f t).length = l.length := by simp [mvd]
/-- While they are moved. -/
def mvK (l : List Nm) (f t : B) (k : Nat) : List Nm := mvd (l.take k) f t ++ l.drop k
theorem mvK_len (l : List Nm) (f t : B) (k : Nat) : (mvK l f t k).length = l.length := by simp [mvK, mvd]; omega
theorem mvK_at (l : List Nm) (f t : B) (k : Nat) (h : k < l.length) : (mvK l f t k)[k]? = some l[k] := by
  unfold mvK
  have hl : (mvd (l.take k) f t).length = k := by simp [mvd]; omega
  rw [List.getElem?_append_right (by omega), hl, Nat.sub_self, List.getElem?_drop, Nat.add_zero, List.getElem?_eq_getElem h]
theorem mvK_set (l : List Nm) (f t : B) (k : Nat) (h : k < l.length) : (mvK l f t k).set k (t ++ l[k].1.drop f.length, l[k].2) = mvK l f t (k + 1) := by
  unfold mvK
  have hl : (mvd (l.take k) f t).length = k := by simp [mvd]; omega
  rw [List.set_append_right _ _ (by omega), hl, Nat.sub_self, List.drop_eq_getElem_cons h, List.set_cons_zero, List.take_succ_eq_append_getElem h]
  unfold mvd
  rw [List.map_append, List.append_assoc]
  rfl
theorem ents_set (m : List Nm) (k : Nat) (p : B) (h : k < m.length) : (ents m).set (k * 2) (.string (tx p)) = ents (m.set k (p, m[k].2)) := by
  induction m generalizing k with
  | nil => simp at h
  | cons x r ih =>
    cases k with
    | zero => simp [ents]
    | succ k =>
      have := ih k (by simpa using h)
      simp only [ents, List.flatMap_cons] at this ⊢
      rw [show (k + 1) * 2 = k * 2 + 1 + 1 by omega]
      simpa [ents] using this
/-- A cell of a row set. -/
theorem Row.set1 {w : World} {e : TypeId} {K g cap n : Nat} {xs : List Value} (h : Row w e K (.slice (some ⟨g, 0, none⟩) n cap) n xs) (q : Nat) (u : Value) :
    Row (w.setCell ⟨g, q, none⟩ u) e K (.slice (some ⟨g, 0, none⟩) n cap) n (xs.set q u) := by
  rcases h.2 with ⟨h1, h2⟩ | ⟨g', cap', cur, hv, hb, hg, hn, hc, hcs, hxs⟩
  · cases h1
  · injection hv with h1 h3 h4
    injection h1 with h1
    injection h1 with h1
    subst h1 h4
    have hat : At w g cur e := hg
    refine ⟨by rw [List.length_set]; exact h.1, .inr ⟨g, cap, _, rfl, hb, hat.set q u, hn, hc, by simpa using hcs, ?_⟩⟩
    rw [← hxs, Array.toList_setIfInBounds, List.take_set]
theorem Row.cellK {w : World} {e : TypeId} {K g cap n : Nat} {xs : List Value} (h : Row w e K (.slice (some ⟨g, 0, none⟩) n cap) n xs) (q : Nat) (hq : q < n * K) : w.cell? ⟨g, q, none⟩ = xs[q]? ∧ w.frozen? ⟨g, q, none⟩ = false := by
  rcases h.2 with ⟨h1, h2⟩ | ⟨g', cap', cur, hv, hb, hg, hn, hc, hcs, hxs⟩
  · cases h1
  · injection hv with h1 h3 h4
    injection h1 with h1
    injection h1 with h1
    subst h1
    have hat : At w g cur e := hg
    exact ⟨by rw [hat.cell, ← hxs, List.getElem?_take_of_lt hq, Array.getElem?_toList], hat.frozen q⟩
theorem Row.ownK {w : World} {e : TypeId} {K : Nat} {v : Value} {n : Nat} {xs : List Value} (h : Row w e K v n xs) (hn : 0 < n) : ∃ g cap, v = .slice (some ⟨g, 0, none⟩) n cap ∧ n ≤ cap ∧ cap ≤ maxLen := by
  rcases h.2 with ⟨_, h2⟩ | ⟨g, cap, cur, hv, _, _, h1, h2, _⟩
  · omega
  · exact ⟨g, cap, hv, h1, h2⟩

def InvMv (w : World) (l : List Nm) (f t : B) (g n cap : Nat) (i : Value) (wr : World) : Prop :=
  ∃ k : Nat, k ≤ n ∧ i = .int .i64 k ∧ Ext w wr ∧ Row wr 64 2 (.slice (some ⟨g, 0, none⟩) n cap) n (ents (mvK l f t k))
def MvPost (w : World) (m : List Nm) (e : Ending) (w' : World) : Prop := ∃ v', e = .returned v' ∧ Row w' 64 2 v' m.length (ents m) ∧ Ext w w' ∧ ∀ q, v'.ownBlock = some q → w.heap.size ≤ q

set_option maxRecDepth 100000 in
set_option maxHeartbeats 8000000 in
theorem moved_any (v : Value) (l : List Nm) (f t : ByteArray) (w : World) (h : Tr w v l) (h0 : 0 < l.length) (hl : l.length ≤ 1000000) (hpre : ∀ e ∈ l, f.size ≤ e.1.length ∧ e.1.length ≤ 1000000) (ht : t.size ≤ 1000000) :
    Calls Tryd.prog 43 #[v, .string f, .string t] w (MvPost w (mvd l f.toList t.toList)) := by
  have CL := Lib.hid (clonetr_any v l w h h0 hl)
  have HPre := Lib.hid hpre
  clear h hpre
  obtain ⟨n, hn⟩ : ∃ n, n = l.length := ⟨_, rfl⟩
  have HN := Lib.hid hn
  rw [← hn] at h0 hl CL
  clear hn
  go_enter Tryd.func43, Tryd.ntmps43
  go_wp2_with fail
  refine (CL.out).mono ?_
  rintro e w1 ⟨v1, rfl, r1, e1, f1⟩
  obtain ⟨g, cap, hv1, hc1, hc2⟩ := Row.ownK r1 h0
  subst hv1
  have hg := f1 g rfl
  simp only [maxLen] at hc2
  have I0 : InvMv w l f.toList t.toList g n cap (.int .i64 0) w1 := ⟨0, by omega, rfl, e1, by simpa [mvK, mvd] using r1⟩
  clear CL r1 e1 f1
  go_wp2
  go_loopw [13] (fun i wr => InvMv w l f.toList t.toList g n cap i wr) (fun i _ => n - (intOf i).toNat)
  case atStart => exact I0
  case round =>
    obtain ⟨k, hk, rfl, he, hr⟩ := hrel
    by_cases hlt : k < n
    · have hkl : k < l.length := by rw [← HN.out]; exact hlt
      have hml : (mvK l f.toList t.toList k).length = n := by rw [mvK_len, ← HN.out]
      have hat := mvK_at l f.toList t.toList k hkl
      have hkm : k < (mvK l f.toList t.toList k).length := by rw [hml]; exact hlt
      have hge : (mvK l f.toList t.toList k)[k] = l[k] := by
        rw [List.getElem?_eq_getElem hkm] at hat
        injection hat
      have eg := ents_get _ k hkm
      rw [hge] at eg
      have c1 := (Row.cellK hr (k * 2) (by omega))
      have c2 := (Row.cellK hr (k * 2 + 1) (by omega))
      rw [eg.1] at c1
      rw [eg.2] at c2
      obtain ⟨hp, hpb⟩ := HPre.out l[k] (List.getElem_mem hkl)
      have hset := ents_set (mvK l f.toList t.toList k) k (t.toList ++ l[k].1.drop f.toList.length) hkm
      rw [hge, mvK_set l f.toList t.toList k hkl] at hset
      obtain ⟨W1, hW1⟩ : ∃ W1, W1 = wr.alloc (.cells #[.string (tx l[k].1), ptr l[k].2] 64) := ⟨_, rfl⟩
      have e2 : Ext wr W1 := by rw [hW1]; exact Ext.alloc _ _
      have r2 := hr.ext e2
      have r3 := Row.set1 r2 (k * 2) (.string (tx (t.toList ++ l[k].1.drop f.toList.length)))
      rw [hset] at r3
      have hcx : W1.cell? ⟨wr.heap.size, 0, none⟩ = some (.string (tx l[k].1)) := by rw [hW1, (At.new wr #[.string (tx l[k].1), ptr l[k].2] 64).cell]; rfl
      have c4 := Row.cellK r2 (k * 2) (by omega)
      rw [eg.1] at c4
      have e3 : Ext w (W1.setCell ⟨g, k * 2, none⟩ (.string (tx (t.toList ++ l[k].1.drop f.toList.length)))) := ((Chg.of_ext (X := fun _ => False) (he.trans e2)).trans (Chg.setCell W1 g (k * 2) _) (fun i hi e => by omega)).ext
      have R3 := Lib.hid r3
      have E3 := Lib.hid e3
      have hfs : f.toList.length = f.size := by rw [← tx_size, list_tx]
      rw [hfs] at R3 E3
      have hcut : t ++ (tx l[k].1).extract f.size (tx l[k].1).size = tx (t.toList ++ l[k].1.drop f.size) := by
        rw [← list_tx (t ++ (tx l[k].1).extract f.size (tx l[k].1).size), tx_app, tx_cut, tx_list, tx_size, List.take_of_length_le (by rw [List.length_drop]; omega)]
      have hsz : (tx l[k].1).size = l[k].1.length := tx_size _
      have HCut := Lib.hid hcut
      obtain ⟨c1a, c1b⟩ := c1
      obtain ⟨c2a, c2b⟩ := c2
      obtain ⟨c4a, c4b⟩ := c4
      clear hset r3 e3 hfs hcut eg hge hkm hat hml r2 hr e2 he I0
      unfold ptr at *
      generalize l[k].1 = xp at *
      generalize l[k].2 = xn at *
      have i0 : (0 : Int) ≤ (k : Int) := by omega
      have i1 : (k : Int) < (n : Int) := by omega
      have i2 : (f.size : Int) ≤ (xp.length : Int) := by omega
      have i3 : ¬ 9223372036854775807 < t.size + (xp.length - f.size) := by omega
      rw [hsz] at HCut
      subst hW1
      go_wp2
      case roundEnd =>
        refine ⟨⟨k + 1, by omega, by norm_cast, ?_, ?_⟩, by show n - ((k : Int) + 1).toNat < n - ((k : Int)).toNat; omega⟩
        · rw [HCut.out]; exact E3.out
        · rw [HCut.out]; exact R3.out
    · obtain rfl : k = n := by omega
      have hfin : mvK l f.toList t.toList k = mvd l f.toList t.toList := by
        unfold mvK
        rw [List.take_of_length_le (by rw [← HN.out]; omega), List.drop_of_length_le (by rw [← HN.out]; omega), List.append_nil]
      rw [hfin] at hr
      have HR := Lib.hid hr
      have HE := Lib.hid he
      clear hr he hfin I0
      go_wp2
      go_ret
      exact ⟨_, rfl, by rw [mvd_len, ← HN.out]; exact HR.out, HE.out, fun q hq => by injection hq with hq; rw [← hq]; exact hg⟩
end Go.Proofs.YtbneedmfpldpfaaDoor
