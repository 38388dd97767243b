/- Contracts of spend, begin, mark, there, file. -/
import Derived.Test.YtbneedmfpldpfaaDoorSa
namespace Go.Proofs.YtbneedmfpldpfaaDoor
open Go.RowKit Go.Pth

theorem Rep.c {w : World} {b : Nat} {S : SV} {V : SW} {L : Nat → Option Role} (h : Rep w b S V L) (j : Nat) : w.cell? ⟨b, j, none⟩ = (scells S V)[j]? := h.cell.cell j
theorem Rep.fz {w : World} {b : Nat} {S : SV} {V : SW} {L : Nat → Option Role} (h : Rep w b S V L) (j : Nat) : w.frozen? ⟨b, j, none⟩ = false := h.cell.frozen j
def SV.spend (S : SV) : SV := if S.power = 1 then (if S.left = 0 then { S with power := 2 } else { S with left := S.left - 1 }) else S
set_option maxRecDepth 100000 in
set_option maxHeartbeats 4000000 in
theorem spend_any (b : Nat) (S : SV) (V : SW) (L : Nat → Option Role) (w : World) (h : Rep w b S V L) (hl : 0 ≤ S.left ∧ S.left ≤ 9223372036854775807) :
    Calls Tryd.prog 52 #[ptr b] w fun e w' => e = .returned (.tuple #[]) ∧ Rep w' b S.spend V L ∧ StTo w w' L L := by
  have c5 := h.c 5
  have c6 := h.c 6
  have f5 := h.fz 5
  have f6 := h.fz 6
  simp only [scells] at c5 c6
  have H := Lib.hid h
  clear h
  unfold ptr
  by_cases h1 : S.power = 1
  · have q1 : (S.power == 1) = true := by simpa using h1
    by_cases h2 : S.left = 0
    · have q2 : (S.left == 0) = true := by simpa using h2
      have e : Hid (S.spend = { S with power := 2 }) := Lib.hid (by unfold SV.spend; rw [if_pos h1, if_pos h2])
      have R := Lib.hid (H.out.setc (S' := { S with power := 2 }) (V' := V) 5 (.int .i64 2) rfl rfl rfl rfl rfl rfl rfl)
      clear h1 h2
      go_enter Tryd.func52, Tryd.ntmps52
      go_wp2
      go_end0
      exact ⟨rfl, by rw [e.out]; exact R.out.1, R.out.2⟩
    · have q2 : (S.left == 0) = false := by simpa using h2
      have e : Hid (S.spend = { S with left := S.left - 1 }) := Lib.hid (by unfold SV.spend; rw [if_pos h1, if_neg h2])
      have R := Lib.hid (H.out.setc (S' := { S with left := S.left - 1 }) (V' := V) 6 (.int .i64 (S.left - 1)) rfl rfl rfl rfl rfl rfl rfl)
      obtain ⟨l1, l2⟩ := hl
      generalize S.left = lf at *
      have l3 : 0 < lf := by omega
      clear h1 h2
      go_enter Tryd.func52, Tryd.ntmps52
      go_wp2
      go_end0
      exact ⟨rfl, by rw [e.out]; exact R.out.1, R.out.2⟩
  · have q1 : (S.power == 1) = false := by simpa using h1
    have e : Hid (S.spend = S) := Lib.hid (by unfold SV.spend; rw [if_neg h1])
    clear h1
    go_enter Tryd.func52, Tryd.ntmps52
    go_wp2
    go_end0
    exact ⟨rfl, by rw [e.out]; exact H.out, StTo.refl _ _⟩

def SV.beg (S : SV) : SV := ({ S with ops := S.ops + 1 } : SV).spend
def SV.begE (S : SV) (ps : List B) : Int := if S.beg.power = 2 then 7 else if ps.all valid then 0 else 1
def InvPa (w : World) (l : List B) (s25 : Value) (wr : World) : Prop := ∃ k : Nat, k ≤ l.length ∧ s25 = .int .i64 k ∧ (l.take k).all valid = true ∧ Ext w wr
theorem valid_acc (a : ByteArray) {w0 w : World} (h : Ext w0 w) : Calls Tryd.prog 44 #[.string a] w fun e w' => e = .returned (.bool (valid a.toList)) ∧ Ext w0 w' :=
  (valid_any a w).mono fun _ _ ⟨x, y⟩ => ⟨x, h.trans y⟩
set_option maxRecDepth 100000 in
set_option maxHeartbeats 4000000 in
theorem begin_any (b : Nat) (S : SV) (V : SW) (L : Nat → Option Role) (v : Value) (ps : List B) (w : World) (h : Rep w b S V L) (hl : 0 ≤ S.left ∧ S.left ≤ 9223372036854775807) (ho : 0 ≤ S.ops ∧ S.ops ≤ 1000000) (ht : Txt w v ps) (hps : ps.length ≤ 2) (htb : ∀ ad n c, v = .slice (some ad) n c → L ad.block = none) :
    Calls Tryd.prog 30 #[ptr b, v] w fun e w' => e = .returned (.int .i64 (S.begE ps)) ∧ Rep w' b S.beg V L ∧ StTo w w' L L := by
  obtain ⟨ad, cap, tb, rfl, hta, htc⟩ := ht
  have c7 := h.c 7
  have f7 := h.fz 7
  simp only [scells] at c7
  have R1 := Lib.hid (h.setc (S' := { S with ops := S.ops + 1 }) (V' := V) 7 (.int .i64 (S.ops + 1)) rfl rfl rfl rfl rfl rfl rfl)
  have SP := Lib.hid (spend_any b { S with ops := S.ops + 1 } V L _ R1.out.1 hl)
  have tcell : Hid (∀ w', StTo w w' L L → ∀ j, j < ps.length → w'.cell? ⟨tb, j, none⟩ = some (.string (tx (ps[j]?.getD [])))) := Lib.hid (fun w' hs j hj =>
    hs.chg.cell (htc j hj) (by rw [htb ⟨tb, 0, none⟩ _ _ (by rw [hta (by omega)])]; simp))
  have hadr := Lib.hid hta
  unfold ptr at SP ⊢
  have E : Hid (S.beg = ({ S with ops := S.ops + 1 } : SV).spend) := Lib.hid rfl
  have EE : Hid (S.begE ps = if S.beg.power = 2 then 7 else if ps.all valid then 0 else 1) := Lib.hid rfl
  obtain ⟨o1, o2⟩ := ho
  clear h hl hta htc htb
  generalize S.beg = S1 at *
  generalize S.begE ps = ER at *
  generalize S.ops = op at *
  generalize hW : w.setCell ⟨b, 7, none⟩ (.int .i64 (op + 1)) = W at *
  have HW := Lib.hid hW
  go_enter Tryd.func30, Tryd.ntmps30
  go_wp2_with fail
  refine (SP.out).mono ?_
  rintro e w1 ⟨rfl, r1, t1⟩
  rw [← E.out] at r1
  have c5 := r1.c 5
  simp only [scells] at c5
  have R2 := Lib.hid (⟨r1, R1.out.2.trans t1⟩ : _ ∧ _)
  clear r1 t1 SP R1 hW HW c7 f7
  by_cases h2 : S1.power = 2
  · have q : (S1.power == 2) = true := by simpa using h2
    rw [if_pos h2] at EE
    clear h2
    go_wp2
    go_ret
    exact ⟨retv (by rw [EE.out] <;> rfl), R2.out.1, R2.out.2⟩
  · have q : (S1.power == 2) = false := by simpa using h2
    rw [if_neg h2] at EE
    clear h2
    have tc := Lib.hid (fun j hj => tcell.out w1 R2.out.2 j hj)
    clear tcell
    have E0 := Lib.hid (Ext.refl w1)
    obtain ⟨n, hn⟩ : ∃ n, n = ps.length := ⟨_, rfl⟩
    have HN := Lib.hid hn
    rw [← hn] at hps hadr ⊢
    clear hn
    go_wp2
    go_loopw [25] (fun s wr => InvPa w1 ps s wr) (fun s _ => n - (intOf s).toNat)
    case atStart => exact ⟨0, Nat.zero_le _, rfl, rfl, E0.out⟩
    case round =>
      obtain ⟨k, hk, rfl, hall, he⟩ := hrel
      rw [← HN.out] at hk
      have HA := Lib.hid hall
      have HE := Lib.hid he
      clear hall he
      by_cases hlt : k < n
      · have had := hadr.out (by omega)
        subst had
        have i0 : (0 : Int) ≤ (k : Int) := by omega
        have i1 : (k : Int) < (n : Int) := by omega
        have cl := HE.out.cell (tc.out k (by rw [← HN.out]; exact hlt))
        have hkl : k < ps.length := by rw [← HN.out]; exact hlt
        have st : (ps.take (k + 1)).all valid = ((ps.take k).all valid && valid (ps[k]?.getD [])) := by
          rw [List.take_succ_eq_append_getElem hkl, List.all_append, List.getElem?_eq_getElem hkl]; simp
        rw [HA.out, Bool.true_and] at st
        have ST := Lib.hid st
        have HM := Lib.hid (show valid (ps[k]?.getD []) = false → ps.all valid = false from fun hv => by
          rw [← Bool.not_eq_true, List.all_eq_true]
          intro ha
          have := ha ps[k] (List.getElem_mem hkl)
          rw [List.getElem?_eq_getElem hkl] at hv
          simp only [Option.getD_some] at hv
          rw [hv] at this; cases this)
        have VA := Lib.hid (valid_acc (tx (ps[k]?.getD [])) HE.out)
        rw [tx_list] at VA
        clear st hkl
        cases hv : valid (ps[k]?.getD []) with
        | true =>
          rw [hv] at VA ST
          go_wp2_with (go_at_call 44; refine (VA.out).mono ?_; rintro e w' ⟨rfl, hE⟩)
          exact ⟨⟨k + 1, by rw [← HN.out]; omega, rfl, ST.out, hE⟩, by simp [intOf]; omega⟩
        | false =>
          rw [hv] at VA ST
          go_wp2_with (go_at_call 44; refine (VA.out).mono ?_; rintro e w' ⟨rfl, hE⟩)
          go_ret
          exact ⟨retv (by rw [EE.out, HM.out hv] <;> rfl), R2.out.1.ext hE, R2.out.2.trans (StTo.of_ext hE)⟩
      · obtain rfl : k = n := by omega
        clear hlt
        rw [HN.out, List.take_length] at HA
        rw [HA.out] at EE
        go_wp2
        go_ret
        exact ⟨retv (by rw [EE.out] <;> rfl), R2.out.1.ext HE.out, R2.out.2.trans (StTo.of_ext HE.out)⟩

set_option maxRecDepth 100000 in
set_option maxHeartbeats 4000000 in
theorem mark_any (b a : Nat) (S : SV) (V : SW) (L : Nat → Option Role) (w : World) (h : Rep w b S V L) (ha : a ∈ S.ids) (hc : 0 ≤ S.clock ∧ S.clock ≤ 1000000) :
    Calls Tryd.prog 32 #[ptr b, ptr a] w fun e w' => e = .returned (.tuple #[]) ∧ ∃ V' L', Rep w' b { S with clock := S.clock + 1, nd := upd S.nd a { S.nd a with stamp := S.clock + 1 } } V' L' ∧ StTo w w' L L' := by
  have c1 := h.c 1
  have f1 := h.fz 1
  simp only [scells] at c1
  have R1 := h.setc (S' := { S with clock := S.clock + 1 }) (V' := V) 1 (.int .u64 (S.clock + 1)) rfl rfl rfl rfl rfl rfl rfl
  have d1 := R1.1.c 1
  simp only [scells] at d1
  have nd := R1.1.nd a ha
  have e2 := nd.1.c 2
  have g2 := nd.1.fz 2
  simp only [ncells] at e2
  have hne : (⟨b, 1, none⟩ : Addr) ≠ ⟨a, 2, none⟩ := by simp
  have NI : NdIn ((w.setCell ⟨b, 1, none⟩ (.int .u64 (S.clock + 1))).setCell ⟨a, 2, none⟩ (.int .u64 (S.clock + 1))) a { S.nd a with stamp := S.clock + 1 } (V.nv a) ∧ NdTo (w.setCell ⟨b, 1, none⟩ (.int .u64 (S.clock + 1))) ((w.setCell ⟨b, 1, none⟩ (.int .u64 (S.clock + 1))).setCell ⟨a, 2, none⟩ (.int .u64 (S.clock + 1))) a (V.nv a) (V.nv a) := by
    have sc := Chg.setCell (w.setCell ⟨b, 1, none⟩ (.int .u64 (S.clock + 1))) a 2 (.int .u64 (S.clock + 1))
    have n := nd.1
    refine ⟨⟨?_, n.n.chg sc fun q hq e => n.an (e ▸ hq), n.k.chg sc fun q hq e => n.ak (e ▸ hq), n.l.chg sc fun q hq e => n.al (e ▸ hq), n.an, n.ak, n.al, n.nk, n.nl, n.kl⟩, sc.mono fun i _ e => Or.inl e, fun i hi => Or.inl hi⟩
    have := n.cells.set 2 (.int .u64 (S.clock + 1))
    simpa [ncells] using this
  obtain ⟨L', r2, t2⟩ := R1.1.node a ha { S.nd a with stamp := S.clock + 1 } (V.nv a) NI.1 ⟨nd.2.kl, nd.2.ll, nd.2.len, nd.2.bn, nd.2.bk⟩ NI.2
  have FIN := Lib.hid (⟨_, _, r2, R1.2.trans t2⟩ : ∃ V' L', Rep ((w.setCell ⟨b, 1, none⟩ (.int .u64 (S.clock + 1))).setCell ⟨a, 2, none⟩ (.int .u64 (S.clock + 1))) b { S with clock := S.clock + 1, nd := upd S.nd a { S.nd a with stamp := S.clock + 1 } } V' L' ∧ StTo w _ L L')
  obtain ⟨k1, k2⟩ := hc
  unfold ptr
  clear R1 nd r2 t2 NI h ha hne
  generalize S.clock = ck at *
  go_enter Tryd.func32, Tryd.ntmps32
  go_wp2
  go_end0
  exact ⟨rfl, FIN.out⟩
end Go.Proofs.YtbneedmfpldpfaaDoor
