/- Contracts of a node's sync, and of Sync. -/
import Derived.Test.YtbneedmfpldpfaaDoorSh
import Derived.Test.YtbneedmfpldpfaaDoorNe
import Derived.StillTailTactics
set_option linter.unusedSimpArgs false
namespace Go.Proofs.YtbneedmfpldpfaaDoor
open Go.RowKit Go.Pth

/-- All is safe. -/
def NV.sync (N : NV) : NV := { N with kept := N.now, loose := List.replicate N.loose.length false }
theorem NV.Ok.sync {N : NV} (h : N.Ok) : N.sync.Ok := ⟨rfl, by simp only [NV.sync, List.length_replicate]; exact h.ll, h.len, h.bn, h.bn⟩
theorem splice_all {α : Type} (l x : List α) (h : x.length = l.length) : splice l 0 x = x := by
  unfold splice
  simp [h]
theorem NdIn.putK {w : World} {a : Nat} {N : NV} {V : Vs} (h : NdIn w a N V) {g cap : Nat} (hv : V.k = .slice (some ⟨g, 0, none⟩) N.kept.length cap) (x : List Int) (hl : x.length = N.kept.length) :
    NdIn (w.setCells g 0 (bts x)) a { N with kept := x } V ∧ NdTo w (w.setCells g 0 (bts x)) a V V := by
  have hg : V.k.ownBlock = some g := by rw [hv]; rfl
  have sc := Chg.sets g (bts x) 0 w
  have hr := h.k
  rw [hv] at hr
  have hr2 := Row.sets hr 0 (bts x) (by rw [bts_len, hl]; omega)
  rw [bts_splice, ← hv, splice_all _ _ hl] at hr2
  refine ⟨⟨sc.at h.cells fun e => h.ak (by rw [e]; exact hg), h.n.chg sc fun q hq e => h.nk q hq (by rw [e]; exact hg), by rw [hl]; exact hr2, h.l.chg sc fun q hq e => h.kl g hg (by rw [← e]; exact hq), h.an, h.ak, h.al, h.nk, h.nl, h.kl⟩, sc.mono fun i _ e => Or.inr (Or.inr (Or.inl (by rw [e]; exact hg))), fun i hi => Or.inl hi⟩
theorem NdIn.clearL {w : World} {a : Nat} {N : NV} {V : Vs} (h : NdIn w a N V) {g cap : Nat} (hv : V.l = .slice (some ⟨g, 0, none⟩) N.loose.length cap) :
    NdIn (w.setCells g 0 (List.replicate N.loose.length (.bool false))) a { N with loose := List.replicate N.loose.length false } V ∧ NdTo w (w.setCells g 0 (List.replicate N.loose.length (.bool false))) a V V := by
  have hg : V.l.ownBlock = some g := by rw [hv]; rfl
  have sc := Chg.sets g (List.replicate N.loose.length (.bool false)) 0 w
  have hr := h.l
  rw [hv] at hr
  have hr2 := Row.sets hr 0 (List.replicate N.loose.length (.bool false)) (by simp)
  have e : (bls N.loose).take 0 ++ List.replicate N.loose.length (.bool false) ++ (bls N.loose).drop (0 + (List.replicate N.loose.length (Value.bool false)).length) = bls (List.replicate N.loose.length false) := by
    simp [bls]
  rw [e, ← hv] at hr2
  refine ⟨⟨sc.at h.cells fun e => h.al (by rw [e]; exact hg), h.n.chg sc fun q hq e => h.nl q hq (by rw [e]; exact hg), h.k.chg sc fun q hq e => h.kl q hq (by rw [e]; exact hg), by rw [List.length_replicate]; exact hr2, h.an, h.ak, h.al, h.nk, h.nl, h.kl⟩, sc.mono fun i _ e => Or.inr (Or.inr (Or.inr (by rw [e]; exact hg))), fun i hi => Or.inl hi⟩

theorem ndrew {w : World} {a : Nat} {N : NV} {V : Vs} (h : NdIn w a N V) : NdIn w.drew a N V := h.ext (Ext.drew w)
set_option maxRecDepth 100000 in
set_option maxHeartbeats 4000000 in
theorem nsync_any (a : Nat) (N : NV) (V : Vs) (w : World) (h : NdIn w a N V) (ok : N.Ok) :
    Calls Tryd.prog 39 #[ptr a] w fun e w' => e = .returned (.tuple #[]) ∧ NdIn w' a N.sync V ∧ NdTo w w' a V V := by
  have sz : (Tryd.prog.info? 5).map (·.size) = some 1 := by kernel_rfl
  have c3 : w.cell? ⟨a, 3, none⟩ = some V.n := by rw [h.c 3]; rfl
  have c4 : w.cell? ⟨a, 4, none⟩ = some V.k := by rw [h.c 4]; rfl
  have c5 : w.cell? ⟨a, 5, none⟩ = some V.l := by rw [h.c 5]; rfl
  have hkl := ok.kl
  have hll := ok.ll
  have D := Lib.hid (ndrew h)
  have TD : NdTo w w.drew a V V := ⟨Chg.of_ext (Ext.drew w), fun i hi => Or.inl hi⟩
  by_cases h0 : 0 < N.now.length
  · have hs0 : 0 < N.loose.length := by rw [hll]; unfold secs; omega
    obtain ⟨gn, kn, hvn, n1, n2⟩ := Row.own h.n h0
    obtain ⟨gk, kk, hvk, k1, k2⟩ := Row.own h.k (by omega)
    obtain ⟨gl, kl, hvl, l1, l2⟩ := Row.own h.l hs0
    simp only [maxLen] at n2 k2 l2
    have B : Bin w.drew (.slice (some ⟨gn, 0, none⟩) N.now.length kn) N.now (some ⟨gn, 0, none⟩) kn gn 0 := by
      have hr := D.out.n
      rw [hvn] at hr
      exact ⟨rfl, fun _ => rfl, fun j u hu => by
        have hj := (List.getElem?_eq_some_iff.1 hu).1
        rw [bts_len] at hj
        rw [Nat.zero_add, (Row.cell hr j hj).1, hu]⟩
    have hck : (Builtin.copy_ #[22, 22] 3 #[.slice (some ⟨gk, 0, none⟩) N.now.length kk, .slice (some ⟨gn, 0, none⟩) N.now.length kn]).run Tryd.prog w.drew = .ok (.int .i64 N.now.length) (w.drew.setCells gk 0 (bts N.now)) := by
      have hr := D.out.k
      rw [hvk, hkl] at hr
      have := run_copy_cells (P := Tryd.prog) w.drew 22 22 3 5 gk 0 N.now.length kk ⟨gn, 0, none⟩ N.now.length kn (bts N.now) Tryd.underlying22 sz (by rw [bts_len]; exact (Nat.min_self _).symm) (fun j u hu => by rw [Addr.add_lit]; exact B.cell j u hu) (fun j hj => by rw [bts_len] at hj; rw [Nat.zero_add, (Row.cell hr j hj).1]; simp [bts]; omega) (fun j hj => by rw [bts_len] at hj; rw [Nat.zero_add]; exact (Row.cell hr j hj).2) (by simp [bts, Value.oneCell'])
      rw [bts_len] at this
      exact this
    obtain ⟨p1, p2⟩ := D.out.putK (N := N) (g := gk) (cap := kk) hvk N.now hkl.symm
    obtain ⟨q1, q2⟩ := p1.clearL (g := gl) (cap := kl) hvl
    have hcl : ∀ ty, (Builtin.clear_ #[56] ty #[.slice (some ⟨gl, 0, none⟩) N.loose.length kl]).run Tryd.prog (w.drew.setCells gk 0 (bts N.now)) = .ok (.tuple #[]) ((w.drew.setCells gk 0 (bts N.now)).setCells gl 0 (List.replicate N.loose.length (.bool false))) := fun ty => by
      have hr := p1.l
      rw [hvl] at hr
      have hr' : Row (w.drew.setCells gk 0 (bts N.now)) 4 1 (.slice (some ⟨gl, 0, none⟩) N.loose.length kl) N.loose.length (bls N.loose) := hr
      exact Lib.run_clear_slice (P := Tryd.prog) _ 56 4 ty (.bool false) Tryd.underlying56 (fun _ => by kernel_rfl) rfl rfl gl 0 N.loose.length kl hs0 (fun j hj => by rw [Nat.zero_add, (Row.cell hr' j hj).1]; simp [bls]; omega) (fun j hj => by rw [Nat.zero_add]; exact (Row.cell hr' j hj).2)
    have e5 : (w.drew.setCells gk 0 (bts N.now)).cell? ⟨a, 5, none⟩ = some (.slice (some ⟨gl, 0, none⟩) N.loose.length kl) := by rw [p1.c 5, ← hvl]; rfl
    have Q := Lib.hid (⟨q1, (TD.trans p2).trans q2⟩ : _ ∧ _)
    rw [hvn] at c3
    rw [hvk, hkl] at c4
    generalize N.now.length = L at *
    clear p1 p2 q1 q2 B D TD h ok hkl hll hvn hvk hvl
    unfold ptr
    go_enter Tryd.func39, Tryd.ntmps39
    go_wp2
    go_still_tail 8, (by kernel_rfl)
    change wpList _ _ _ _ _ w.drew
    go_wp2
    go_end0
    exact ⟨rfl, Q.out.1, Q.out.2⟩
  · have hn0 : N.now = [] := List.length_eq_zero_iff.1 (by omega)
    have hk0 : N.kept = [] := List.length_eq_zero_iff.1 (by omega)
    have hl0 : N.loose = [] := List.length_eq_zero_iff.1 (by rw [hll, hn0]; rfl)
    have hsy : N.sync = N := by
      unfold NV.sync
      rw [hn0, hl0]
      cases N
      simp at hn0 hk0 hl0
      simp [hn0, hk0, hl0]
    obtain ⟨dn, kn, hvn, -⟩ := h.n.shape
    obtain ⟨dk, kk, hvk, -⟩ := h.k.shape
    obtain ⟨dl, kl, hvl, -⟩ := h.l.shape
    rw [hn0] at hvn
    rw [hk0] at hvk
    rw [hl0] at hvl
    simp only [List.length_nil] at hvn hvk hvl
    rw [hvn] at c3
    rw [hvk] at c4
    rw [hvl] at c5
    have hck : (Builtin.copy_ #[22, 22] 3 #[.slice dk 0 kk, .slice dn 0 kn]).run Tryd.prog w.drew = .ok (.int .i64 0) w.drew := run_copy_none (P := Tryd.prog) w.drew 22 22 3 5 dk dn 0 kk 0 kn Tryd.underlying22 sz (by simp)
    have hcl : ∀ ty, (Builtin.clear_ #[56] ty #[.slice dl 0 kl]).run Tryd.prog w.drew = .ok (.tuple #[]) w.drew := fun ty => by
      cases dl <;> simp [Builtin.clear_, run_underlying Tryd.underlying56]
    have e5 : w.drew.cell? ⟨a, 5, none⟩ = some (.slice dl 0 kl) := c5
    have Q := Lib.hid (⟨by rw [hsy]; exact D.out, TD⟩ : NdIn w.drew a N.sync V ∧ NdTo w w.drew a V V)
    clear D TD h ok hkl hll hn0 hk0 hl0 hvn hvk hvl h0 hsy
    unfold ptr
    go_enter Tryd.func39, Tryd.ntmps39
    go_wp2
    go_still_tail 8, (by kernel_rfl)
    change wpList _ _ _ _ _ w.drew
    go_wp2
    go_end0
    exact ⟨rfl, Q.out.1, Q.out.2⟩
end Go.Proofs.YtbneedmfpldpfaaDoor
