/- A store of one file: what it comes to; Crash of it. -/
import Derived.Test.YtbneedmfpldpfaaDoorUb
import Derived.Test.YtbneedmfpldpfaaDoorUc
import Derived.Test.YtbneedmfpldpfaaDoorUd
import Derived.Test.YtbneedmfpldpfaaDoorSq
set_option linter.unusedSimpArgs false
namespace Go.Proofs.YtbneedmfpldpfaaDoor
open Go.RowKit Go.Pth

def ff : B := [102]
theorem tl102 : (⟨#[102]⟩ : ByteArray).toList = ff := ByteArray.toList_mk [102]
theorem vf : valid ff = true := by decide
theorem pf : parent ff = [] := by decide
/-- A store with one file. -/
def SF (clock ops : Int) (kept : List Nm) (acts : List Ac) (a : Nat) (N : NV) : SV := ⟨1048576, clock, [(ff, a)], kept, acts, 0, 0, ops, [a], upd (fun _ => newN 0 0) a N⟩
theorem sf_made (a : Nat) : (SV.new 1048576).beg.made a ff 1 = SF 1 1 [] [⟨[], ff, some a⟩] a (newN 1 1) := by
  simp [SV.new, SV.beg, SV.spend, SV.made, SF]
theorem sf_beg (clock ops : Int) (kept : List Nm) (acts : List Ac) (a : Nat) (N : NV) : (SF clock ops kept acts a N).beg = SF clock (ops + 1) kept acts a N := by
  simp [SV.beg, SV.spend, SF]
theorem sf_wrote (clock ops : Int) (kept : List Nm) (acts : List Ac) (a off : Nat) (x : List Int) (N : NV) : (SF clock ops kept acts a N).wrote a off x = SF (clock + 1) ops kept acts a { N.write off x with stamp := clock + 1 } := by
  unfold SV.wrote SF
  simp only [upd_same, upd_upd]
theorem sf_sync (clock ops : Int) (kept : List Nm) (acts : List Ac) (a : Nat) (N : NV) : (SF clock ops kept acts a N).synced a = SF clock ops kept acts a N.sync := by
  unfold SV.synced SF
  simp only [upd_same, upd_upd]
theorem sf_dir (clock ops : Int) (kept l : List Nm) (acts : List Ac) (a : Nat) (N : NV) : (SF clock ops kept acts a N).dirred l = SF clock ops l [] a N := rfl
theorem sf_fit (clock ops : Int) (kept : List Nm) (acts : List Ac) (a : Nat) (N : NV) (h1 : 0 ≤ clock ∧ clock ≤ 100) (h2 : 0 ≤ ops ∧ ops ≤ 100) (h3 : acts.length ≤ 10) : (SF clock ops kept acts a N).Fit :=
  ⟨by simp [SF], by simp only [SF]; omega, by simp only [SF]; omega, by simp [SF], by simp only [SF]; omega⟩
theorem sf_file (clock ops : Int) (kept : List Nm) (acts : List Ac) (a : Nat) (N : NV) (hk : N.kind = 1) : (SF clock ops kept acts a N).file ff = (some a, 0) := by
  unfold SV.file
  simp only [SF, look_one, upd_same, hk, if_true]
theorem sf_used (clock ops : Int) (kept : List Nm) (acts : List Ac) (a : Nat) (N : NV) : used (SF clock ops kept acts a N).nd (SF clock ops kept acts a N).names = N.now.length := by
  simp [used, SF, upd_same]
theorem sf_nd (clock ops : Int) (kept : List Nm) (acts : List Ac) (a : Nat) (N : NV) : (SF clock ops kept acts a N).nd a = N := by simp [SF, upd_same]
theorem sf_begE (clock ops : Int) (kept : List Nm) (acts : List Ac) (a : Nat) (N : NV) : (SF clock ops kept acts a N).begE [ff] = 0 := begE_ok rfl _ vf
/-- Bytes handed in, in a block that no part of the store lies in. -/
theorem bin_apart {w w' : World} {v : Value} {l : List Int} {ad : Option Addr} {cap bb o : Nat} {b : Nat} {S : SV} {V : SW} {L : Nat → Option Role} (h : Bin w v l ad cap bb o) (he : Ext w w') (r : Rep w' b S V L) (hL : ∀ i, L i ≠ none → w.heap.size ≤ i) :
    ∃ b2 o2, Bin w' v l ad cap b2 o2 ∧ L b2 = none := by
  cases l with
  | nil => exact ⟨w'.heap.size, 0, ⟨h.val, fun h => by simp at h, fun j u hu => by simp [bts] at hu⟩, none_new r⟩
  | cons y ys =>
    refine ⟨bb, o, h.ext he, ?_⟩
    have h1 := h.cell 0 (.int .u8 y) rfl
    have h2 := World.block_lt_of_cell? _ _ h1
    cases hc : L bb with
    | none => rfl
    | some q => have := hL bb (by rw [hc]; simp); simp at h2; omega

/-- With no loose sector the pick does not matter. -/
theorem crun_safe (now kept : List Int) (loose : List Bool) (pick : Int) (h : loose.any id = false) : ∀ k, crun now kept loose pick k = (kept, 0)
  | 0 => rfl
  | k + 1 => by
    rw [crun_succ, crun_safe now kept loose pick h k]
    unfold cstep
    rw [if_neg]
    intro hh
    cases hg : loose[k]? with
    | none => rw [hg] at hh; simp at hh
    | some x =>
      rw [hg] at hh
      simp only [Option.getD_some] at hh
      have := List.any_eq_false.1 h x (List.mem_of_getElem? hg)
      simp [hh] at this
theorem crash_safe (N : NV) (p q : Int) (h : N.loose.any id = false) : N.crash p = N.crash q := by
  unfold NV.crash
  rw [crun_safe _ _ _ p h, crun_safe _ _ _ q h]
theorem crash_any (b : Nat) (S : SV) (V : SW) (L : Nat → Option Role) (vp : Value) (x0 x1 : Int) (p : B) (a : Nat) (w : World) (h : Rep w b S V L) (hp : IntsIn w vp [x0, x1]) (ha : a ∈ S.ids) (hx : -9223372036854775808 ≤ x1 ∧ x1 ≤ 9223372036854775807)
    (hheld : ∀ w', Ext w w' → Calls Tryd.prog 35 #[ptr b, .int .i64 x0] w' fun e w'' => ∃ v, e = .returned v ∧ Tr w'' v [(p, a)] ∧ Ext w' w'') :
    Calls Tryd.prog 17 #[ptr b, vp] w fun e w' => ∃ b' a' V' L', e = .returned (ptr b') ∧ Ext w w' ∧ Rep w' b' (SV.left1 S.room S.clock [a'] (upd (fun _ => newN 0 0) a' ((S.nd a).crash x1)) [(p, a')] [(p, a')]) V' L' := by
  cases hany : (S.nd a).loose.any id with
  | true => exact crash_one b S V L vp x0 x1 p a w h hp ha hx hheld hany
  | false =>
    rw [crash_safe (S.nd a) x1 0 hany]
    exact crash_zero b S V L vp x0 x1 p a w h hp ha hheld hany
theorem left_file (a' : Nat) (room clock : Int) (N : NV) (hk : N.kind = 1) : (SV.left1 room clock [a'] (upd (fun _ => newN 0 0) a' N) [(ff, a')] [(ff, a')]).file ff = (some a', 0) := by
  unfold SV.file SV.left1
  simp only [look_one, upd_same, hk, if_true]
end Go.Proofs.YtbneedmfpldpfaaDoor
