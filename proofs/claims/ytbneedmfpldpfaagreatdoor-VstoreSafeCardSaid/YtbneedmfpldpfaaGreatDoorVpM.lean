/- Cut. What each call leaves of a store that is sound, and of what was made safe in it. No conditions but those named: definitions and lemmas. -/
import Derived.Test.YtbneedmfpldpfaaGreatDoorVdM
import Derived.Test.YtbneedmfpldpfaaGreatDoorVx
set_option linter.unusedSimpArgs false
set_option linter.unusedVariables false
namespace Go.Proofs.YtbneedmfpldpfaaGreatDoor
open Go.RowKit Go.Pth

/-- The state with the power cut after so many. -/
def SV.cutAt (S : SV) (n : Int) : SV := if S.power = 2 then S else { S with power := 1, left := max n 0 }

set_option maxRecDepth 100000 in
set_option maxHeartbeats 8000000 in
theorem cut_any (b : Nat) (S : SV) (V : SW) (L : Nat → Option Role) (n : Int) (w : World) (h : Rep w b S V L) :
    Calls Tryz.prog 13 #[ptr b, .int .i64 n] w fun e w' => e = .returned (.tuple #[]) ∧ Rep w' b (S.cutAt n) V L ∧ StTo w w' L L := by
  have H := Lib.hid h
  have c5 := h.c 5
  simp only [scells] at c5
  by_cases h2 : S.power = 2
  · have q2 : (S.power == 2) = true := by simpa using h2
    have e : Hid (S.cutAt n = S) := Lib.hid (by unfold SV.cutAt; rw [if_pos h2])
    clear h h2
    unfold ptr at *
    go_enter Tryz.func13, Tryz.ntmps13
    go_wp2
    (try simp only [Exit.inBlock, Exit.then])
    refine bodyPost_ret (results_none rfl _ _ _) rfl ?_
    exact ⟨rfl, by rw [e.out]; exact H.out, StTo.refl _ _⟩
  · have q2 : (S.power == 2) = false := by simpa using h2
    have e : Hid (S.cutAt n = { S with power := 1, left := max n 0 }) := Lib.hid (by unfold SV.cutAt; rw [if_neg h2])
    have R1 := h.setc (S' := { S with power := 1 }) (V' := V) 5 (.int .i64 1) rfl rfl rfl rfl rfl rfl rfl
    have R2 := R1.1.setc (S' := { S with power := 1, left := max n 0 }) (V' := V) 6 (.int .i64 (max n 0)) rfl rfl rfl rfl rfl rfl rfl
    have FN := Lib.hid (And.intro R2.1 (R1.2.trans R2.2))
    have f5 := h.fz 5
    have c6 := R1.1.c 6
    simp only [scells] at c6
    have f6 := R1.1.fz 6
    clear h h2 R1 R2
    unfold ptr at *
    go_enter Tryz.func13, Tryz.ntmps13
    go_wp2
    go_end0
    exact ⟨rfl, by rw [e.out]; exact FN.out.1, FN.out.2⟩
end Go.Proofs.YtbneedmfpldpfaaGreatDoor

set_option linter.unusedSimpArgs false
set_option linter.unusedVariables false
namespace Go.Proofs.YtbneedmfpldpfaaGreatDoor
open Go.RowKit Go.Pth

/-- What is counted is small. -/
structure Lim (S : SV) (k : Nat) : Prop where
  left : 0 ≤ S.left ∧ S.left ≤ 9223372036854775807
  ops : 0 ≤ S.ops ∧ S.ops ≤ k
  clock : 0 ≤ S.clock ∧ S.clock ≤ k
  names : S.names.length ≤ k
  acts : S.acts.length ≤ k
  kept : S.kept.length ≤ k
theorem Lim.fit {S : SV} {k : Nat} (h : Lim S k) (hk : k ≤ 1000) : S.Fit :=
  ⟨h.left, ⟨h.ops.1, by have := h.ops.2; omega⟩, ⟨h.clock.1, by have := h.clock.2; omega⟩, by have := h.names; omega, by have := h.acts; omega⟩
/-- What was made safe stands in the names wherever the power goes, by itself. -/
structure Held (S : SV) (q : B) (a : Nat) (N : NV) : Prop where
  all : ∀ p, (q, a) ∈ foldN S.kept (S.acts.take p)
  one : ∀ x ∈ S.names, x.2 = a → x.1 = q
  nd : S.nd a = N
structure Good (S : SV) (k : Nat) (q : B) (a : Nat) (N : NV) : Prop where
  lim : Lim S k
  snd : Sound S
  held : Held S q a N
theorem Lim.beg {S : SV} {k : Nat} (h : Lim S k) : Lim S.beg (k + 1) := by
  obtain ⟨e1, e2, e3, e4, e5, e6, e7⟩ := beg_same S
  have hl : 0 ≤ S.beg.left ∧ S.beg.left ≤ 9223372036854775807 := by
    have := h.left
    unfold SV.beg SV.spend
    simp only
    split
    · split
      · exact this
      · simp only; omega
    · exact this
  have ho : S.beg.ops = S.ops + 1 := by
    unfold SV.beg SV.spend
    simp only
    split
    · split <;> rfl
    · rfl
  have a1 := h.ops
  have a2 := h.clock
  have a3 := h.names
  have a4 := h.acts
  have a5 := h.kept
  exact ⟨hl, by rw [ho]; omega, by rw [e4]; omega, by rw [e1]; omega, by rw [e5]; omega, by rw [e7]; omega⟩
theorem Held.mem {S : SV} {q : B} {a : Nat} {N : NV} (h : Held S q a N) (hs : Sound S) : (q, a) ∈ S.names := by
  have := h.all S.acts.length
  rw [List.take_length] at this
  rw [hs.names]; exact this
theorem Good.same {S S' : SV} {k k' : Nat} {q : B} {a : Nat} {N : NV} (h : Good S k q a N) (e1 : S'.names = S.names) (e2 : S'.kept = S.kept) (e3 : S'.acts = S.acts) (e4 : S'.ids = S.ids) (e5 : S'.nd a = N) (l : Lim S' k') : Good S' k' q a N :=
  ⟨l, ⟨by rw [e2]; exact h.snd.tree, by rw [e2, e3]; exact h.snd.legal, by rw [e1, e2, e3]; exact h.snd.names, by rw [e3, e4]; exact h.snd.made, by rw [e2, e3]; exact h.snd.few⟩, ⟨by rw [e2, e3]; exact h.held.all, by rw [e1]; exact h.held.one, e5⟩⟩
theorem Good.beg {S : SV} {k : Nat} {q : B} {a : Nat} {N : NV} (h : Good S k q a N) : Good S.beg (k + 1) q a N := by
  obtain ⟨e1, e2, e3, e4, e5, e6, e7⟩ := beg_same S
  exact h.same e1 e7 e5 e3 (by rw [e2]; exact h.held.nd) h.lim.beg
theorem Good.up {S : SV} {k : Nat} {q : B} {a : Nat} {N : NV} (h : Good S k q a N) : Good S (k + 1) q a N :=
  h.same rfl rfl rfl rfl h.held.nd ⟨h.lim.left, ⟨h.lim.ops.1, by have := h.lim.ops.2; omega⟩, ⟨h.lim.clock.1, by have := h.lim.clock.2; omega⟩, by have := h.lim.names; omega, by have := h.lim.acts; omega, by have := h.lim.kept; omega⟩
/-- A call that touches another name. -/
theorem Good.touch {S S' : SV} {k : Nat} {q p : B} {a : Nat} {N : NV} (h : Good S k q a N) (hpq : p ≠ q) (hc : S.clock + 1 ≤ k) (ht : Touch S S' p) : Good S' k q a N := by
  rcases ht with rfl | ⟨a', N', c, hl, _, hc1, hc2, rfl⟩
  · exact h
  · have hne : a ≠ a' := fun e => hpq (h.held.one _ (look_mem _ _ _ hl) e.symm)
    refine h.same rfl rfl rfl rfl ?_ ⟨h.lim.left, h.lim.ops, ⟨?_, ?_⟩, h.lim.names, h.lim.acts, h.lim.kept⟩
    · simp only
      rw [upd_other _ _ _ _ hne]; exact h.held.nd
    · have := h.lim.clock.1
      simp only; omega
    · simp only; omega
theorem Good.clk {S : SV} {k : Nat} {q : B} {a : Nat} {N : NV} (h : Good S k q a N) : S.beg.clock + 1 ≤ ((k + 1 : Nat) : Int) := by
  rw [(beg_same S).2.2.2.1]
  have := h.lim.clock.2
  omega
theorem Held.snoc {S : SV} {q : B} {a : Nat} {N : NV} (h : Held S q a N) (hs : S.names = foldN S.kept S.acts) (x : Ac) (hx : (q, a) ∈ actN S.names x) : ∀ p, (q, a) ∈ foldN S.kept ((S.acts ++ [x]).take p) := by
  intro p
  by_cases hp : p ≤ S.acts.length
  · rw [List.take_append_of_le_length hp]; exact h.all p
  · rw [List.take_of_length_le (by simp; omega), fold_snoc, ← hs]; exact hx
theorem ins_mem {l : List Nm} {x : Nm} (h : x ∈ l) (p : B) (a : Nat) : x ∈ insN l p a := by
  unfold insN
  rw [← List.take_append_drop (place l p) l] at h
  rcases List.mem_append.1 h with h | h
  · exact List.mem_append.2 (Or.inl (List.mem_append.2 (Or.inl h)))
  · exact List.mem_append.2 (Or.inr h)
theorem run_no {p q : B} {a : Nat} (hv : valid p = true) (hq : (47 : UInt8) ∉ q) (hne : q ≠ p) : runF p (q, a) = false := by
  unfold runF under
  have h1 : (q == p) = false := by simpa using hne
  have h2 : (p == ([] : B)) = false := by simpa using valid_ne hv
  have h3 : (p ++ [47]).isPrefixOf q = false := by
    cases hb : (p ++ [47]).isPrefixOf q with
    | false => rfl
    | true =>
      rw [List.isPrefixOf_iff_prefix] at hb
      exact absurd (hb.subset (by simp)) hq
  simp only [h1, h2, h3]
  simp
theorem Sound.snoc {S S' : SV} (h : Sound S) (x : Ac) (hl : Legal S.names x) (e1 : S'.names = actN S.names x) (e2 : S'.kept = S.kept) (e3 : S'.acts = S.acts ++ [x]) (e4 : ∀ n ∈ S.ids, n ∈ S'.ids) (e5 : ∀ n, x.made = some n → n ∈ S'.ids) (hf : S'.acts.length ≤ 10000) : Sound S' := by
  refine ⟨by rw [e2]; exact h.tree, ?_, ?_, ?_, by rw [e2]; exact h.few.1, hf⟩
  · rw [e2, e3]
    exact legal_snoc _ _ _ h.legal (by rw [← h.names]; exact hl)
  · rw [e1, e2, e3, fold_snoc, ← h.names]
  · intro b hb n hn
    rw [e3] at hb
    rcases List.mem_append.1 hb with hb | hb
    · exact e4 n (h.made b hb n hn)
    · obtain rfl := List.mem_singleton.1 hb
      exact e5 n hn
/-- A name is made. -/
theorem Good.made {S : SV} {k : Nat} {q p : B} {a a' : Nat} {N : NV} {kd : Int} (h : Good S k q a N) (hk : k ≤ 1000) (hids : a ∈ S.ids) (hv : valid p = true) (ha : a' ∉ S.ids) (ht : takes S.names (kinds S) p = 0) : Good (S.beg.madeP a' p kd) (k + 1) q a N := by
  obtain ⟨e1, e2, e3, e4, e5, e6, e7⟩ := beg_same S
  have lb := h.lim.beg
  have b0 := h.beg
  have lg : Legal S.beg.names ⟨[], p, some a'⟩ := by rw [e1]; exact .made p a' hv (takes_none ht) (takes_up ht)
  have hne : a ≠ a' := fun e => ha (e ▸ hids)
  have hnl := h.lim.names
  have hal := h.lim.acts
  have hkl := h.lim.kept
  have hcl := h.lim.clock
  refine ⟨⟨lb.left, lb.ops, ?_, ?_, ?_, lb.kept⟩, ?_, ⟨?_, ?_, ?_⟩⟩
  · show 0 ≤ S.beg.clock + 1 ∧ S.beg.clock + 1 ≤ _
    rw [e4]; omega
  · show (insN S.beg.names p a').length ≤ _
    rw [insN_len, e1]; omega
  · show (S.beg.acts ++ [_]).length ≤ _
    rw [e5]; simp; omega
  · refine b0.snd.snoc ⟨[], p, some a'⟩ lg rfl rfl rfl (fun n hn => List.mem_cons_of_mem _ hn) (fun n hn => ?_) ?_
    · injection hn with hn; rw [← hn]; exact List.mem_cons_self
    · show (S.beg.acts ++ [_]).length ≤ _
      rw [e5]; simp; omega
  · exact b0.held.snoc b0.snd.names _ (ins_mem (b0.held.mem b0.snd) _ _)
  · intro x hx hxa
    rcases insN_mem hx with hx | hx
    · exact b0.held.one x hx hxa
    · rw [hx] at hxa; exact absurd hxa.symm hne
  · show upd S.beg.nd a' _ a = N
    rw [upd_other _ _ _ _ hne]; exact b0.held.nd
/-- A name is taken away. -/
theorem Good.gone {S : SV} {k : Nat} {q p : B} {a : Nat} {N : NV} (h : Good S k q a N) (hk : k ≤ 1000) (hq : (47 : UInt8) ∉ q) (hpq : p ≠ q) (hv : valid p = true) (hr : 0 < (rung S.names p).length) : Good (S.beg.gone p) (k + 1) q a N := by
  obtain ⟨e1, e2, e3, e4, e5, e6, e7⟩ := beg_same S
  have lb := h.lim.beg
  have b0 := h.beg
  have lg : Legal S.beg.names ⟨p, [], none⟩ := .gone p hv (by rw [e1]; exact hr)
  have tr : Tree S.beg.names := by rw [b0.snd.names]; exact fold_tree _ _ b0.snd.legal b0.snd.tree
  have hal := h.lim.acts
  have hlen := (rest_sub S.beg.names p).length_le
  refine ⟨⟨lb.left, lb.ops, lb.clock, ?_, ?_, lb.kept⟩, ?_, ⟨?_, ?_, b0.held.nd⟩⟩
  · show (rest S.beg.names p).length ≤ _
    exact Nat.le_trans hlen lb.names
  · show (S.beg.acts ++ [_]).length ≤ _
    rw [e5]; simp; omega
  · refine b0.snd.snoc ⟨p, [], none⟩ lg (actN_gone _ hv).symm rfl rfl (fun n hn => hn) (fun n hn => by cases hn) ?_
    show (S.beg.acts ++ [_]).length ≤ _
    rw [e5]; simp; omega
  · exact b0.held.snoc b0.snd.names _ (by rw [actN_gone _ hv]; exact (tr.rest_mem hv).2 ⟨b0.held.mem b0.snd, run_no hv hq (fun e => hpq e.symm)⟩)
  · intro x hx hxa
    exact b0.held.one x ((rest_sub _ _).subset hx) hxa
/-- A name is moved. -/
theorem Good.moved {S : SV} {k : Nat} {q f t : B} {a : Nat} {N : NV} (h : Good S k q a N) (hk : k ≤ 1000) (hq : (47 : UInt8) ∉ q) (hfq : f ≠ q) (hm : MayMv S f t) : Good (S.beg.movd f t) (k + 1) q a N := by
  obtain ⟨e1, e2, e3, e4, e5, e6, e7⟩ := beg_same S
  have lb := h.lim.beg
  have b0 := h.beg
  have tr : Tree S.beg.names := by rw [b0.snd.names]; exact fold_tree _ _ b0.snd.legal b0.snd.tree
  have lg : Legal S.beg.names ⟨f, t, none⟩ := by
    have := hm.legal (by rw [← e1]; exact tr)
    rw [e1]; exact this
  have hal := h.lim.acts
  have hfv := hm.1
  refine ⟨⟨lb.left, lb.ops, lb.clock, ?_, ?_, lb.kept⟩, ?_, ⟨?_, ?_, b0.held.nd⟩⟩
  · show (mvl S.beg.names f t _).length ≤ _
    rw [mvl_len]; exact lb.names
  · show (S.beg.acts ++ [_]).length ≤ _
    rw [e5]; simp; omega
  · refine b0.snd.snoc ⟨f, t, none⟩ lg (actN_moved _ hm.1 hm.2.1).symm rfl rfl (fun n hn => hn) (fun n hn => by cases hn) ?_
    show (S.beg.acts ++ [_]).length ≤ _
    rw [e5]; simp; omega
  · exact b0.held.snoc b0.snd.names _ (by rw [actN_moved _ hm.1 hm.2.1]; exact mvl_mem.2 (Or.inl ((tr.rest_mem hfv).2 ⟨b0.held.mem b0.snd, run_no hfv hq (fun e => hfq e.symm)⟩)))
  · intro x hx hxa
    rcases mvl_mem.1 hx with hx | hx
    · exact b0.held.one x ((rest_sub _ _).subset hx) hxa
    · obtain ⟨e, he, rfl⟩ := mvd_mem.1 hx
      obtain ⟨h1, h2⟩ := (tr.rung_mem hfv).1 he
      have h3 : e.1 = q := b0.held.one e h1 hxa
      obtain ⟨ep, ea⟩ := e
      simp only at h3
      subst h3
      rw [run_no hfv hq (fun e => hfq e.symm)] at h2
      cases h2
/-- The names are made safe. -/
theorem Good.dirred {S : SV} {k : Nat} {q : B} {a : Nat} {N : NV} (h : Good S k q a N) (hk : k ≤ 1000) : Good (S.beg.dirred (foldN S.kept S.acts)) (k + 1) q a N := by
  obtain ⟨e1, e2, e3, e4, e5, e6, e7⟩ := beg_same S
  have lb := h.lim.beg
  have b0 := h.beg
  have hn := h.snd.names
  have tr : Tree S.names := by rw [hn]; exact fold_tree _ _ h.snd.legal h.snd.tree
  refine ⟨⟨lb.left, lb.ops, lb.clock, lb.names, Nat.zero_le _, ?_⟩, ⟨?_, trivial, ?_, ?_, ?_, Nat.zero_le _⟩, ⟨?_, b0.held.one, b0.held.nd⟩⟩
  · show (foldN S.kept S.acts).length ≤ _
    rw [← hn, ← e1]; exact lb.names
  · show Tree (foldN S.kept S.acts)
    rw [← hn]; exact tr
  · show S.beg.names = foldN S.kept S.acts
    rw [e1, hn]
  · intro x hx; cases hx
  · show (foldN S.kept S.acts).length ≤ _
    have := fold_len _ _ h.snd.legal
    have l1 := h.lim.acts
    have l2 := h.lim.kept
    have l3 := h.lim.names
    have f1 := h.snd.few
    rw [← hn]
    have := lb.names
    rw [e1] at this
    first | omega | exact Nat.le_trans this (by omega)
  · intro p
    show (q, a) ∈ foldN (foldN S.kept S.acts) (([] : List Ac).take p)
    have : ([] : List Ac).take p = [] := by simp
    rw [this]
    show (q, a) ∈ foldN S.kept S.acts
    rw [← hn]; exact h.held.mem h.snd
end Go.Proofs.YtbneedmfpldpfaaGreatDoor
