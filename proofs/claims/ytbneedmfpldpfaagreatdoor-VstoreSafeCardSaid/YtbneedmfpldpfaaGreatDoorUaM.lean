/- Contracts of a node's sync, and of Sync. Contracts of Sync and SyncDir. Calls of the store on what stands at one name, whatever they answer: SetMeta, Truncate. Calls of the store on what stands at one name, whatever they answer: Truncate. Calls of the store on what stands at one name, whatever they answer: Sync. -/
import Derived.Test.YtbneedmfpldpfaaGreatDoorShM
import Derived.Test.YtbneedmfpldpfaaGreatDoorSfM
import Derived.StillTailTactics
set_option linter.unusedSimpArgs false
namespace Go.Proofs.YtbneedmfpldpfaaGreatDoor
open Go.RowKit Go.Pth

/-- All is safe. -/
def NV.sync (N : NV) : NV := { N with kept := N.now, loose := List.replicate N.loose.length false }
theorem NV.Ok.sync {N : NV} (h : N.Ok) : N.sync.Ok := ⟨rfl, by simp only [NV.sync, List.length_replicate]; exact h.ll, h.len, h.bn, h.bn⟩
theorem splice_all {α : Type} (l x : List α) (h : x.length = l.length) : splice l 0 x = x := by
  unfold splice
  simp [h]
theorem NdIn.putK {w : World} {a : Nat} {N : NV} {V : Vs} (h : NdIn w a N V) {g cap : Nat} (hv : V.k = .slice (some ⟨g, 0, none⟩) N.kept.length cap) (x : List Int) (hl : x.length = N.kept.length) :
    NdIn (w.setCells g 0 (bts x)) a { N with kept := x } V ∧ NdTo w (w.setCells g 0 (bts x)) a V V := by
  have hg : V.k.ownBlock = some g := by rw [hv]; rfl
  have sc := Chg.sets g (bts x) 0 w
  have hr := h.k
  rw [hv] at hr
  have hr2 := Row.sets hr 0 (bts x) (by rw [bts_len, hl]; omega)
  rw [bts_splice, ← hv, splice_all _ _ hl] at hr2
  refine ⟨⟨sc.at h.cells fun e => h.ak (by rw [e]; exact hg), h.n.chg sc fun q hq e => h.nk q hq (by rw [e]; exact hg), by rw [hl]; exact hr2, h.l.chg sc fun q hq e => h.kl g hg (by rw [← e]; exact hq), h.an, h.ak, h.al, h.nk, h.nl, h.kl⟩, sc.mono fun i _ e => Or.inr (Or.inr (Or.inl (by rw [e]; exact hg))), fun i hi => Or.inl hi⟩
theorem NdIn.clearL {w : World} {a : Nat} {N : NV} {V : Vs} (h : NdIn w a N V) {g cap : Nat} (hv : V.l = .slice (some ⟨g, 0, none⟩) N.loose.length cap) :
    NdIn (w.setCells g 0 (List.replicate N.loose.length (.bool false))) a { N with loose := List.replicate N.loose.length false } V ∧ NdTo w (w.setCells g 0 (List.replicate N.loose.length (.bool false))) a V V := by
  have hg : V.l.ownBlock = some g := by rw [hv]; rfl
  have sc := Chg.sets g (List.replicate N.loose.length (.bool false)) 0 w
  have hr := h.l
  rw [hv] at hr
  have hr2 := Row.sets hr 0 (List.replicate N.loose.length (.bool false)) (by simp)
  have e : (bls N.loose).take 0 ++ List.replicate N.loose.length (.bool false) ++ (bls N.loose).drop (0 + (List.replicate N.loose.length (Value.bool false)).length) = bls (List.replicate N.loose.length false) := by
    simp [bls]
  rw [e, ← hv] at hr2
  refine ⟨⟨sc.at h.cells fun e => h.al (by rw [e]; exact hg), h.n.chg sc fun q hq e => h.nl q hq (by rw [e]; exact hg), h.k.chg sc fun q hq e => h.kl q hq (by rw [e]; exact hg), by rw [List.length_replicate]; exact hr2, h.an, h.ak, h.al, h.nk, h.nl, h.kl⟩, sc.mono fun i _ e => Or.inr (Or.inr (Or.inr (by rw [e]; exact hg))), fun i hi => Or.inl hi⟩

theorem ndrew {w : World} {a : Nat} {N : NV} {V : Vs} (h : NdIn w a N V) : NdIn w.drew a N V := h.ext (Ext.drew w)
set_option maxRecDepth 100000 in
set_option maxHeartbeats 4000000 in
theorem nsync_any (a : Nat) (N : NV) (V : Vs) (w : World) (h : NdIn w a N V) (ok : N.Ok) :
    Calls Tryz.prog 25 #[ptr a] w fun e w' => e = .returned (.tuple #[]) ∧ NdIn w' a N.sync V ∧ NdTo w w' a V V := by
  have sz : (Tryz.prog.info? 5).map (·.size) = some 1 := by kernel_rfl
  have c3 : w.cell? ⟨a, 3, none⟩ = some V.n := by rw [h.c 3]; rfl
  have c4 : w.cell? ⟨a, 4, none⟩ = some V.k := by rw [h.c 4]; rfl
  have c5 : w.cell? ⟨a, 5, none⟩ = some V.l := by rw [h.c 5]; rfl
  have hkl := ok.kl
  have hll := ok.ll
  have D := Lib.hid (ndrew h)
  have TD : NdTo w w.drew a V V := ⟨Chg.of_ext (Ext.drew w), fun i hi => Or.inl hi⟩
  by_cases h0 : 0 < N.now.length
  · have hs0 : 0 < N.loose.length := by rw [hll]; unfold secs; omega
    obtain ⟨gn, kn, hvn, n1, n2⟩ := Row.own h.n h0
    obtain ⟨gk, kk, hvk, k1, k2⟩ := Row.own h.k (by omega)
    obtain ⟨gl, kl, hvl, l1, l2⟩ := Row.own h.l hs0
    simp only [maxLen] at n2 k2 l2
    have B : Bin w.drew (.slice (some ⟨gn, 0, none⟩) N.now.length kn) N.now (some ⟨gn, 0, none⟩) kn gn 0 := by
      have hr := D.out.n
      rw [hvn] at hr
      exact ⟨rfl, fun _ => rfl, fun j u hu => by
        have hj := (List.getElem?_eq_some_iff.1 hu).1
        rw [bts_len] at hj
        rw [Nat.zero_add, (Row.cell hr j hj).1, hu]⟩
    have hck : (Builtin.copy_ #[22, 22] 3 #[.slice (some ⟨gk, 0, none⟩) N.now.length kk, .slice (some ⟨gn, 0, none⟩) N.now.length kn]).run Tryz.prog w.drew = .ok (.int .i64 N.now.length) (w.drew.setCells gk 0 (bts N.now)) := by
      have hr := D.out.k
      rw [hvk, hkl] at hr
      have := run_copy_cells (P := Tryz.prog) w.drew 22 22 3 5 gk 0 N.now.length kk ⟨gn, 0, none⟩ N.now.length kn (bts N.now) Tryz.underlying22 sz (by rw [bts_len]; exact (Nat.min_self _).symm) (fun j u hu => by rw [Addr.add_lit]; exact B.cell j u hu) (fun j hj => by rw [bts_len] at hj; rw [Nat.zero_add, (Row.cell hr j hj).1]; simp [bts]; omega) (fun j hj => by rw [bts_len] at hj; rw [Nat.zero_add]; exact (Row.cell hr j hj).2) (by simp [bts, Value.oneCell'])
      rw [bts_len] at this
      exact this
    obtain ⟨p1, p2⟩ := D.out.putK (N := N) (g := gk) (cap := kk) hvk N.now hkl.symm
    obtain ⟨q1, q2⟩ := p1.clearL (g := gl) (cap := kl) hvl
    have hcl : ∀ ty, (Builtin.clear_ #[69] ty #[.slice (some ⟨gl, 0, none⟩) N.loose.length kl]).run Tryz.prog (w.drew.setCells gk 0 (bts N.now)) = .ok (.tuple #[]) ((w.drew.setCells gk 0 (bts N.now)).setCells gl 0 (List.replicate N.loose.length (.bool false))) := fun ty => by
      have hr := p1.l
      rw [hvl] at hr
      have hr' : Row (w.drew.setCells gk 0 (bts N.now)) 4 1 (.slice (some ⟨gl, 0, none⟩) N.loose.length kl) N.loose.length (bls N.loose) := hr
      exact Lib.run_clear_slice (P := Tryz.prog) _ 69 4 ty (.bool false) Tryz.underlying69 (fun _ => by kernel_rfl) rfl rfl gl 0 N.loose.length kl hs0 (fun j hj => by rw [Nat.zero_add, (Row.cell hr' j hj).1]; simp [bls]; omega) (fun j hj => by rw [Nat.zero_add]; exact (Row.cell hr' j hj).2)
    have e5 : (w.drew.setCells gk 0 (bts N.now)).cell? ⟨a, 5, none⟩ = some (.slice (some ⟨gl, 0, none⟩) N.loose.length kl) := by rw [p1.c 5, ← hvl]; rfl
    have Q := Lib.hid (⟨q1, (TD.trans p2).trans q2⟩ : _ ∧ _)
    rw [hvn] at c3
    rw [hvk, hkl] at c4
    generalize N.now.length = L at *
    clear p1 p2 q1 q2 B D TD h ok hkl hll hvn hvk hvl
    unfold ptr
    go_enter Tryz.func25, Tryz.ntmps25
    go_wp2
    go_still_tail 8, (by kernel_rfl)
    change wpList _ _ _ _ _ w.drew
    go_wp2
    go_end0
    exact ⟨rfl, Q.out.1, Q.out.2⟩
  · have hn0 : N.now = [] := List.length_eq_zero_iff.1 (by omega)
    have hk0 : N.kept = [] := List.length_eq_zero_iff.1 (by omega)
    have hl0 : N.loose = [] := List.length_eq_zero_iff.1 (by rw [hll, hn0]; rfl)
    have hsy : N.sync = N := by
      unfold NV.sync
      rw [hn0, hl0]
      cases N
      simp at hn0 hk0 hl0
      simp [hn0, hk0, hl0]
    obtain ⟨dn, kn, hvn, -⟩ := h.n.shape
    obtain ⟨dk, kk, hvk, -⟩ := h.k.shape
    obtain ⟨dl, kl, hvl, -⟩ := h.l.shape
    rw [hn0] at hvn
    rw [hk0] at hvk
    rw [hl0] at hvl
    simp only [List.length_nil] at hvn hvk hvl
    rw [hvn] at c3
    rw [hvk] at c4
    rw [hvl] at c5
    have hck : (Builtin.copy_ #[22, 22] 3 #[.slice dk 0 kk, .slice dn 0 kn]).run Tryz.prog w.drew = .ok (.int .i64 0) w.drew := run_copy_none (P := Tryz.prog) w.drew 22 22 3 5 dk dn 0 kk 0 kn Tryz.underlying22 sz (by simp)
    have hcl : ∀ ty, (Builtin.clear_ #[69] ty #[.slice dl 0 kl]).run Tryz.prog w.drew = .ok (.tuple #[]) w.drew := fun ty => by
      cases dl <;> simp [Builtin.clear_, run_underlying Tryz.underlying69]
    have e5 : w.drew.cell? ⟨a, 5, none⟩ = some (.slice dl 0 kl) := c5
    have Q := Lib.hid (⟨by rw [hsy]; exact D.out, TD⟩ : NdIn w.drew a N.sync V ∧ NdTo w w.drew a V V)
    clear D TD h ok hkl hll hn0 hk0 hl0 hvn hvk hvl h0 hsy
    unfold ptr
    go_enter Tryz.func25, Tryz.ntmps25
    go_wp2
    go_still_tail 8, (by kernel_rfl)
    change wpList _ _ _ _ _ w.drew
    go_wp2
    go_end0
    exact ⟨rfl, Q.out.1, Q.out.2⟩
end Go.Proofs.YtbneedmfpldpfaaGreatDoor

set_option linter.unusedSimpArgs false
namespace Go.Proofs.YtbneedmfpldpfaaGreatDoor
open Go.RowKit Go.Pth

def SV.synced (S : SV) (a : Nat) : SV := { S with nd := upd S.nd a (S.nd a).sync }
set_option maxRecDepth 100000 in
set_option maxHeartbeats 8000000 in
theorem sync_ok (b : Nat) (S : SV) (V : SW) (L : Nat → Option Role) (p : ByteArray) (a : Nat) (w : World) (h : Rep w b S V L) (hf : S.Fit) (hb : S.begE [p.toList] = 0) (hfile : S.file p.toList = (some a, 0)) :
    Calls Tryz.prog 10 #[ptr b, .string p] w fun e w' => e = .returned (.int .i64 0) ∧ ∃ V' L', Rep w' b (S.beg.synced a) V' L' ∧ StTo w w' L L' := by
  have BG := Lib.hid (begin_one b S V L p w h hf)
  rw [hb] at BG
  have bs := beg_same S
  have hfb : S.beg.file p.toList = (some a, 0) := by unfold SV.file; rw [bs.1, bs.2.1]; exact hfile
  have hlook : look S.names p.toList = some a := by
    unfold SV.file at hfile
    split at hfile
    · cases hfile
    · rename_i q hq
      split at hfile
      · injection hfile with h1; rw [hq, h1]
      · cases hfile
  have ha : a ∈ S.beg.ids := by rw [bs.2.2.1]; exact h.rn _ (look_mem _ _ _ hlook)
  have FI := Lib.hid (fun w' (r : Rep w' b S.beg V L) => file_any b S.beg V L p w' r (by rw [bs.1]; have := hf.names; omega))
  simp only [hfb, optr] at FI
  have HA := Lib.hid ha
  clear bs hfb hlook ha hb h hfile
  unfold ptr at *
  go_enter Tryz.func10, Tryz.ntmps10
  go_wp2_with fail
  refine (BG.out).mono ?_
  rintro e w1 ⟨rfl, r1, t1⟩
  have R1 := Lib.hid r1
  have T1 := Lib.hid t1
  clear r1 t1 BG
  go_wp2_with fail
  refine (FI.out w1 R1.out).mono ?_
  rintro e w2 ⟨rfl, e2⟩
  have R2 := Lib.hid (R1.out.ext e2)
  have T2 := Lib.hid (T1.out.trans (StTo.of_ext e2))
  have NS := Lib.hid (nsync_any a (S.beg.nd a) (V.nv a) w2 (R2.out.nd a HA.out).1 (R2.out.nd a HA.out).2)
  clear e2 FI R1 T1
  unfold ptr at NS
  go_wp2_with fail
  refine (NS.out).mono ?_
  rintro e w3 ⟨rfl, n3, t3⟩
  obtain ⟨L', r4, t4⟩ := R2.out.node a HA.out _ (V.nv a) n3 ((R2.out.nd a HA.out).2.sync) t3
  have F := Lib.hid (⟨r4, T2.out.trans t4⟩ : _ ∧ _)
  clear n3 t3 r4 t4 NS R2 T2
  go_wp2
  go_ret
  exact ⟨rfl, _, _, F.out.1, F.out.2⟩

/-- The acts are forgotten. -/
theorem Rep.noActs {w : World} {b : Nat} {S : SV} {V : SW} {L : Nat → Option Role} (h : Rep w b S V L) :
    Rep (w.setCell ⟨b, 4, none⟩ (.slice none 0 0)) b { S with acts := [] } { V with a := .slice none 0 0 } L ∧ StTo w (w.setCell ⟨b, 4, none⟩ (.slice none 0 0)) L L := by
  have sc := Chg.setCell w b 4 (.slice none 0 0)
  have ne : ∀ i r, L i = some r → r ≠ .store → ¬ i = b := fun i r hi hr e => by subst e; rw [h.lb] at hi; injection hi with hi; exact hr hi.symm
  refine ⟨⟨?_, ?_, ?_, World.ownsRow_nil _ _ _ _, ?_, h.lb, h.ln, h.lk, fun g hg => (by cases hg), h.ld, fun i hi => (by rw [size_setCell]; exact h.lt i hi), h.sn, h.sk, h.rn, h.rk⟩, sc.mono fun i _ e => by rw [e, h.lb]; simp, fun i hi => Or.inl hi⟩
  · exact h.cell.set 4 _
  · exact h.nm.chg sc fun g hg => ne g _ (h.ln g hg) (by simp)
  · exact h.kp.chg sc fun g hg => ne g _ (h.lk g hg) (by simp)
  · exact fun a ha => ⟨(h.nd a ha).1.chg sc fun i hi => ne i _ (h.ld a ha i hi) (by simp), (h.nd a ha).2⟩

def SV.dirred (S : SV) (l : List Nm) : SV := { S with kept := l, acts := [] }
theorem txt_nil (w : World) : Txt w (.slice none 0 0) [] := ⟨none, 0, 0, rfl, fun h => by simp at h, fun j hj => by simp at hj⟩
set_option maxRecDepth 100000 in
set_option maxHeartbeats 8000000 in
theorem syncdir_one (b : Nat) (S : SV) (V : SW) (L : Nat → Option Role) (p : B) (a : Nat) (w : World) (h : Rep w b S V L) (hf : S.Fit) (hpw : S.power = 0) (hk : S.kept = []) (hac : S.acts = [⟨[], p, some a⟩]) (ha : a ∈ S.ids) :
    Calls Tryz.prog 11 #[ptr b] w fun e w' => e = .returned (.int .i64 0) ∧ ∃ V' L', Rep w' b (S.beg.dirred [(p, a)]) V' L' ∧ StTo w w' L L' := by
  have BG := Lib.hid (begin_any b S V L (.slice none 0 0) [] w h hf.left ⟨hf.ops.1, by have := hf.ops.2; omega⟩ (txt_nil w) (by simp) (fun ad n c hv => by cases hv))
  have hb0 : S.begE [] = 0 := by
    unfold SV.begE
    have : S.beg.power = 0 := by unfold SV.beg SV.spend; simp [hpw]
    rw [this]; rfl
  rw [hb0] at BG
  have bs := beg_same S
  have hkb : S.beg.kept = [] := by unfold SV.beg SV.spend; split <;> (try split) <;> exact hk
  have hab : S.beg.acts = [⟨[], p, some a⟩] := by unfold SV.beg SV.spend; split <;> (try split) <;> exact hac
  have haa : a ∈ S.beg.ids := by rw [bs.2.2.1]; exact ha
  clear hb0 h hf hpw hk hac bs ha
  unfold ptr at BG ⊢
  go_enter Tryz.func11, Tryz.ntmps11
  go_wp2_with fail
  refine (BG.out).mono ?_
  rintro e w1 ⟨rfl, r1, t1⟩
  have hacr := r1.ac
  rw [hab] at hacr
  obtain ⟨ga, ca, cura, hva, -, hga, hc1, hc2, hcs, hx⟩ : ∃ g cap cur, V.a = .slice (some ⟨g, 0, none⟩) 1 cap ∧ 0 ≤ g ∧ w1.heap[g]? = some (.cells cur 95 (0, 0)) ∧ 1 ≤ cap ∧ cap ≤ maxLen ∧ cur.size = cap * 3 ∧ cur.toList.take (1 * 3) = acells [⟨[], p, some a⟩] := by
    rcases hacr.2 with ⟨_, h0⟩ | h0
    · cases h0
    · exact h0
  have hat : At w1 ga cura 95 := hga
  have cx : ∀ j, j < 3 → w1.cell? ⟨ga, j, none⟩ = (acells [⟨[], p, some a⟩])[j]? := fun j hj => by
    rw [hat.cell, ← hx, List.getElem?_take_of_lt (by omega), Array.getElem?_toList]
  have hkr := r1.kp
  rw [hkb] at hkr
  have hoc : V.k.ownBlock ≠ some b := fun e => by have := r1.lk b e; rw [r1.lb] at this; cases this
  have d4 : w1.cell? ⟨b, 4, none⟩ = some (.slice (some ⟨ga, 0, none⟩) 1 ca) := by rw [r1.c 4, ← hva]; rfl
  have AP : ∀ w2, Ext w1 w2 → Calls Tryz.prog 26 #[.pointer (some ⟨b, 3, none⟩), .slice (some ⟨ga, 0, none⟩) 1 ca] w2 fun e w' => e = .returned (.tuple #[]) ∧ ∃ V' L', Rep w' b { S.beg with kept := [(p, a)] } V' L' ∧ StTo w w' L L' := fun w2 e2 => by
    have r2 := r1.ext e2
    have hkr2 := hkr.ext e2
    refine (apply_made b 3 (scells S.beg V) 57 V.k [] p a ga 0 ca w2 r2.cell rfl hkr2 hoc List.Pairwise.nil (by simp) rfl (e2.cell (cx 0 (by omega))) (e2.cell (cx 1 (by omega))) (e2.cell (cx 2 (by omega)))).mono fun e w' ⟨q1, v', w3, q2, q3, q4⟩ => ?_
    subst q4
    have f := r2.setKept (v' := v') (l' := [(p, a)]) q2 q3 (List.pairwise_singleton _ _) (fun x hx => by obtain rfl := List.mem_singleton.1 hx; exact haa)
    exact ⟨q1, _, _, f.1, (t1.trans (StTo.of_ext e2)).trans f.2⟩
  have HP := Lib.hid AP
  simp only [maxLen] at hc2
  clear AP hacr hva hga hcs hx hat cx hkr hoc hkb hab haa r1 t1 BG
  go_wp2
  go_still_tail 7, (by kernel_rfl)
  change wpList _ _ _ _ _ w1.drew
  go_wp2_with fail
  refine (HP.out w1.drew (Ext.drew w1)).mono ?_
  rintro e w2 ⟨rfl, V', L', r2, t2⟩
  have c4 : w2.cell? ⟨b, 4, none⟩ = some V'.a := by rw [r2.c 4]; rfl
  have f4 := r2.fz 4
  obtain ⟨n1, n2⟩ := r2.noActs
  have F := Lib.hid (⟨n1, t2.trans n2⟩ : _ ∧ _)
  clear r2 t2 n1 n2 HP d4
  go_wp2
  go_ret
  exact ⟨rfl, _, _, F.out.1, F.out.2⟩
end Go.Proofs.YtbneedmfpldpfaaGreatDoor

namespace Go.Proofs.YtbneedmfpldpfaaGreatDoor
open Go.RowKit Go.Pth
set_option linter.unusedSimpArgs false
set_option linter.unusedVariables false

/-- One node was touched at most: that at the name q. -/
def Touch (S S' : SV) (q : B) : Prop := S' = S ∨ ∃ (a : Nat) (N' : NV) (c : Int), look S.names q = some a ∧ N'.kind = (S.nd a).kind ∧ S.clock ≤ c ∧ c ≤ S.clock + 1 ∧ S' = { S with clock := c, nd := upd S.nd a N' }
def TPost (w : World) (b : Nat) (S : SV) (q : B) (L : Nat → Option Role) (e : Ending) (w' : World) : Prop := (∃ n : Int, e = .returned (.int .i64 n)) ∧ ∃ S' V' L', Touch S S' q ∧ Rep w' b S' V' L' ∧ StTo w w' L L'
theorem NdIn.setM {w : World} {a : Nat} {N : NV} {V : Vs} (n : NdIn w a N V) (m : Int) : NdIn (w.setCell ⟨a, 1, none⟩ (.int .i64 m)) a { N with mt := m } V ∧ NdTo w (w.setCell ⟨a, 1, none⟩ (.int .i64 m)) a V V := by
  have sc := Chg.setCell w a 1 (.int .i64 m)
  refine ⟨⟨?_, n.n.chg sc fun q hq e => n.an (e ▸ hq), n.k.chg sc fun q hq e => n.ak (e ▸ hq), n.l.chg sc fun q hq e => n.al (e ▸ hq), n.an, n.ak, n.al, n.nk, n.nl, n.kl⟩, sc.mono fun i _ e => Or.inl e, fun i hi => Or.inl hi⟩
  have := n.cells.set 1 (.int .i64 m)
  simpa [ncells] using this
theorem ids_of {w : World} {b : Nat} {S : SV} {V : SW} {L : Nat → Option Role} (h : Rep w b S V L) {q : B} {a : Nat} (hl : look S.names q = some a) : a ∈ S.beg.ids := by
  rw [(beg_same S).2.2.1]; exact h.rn _ (look_mem _ _ _ hl)

set_option maxRecDepth 100000 in
set_option maxHeartbeats 8000000 in
theorem setmeta_any (b : Nat) (S : SV) (V : SW) (L : Nat → Option Role) (p : ByteArray) (m : Int) (w : World) (h : Rep w b S V L) (hf : S.Fit) :
    Calls Tryz.prog 35 #[ptr b, .string p, .int .i64 m] w (TPost w b S.beg p.toList L) := by
  have BG := Lib.hid (begin_one b S V L p w h hf)
  have bs := beg_same S
  have HL := Lib.hid (fun a (hl : look S.names p.toList = some a) => ids_of h hl)
  have hck := hf.clock
  have hnm := hf.names
  obtain ⟨n0, hn0⟩ : ∃ n, S.begE [p.toList] = n := ⟨_, rfl⟩
  rw [hn0] at BG
  clear hn0
  by_cases hb : n0 = 0
  rotate_left
  · have tb : (n0 != 0) = true := by simpa using hb
    clear bs HL hck hnm h hf hb
    unfold ptr at *
    go_enter Tryz.func35, Tryz.ntmps35
    go_wp2_with fail
    refine (BG.out).mono ?_
    rintro e w1 ⟨rfl, r1, t1⟩
    have F := Lib.hid (And.intro r1 t1)
    clear r1 t1 BG
    go_wp2
    go_ret
    exact ⟨⟨_, rfl⟩, _, _, _, Or.inl rfl, F.out.1, F.out.2⟩
  subst hb
  have FI := Lib.hid (fun w' (r : Rep w' b S.beg V L) => find_any V.n S.beg.names p w' (Tr.of_row r.nm) r.sn (by rw [bs.1]; omega))
  rw [bs.1] at FI
  obtain ⟨lk, hlk⟩ : ∃ o, look S.names p.toList = o := ⟨_, rfl⟩
  rw [hlk] at FI HL
  have HLK := Lib.hid hlk
  clear hlk
  cases lk with
  | none =>
    simp only [optr] at FI
    clear bs HL hck hnm h hf
    unfold ptr at *
    go_enter Tryz.func35, Tryz.ntmps35
    go_wp2_with fail
    refine (BG.out).mono ?_
    rintro e w1 ⟨rfl, r1, t1⟩
    have F := Lib.hid (And.intro r1 t1)
    have c2 := r1.c 2
    simp only [scells] at c2
    clear r1 t1 BG
    go_wp2_with fail
    refine (FI.out _ F.out.1).mono ?_
    rintro e w2 ⟨rfl, e2⟩
    clear c2 FI
    go_wp2
    go_ret
    exact ⟨⟨_, rfl⟩, _, _, _, Or.inl rfl, F.out.1.ext e2, F.out.2.trans (StTo.of_ext e2)⟩
  | some a =>
    simp only [optr] at FI
    have ha := Lib.hid (HL.out a rfl)
    clear h hf
    by_cases hm : m < 0 ∨ 2147483647 < m
    · have dm : decide (m < 0) = true ∨ (decide (m < 0) = false ∧ decide (2147483647 < m) = true) := by
        by_cases h1 : m < 0
        · exact Or.inl (by simpa using h1)
        · exact Or.inr ⟨by simpa using h1, by simp; omega⟩
      clear bs HL hck hnm hm
      unfold ptr at *
      rcases dm with d1 | ⟨d1, d2⟩ <;>
      · go_enter Tryz.func35, Tryz.ntmps35
        go_wp2_with fail
        refine (BG.out).mono ?_
        rintro e w1 ⟨rfl, r1, t1⟩
        have F := Lib.hid (And.intro r1 t1)
        have c2 := r1.c 2
        simp only [scells] at c2
        clear r1 t1 BG
        go_wp2_with fail
        refine (FI.out _ F.out.1).mono ?_
        rintro e w2 ⟨rfl, e2⟩
        clear c2 FI
        go_wp2
        go_ret
        exact ⟨⟨_, rfl⟩, _, _, _, Or.inl rfl, F.out.1.ext e2, F.out.2.trans (StTo.of_ext e2)⟩
    · have d1 : decide (m < 0) = false := by simp; omega
      have d2 : decide (2147483647 < m) = false := by simp; omega
      have HCK := Lib.hid (show 0 ≤ S.beg.clock ∧ S.beg.clock ≤ 1000000 by rw [bs.2.2.2.1]; omega)
      have HBN := Lib.hid bs.1
      clear bs HL hck hnm hm
      unfold ptr at *
      go_enter Tryz.func35, Tryz.ntmps35
      go_wp2_with fail
      refine (BG.out).mono ?_
      rintro e w1 ⟨rfl, r1, t1⟩
      have F := Lib.hid (And.intro r1 t1)
      have c2 := r1.c 2
      simp only [scells] at c2
      clear r1 t1 BG
      go_wp2_with fail
      refine (FI.out _ F.out.1).mono ?_
      rintro e w2 ⟨rfl, e2⟩
      have R2 := Lib.hid (F.out.1.ext e2)
      have T2 := Lib.hid (F.out.2.trans (StTo.of_ext e2))
      have na := (R2.out.nd a ha.out).1
      have c1 := na.c 1
      have f1 := na.fz 1
      simp only [ncells] at c1
      obtain ⟨n3, t3⟩ := na.setM m
      have ok := (R2.out.nd a ha.out).2
      obtain ⟨L3, r3, t3'⟩ := R2.out.node a ha.out _ (V.nv a) n3 (show ({ S.beg.nd a with mt := m } : NV).Ok from ⟨ok.kl, ok.ll, ok.len, ok.bn, ok.bk⟩) t3
      have MK := Lib.hid (mark_any b a _ _ _ _ r3 ha.out HCK.out)
      have T3 := Lib.hid (T2.out.trans t3')
      clear c2 FI F e2 na n3 t3 t3' r3 ok R2 T2
      unfold ptr at MK
      go_wp2_with fail
      refine (MK.out).mono ?_
      rintro e w4 ⟨rfl, V4, L4, r4, t4⟩
      have FN := Lib.hid (And.intro r4 (T3.out.trans t4))
      clear r4 t4 MK c1 f1
      go_wp2
      go_ret
      refine ⟨⟨_, rfl⟩, _, _, _, Or.inr ⟨a, { S.beg.nd a with mt := m, stamp := S.beg.clock + 1 }, S.beg.clock + 1, by rw [HBN.out]; exact HLK.out, rfl, by omega, by omega, ?_⟩, FN.out.1, FN.out.2⟩
      simp only [upd_upd, upd_same]
end Go.Proofs.YtbneedmfpldpfaaGreatDoor

namespace Go.Proofs.YtbneedmfpldpfaaGreatDoor
open Go.RowKit Go.Pth
set_option linter.unusedSimpArgs false
set_option linter.unusedVariables false

/-- What file answers: a file that stands at the name, or none and an error. -/
theorem file_two (S : SV) (q : B) : (∃ n : Int, S.file q = (none, n) ∧ n ≠ 0) ∨ ∃ a, look S.names q = some a ∧ (S.nd a).kind = 1 ∧ S.file q = (some a, 0) := by
  unfold SV.file
  cases h : look S.names q with
  | none => exact Or.inl ⟨5, rfl, by omega⟩
  | some a =>
    by_cases k : (S.nd a).kind = 1
    · exact Or.inr ⟨a, rfl, k, by simp [k]⟩
    · exact Or.inl ⟨8, by simp [k], by omega⟩

set_option maxRecDepth 100000 in
set_option maxHeartbeats 8000000 in
theorem truncate_any (b : Nat) (S : SV) (V : SW) (L : Nat → Option Role) (p : ByteArray) (m : Int) (w : World) (h : Rep w b S V L) (hf : S.Fit) :
    Calls Tryz.prog 33 #[ptr b, .string p, .int .i64 m] w (TPost w b S.beg p.toList L) := by
  have BG := Lib.hid (begin_one b S V L p w h hf)
  have bs := beg_same S
  have HL := Lib.hid (fun a (hl : look S.beg.names p.toList = some a) => ids_of h (by rw [← bs.1]; exact hl))
  have hck := hf.clock
  have hnm := hf.names
  obtain ⟨n0, hn0⟩ : ∃ n, S.begE [p.toList] = n := ⟨_, rfl⟩
  rw [hn0] at BG
  clear hn0
  by_cases hb : n0 = 0
  rotate_left
  · have tb : (n0 != 0) = true := by simpa using hb
    clear bs HL hck hnm h hf hb
    unfold ptr at *
    go_enter Tryz.func33, Tryz.ntmps33
    go_wp2_with fail
    refine (BG.out).mono ?_
    rintro e w1 ⟨rfl, r1, t1⟩
    have F := Lib.hid (And.intro r1 t1)
    clear r1 t1 BG
    go_wp2
    go_ret
    exact ⟨⟨_, rfl⟩, _, _, _, Or.inl rfl, F.out.1, F.out.2⟩
  subst hb
  have FI := Lib.hid (fun w' (r : Rep w' b S.beg V L) => file_any b S.beg V L p w' r (by rw [bs.1]; omega))
  have HF := Lib.hid (file_two S.beg p.toList)
  have HCK := Lib.hid (show 0 ≤ S.beg.clock ∧ S.beg.clock ≤ 1000000 by rw [bs.2.2.2.1]; omega)
  obtain ⟨lk, hlk⟩ : ∃ o, S.beg.file p.toList = o := ⟨_, rfl⟩
  rw [hlk] at FI HF
  clear hlk bs hck hnm h hf
  rcases HF.out with ⟨n, e1, hne⟩ | ⟨a, hl, hk, e1⟩
  · subst e1
    simp only [optr] at FI
    have tb : (n != 0) = true := by simpa using hne
    clear HL HF HCK hne
    unfold ptr at *
    go_enter Tryz.func33, Tryz.ntmps33
    go_wp2_with fail
    refine (BG.out).mono ?_
    rintro e w1 ⟨rfl, r1, t1⟩
    have F := Lib.hid (And.intro r1 t1)
    clear r1 t1 BG
    go_wp2_with fail
    refine (FI.out _ F.out.1).mono ?_
    rintro e w2 ⟨rfl, e2⟩
    have E2 := Lib.hid e2
    clear e2 FI
    go_wp2
    go_ret
    exact ⟨⟨_, rfl⟩, _, _, _, Or.inl rfl, F.out.1.ext E2.out, F.out.2.trans (StTo.of_ext E2.out)⟩
  · subst e1
    simp only [optr] at FI
    have HLK := Lib.hid hl
    have HK := Lib.hid hk
    have ha := Lib.hid (HL.out a hl)
    clear HL HF hl hk
    have lenm := fun w' (r : Rep w' b S.beg V L) => ((r.nd a ha.out).2).len
    by_cases hm : m < 0 ∨ ((S.beg.nd a).now.length : Int) < m
    · have dm : decide (m < 0) = true ∨ (decide (m < 0) = false ∧ decide (((S.beg.nd a).now.length : Int) < m) = true) := by
        by_cases h1 : m < 0
        · exact Or.inl (by simpa using h1)
        · exact Or.inr ⟨by simpa using h1, by simp; omega⟩
      clear hm HCK HK HLK lenm
      unfold ptr at *
      rcases dm with d1 | ⟨d1, d2⟩
      · go_enter Tryz.func33, Tryz.ntmps33
        go_wp2_with fail
        refine (BG.out).mono ?_
        rintro e w1 ⟨rfl, r1, t1⟩
        have F := Lib.hid (And.intro r1 t1)
        clear r1 t1 BG
        go_wp2_with fail
        refine (FI.out _ F.out.1).mono ?_
        rintro e w2 ⟨rfl, e2⟩
        have E2 := Lib.hid e2
        clear e2 FI
        go_wp2
        go_ret
        exact ⟨⟨_, rfl⟩, _, _, _, Or.inl rfl, F.out.1.ext E2.out, F.out.2.trans (StTo.of_ext E2.out)⟩
      · go_enter Tryz.func33, Tryz.ntmps33
        go_wp2_with fail
        refine (BG.out).mono ?_
        rintro e w1 ⟨rfl, r1, t1⟩
        have F := Lib.hid (And.intro r1 t1)
        clear r1 t1 BG
        go_wp2_with fail
        refine (FI.out _ F.out.1).mono ?_
        rintro e w2 ⟨rfl, e2⟩
        have na := ((F.out.1.ext e2).nd a ha.out).1
        have c3 := na.c 3
        simp only [ncells] at c3
        obtain ⟨ad, cap, bb, bin, -⟩ := Bin.of_row na.n
        have bl := bin.val
        have E2 := Lib.hid e2
        clear e2 FI na bin
        rw [bl] at c3
        go_wp2
        go_ret
        exact ⟨⟨_, rfl⟩, _, _, _, Or.inl rfl, F.out.1.ext E2.out, F.out.2.trans (StTo.of_ext E2.out)⟩
    · obtain ⟨k, rfl⟩ : ∃ k : Nat, m = (k : Int) := ⟨m.toNat, by omega⟩
      have KL := Lib.hid (show k ≤ (S.beg.nd a).now.length by omega)
      have d1 : decide ((k : Int) < 0) = false := by simp
      have d2 : decide ((S.beg.nd a).now.length < k) = false := by have := KL.out; simp; omega
      clear hm lenm
      unfold ptr at *
      go_enter Tryz.func33, Tryz.ntmps33
      go_wp2_with fail
      refine (BG.out).mono ?_
      rintro e w1 ⟨rfl, r1, t1⟩
      have F := Lib.hid (And.intro r1 t1)
      clear r1 t1 BG
      go_wp2_with fail
      refine (FI.out _ F.out.1).mono ?_
      rintro e w2 ⟨rfl, e2⟩
      have R2 := Lib.hid (F.out.1.ext e2)
      have T2 := Lib.hid (F.out.2.trans (StTo.of_ext e2))
      have na := Lib.hid (R2.out.nd a ha.out)
      have c3 := na.out.1.c 3
      simp only [ncells] at c3
      obtain ⟨ad, cap, bb, bin, -⟩ := Bin.of_row na.out.1.n
      have bl := bin.val
      clear e2 FI bin F
      rw [bl] at c3
      have RZ := Lib.hid (resize_any a (S.beg.nd a) (V.nv a) k w2 na.out.1 na.out.2 (by have := na.out.2.len; have := KL.out; omega))
      clear bl
      unfold ptr at RZ
      go_wp2_with fail
      refine (RZ.out).mono ?_
      rintro e w3 ⟨rfl, V3, n3, t3⟩
      obtain ⟨L3, r3, t3'⟩ := R2.out.node a ha.out _ V3 n3 (na.out.2.resize k (by have := na.out.2.len; have := KL.out; omega)) t3
      have MK := Lib.hid (mark_any b a _ _ _ _ r3 ha.out HCK.out)
      have T3 := Lib.hid (T2.out.trans t3')
      clear R2 T2 na n3 t3 t3' r3 c3 RZ
      unfold ptr at MK
      go_wp2_with fail
      refine (MK.out).mono ?_
      rintro e w4 ⟨rfl, V4, L4, r4, t4⟩
      have FN := Lib.hid (And.intro r4 (T3.out.trans t4))
      clear r4 t4 MK
      go_wp2
      go_ret
      refine ⟨⟨_, rfl⟩, _, _, _, Or.inr ⟨a, { (S.beg.nd a).resize k with stamp := S.beg.clock + 1 }, S.beg.clock + 1, HLK.out, rfl, by omega, by omega, ?_⟩, FN.out.1, FN.out.2⟩
      simp only [upd_upd, upd_same]
end Go.Proofs.YtbneedmfpldpfaaGreatDoor

namespace Go.Proofs.YtbneedmfpldpfaaGreatDoor
open Go.RowKit Go.Pth
set_option linter.unusedSimpArgs false
set_option linter.unusedVariables false

set_option maxRecDepth 100000 in
set_option maxHeartbeats 8000000 in
theorem sync_all (b : Nat) (S : SV) (V : SW) (L : Nat → Option Role) (p : ByteArray) (w : World) (h : Rep w b S V L) (hf : S.Fit) :
    Calls Tryz.prog 10 #[ptr b, .string p] w (TPost w b S.beg p.toList L) := by
  have BG := Lib.hid (begin_one b S V L p w h hf)
  have bs := beg_same S
  have hnm := hf.names
  have OK := Lib.hid (fun a => sync_ok b S V L p a w h hf)
  obtain ⟨n0, hn0⟩ : ∃ n, S.begE [p.toList] = n := ⟨_, rfl⟩
  rw [hn0] at BG OK
  clear hn0
  by_cases hb : n0 = 0
  rotate_left
  · have tb : (n0 != 0) = true := by simpa using hb
    clear bs hnm h hf hb OK
    unfold ptr at *
    go_enter Tryz.func10, Tryz.ntmps10
    go_wp2_with fail
    refine (BG.out).mono ?_
    rintro e w1 ⟨rfl, r1, t1⟩
    have F := Lib.hid (And.intro r1 t1)
    clear r1 t1 BG
    go_wp2
    go_ret
    exact ⟨⟨_, rfl⟩, _, _, _, Or.inl rfl, F.out.1, F.out.2⟩
  subst hb
  have FI := Lib.hid (fun w' (r : Rep w' b S.beg V L) => file_any b S.beg V L p w' r (by rw [bs.1]; omega))
  have HF := Lib.hid (file_two S.beg p.toList)
  have FE := Lib.hid (show S.beg.file p.toList = S.file p.toList by unfold SV.file; rw [bs.1, bs.2.1])
  obtain ⟨lk, hlk⟩ : ∃ o, S.beg.file p.toList = o := ⟨_, rfl⟩
  rw [hlk] at FI HF FE
  clear hlk bs hnm h hf
  rcases HF.out with ⟨n, e1, hne⟩ | ⟨a, hl, hk, e1⟩
  · subst e1
    simp only [optr] at FI
    have tb : (n != 0) = true := by simpa using hne
    clear HF hne OK FE
    unfold ptr at *
    go_enter Tryz.func10, Tryz.ntmps10
    go_wp2_with fail
    refine (BG.out).mono ?_
    rintro e w1 ⟨rfl, r1, t1⟩
    have F := Lib.hid (And.intro r1 t1)
    clear r1 t1 BG
    go_wp2_with fail
    refine (FI.out _ F.out.1).mono ?_
    rintro e w2 ⟨rfl, e2⟩
    have E2 := Lib.hid e2
    clear e2 FI
    go_wp2
    go_ret
    exact ⟨⟨_, rfl⟩, _, _, _, Or.inl rfl, F.out.1.ext E2.out, F.out.2.trans (StTo.of_ext E2.out)⟩
  · refine (OK.out a rfl (by rw [← FE.out, e1])).mono ?_
    rintro e w1 ⟨rfl, V', L', r, t⟩
    exact ⟨⟨_, rfl⟩, _, V', L', Or.inr ⟨a, (S.beg.nd a).sync, S.beg.clock, hl, rfl, by omega, by omega, rfl⟩, r, t⟩
end Go.Proofs.YtbneedmfpldpfaaGreatDoor
