/- Contracts of Sync and SyncDir. -/
import Derived.Test.YtbneedmfpldpfaaDoorUa
import Derived.Test.YtbneedmfpldpfaaDoorSk
set_option linter.unusedSimpArgs false
namespace Go.Proofs.YtbneedmfpldpfaaDoor
open Go.RowKit Go.Pth

def SV.synced (S : SV) (a : Nat) : SV := { S with nd := upd S.nd a (S.nd a).sync }
set_option maxRecDepth 100000 in
set_option maxHeartbeats 8000000 in
theorem sync_ok (b : Nat) (S : SV) (V : SW) (L : Nat → Option Role) (p : ByteArray) (a : Nat) (w : World) (h : Rep w b S V L) (hf : S.Fit) (hb : S.begE [p.toList] = 0) (hfile : S.file p.toList = (some a, 0)) :
    Calls Tryd.prog 18 #[ptr b, .string p] w fun e w' => e = .returned (.int .i64 0) ∧ ∃ V' L', Rep w' b (S.beg.synced a) V' L' ∧ StTo w w' L L' := by
  have BG := Lib.hid (begin_one b S V L p w h hf)
  rw [hb] at BG
  have bs := beg_same S
  have hfb : S.beg.file p.toList = (some a, 0) := by unfold SV.file; rw [bs.1, bs.2.1]; exact hfile
  have hlook : look S.names p.toList = some a := by
    unfold SV.file at hfile
    split at hfile
    · cases hfile
    · rename_i q hq
      split at hfile
      · injection hfile with h1; rw [hq, h1]
      · cases hfile
  have ha : a ∈ S.beg.ids := by rw [bs.2.2.1]; exact h.rn _ (look_mem _ _ _ hlook)
  have FI := Lib.hid (fun w' (r : Rep w' b S.beg V L) => file_any b S.beg V L p w' r (by rw [bs.1]; have := hf.names; omega))
  simp only [hfb, optr] at FI
  have HA := Lib.hid ha
  clear bs hfb hlook ha hb h hfile
  unfold ptr at *
  go_enter Tryd.func18, Tryd.ntmps18
  go_wp2_with fail
  refine (BG.out).mono ?_
  rintro e w1 ⟨rfl, r1, t1⟩
  have R1 := Lib.hid r1
  have T1 := Lib.hid t1
  clear r1 t1 BG
  go_wp2_with fail
  refine (FI.out w1 R1.out).mono ?_
  rintro e w2 ⟨rfl, e2⟩
  have R2 := Lib.hid (R1.out.ext e2)
  have T2 := Lib.hid (T1.out.trans (StTo.of_ext e2))
  have NS := Lib.hid (nsync_any a (S.beg.nd a) (V.nv a) w2 (R2.out.nd a HA.out).1 (R2.out.nd a HA.out).2)
  clear e2 FI R1 T1
  unfold ptr at NS
  go_wp2_with fail
  refine (NS.out).mono ?_
  rintro e w3 ⟨rfl, n3, t3⟩
  obtain ⟨L', r4, t4⟩ := R2.out.node a HA.out _ (V.nv a) n3 ((R2.out.nd a HA.out).2.sync) t3
  have F := Lib.hid (⟨r4, T2.out.trans t4⟩ : _ ∧ _)
  clear n3 t3 r4 t4 NS R2 T2
  go_wp2
  go_ret
  exact ⟨rfl, _, _, F.out.1, F.out.2⟩

/-- The acts are forgotten. -/
theorem Rep.noActs {w : World} {b : Nat} {S : SV} {V : SW} {L : Nat → Option Role} (h : Rep w b S V L) :
    Rep (w.setCell ⟨b, 4, none⟩ (.slice none 0 0)) b { S with acts := [] } { V with a := .slice none 0 0 } L ∧ StTo w (w.setCell ⟨b, 4, none⟩ (.slice none 0 0)) L L := by
  have sc := Chg.setCell w b 4 (.slice none 0 0)
  have ne : ∀ i r, L i = some r → r ≠ .store → ¬ i = b := fun i r hi hr e => by subst e; rw [h.lb] at hi; injection hi with hi; exact hr hi.symm
  refine ⟨⟨?_, ?_, ?_, World.ownsRow_nil _ _ _ _, ?_, h.lb, h.ln, h.lk, fun g hg => (by cases hg), h.ld, fun i hi => (by rw [size_setCell]; exact h.lt i hi), h.sn, h.sk, h.rn, h.rk⟩, sc.mono fun i _ e => by rw [e, h.lb]; simp, fun i hi => Or.inl hi⟩
  · exact h.cell.set 4 _
  · exact h.nm.chg sc fun g hg => ne g _ (h.ln g hg) (by simp)
  · exact h.kp.chg sc fun g hg => ne g _ (h.lk g hg) (by simp)
  · exact fun a ha => ⟨(h.nd a ha).1.chg sc fun i hi => ne i _ (h.ld a ha i hi) (by simp), (h.nd a ha).2⟩

def SV.dirred (S : SV) (l : List Nm) : SV := { S with kept := l, acts := [] }
theorem txt_nil (w : World) : Txt w (.slice none 0 0) [] := ⟨none, 0, 0, rfl, fun h => by simp at h, fun j hj => by simp at hj⟩
set_option maxRecDepth 100000 in
set_option maxHeartbeats 8000000 in
theorem syncdir_one (b : Nat) (S : SV) (V : SW) (L : Nat → Option Role) (p : B) (a : Nat) (w : World) (h : Rep w b S V L) (hf : S.Fit) (hpw : S.power = 0) (hk : S.kept = []) (hac : S.acts = [⟨[], p, some a⟩]) (ha : a ∈ S.ids) :
    Calls Tryd.prog 12 #[ptr b] w fun e w' => e = .returned (.int .i64 0) ∧ ∃ V' L', Rep w' b (S.beg.dirred [(p, a)]) V' L' ∧ StTo w w' L L' := by
  have BG := Lib.hid (begin_any b S V L (.slice none 0 0) [] w h hf.left ⟨hf.ops.1, by have := hf.ops.2; omega⟩ (txt_nil w) (by simp) (fun ad n c hv => by cases hv))
  have hb0 : S.begE [] = 0 := by
    unfold SV.begE
    have : S.beg.power = 0 := by unfold SV.beg SV.spend; simp [hpw]
    rw [this]; rfl
  rw [hb0] at BG
  have bs := beg_same S
  have hkb : S.beg.kept = [] := by unfold SV.beg SV.spend; split <;> (try split) <;> exact hk
  have hab : S.beg.acts = [⟨[], p, some a⟩] := by unfold SV.beg SV.spend; split <;> (try split) <;> exact hac
  have haa : a ∈ S.beg.ids := by rw [bs.2.2.1]; exact ha
  clear hb0 h hf hpw hk hac bs ha
  unfold ptr at BG ⊢
  go_enter Tryd.func12, Tryd.ntmps12
  go_wp2_with fail
  refine (BG.out).mono ?_
  rintro e w1 ⟨rfl, r1, t1⟩
  have hacr := r1.ac
  rw [hab] at hacr
  obtain ⟨ga, ca, cura, hva, -, hga, hc1, hc2, hcs, hx⟩ : ∃ g cap cur, V.a = .slice (some ⟨g, 0, none⟩) 1 cap ∧ 0 ≤ g ∧ w1.heap[g]? = some (.cells cur 87 (0, 0)) ∧ 1 ≤ cap ∧ cap ≤ maxLen ∧ cur.size = cap * 3 ∧ cur.toList.take (1 * 3) = acells [⟨[], p, some a⟩] := by
    rcases hacr.2 with ⟨_, h0⟩ | h0
    · cases h0
    · exact h0
  have hat : At w1 ga cura 87 := hga
  have cx : ∀ j, j < 3 → w1.cell? ⟨ga, j, none⟩ = (acells [⟨[], p, some a⟩])[j]? := fun j hj => by
    rw [hat.cell, ← hx, List.getElem?_take_of_lt (by omega), Array.getElem?_toList]
  have hkr := r1.kp
  rw [hkb] at hkr
  have hoc : V.k.ownBlock ≠ some b := fun e => by have := r1.lk b e; rw [r1.lb] at this; cases this
  have d4 : w1.cell? ⟨b, 4, none⟩ = some (.slice (some ⟨ga, 0, none⟩) 1 ca) := by rw [r1.c 4, ← hva]; rfl
  have AP : ∀ w2, Ext w1 w2 → Calls Tryd.prog 33 #[.pointer (some ⟨b, 3, none⟩), .slice (some ⟨ga, 0, none⟩) 1 ca] w2 fun e w' => e = .returned (.tuple #[]) ∧ ∃ V' L', Rep w' b { S.beg with kept := [(p, a)] } V' L' ∧ StTo w w' L L' := fun w2 e2 => by
    have r2 := r1.ext e2
    have hkr2 := hkr.ext e2
    refine (apply_made b 3 (scells S.beg V) 68 V.k [] p a ga 0 ca w2 r2.cell rfl hkr2 hoc List.Pairwise.nil (by simp) rfl (e2.cell (cx 0 (by omega))) (e2.cell (cx 1 (by omega))) (e2.cell (cx 2 (by omega)))).mono fun e w' ⟨q1, v', w3, q2, q3, q4⟩ => ?_
    subst q4
    have f := r2.setKept (v' := v') (l' := [(p, a)]) q2 q3 (List.pairwise_singleton _ _) (fun x hx => by obtain rfl := List.mem_singleton.1 hx; exact haa)
    exact ⟨q1, _, _, f.1, (t1.trans (StTo.of_ext e2)).trans f.2⟩
  have HP := Lib.hid AP
  simp only [maxLen] at hc2
  clear AP hacr hva hga hcs hx hat cx hkr hoc hkb hab haa r1 t1 BG
  go_wp2
  go_still_tail 7, (by kernel_rfl)
  change wpList _ _ _ _ _ w1.drew
  go_wp2_with fail
  refine (HP.out w1.drew (Ext.drew w1)).mono ?_
  rintro e w2 ⟨rfl, V', L', r2, t2⟩
  have c4 : w2.cell? ⟨b, 4, none⟩ = some V'.a := by rw [r2.c 4]; rfl
  have f4 := r2.fz 4
  obtain ⟨n1, n2⟩ := r2.noActs
  have F := Lib.hid (⟨n1, t2.trans n2⟩ : _ ∧ _)
  clear r2 t2 n1 n2 HP d4
  go_wp2
  go_ret
  exact ⟨rfl, _, _, F.out.1, F.out.2⟩
end Go.Proofs.YtbneedmfpldpfaaDoor
