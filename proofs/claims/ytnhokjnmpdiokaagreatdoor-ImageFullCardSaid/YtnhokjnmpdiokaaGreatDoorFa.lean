/- A store of whatever room that holds an archive's files: Remove and SyncDir; what each call leaves. No conditions but those named: definitions, lemmas, contracts. -/
import Derived.Test.YtnhokjnmpdiokaaGreatDoorIiM
import Derived.Test.YtnhokjnmpdiokaaGreatDoorVDM
import Derived.Test.YtnhokjnmpdiokaaGreatDoorVQM
import Derived.Test.YtnhokjnmpdiokaaGreatDoorVHM
set_option linter.unusedSimpArgs false
set_option linter.unusedVariables false
namespace Go.Proofs.YtnhokjnmpdiokaaGreatDoor.V
open Go.RowKit Go.Pth

set_option maxRecDepth 100000 in
set_option maxHeartbeats 8000000 in
theorem remove_ok (b : Nat) (S : SV) (V : SW) (L : Nat → Option Role) (p : ByteArray) (w : World) (h : Rep w b S V L) (hf : S.Fit) (hb : S.begE [p.toList] = 0) (hp : (p.toList == []) = false) (h1 : (rung S.names p.toList).length = 1) :
    Calls Tryz.prog 99 #[ptr b, .string p] w fun e w' => e = .returned (.int .i64 0) ∧ ∃ V' L', Rep w' b (S.beg.gone p.toList) V' L' ∧ StTo w w' L L' := by
  have BG := Lib.hid (begin_one b S V L p w h hf)
  have bs := beg_same S
  have hnl := hf.names
  have hac := hf.acts
  rw [hb] at BG
  have RU := Lib.hid (fun w' (r : Rep w' b S.beg V L) => run_row V.n S.names p w' (by have := r.nm; rw [bs.1] at this; exact this) (by have := r.sn; rw [bs.1] at this; exact this) (by omega))
  have CG := Lib.hid (fun w' (r : Rep w' b S.beg V L) => (show Calls Tryz.prog 121 #[ptr b, .agg #[.string p, .string ⟨#[]⟩, .pointer none]] w' fun e w2 => e = .returned (.tuple #[]) ∧ ∃ V' L', Rep w2 b (S.beg.gone p.toList) V' L' ∧ StTo w' w2 L L' by
    have hle := rung_le S.names p.toList
    obtain ⟨g, cap, hv⟩ : ∃ g cap, V.n = .slice (some ⟨g, 0, none⟩) S.names.length cap := by
      have := r.nm
      rw [bs.1] at this
      rcases this.2 with ⟨_, h2⟩ | ⟨g, cap, cur, hv, _⟩
      · omega
      · exact ⟨g, cap, hv⟩
    refine change_gone b g cap S.beg V L p w' r (by rw [bs.2.2.2.2.1]; omega) (by rw [bs.1]; omega) (by rw [bs.1]; exact hv) hp (by rw [bs.1]; omega) (r.sn.sublist (rest_sub _ _)) (fun x hx => r.rn x ((rest_sub _ _).subset hx))))
  clear h hf hp bs hnl hac hb
  rw [h1] at RU
  clear h1
  unfold ptr at *
  go_enter Tryz.func99, Tryz.ntmps99
  go_wp2_with fail
  refine (BG.out).mono ?_
  rintro e w1 ⟨rfl, r1, t1⟩
  have F := Lib.hid (And.intro r1 t1)
  have c2 := r1.c 2
  simp only [scells] at c2
  clear r1 t1 BG
  go_wp2_with fail
  refine (RU.out _ F.out.1).mono ?_
  rintro e w2 ⟨ad, cap, rfl, e2⟩
  have E2 := Lib.hid e2
  clear e2 RU c2
  go_wp2_with fail
  refine (CG.out _ (F.out.1.ext E2.out)).mono ?_
  rintro e w3 ⟨rfl, V3, L3, r3, t3⟩
  have FN := Lib.hid (And.intro r3 ((F.out.2.trans (StTo.of_ext E2.out)).trans t3))
  clear r3 t3 CG
  go_wp2
  go_ret
  exact ⟨rfl, _, _, FN.out.1, FN.out.2⟩

set_option maxRecDepth 100000 in
set_option maxHeartbeats 8000000 in
theorem syncdir_ok (b : Nat) (S : SV) (V : SW) (L : Nat → Option Role) (w : World) (h : Rep w b S V L) (hf : S.Fit) (hs : Sound S) (hb : S.begE [] = 0) :
    Calls Tryz.prog 84 #[ptr b] w fun e w' => e = .returned (.int .i64 0) ∧ ∃ V' L', Rep w' b (S.beg.dirred (foldN S.kept S.acts)) V' L' ∧ StTo w w' L L' := by
  have BG := Lib.hid (begin_any b S V L (.slice none 0 0) [] w h hf.left ⟨hf.ops.1, by have := hf.ops.2; omega⟩ (txt_nil w) (by simp) (fun ad n c hv => by cases hv))
  have bs := beg_same S
  rw [hb] at BG
  clear hb
  have HS := Lib.hid hs
  have BS := Lib.hid bs
  clear h hf bs hs
  unfold ptr at BG ⊢
  go_enter Tryz.func84, Tryz.ntmps84
  go_wp2_with fail
  refine (BG.out).mono ?_
  rintro e w1 ⟨rfl, r1, t1⟩
  have hacr := r1.ac
  rw [BS.out.2.2.2.2.1] at hacr
  obtain ⟨ad, ca, ab, hva, hc1, hc2, had, hact⟩ := acts_row hacr
  have hkr := r1.kp
  have hbk := BS.out.2.2.2.2.2.2
  rw [hbk] at hkr
  have hoc : V.k.ownBlock ≠ some b := fun e => by have := r1.lk b e; rw [r1.lb] at this; cases this
  have d4 : w1.cell? ⟨b, 4, none⟩ = some (.slice ad S.acts.length ca) := by rw [r1.c 4, ← hva]; rfl
  have AP : ∀ w2, Ext w1 w2 → Calls Tryz.prog 112 #[.pointer (some ⟨b, 3, none⟩), .slice ad S.acts.length ca] w2 fun e w' => e = .returned (.tuple #[]) ∧ ∃ V' L', Rep w' b { S.beg with kept := foldN S.kept S.acts } V' L' ∧ StTo w w' L L' := fun w2 e2 => by
    have r2 := r1.ext e2
    have hkr2 := hkr.ext e2
    have hs := HS.out
    refine (apply_all b 3 (scells S.beg V) 92 V.k S.kept S.acts ad (if 0 < S.acts.length then ab else w2.heap.size) 0 ca w2 r2.cell rfl hkr2 hoc hs.tree hs.legal (by have := hs.few; omega) (by have := hs.few; omega) (fun q => by rw [if_pos q]; exact (had q).1) (fun k a hk => by
      have hl : 0 < S.acts.length := by have := (List.getElem?_eq_some_iff.1 hk).1; omega
      rw [if_pos hl]
      obtain ⟨x0, x1, x2⟩ := hact k a hk
      exact ⟨e2.cell x0, e2.cell x1, e2.cell x2⟩) (fun e => ?_) (fun e => ?_)).mono fun e w' ⟨q1, v', st⟩ => ?_
    · split at e
      · rename_i hl
        have := r1.la ab (had hl).2
        rw [e, r1.lb] at this
        cases this
      · have := r2.cell.lt
        omega
    · split at e
      · rename_i hl
        have h1 := r1.la ab (had hl).2
        rw [r1.lk ab e] at h1
        cases h1
      · have := hkr2.lt _ e
        omega
    · obtain ⟨_, v1, w3, q2, q3, q4⟩ := st.move r2.cell rfl hoc
      subst q4
      have f := r2.setKept (v' := v1) (l' := foldN S.kept S.acts) q2 q3 (fold_tree _ _ hs.legal hs.tree).srt (by
        rw [BS.out.2.2.1]
        refine fold_ids _ _ _ hs.legal (fun x hx => ?_) hs.made
        have := r2.rk x (by rw [hbk]; exact hx)
        rw [BS.out.2.2.1] at this
        exact this)
      exact ⟨q1, _, _, f.1, (t1.trans (StTo.of_ext e2)).trans f.2⟩
  have HP := Lib.hid AP
  simp only [maxLen] at hc2
  have hn10 : S.acts.length ≤ 10000 := HS.out.few.2
  generalize S.acts.length = nA at *
  clear AP hacr hva had hact hkr hoc r1 t1 BG hbk
  go_wp2
  go_still_tail 7, (by kernel_rfl)
  change wpList _ _ _ _ _ w1.drew
  go_wp2_with fail
  refine (HP.out w1.drew (Ext.drew w1)).mono ?_
  rintro e w2 ⟨rfl, V', L', r2, t2⟩
  have c4 : w2.cell? ⟨b, 4, none⟩ = some V'.a := by rw [r2.c 4]; rfl
  have f4 := r2.fz 4
  obtain ⟨n1, n2⟩ := r2.noActs
  have F := Lib.hid (⟨n1, t2.trans n2⟩ : _ ∧ _)
  clear r2 t2 n1 n2 HP d4
  go_wp2
  go_ret
  exact ⟨rfl, _, _, F.out.1, F.out.2⟩

theorem Sound.snocq {S S' : SV} (h : Sound S) (x : Ac) (hl : Legal S.names x) (e1 : S'.names = actN S.names x) (e2 : S'.kept = S.kept) (e3 : S'.acts = S.acts ++ [x]) (e4 : ∀ n ∈ S.ids, n ∈ S'.ids) (e5 : ∀ n, x.made = some n → n ∈ S'.ids) (hf : S'.acts.length ≤ 10000) : Sound S' := by
  refine ⟨by rw [e2]; exact h.tree, ?_, ?_, ?_, by rw [e2]; exact h.few.1, hf⟩
  · rw [e2, e3]
    exact legal_snoc _ _ _ h.legal (by rw [← h.names]; exact hl)
  · rw [e1, e2, e3, fold_snoc, ← h.names]
  · intro b hb n hn
    rw [e3] at hb
    rcases List.mem_append.1 hb with hb | hb
    · exact e4 n (h.made b hb n hn)
    · obtain rfl := List.mem_singleton.1 hb
      exact e5 n hn


structure Mq (R : Int) (S : SV) (n : Nat) (d : Nat) (ids : List Nat) : Prop where
  names : S.names = names4 d ids
  sound : Sound S
  actn : S.acts.length ≤ n
  power : S.power = 0
  few : ids.length ≤ 3
  kd : (S.nd d).kind = 2
  ed : (S.nd d).now = []
  kf : ∀ a ∈ ids, (S.nd a).kind = 1
  nodup : (d :: ids).Nodup
  mem : ∀ a ∈ ids, a ∈ S.ids
  dm : d ∈ S.ids
  clock : 0 ≤ S.clock ∧ S.clock ≤ n
  ops : 0 ≤ S.ops ∧ S.ops ≤ n
  left : 0 ≤ S.left ∧ S.left ≤ 9223372036854775807
  room : S.room = R
  lens : ∀ a ∈ ids, (S.nd a).now.length ≤ 65536
theorem Mq.fit {R : Int} {S : SV} {n d : Nat} {ids : List Nat} (h : Mq R S n d ids) (hn : n ≤ 9000) : S.Fit :=
  ⟨h.left, ⟨h.ops.1, by have := h.ops.2; omega⟩, ⟨h.clock.1, by have := h.clock.2; omega⟩, by rw [h.names, names4_len]; have := h.few; omega, by have := h.actn; omega⟩
theorem Mq.beg {R : Int} {S : SV} {n d : Nat} {ids : List Nat} (h : Mq R S n d ids) : Mq R S.beg (n + 1) d ids := by
  rw [beg_ops h.power]
  exact ⟨h.names, ⟨h.sound.tree, h.sound.legal, h.sound.names, h.sound.made, h.sound.few⟩, by have := h.actn; show S.acts.length ≤ n + 1; omega, h.power, h.few, h.kd, h.ed, h.kf, h.nodup, h.mem, h.dm, ⟨h.clock.1, by have := h.clock.2; show S.clock ≤ ((n + 1 : Nat) : Int); omega⟩, ⟨by have := h.ops.1; show 0 ≤ S.ops + 1; omega, by have := h.ops.2; show S.ops + 1 ≤ ((n + 1 : Nat) : Int); omega⟩, h.left, h.room, h.lens⟩
theorem Mq.up {R : Int} {S : SV} {n m d : Nat} {ids : List Nat} (h : Mq R S n d ids) (hm : n ≤ m) : Mq R S m d ids :=
  ⟨h.names, h.sound, by have := h.actn; omega, h.power, h.few, h.kd, h.ed, h.kf, h.nodup, h.mem, h.dm, ⟨h.clock.1, by have := h.clock.2; omega⟩, ⟨h.ops.1, by have := h.ops.2; omega⟩, h.left, h.room, h.lens⟩
theorem Mq.begE {R : Int} {S : SV} {n d : Nat} {ids : List Nat} (h : Mq R S n d ids) (p : B) (hp : valid p = true) : S.begE [p] = 0 := by
  unfold SV.begE
  rw [beg_ops h.power]
  simp [h.power, hp]
theorem Mq.begN {R : Int} {S : SV} {n d : Nat} {ids : List Nat} (h : Mq R S n d ids) : S.begE [] = 0 := by
  unfold SV.begE
  rw [beg_ops h.power]
  simp [h.power]
theorem Mq.file {R : Int} {S S' : SV} {n d : Nat} {ids : List Nat} (h : Mq R S n d ids) (a : Nat) (ha : a ∈ ids) (N : NV) (hk : N.kind = 1) (hN : N.now.length ≤ 65536) (c : Int) (hc : S.clock ≤ c ∧ c ≤ S.clock + 1) (e : S' = { S with clock := c, nd := upd S.nd a N }) : Mq R S' (n + 1) d ids := by
  subst e
  have hda : d ≠ a := fun e => by have := h.nodup; rw [List.nodup_cons] at this; exact this.1 (e ▸ ha)
  refine ⟨h.names, ⟨h.sound.tree, h.sound.legal, h.sound.names, h.sound.made, h.sound.few⟩, by have := h.actn; show S.acts.length ≤ n + 1; omega, h.power, h.few, ?_, ?_, fun x hx => ?_, h.nodup, h.mem, h.dm, ⟨by have := h.clock.1; show 0 ≤ c; omega, by have := h.clock.2; show c ≤ ((n + 1 : Nat) : Int); omega⟩, ⟨h.ops.1, by have := h.ops.2; show S.ops ≤ ((n + 1 : Nat) : Int); omega⟩, h.left, h.room, fun x hx => ?_⟩
  · show (upd S.nd a N d).kind = 2
    rw [upd_other _ _ _ _ hda]; exact h.kd
  · show (upd S.nd a N d).now = []
    rw [upd_other _ _ _ _ hda]; exact h.ed
  · show (upd S.nd a N x).kind = 1
    by_cases e : x = a
    · subst e; rw [upd_same]; exact hk
    · rw [upd_other _ _ _ _ e]; exact h.kf x hx
  · show (upd S.nd a N x).now.length ≤ 65536
    by_cases e : x = a
    · subst e; rw [upd_same]; exact hN
    · rw [upd_other _ _ _ _ e]; exact h.lens x hx
theorem Mq.filea {R : Int} {S : SV} {n d : Nat} {ids : List Nat} (h : Mq R S n d ids) (j a : Nat) (hj : j < 3) (ha : ids[j]? = some a) : S.file (cpB j) = (some a, 0) := by
  have hjl : j < ids.length := (List.getElem?_eq_some_iff.1 ha).1
  unfold SV.file
  rw [h.names, look_cp d ids h.few j hj (by omega), ha]
  simp only
  rw [if_pos (h.kf a (List.mem_of_getElem? ha))]
theorem Mq.takes {R : Int} {S : SV} {n d : Nat} {ids : List Nat} (h : Mq R S n d ids) (hl : ids.length < 3) : takes S.names (kinds S) (cpB ids.length) = 0 := by
  unfold V.takes
  rw [h.names, look_cp d ids h.few ids.length hl (Nat.le_refl _), List.getElem?_eq_none (Nat.le_refl _)]
  simp only [parent_cp]
  rw [if_neg (by decide), look_home]
  exact if_pos h.kd
theorem Mq.placed {R : Int} {S : SV} {n d : Nat} {ids : List Nat} (h : Mq R S n d ids) (hl : ids.length < 3) : place S.names (cpB ids.length) = S.names.length := by
  rw [h.names, place_cp d ids h.few ids.length hl (Nat.le_refl _), names4_len]
theorem insN_end {l : List Nm} {p : B} (a : Nat) (h : place l p = l.length) : insN l p a = l ++ [(p, a)] := by
  unfold insN
  rw [h]; simp
theorem Mq.made {R : Int} {S : SV} {n d : Nat} {ids : List Nat} (h : Mq R S n d ids) (hn : n ≤ 9000) (a : Nat) (ha : a ∉ S.ids) (hl : ids.length < 3) : Mq R (S.beg.made a (cpB ids.length) 1) (n + 1) d (ids ++ [a]) := by
  have hda : d ≠ a := fun e => ha (e ▸ h.dm)
  have hia : ∀ x ∈ ids, x ≠ a := fun x hx e => ha (e ▸ h.mem x hx)
  have b0 := h.beg
  have tk := h.takes hl
  have pl := h.placed hl
  have hb := beg_ops h.power
  have lg : Legal S.names ⟨[], cpB ids.length, some a⟩ := .made _ a (valid_cp _) (takes_none tk) (takes_up tk)
  have an := h.actn
  have snd : Sound (S.beg.made a (cpB ids.length) 1) := by
    refine b0.sound.snocq ⟨[], cpB ids.length, some a⟩ (by rw [hb]; exact lg) ?_ rfl rfl (fun n hn => List.mem_cons_of_mem _ hn) (fun n hn => ?_) ?_
    · rw [hb]; show S.names ++ [(cpB ids.length, a)] = insN S.names (cpB ids.length) a
      rw [insN_end a pl]
    · injection hn with hn; rw [← hn]; exact List.mem_cons_self
    · rw [hb]; show (S.acts ++ [_]).length ≤ _
      simp; omega
  refine ⟨?_, snd, ?_, ?_, ?_, ?_, ?_, ?_, ?_, ?_, ?_, ?_, ?_, ?_, ?_, ?_⟩
  · rw [hb]; show S.names ++ _ = _; rw [h.names, names4_app]
  · rw [hb]; show (S.acts ++ [_]).length ≤ _; simp; omega
  · rw [hb]; exact h.power
  · simp; omega
  · rw [hb]; show (upd S.nd a _ d).kind = 2; rw [upd_other _ _ _ _ hda]; exact h.kd
  · rw [hb]; show (upd S.nd a _ d).now = []; rw [upd_other _ _ _ _ hda]; exact h.ed
  · intro x hx
    rw [hb]; show (upd S.nd a _ x).kind = 1
    rcases List.mem_append.1 hx with hx | hx
    · rw [upd_other _ _ _ _ (hia x hx)]; exact h.kf x hx
    · rw [List.mem_singleton.1 hx, upd_same]; rfl
  · have := h.nodup
    rw [List.nodup_cons] at this ⊢
    refine ⟨fun k => ?_, ?_⟩
    · rcases List.mem_append.1 k with k | k
      · exact this.1 k
      · exact hda (List.mem_singleton.1 k)
    · rw [List.nodup_append]
      exact ⟨this.2, by simp, fun x hx y hy => by rw [List.mem_singleton.1 hy]; exact hia x hx⟩
  · intro x hx
    rw [hb]; show x ∈ a :: S.ids
    rcases List.mem_append.1 hx with hx | hx
    · exact List.mem_cons_of_mem _ (h.mem x hx)
    · rw [List.mem_singleton.1 hx]; exact List.mem_cons_self
  · rw [hb]; exact List.mem_cons_of_mem _ h.dm
  · rw [hb]; show 0 ≤ S.clock + 1 ∧ S.clock + 1 ≤ ((n + 1 : Nat) : Int); have := h.clock; omega
  · rw [hb]; show 0 ≤ S.ops + 1 ∧ S.ops + 1 ≤ ((n + 1 : Nat) : Int); have := h.ops; omega
  · rw [hb]; exact h.left
  · rw [hb]; exact h.room
  · intro x hx
    rw [hb]; show (upd S.nd a _ x).now.length ≤ 65536
    rcases List.mem_append.1 hx with hx | hx
    · rw [upd_other _ _ _ _ (hia x hx)]; exact h.lens x hx
    · rw [List.mem_singleton.1 hx, upd_same]; simp [newN]
theorem rung_one (d a : Nat) : rung (names4 d [a]) (cpB 0) = [(cpB 0, a)] ∧ rest (names4 d [a]) (cpB 0) = names4 d [] := by
  have pc := place_cp d [a] (by simp) 0 (by omega) (by simp)
  have hr : rung (names4 d [a]) (cpB 0) = [(cpB 0, a)] := by
    unfold rung
    rw [pc]
    simp [names4, nms, List.takeWhile, runF]
  refine ⟨hr, ?_⟩
  unfold rest
  rw [pc, hr]
  simp [names4, nms]
theorem Mq.gone {R : Int} {S : SV} {n d a : Nat} (h : Mq R S n d [a]) (hn : n ≤ 9000) : Mq R (S.beg.gone (cpB 0)) (n + 1) d [] := by
  have b0 := h.beg
  have hb := beg_ops h.power
  have an := h.actn
  have ro := rung_one d a
  have lg : Legal S.beg.names ⟨cpB 0, [], none⟩ := .gone _ (valid_cp 0) (by rw [b0.names, ro.1]; simp)
  have snd : Sound (S.beg.gone (cpB 0)) := by
    refine b0.sound.snocq ⟨cpB 0, [], none⟩ lg ?_ rfl rfl (fun n hn => hn) (fun n hn => by cases hn) ?_
    · rw [actN_gone _ (valid_cp 0)]; rfl
    · rw [hb]; show (S.acts ++ [_]).length ≤ _
      simp; omega
  refine ⟨?_, snd, ?_, ?_, by simp, ?_, ?_, by simp, by simp, by simp, ?_, ?_, ?_, ?_, ?_, by simp⟩
  · show rest S.beg.names (cpB 0) = _; rw [b0.names, ro.2]
  · rw [hb]; show (S.acts ++ [_]).length ≤ _; simp; omega
  · rw [hb]; exact h.power
  · rw [hb]; exact h.kd
  · rw [hb]; exact h.ed
  · rw [hb]; exact h.dm
  · exact b0.clock
  · exact b0.ops
  · exact b0.left
  · exact b0.room
theorem Mq.safe {R : Int} {S : SV} {n d : Nat} {ids : List Nat} (h : Mq R S n d ids) : Mq R (S.beg.dirred (foldN S.kept S.acts)) (n + 1) d ids := by
  have b := h.beg
  have hb := beg_ops h.power
  have e : foldN S.kept S.acts = S.names := h.sound.names.symm
  have hf := h.few
  have snd : Sound (S.beg.dirred (foldN S.kept S.acts)) := by
    refine ⟨fold_tree _ _ h.sound.legal h.sound.tree, trivial, ?_, (fun a ha => by cases ha), ?_, by show 0 ≤ _; omega⟩
    · show S.beg.names = foldN S.kept S.acts
      rw [e, hb]
    · show (foldN S.kept S.acts).length ≤ _
      rw [e, h.names, names4_len]; omega
  exact ⟨b.names, snd, by show 0 ≤ _; omega, b.power, b.few, b.kd, b.ed, b.kf, b.nodup, b.mem, b.dm, b.clock, b.ops, b.left, b.room, b.lens⟩

theorem Mq.nodups {R : Int} {S : SV} {n d : Nat} {ids : List Nat} (h : Mq R S n d ids) : ids.Nodup := (List.nodup_cons.1 h.nodup).2

theorem Mq.trunc {R : Int} {S : SV} {n d : Nat} {ids : List Nat} {j a k : Nat} {con : Nat → List Int} (h : Mq R S n d ids) (c : Con S ids con) (ha : ids[j]? = some a) (hk : k ≤ (con j).length) :
    Mq R (S.beg.trunc a k) (n + 2) d ids ∧ Con (S.beg.trunc a k) ids (V.upd con j ((con j).take k)) := by
  have hm := List.mem_of_getElem? ha
  have hc := c j a ha
  have hb := Md.nd_beg S
  have e1 : ((S.beg.nd a).resize k).now = (con j).take k := by rw [hb, resize_now _ _ (by rw [hc]; exact hk), hc]
  refine ⟨h.beg.file a hm { (S.beg.nd a).resize k with stamp := S.beg.clock + 1 } ?_ ?_ (S.beg.clock + 1) (by omega) rfl, ?_⟩
  · show (S.beg.nd a).kind = 1; rw [hb]; exact h.kf a hm
  · show ((S.beg.nd a).resize k).now.length ≤ 65536
    rw [e1]
    have := h.lens a hm
    rw [hc] at this
    simp only [List.length_take]; omega
  · have := (c.same hb).upd h.nodups ha { (S.beg.nd a).resize k with stamp := S.beg.clock + 1 } (S' := S.beg.trunc a k) rfl
    rw [← e1]; exact this

theorem Mq.wrote {R : Int} {S : SV} {n d : Nat} {ids : List Nat} {j a : Nat} {con : Nat → List Int} {x : List Int} (h : Mq R S n d ids) (c : Con S ids con) (ha : ids[j]? = some a) (hx : x.length ≤ 65536) :
    Mq R (S.beg.wrote a 0 x) (n + 2) d ids ∧ Con (S.beg.wrote a 0 x) ids (V.upd con j (x ++ (con j).drop x.length)) := by
  have hm := List.mem_of_getElem? ha
  have hc := c j a ha
  have hb := Md.nd_beg S
  have e1 : ((S.beg.nd a).write 0 x).now = x ++ (con j).drop x.length := by rw [hb, write_now, hc]
  have hk : ((S.beg.nd a).write 0 x).kind = 1 := by
    have : ∀ N : NV, (N.write 0 x).kind = N.kind := fun N => by unfold NV.write; split <;> rfl
    rw [this, hb]; exact h.kf a hm
  refine ⟨h.beg.file a hm { (S.beg.nd a).write 0 x with stamp := S.beg.clock + 1 } hk ?_ (S.beg.clock + 1) (by omega) rfl, ?_⟩
  · show ((S.beg.nd a).write 0 x).now.length ≤ 65536
    rw [e1]
    have := h.lens a hm
    rw [hc] at this
    simp only [List.length_append, List.length_drop]; omega
  · have := (c.same hb).upd h.nodups ha { (S.beg.nd a).write 0 x with stamp := S.beg.clock + 1 } (S' := S.beg.wrote a 0 x) rfl
    rw [← e1]; exact this

theorem Mq.synced {R : Int} {S : SV} {n d : Nat} {ids : List Nat} {j a : Nat} {con : Nat → List Int} (h : Mq R S n d ids) (c : Con S ids con) (ha : ids[j]? = some a) :
    Mq R (S.beg.synced a) (n + 2) d ids ∧ Con (S.beg.synced a) ids con := by
  have hm := List.mem_of_getElem? ha
  have hc := c j a ha
  have hb := Md.nd_beg S
  refine ⟨h.beg.file a hm (S.beg.nd a).sync ?_ ?_ S.beg.clock (by omega) rfl, ?_⟩
  · show (S.beg.nd a).kind = 1; rw [hb]; exact h.kf a hm
  · show (S.beg.nd a).now.length ≤ 65536; rw [hb]; exact h.lens a hm
  · intro i b hbi
    have := (c.same hb).upd h.nodups ha (S.beg.nd a).sync (S' := S.beg.synced a) rfl i b hbi
    rw [this]
    by_cases hij : i = j
    · subst hij; rw [upd_same]; show (S.beg.nd a).now = _; rw [hb]; exact hc
    · rw [upd_other _ _ _ _ hij]

theorem Mq.madeC {R : Int} {S : SV} {n d : Nat} {ids : List Nat} {con : Nat → List Int} (h : Mq R S n d ids) (c : Con S ids con) (a : Nat) (ha : a ∉ S.ids) : Con (S.beg.made a (cpB ids.length) 1) (ids ++ [a]) (V.upd con ids.length []) := fun i b hb => by
  have hbg := beg_ops h.power
  rw [hbg]
  show (V.upd S.nd a _ b).now = _
  by_cases hi : i < ids.length
  · rw [List.getElem?_append_left hi] at hb
    rw [upd_other _ _ _ _ (fun e => ha (by rw [← e]; exact h.mem b (List.mem_of_getElem? hb))), upd_other _ _ _ _ (by omega)]
    exact c i b hb
  · rw [List.getElem?_append_right (by omega)] at hb
    obtain rfl : i = ids.length := by
      have := (List.getElem?_eq_some_iff.1 hb).1
      simp at this; omega
    simp at hb; subst hb
    rw [upd_same, upd_same]; rfl

theorem Mq.safeC {R : Int} {S : SV} {n d : Nat} {ids : List Nat} {con : Nat → List Int} (h : Mq R S n d ids) (c : Con S ids con) (l : List Nm) : Con (S.beg.dirred l) ids con := c.same (Md.nd_beg S)

def tot (con : Nat → List Int) : Nat → Nat
  | 0 => 0
  | n + 1 => tot con n + (con n).length
theorem Mq.used {R : Int} {S : SV} {n d : Nat} {ids : List Nat} {con : Nat → List Int} (h : Mq R S n d ids) (c : Con S ids con) : used S.nd S.names = tot con ids.length := by
  have hf := h.few
  rw [h.names]
  unfold names4
  rw [used_cons]
  simp only [h.ed, List.length_nil, Nat.zero_add]
  match ids, hf, c with
  | [], _, _ => simp [nms, V.used, tot]
  | [a], _, c => simp [nms, used_cons, V.used, tot, c 0 a rfl]
  | [a, b], _, c => simp [nms, used_cons, V.used, tot, c 0 a rfl, c 1 b rfl]
  | [a, b, e], _, c => simp [nms, used_cons, V.used, tot, c 0 a rfl, c 1 b rfl, c 2 e rfl]; omega
end Go.Proofs.YtnhokjnmpdiokaaGreatDoor.V
