/- What calls of the store answer where nothing is off: Truncate, Rot, SyncDir; is a path hidden? No conditions: contracts. -/
import Derived.Test.YtnhokjnmpdiokaaGreatDoorVHM
import Derived.Test.YtnhokjnmpdiokaaGreatDoorVRM
set_option linter.unusedSimpArgs false
set_option linter.unusedVariables false
namespace Go.Proofs.YtnhokjnmpdiokaaGreatDoor.V
open Go.RowKit Go.Pth

theorem head_get (s : ByteArray) (h : 0 < s.size) : (s.toList.head? == some 46) = ((s[0].toNat : Int) == 46) := by
  have := tx_get s 0 h
  rw [← List.head?_eq_getElem?] at this
  rw [this]
  generalize s[0] = c
  rw [Bool.eq_iff_iff]
  simp only [beq_iff_eq, Option.some.injEq]
  constructor
  · rintro rfl; rfl
  · intro h
    exact UInt8.toNat_inj.1 (by simp; omega)
set_option maxHeartbeats 1000000 in
theorem hidden_any (s : ByteArray) (w : World) : Calls Tryz.prog 48 #[.string s] w fun e w' => e = .returned (.bool (hidden s.toList)) ∧ Ext w w' := by
  have hsz := Lib.hid (size_list s)
  go_enter Tryz.func48, Tryz.ntmps48
  go_wp2_with fail
  refine (valid_any s w).mono ?_
  rintro e w1 ⟨rfl, e1⟩
  cases hv : valid s.toList with
  | false =>
    have R := Lib.hid (show hidden s.toList = false by unfold hidden; rw [hv]; rfl)
    go_wp2
    go_ret
    exact ⟨retb R.out.symm, e1⟩
  | true =>
    have h0 : 0 < s.size := by rw [hsz.out]; exact List.length_pos_iff.2 (valid_ne hv)
    have R := Lib.hid (show hidden s.toList = ((s[0].toNat : Int) == 46) by unfold hidden; rw [hv, head_get s h0]; rfl)
    have i1 : (0 : Int) < (s.size : Int) := by omega
    go_wp2
    go_ret
    exact ⟨retb R.out.symm, e1⟩
theorem file_look {S : SV} {q : B} {a : Nat} (h : S.file q = (some a, 0)) : look S.names q = some a ∧ (S.nd a).kind = 1 := by
  unfold SV.file at h
  cases e : look S.names q with
  | none => rw [e] at h; cases h
  | some x =>
    rw [e] at h
    by_cases k : (S.nd x).kind = 1
    · simp only [k, if_true, Prod.mk.injEq, Option.some.injEq, and_true] at h
      subst h; exact ⟨rfl, k⟩
    · simp [k] at h
theorem file_beg {S : SV} {q : B} : S.beg.file q = S.file q := by have bs := beg_same S; unfold SV.file; rw [bs.1, bs.2.1]

def SV.trunc (S : SV) (a k : Nat) : SV := { S with clock := S.clock + 1, nd := upd S.nd a { (S.nd a).resize k with stamp := S.clock + 1 } }
set_option maxRecDepth 100000 in
set_option maxHeartbeats 8000000 in
theorem trunc_ok (b : Nat) (S : SV) (V : SW) (L : Nat → Option Role) (p : ByteArray) (a k : Nat) (w : World) (h : Rep w b S V L) (hf : S.Fit) (hb : S.begE [p.toList] = 0) (hfile : S.file p.toList = (some a, 0)) (hk : k ≤ (S.nd a).now.length) :
    Calls Tryz.prog 81 #[ptr b, .string p, .int .i64 (k : Int)] w fun e w' => e = .returned (.int .i64 0) ∧ ∃ V' L', Rep w' b (S.beg.trunc a k) V' L' ∧ StTo w w' L L' := by
  have BG := Lib.hid (begin_one b S V L p w h hf)
  rw [hb] at BG
  have bs := beg_same S
  have hl := (file_look hfile).1
  have ha := Lib.hid (show a ∈ S.beg.ids by rw [bs.2.2.1]; exact h.rn _ (look_mem _ _ _ hl))
  have hck := hf.clock
  have hnm := hf.names
  have FI := Lib.hid (fun w' (r : Rep w' b S.beg V L) => file_any b S.beg V L p w' r (by rw [bs.1]; omega))
  have HCK := Lib.hid (show 0 ≤ S.beg.clock ∧ S.beg.clock ≤ 1000000 by rw [bs.2.2.2.1]; omega)
  rw [file_beg, hfile] at FI
  simp only [optr] at FI
  have KL := Lib.hid (show k ≤ (S.beg.nd a).now.length by rw [bs.2.1]; exact hk)
  have d1 : decide ((k : Int) < 0) = false := by simp
  have d2 : decide ((S.beg.nd a).now.length < k) = false := by have := KL.out; simp; omega
  clear hl bs hck hnm h hf hb hfile hk
  unfold ptr at *
  go_enter Tryz.func81, Tryz.ntmps81
  go_wp2_with fail
  refine (BG.out).mono ?_
  rintro e w1 ⟨rfl, r1, t1⟩
  have F := Lib.hid (And.intro r1 t1)
  clear r1 t1 BG
  go_wp2_with fail
  refine (FI.out _ F.out.1).mono ?_
  rintro e w2 ⟨rfl, e2⟩
  have R2 := Lib.hid (F.out.1.ext e2)
  have T2 := Lib.hid (F.out.2.trans (StTo.of_ext e2))
  have na := Lib.hid (R2.out.nd a ha.out)
  have c3 := na.out.1.c 3
  simp only [ncells] at c3
  obtain ⟨ad, cap, bb, bin, -⟩ := Bin.of_row na.out.1.n
  have bl := bin.val
  clear e2 FI bin F
  rw [bl] at c3
  have RZ := Lib.hid (resize_any a (S.beg.nd a) (V.nv a) k w2 na.out.1 na.out.2 (by have := na.out.2.len; have := KL.out; omega))
  clear bl
  unfold ptr at RZ
  go_wp2_with fail
  refine (RZ.out).mono ?_
  rintro e w3 ⟨rfl, V3, n3, t3⟩
  obtain ⟨L3, r3, t3'⟩ := R2.out.node a ha.out _ V3 n3 (na.out.2.resize k (by have := na.out.2.len; have := KL.out; omega)) t3
  have MK := Lib.hid (mark_any b a _ _ _ _ r3 ha.out HCK.out)
  have T3 := Lib.hid (T2.out.trans t3')
  clear R2 T2 na n3 t3 t3' r3 c3 RZ
  unfold ptr at MK
  go_wp2_with fail
  refine (MK.out).mono ?_
  rintro e w4 ⟨rfl, V4, L4, r4, t4⟩
  have FN := Lib.hid (And.intro r4 (T3.out.trans t4))
  clear r4 t4 MK
  go_wp2
  go_ret
  have r := FN.out.1
  simp only [upd_upd, upd_same] at r
  exact ⟨rfl, _, _, r, FN.out.2⟩

theorem NdIn.putK1 {w : World} {a : Nat} {N : NV} {V : Vs} (h : NdIn w a N V) {g cap : Nat} (hv : V.k = .slice (some ⟨g, 0, none⟩) N.kept.length cap) (o : Nat) (x : List Int) (hl : o + x.length ≤ N.kept.length) :
    NdIn (w.setCells g o (bts x)) a { N with kept := splice N.kept o x } V ∧ NdTo w (w.setCells g o (bts x)) a V V := by
  have hg : V.k.ownBlock = some g := by rw [hv]; rfl
  have sc := Chg.sets g (bts x) o w
  have hr := h.k
  rw [hv] at hr
  have hr2 := Row.sets hr o (bts x) (by rw [bts_len]; exact hl)
  rw [bts_splice, ← hv] at hr2
  refine ⟨⟨sc.at h.cells fun e => h.ak (by rw [e]; exact hg), h.n.chg sc fun q hq e => h.nk q hq (by rw [e]; exact hg), by rw [splice_len _ _ _ hl]; exact hr2, h.l.chg sc fun q hq e => h.kl g hg (by rw [← e]; exact hq), h.an, h.ak, h.al, h.nk, h.nl, h.kl⟩, sc.mono fun i _ e => Or.inr (Or.inr (Or.inl (by rw [e]; exact hg))), fun i hi => Or.inl hi⟩
theorem xor_u8 (a b : Int) : 0 ≤ bits .xor .u8 a b ∧ bits .xor .u8 a b < 256 := by
  show 0 ≤ IntKind.u8.wrap ((BitVec.ofInt 8 a ^^^ BitVec.ofInt 8 b).toNat : Int) ∧ IntKind.u8.wrap ((BitVec.ofInt 8 a ^^^ BitVec.ofInt 8 b).toNat : Int) < 256
  rw [IntKind.wrap_u8']
  omega
theorem set_one (w : World) (g k : Nat) (v : Int) : w.setCells g k (bts [v]) = w.setCell ⟨g, k, none⟩ (.int .u8 v) := rfl
theorem splice_one {l : List Int} (hl : ∀ y ∈ l, 0 ≤ y ∧ y < 256) (o : Nat) (v : Int) (hv : 0 ≤ v ∧ v < 256) : ∀ y ∈ splice l o [v], 0 ≤ y ∧ y < 256 :=
  splice_byt hl (fun y hy => by rw [List.mem_singleton.1 hy]; exact hv) o

def rotB (l : List Int) (k : Nat) (x : Int) : List Int := splice l k [bits .xor .u8 (l[k]?.getD 0) x]
def SV.rot (S : SV) (a k : Nat) (x : Int) : SV := { S with nd := upd S.nd a { (S.nd a) with now := rotB (S.nd a).now k x, kept := rotB (S.nd a).kept k x } }
set_option maxRecDepth 100000 in
set_option maxHeartbeats 8000000 in
theorem rot_ok (b : Nat) (S : SV) (V : SW) (L : Nat → Option Role) (p : ByteArray) (a k : Nat) (x : Int) (w : World) (h : Rep w b S V L) (hnm : S.names.length ≤ 10000) (hx : 0 < x ∧ x < 256) (hfile : S.file p.toList = (some a, 0)) (hk : k < (S.nd a).now.length) :
    Calls Tryz.prog 17 #[ptr b, .string p, .int .i64 (k : Int), .int .u8 x] w fun e w' => e = .returned (.int .i64 0) ∧ ∃ V' L', Rep w' b (S.rot a k x) V' L' ∧ StTo w w' L L' := by
  have H := Lib.hid h
  have FI := Lib.hid (file_any b S V L p w h (by omega))
  have ha := Lib.hid (show a ∈ S.ids from h.rn _ (look_mem _ _ _ (file_look hfile).1))
  have na := Lib.hid (h.nd a ha.out)
  rw [hfile] at FI
  simp only [optr] at FI
  have KL := Lib.hid hk
  have d1 : decide ((k : Int) < 0) = false := by simp
  have d2 : decide ((S.nd a).now.length ≤ k) = false := by have := KL.out; simp; omega
  have d3 : (x == 0) = false := by have : x ≠ 0 := by omega
                                   simpa using this
  clear h hnm hfile hk hx
  unfold ptr at *
  go_enter Tryz.func17, Tryz.ntmps17
  go_wp2_with fail
  refine (FI.out).mono ?_
  rintro e w2 ⟨rfl, e2⟩
  have R2 := Lib.hid (H.out.ext e2)
  have na2 := (R2.out.nd a ha.out).1
  have ok := Lib.hid (R2.out.nd a ha.out).2
  obtain ⟨g, cap, hv, hc1, hc2⟩ := Row.own na2.n (by have := KL.out; omega)
  obtain ⟨g', cap', hv', hc1', hc2'⟩ := Row.own na2.k (by have := KL.out; have := ok.out.kl; omega)
  have c3 := na2.c 3
  simp only [ncells] at c3
  have rn := na2.n
  rw [hv] at c3 rn
  have ce := Row.cell rn k KL.out
  have gk : (bts (S.nd a).now)[k]? = some (.int .u8 ((S.nd a).now[k]'KL.out)) := by simp [bts, KL.out]
  rw [gk] at ce
  obtain ⟨ce1, ce2⟩ := ce
  have E2 := Lib.hid e2
  clear gk FI e2 rn
  go_upto_region 7 with fail
  obtain ⟨n3, t3⟩ := na2.putN hv k [bits .xor .u8 ((S.nd a).now[k]'KL.out) x] (by have := KL.out; simp only [List.length_cons, List.length_nil]; omega)
  have XR := Lib.hid (xor_u8 ((S.nd a).now[k]'KL.out) x)
  rw [set_one] at n3 t3
  generalize hvv : bits .xor .u8 ((S.nd a).now[k]'KL.out) x = v at *
  have VV := Lib.hid hvv
  clear hvv
  have kk : k < (S.nd a).kept.length := by have := KL.out; have := ok.out.kl; omega
  have c4 := n3.c 4
  simp only [ncells] at c4
  have rk := n3.k
  rw [hv'] at c4 rk
  have ce := Row.cell rk k kk
  have gk : (bts (S.nd a).kept)[k]? = some (.int .u8 ((S.nd a).kept[k]'kk)) := by simp [bts, kk]
  simp only [gk] at ce
  obtain ⟨ce3, ce4⟩ := ce
  have KK := Lib.hid kk
  obtain ⟨n4, t4⟩ := n3.putK1 hv' k [bits .xor .u8 ((S.nd a).kept[k]'kk) x] (by simp only [List.length_cons, List.length_nil]; omega)
  have XR2 := Lib.hid (xor_u8 ((S.nd a).kept[k]'kk) x)
  rw [set_one] at n4 t4
  obtain ⟨L5, r5, t5⟩ := R2.out.node a ha.out _ _ n4 (show NV.Ok _ from ⟨by simp only; rw [splice_len _ _ _ (by simp only [List.length_cons, List.length_nil]; omega), splice_len _ _ _ (by have := KL.out; simp only [List.length_cons, List.length_nil]; omega)]; exact ok.out.kl, by simp only; rw [splice_len _ _ _ (by have := KL.out; simp only [List.length_cons, List.length_nil]; omega)]; exact ok.out.ll, by simp only; rw [splice_len _ _ _ (by have := KL.out; simp only [List.length_cons, List.length_nil]; omega)]; exact ok.out.len, splice_one ok.out.bn k v XR.out, splice_one ok.out.bk k _ XR2.out⟩) (t3.trans t4)
  have FN := Lib.hid (And.intro r5 ((StTo.of_ext E2.out).trans t5))
  clear gk rk ce1 ce2 c3 n3 t3 n4 t4 r5 t5 XR XR2 ok na R2
  generalize w2.setCell ⟨g, k, none⟩ (.int .u8 v) = w3 at *
  have d4 : decide ((S.nd a).kept.length ≤ k) = false := by simp; omega
  go_wp2
  go_ret
  have r := FN.out.1
  have e1 : S.rot a k x = { S with nd := upd S.nd a { (S.nd a) with now := splice (S.nd a).now k [bits .xor .u8 ((S.nd a).now[k]'KL.out) x], kept := splice (S.nd a).kept k [bits .xor .u8 ((S.nd a).kept[k]'KK.out) x] } } := by
    unfold SV.rot rotB
    rw [List.getElem?_eq_getElem KL.out, List.getElem?_eq_getElem KK.out]; rfl
  rw [e1, VV.out]
  exact ⟨rfl, _, _, r, FN.out.2⟩

set_option maxRecDepth 100000 in
set_option maxHeartbeats 8000000 in
theorem syncdir_end (l : List Nm) (b : Nat) (S : SV) (V : SW) (L : Nat → Option Role) (p : B) (a : Nat) (w : World) (h : Rep w b S V L) (hf : S.Fit) (hpw : S.power = 0) (hk : S.kept = l) (hll : l.length ≤ 1000000) (hend : place l p = l.length) (hac : S.acts = [⟨[], p, some a⟩]) (ha : a ∈ S.ids) :
    Calls Tryz.prog 84 #[ptr b] w fun e w' => e = .returned (.int .i64 0) ∧ ∃ V' L', Rep w' b (S.beg.dirred (l ++ [(p, a)])) V' L' ∧ StTo w w' L L' := by
  have BG := Lib.hid (begin_any b S V L (.slice none 0 0) [] w h hf.left ⟨hf.ops.1, by have := hf.ops.2; omega⟩ (txt_nil w) (by simp) (fun ad n c hv => by cases hv))
  have hb0 : S.begE [] = 0 := by
    unfold SV.begE
    have : S.beg.power = 0 := by unfold SV.beg SV.spend; simp [hpw]
    rw [this]; rfl
  rw [hb0] at BG
  have bs := beg_same S
  have hkb : S.beg.kept = l := by unfold SV.beg SV.spend; split <;> (try split) <;> exact hk
  have hab : S.beg.acts = [⟨[], p, some a⟩] := by unfold SV.beg SV.spend; split <;> (try split) <;> exact hac
  have haa : a ∈ S.beg.ids := by rw [bs.2.2.1]; exact ha
  clear hb0 h hf hpw hk hac bs ha
  unfold ptr at BG ⊢
  go_enter Tryz.func84, Tryz.ntmps84
  go_wp2_with fail
  refine (BG.out).mono ?_
  rintro e w1 ⟨rfl, r1, t1⟩
  have hacr := r1.ac
  rw [hab] at hacr
  obtain ⟨ga, ca, cura, hva, -, hga, hc1, hc2, hcs, hx⟩ : ∃ g cap cur, V.a = .slice (some ⟨g, 0, none⟩) 1 cap ∧ 0 ≤ g ∧ w1.heap[g]? = some (.cells cur 167 (0, 0)) ∧ 1 ≤ cap ∧ cap ≤ maxLen ∧ cur.size = cap * 3 ∧ cur.toList.take (1 * 3) = acells [⟨[], p, some a⟩] := by
    rcases hacr.2 with ⟨_, h0⟩ | h0
    · cases h0
    · exact h0
  have hat : At w1 ga cura 167 := hga
  have cx : ∀ j, j < 3 → w1.cell? ⟨ga, j, none⟩ = (acells [⟨[], p, some a⟩])[j]? := fun j hj => by
    rw [hat.cell, ← hx, List.getElem?_take_of_lt (by omega), Array.getElem?_toList]
  have hkr := r1.kp
  have hsl := r1.sk
  have hkm := r1.rk
  rw [hkb] at hsl hkm
  rw [hkb] at hkr
  have hoc : V.k.ownBlock ≠ some b := fun e => by have := r1.lk b e; rw [r1.lb] at this; cases this
  have d4 : w1.cell? ⟨b, 4, none⟩ = some (.slice (some ⟨ga, 0, none⟩) 1 ca) := by rw [r1.c 4, ← hva]; rfl
  have AP : ∀ w2, Ext w1 w2 → Calls Tryz.prog 112 #[.pointer (some ⟨b, 3, none⟩), .slice (some ⟨ga, 0, none⟩) 1 ca] w2 fun e w' => e = .returned (.tuple #[]) ∧ ∃ V' L', Rep w' b { S.beg with kept := l ++ [(p, a)] } V' L' ∧ StTo w w' L L' := fun w2 e2 => by
    have r2 := r1.ext e2
    have hkr2 := hkr.ext e2
    refine (apply_made b 3 (scells S.beg V) 92 V.k l p a ga 0 ca w2 r2.cell rfl hkr2 hoc hsl hll hend (e2.cell (cx 0 (by omega))) (e2.cell (cx 1 (by omega))) (e2.cell (cx 2 (by omega)))).mono fun e w' ⟨q1, v', w3, q2, q3, q4⟩ => ?_
    subst q4
    have f := r2.setKept (v' := v') (l' := l ++ [(p, a)]) (by rw [List.length_append]; exact q2) q3 (Srt.app hsl hend) (fun x hx => by
      rcases List.mem_append.1 hx with hx | hx
      · exact hkm x hx
      · obtain rfl := List.mem_singleton.1 hx; exact haa)
    exact ⟨q1, _, _, f.1, (t1.trans (StTo.of_ext e2)).trans f.2⟩
  have HP := Lib.hid AP
  simp only [maxLen] at hc2
  clear AP hacr hva hga hcs hx hat cx hkr hoc hkb hab haa r1 t1 BG
  go_wp2
  go_still_tail 7, (by kernel_rfl)
  change wpList _ _ _ _ _ w1.drew
  go_wp2_with fail
  refine (HP.out w1.drew (Ext.drew w1)).mono ?_
  rintro e w2 ⟨rfl, V', L', r2, t2⟩
  have c4 : w2.cell? ⟨b, 4, none⟩ = some V'.a := by rw [r2.c 4]; rfl
  have f4 := r2.fz 4
  obtain ⟨n1, n2⟩ := r2.noActs
  have F := Lib.hid (⟨n1, t2.trans n2⟩ : _ ∧ _)
  clear r2 t2 n1 n2 HP d4
  go_wp2
  go_ret
  exact ⟨rfl, _, _, F.out.1, F.out.2⟩

set_option maxRecDepth 100000 in
set_option maxHeartbeats 8000000 in
theorem syncdir_none (b : Nat) (S : SV) (V : SW) (L : Nat → Option Role) (w : World) (h : Rep w b S V L) (hf : S.Fit) (hpw : S.power = 0) (hac : S.acts = []) :
    Calls Tryz.prog 84 #[ptr b] w fun e w' => e = .returned (.int .i64 0) ∧ ∃ V' L', Rep w' b (S.beg.dirred S.kept) V' L' ∧ StTo w w' L L' := by
  have BG := Lib.hid (begin_any b S V L (.slice none 0 0) [] w h hf.left ⟨hf.ops.1, by have := hf.ops.2; omega⟩ (txt_nil w) (by simp) (fun ad n c hv => by cases hv))
  have hb0 : S.begE [] = 0 := by
    unfold SV.begE
    have : S.beg.power = 0 := by unfold SV.beg SV.spend; simp [hpw]
    rw [this]; rfl
  rw [hb0] at BG
  have bs := beg_same S
  have hkb : S.beg.kept = S.kept := bs.2.2.2.2.2.2
  have hab : S.beg.acts = [] := by rw [bs.2.2.2.2.1]; exact hac
  have AN := Lib.hid apply_none
  have HK := Lib.hid hkb
  clear hb0 h hf hpw hac bs hkb
  unfold ptr at BG ⊢
  go_enter Tryz.func84, Tryz.ntmps84
  go_wp2_with fail
  refine (BG.out).mono ?_
  rintro e w1 ⟨rfl, r1, t1⟩
  obtain ⟨da, ca, hva, hc1, hc2, hc3, -⟩ := r1.ac.shape
  rw [hab] at hva
  simp only [List.length_nil] at hva
  have d4 : w1.cell? ⟨b, 4, none⟩ = some (.slice da 0 ca) := by rw [r1.c 4, ← hva]; rfl
  have R1 := Lib.hid r1
  have T1 := Lib.hid t1
  simp only [maxLen] at hc2
  clear r1 t1 BG hva hc1 hc3 hab
  go_wp2
  go_still_tail 7, (by kernel_rfl)
  change wpList _ _ _ _ _ w1.drew
  go_wp2_with fail
  refine (AN.out _ _ _ w1.drew).mono ?_
  rintro e w2 ⟨rfl, rfl⟩
  have r2 := R1.out.ext (Ext.drew w1)
  have c4 : w1.drew.cell? ⟨b, 4, none⟩ = some V.a := by rw [r2.c 4]; rfl
  have f4 := r2.fz 4
  obtain ⟨n1, n2⟩ := r2.noActs
  have F := Lib.hid (⟨n1, (T1.out.trans (StTo.of_ext (Ext.drew w1))).trans n2⟩ : _ ∧ _)
  clear r2 n1 n2 d4
  go_wp2
  go_ret
  have r := F.out.1
  have e : S.beg.dirred S.kept = { S.beg with acts := [] } := by unfold SV.dirred; rw [← HK.out]
  rw [e]
  exact ⟨rfl, _, _, r, F.out.2⟩
end Go.Proofs.YtnhokjnmpdiokaaGreatDoor.V
