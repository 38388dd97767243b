/- Calls of the store on what stands at one name, whatever they answer: Write. Calls of the store on what stands at one name, whatever they answer: Write. Calls of the store on what stands at one name, whatever they answer: Rot. Create and Mkdir, whatever they answer. Remove, whatever it answers. -/
import Derived.Test.YtbneedmfpldpfaaGreatDoorUaM
import Derived.Test.YtbneedmfpldpfaaGreatDoorVgM
import Derived.Test.YtbneedmfpldpfaaGreatDoorGhM
namespace Go.Proofs.YtbneedmfpldpfaaGreatDoor
open Go.RowKit Go.Pth
set_option linter.unusedSimpArgs false
set_option linter.unusedVariables false

set_option maxRecDepth 100000 in
set_option maxHeartbeats 8000000 in
theorem write_full (b : Nat) (S : SV) (V : SW) (L : Nat → Option Role) (p : ByteArray) (off : Nat) (x : List Int) (vb : Value) (ad : Option Addr) (cap bb o a : Nat) (w : World) (h : Rep w b S V L) (hf : S.Fit) (hb : S.begE [p.toList] = 0) (hfile : S.file p.toList = (some a, 0))
    (hx : Bin w vb x ad cap bb o) (hxl : L bb = none) (hbyt : ∀ y ∈ x, 0 ≤ y ∧ y < 256) (hsz : off + x.length ≤ 65536) (hroom : ¬ (used S.nd S.names : Int) + max 0 ((off : Int) + x.length - (S.nd a).now.length) ≤ S.room) :
    Calls Tryz.prog 9 #[ptr b, .string p, .int .i64 off, vb] w fun e w' => e = .returned (.int .i64 4) ∧ Rep w' b S.beg V L ∧ StTo w w' L L := by
  have BG := Lib.hid (begin_one b S V L p w h hf)
  rw [hb] at BG
  have bs := beg_same S
  have hfb : S.beg.file p.toList = (some a, 0) := by unfold SV.file; rw [bs.1, bs.2.1]; exact hfile
  have hlook : look S.names p.toList = some a := by
    unfold SV.file at hfile
    split at hfile
    · cases hfile
    · rename_i q hq
      split at hfile
      · injection hfile with h1; rw [hq, h1]
      · cases hfile
  have ha : a ∈ S.beg.ids := by rw [bs.2.2.1]; exact h.rn _ (look_mem _ _ _ hlook)
  have FI := Lib.hid (fun w' (r : Rep w' b S.beg V L) => file_any b S.beg V L p w' r (by rw [bs.1]; have := hf.names; omega))
  simp only [hfb, optr] at FI
  have US := Lib.hid (fun w' (r : Rep w' b S.beg V L) => used_any b S.beg V L w' r (by rw [bs.1]; have := hf.names; omega))
  rw [bs.1, bs.2.1] at US
  have bx : bb < w.heap.size ∨ x = [] := by
    rcases Nat.lt_or_ge bb w.heap.size with h1 | h1
    · exact Or.inl h1
    · refine Or.inr ?_
      cases x with
      | nil => rfl
      | cons y ys =>
        have := hx.cell 0 (.int .u8 y) rfl
        have := World.block_lt_of_cell? _ _ this
        simp at this; omega
  have C3 := Lib.hid (fun w' (r : Rep w' b S.beg V L) => (show w'.cell? ⟨a, 3, none⟩ = some (V.nv a).n by rw [(r.nd a ha).1.c 3]; rfl))
  have C0 := Lib.hid (fun w' (r : Rep w' b S.beg V L) => (show w'.cell? ⟨b, 0, none⟩ = some (.int .i64 S.room) by rw [r.c 0]; simp [scells, bs.2.2.2.2.2.1]))
  have hn0 := (h.nd a (by rw [← bs.2.2.1]; exact ha)).1.n
  obtain ⟨dn, kn, hvn, -⟩ := hn0.shape
  have hlen := (h.nd a (by rw [← bs.2.2.1]; exact ha)).2.len
  rw [hvn] at C3
  have hvb := hx.val
  subst hvb
  have hu0 : used S.nd S.names ≤ 1000000000000 := by
    have := used_le S.nd S.names fun q hq => (h.nd _ (h.rn q hq)).2.len
    have := hf.names
    omega
  have HX := Lib.hid hx
  have HF := Lib.hid hf
  have HRM := Lib.hid hroom
  clear h hf hb hfile bs hfb hlook bx hx hn0 hvn hxl hbyt ha hroom
  generalize used S.nd S.names = U at *
  generalize (S.nd a).now.length = LN at *
  generalize hXL : x.length = X at *
  have HXL := Lib.hid hXL
  clear hXL
  unfold ptr at *
  have g1 : decide ((off : Int) < 0) = false := decide_eq_false (by omega)
  have g2 : decide ((65536 : Int) - (X : Int) < (off : Int)) = false := decide_eq_false (by omega)
  go_enter Tryz.func9, Tryz.ntmps9
  go_wp2_with fail
  refine (BG.out).mono ?_
  rintro e w1 ⟨rfl, r1, t1⟩
  have R1 := Lib.hid r1
  have T1 := Lib.hid t1
  clear r1 t1
  go_wp2_with fail
  refine (FI.out _ R1.out).mono ?_
  rintro e w2 ⟨rfl, hE⟩
  have R2 := Lib.hid (R1.out.ext hE)
  have T2 := Lib.hid (T1.out.trans (StTo.of_ext hE))
  clear R1 T1 hE
  go_upto_region 11 with fail
  have hS : Ext w2 w2.drew := Ext.drew w2
  have c3 := C3.out _ R2.out
  have c0 := C0.out _ R2.out
  refine wp_region_held (S := fun w' => Ext w2 w') (by kernel_rfl) ?_
  change wpAnyH _ _ _ _ _ _ _ _ (World.drew _)
  refine takeS 0 (some 38) (.pointer (some ⟨b, 0, none⟩)) rfl rfl (by kernel_rfl) (by kernel_rfl) (by kernel_rfl) (fun _ _ _ h => h) rfl hS (fun w' hw' => by go_simp) ?_
  simp only [Act.put, List.setIfInBounds_toArray, List.set_cons_zero, List.set_cons_succ]
  refine takeS 2 (some 40) (.int .i64 (off : Int)) rfl rfl (by kernel_rfl) (by kernel_rfl) (by kernel_rfl) (fun _ _ _ h => h) rfl hS (fun w' hw' => by go_simp) ?_
  simp only [Act.put, List.setIfInBounds_toArray, List.set_cons_zero, List.set_cons_succ]
  refine takeS 3 (some 41) (.slice ad X cap) rfl rfl (by kernel_rfl) (by kernel_rfl) (by kernel_rfl) (fun _ _ _ h => h) rfl hS (fun w' hw' => by go_simp) ?_
  simp only [Act.put, List.setIfInBounds_toArray, List.set_cons_zero, List.set_cons_succ]
  refine takeS 4 (some 42) (.int .i64 (X : Int)) rfl rfl (by kernel_rfl) (by kernel_rfl) (by kernel_rfl) (fun _ _ _ h => h) rfl hS (fun w' hw' => by go_simp) ?_
  simp only [Act.put, List.setIfInBounds_toArray, List.set_cons_zero, List.set_cons_succ]
  refine takeS 5 (some 43) (.int .i64 ((off : Int) + (X : Int))) rfl rfl (by kernel_rfl) (by kernel_rfl) (by kernel_rfl) (fun _ _ _ h => h) rfl hS (fun w' hw' => by go_simp; rw [IntKind.wrap_i64]; omega) ?_
  simp only [Act.put, List.setIfInBounds_toArray, List.set_cons_zero, List.set_cons_succ]
  refine takeS 6 (some 44) (.pointer (some ⟨a, 0, none⟩)) rfl rfl (by kernel_rfl) (by kernel_rfl) (by kernel_rfl) (fun _ _ _ h => h) rfl hS (fun w' hw' => by go_simp) ?_
  simp only [Act.put, List.setIfInBounds_toArray, List.set_cons_zero, List.set_cons_succ]
  refine takeS 7 (some 45) (.pointer (some ⟨a, 0, none⟩)) rfl rfl (by kernel_rfl) (by kernel_rfl) (by kernel_rfl) (fun _ _ _ h => h) rfl hS (fun w' hw' => by go_simp) ?_
  simp only [Act.put, List.setIfInBounds_toArray, List.set_cons_zero, List.set_cons_succ]
  refine takeS 8 (some 46) (.pointer (some ⟨a, 3, none⟩)) rfl rfl (by kernel_rfl) (by kernel_rfl) (by kernel_rfl) (fun _ _ _ h => h) rfl hS (fun w' hw' => by go_simp) ?_
  simp only [Act.put, List.setIfInBounds_toArray, List.set_cons_zero, List.set_cons_succ]
  refine takeS 9 (some 47) (.slice dn LN kn) rfl rfl (by kernel_rfl) (by kernel_rfl) (by kernel_rfl) (fun _ _ _ h => h) rfl hS (fun w' hw' => by have := hw'.cell c3; go_simp) ?_
  simp only [Act.put, List.setIfInBounds_toArray, List.set_cons_zero, List.set_cons_succ]
  refine takeS 10 (some 48) (.int .i64 (LN : Int)) rfl rfl (by kernel_rfl) (by kernel_rfl) (by kernel_rfl) (fun _ _ _ h => h) rfl hS (fun w' hw' => by go_simp) ?_
  simp only [Act.put, List.setIfInBounds_toArray, List.set_cons_zero, List.set_cons_succ]
  refine takeS 11 (some 49) (.int .i64 ((off : Int) + (X : Int) - (LN : Int))) rfl rfl (by kernel_rfl) (by kernel_rfl) (by kernel_rfl) (fun _ _ _ h => h) rfl hS (fun w' hw' => by go_simp; rw [IntKind.wrap_i64]; omega) ?_
  simp only [Act.put, List.setIfInBounds_toArray, List.set_cons_zero, List.set_cons_succ]
  refine takeS 12 (some 50) (.int .i64 (max 0 ((off : Int) + (X : Int) - (LN : Int)))) rfl rfl (by kernel_rfl) (by kernel_rfl) (by kernel_rfl) (fun _ _ _ h => h) rfl hS (fun w' hw' => by go_simp) ?_
  simp only [Act.put, List.setIfInBounds_toArray, List.set_cons_zero, List.set_cons_succ]
  refine takeS 14 (some 52) (.pointer (some ⟨b, 0, none⟩)) rfl rfl (by kernel_rfl) (by kernel_rfl) (by kernel_rfl) (fun _ _ _ h => h) rfl hS (fun w' hw' => by go_simp) ?_
  simp only [Act.put, List.setIfInBounds_toArray, List.set_cons_zero, List.set_cons_succ]
  refine takeS 15 (some 53) (.pointer (some ⟨b, 0, none⟩)) rfl rfl (by kernel_rfl) (by kernel_rfl) (by kernel_rfl) (fun _ _ _ h => h) rfl hS (fun w' hw' => by go_simp) ?_
  simp only [Act.put, List.setIfInBounds_toArray, List.set_cons_zero, List.set_cons_succ]
  refine takeS 16 (some 54) (.pointer (some ⟨b, 0, none⟩)) rfl rfl (by kernel_rfl) (by kernel_rfl) (by kernel_rfl) (fun _ _ _ h => h) rfl hS (fun w' hw' => by go_simp) ?_
  simp only [Act.put, List.setIfInBounds_toArray, List.set_cons_zero, List.set_cons_succ]
  refine takeS 17 (some 55) (.int .i64 S.room) rfl rfl (by kernel_rfl) (by kernel_rfl) (by kernel_rfl) (fun _ _ _ h => h) rfl hS (fun w' hw' => by have := hw'.cell c0; go_simp) ?_
  simp only [Act.put, List.setIfInBounds_toArray, List.set_cons_zero, List.set_cons_succ]
  refine nextS 1 rfl (by kernel_rfl) rfl ?_
  refine callS (some 39) rfl 22 #[.pointer (some ⟨b, 0, none⟩)] (by go_simp) (fun v w' => v = .int .i64 (U : Int) ∧ Ext w2 w') ((US.out _ (R2.out.ext hS)).mono fun e w' he => ⟨_, he.1, rfl, hS.trans he.2⟩) ?_
  rintro v3 w3 ⟨rfl, hS3⟩
  refine ⟨hS3, ?_⟩
  simp only [Act.put, List.setIfInBounds_toArray, List.set_cons_zero, List.set_cons_succ]
  have hmx : 0 ≤ max 0 ((off : Int) + (X : Int) - (LN : Int)) ∧ max 0 ((off : Int) + (X : Int) - (LN : Int)) ≤ 65536 := by omega
  have hroom := HRM.out
  generalize max 0 ((off : Int) + (X : Int) - (LN : Int)) = MX at *
  obtain ⟨mx1, mx2⟩ := hmx
  have g3 : decide (S.room < (U : Int) + MX) = true := decide_eq_true (by omega)
  clear hroom HRM
  refine takeS 13 (some 51) (.int .i64 ((U : Int) + MX)) rfl rfl (by kernel_rfl) (by kernel_rfl) (by kernel_rfl) (fun _ _ _ h => h) rfl hS3 (fun w' hw' => by go_simp; rw [IntKind.wrap_i64]; omega) ?_
  simp only [Act.put, List.setIfInBounds_toArray, List.set_cons_zero, List.set_cons_succ]
  refine takeS 18 (some 56) (.bool true) rfl rfl (by kernel_rfl) (by kernel_rfl) (by kernel_rfl) (fun _ _ _ h => h) rfl hS3 (fun w' hw' => by go_simp) ?_
  simp only [Act.put, List.setIfInBounds_toArray, List.set_cons_zero, List.set_cons_succ]
  refine takeS 19 (some 37) (.bool true) rfl rfl (by kernel_rfl) (by kernel_rfl) (by kernel_rfl) (fun _ _ _ h => h) rfl hS3 (fun w' hw' => by go_simp) ?_
  simp only [Act.put, List.setIfInBounds_toArray, List.set_cons_zero, List.set_cons_succ]
  refine wpAnyH_done (by kernel_rfl) ?_ _
  have R3 := Lib.hid (R2.out.ext hS3)
  have T3 := Lib.hid (T2.out.trans (StTo.of_ext hS3))
  clear R2 T2 c3 c0 US BG FI
  have FN := Lib.hid (And.intro R3.out T3.out)
  clear R3 T3
  go_wp2
  go_ret
  exact ⟨rfl, FN.out⟩
end Go.Proofs.YtbneedmfpldpfaaGreatDoor

namespace Go.Proofs.YtbneedmfpldpfaaGreatDoor
open Go.RowKit Go.Pth
set_option linter.unusedSimpArgs false
set_option linter.unusedVariables false

theorem write_kind (N : NV) (k : Nat) (x : List Int) : (N.write k x).kind = N.kind := by
  unfold NV.write NV.resize; dsimp only; (repeat' split) <;> rfl

set_option maxRecDepth 100000 in
set_option maxHeartbeats 8000000 in
theorem write_all (b : Nat) (S : SV) (V : SW) (L : Nat → Option Role) (p : ByteArray) (m : Int) (x : List Int) (vb : Value) (ad : Option Addr) (cap bb o : Nat) (w : World) (h : Rep w b S V L) (hf : S.Fit)
    (hx : Bin w vb x ad cap bb o) (hxl : L bb = none) (hbyt : ∀ y ∈ x, 0 ≤ y ∧ y < 256) (hxn : x.length ≤ 1000000) :
    Calls Tryz.prog 9 #[ptr b, .string p, .int .i64 m, vb] w (TPost w b S.beg p.toList L) := by
  have BG := Lib.hid (begin_one b S V L p w h hf)
  have bs := beg_same S
  have hnm := hf.names
  have OK := Lib.hid (fun a k hb hfi => write_ok b S V L p k x vb ad cap bb o a w h hf hb hfi hx hxl hbyt)
  have FU := Lib.hid (fun a k hb hfi => write_full b S V L p k x vb ad cap bb o a w h hf hb hfi hx hxl hbyt)
  have XN := Lib.hid hxn
  have hvb := hx.val
  obtain ⟨n0, hn0⟩ : ∃ n, S.begE [p.toList] = n := ⟨_, rfl⟩
  rw [hn0] at BG OK FU
  clear hn0
  by_cases hb : n0 = 0
  rotate_left
  · have tb : (n0 != 0) = true := by simpa using hb
    clear bs hnm h hf hb OK FU hx hvb hbyt hxl hxn
    unfold ptr at *
    go_enter Tryz.func9, Tryz.ntmps9
    go_wp2_with fail
    refine (BG.out).mono ?_
    rintro e w1 ⟨rfl, r1, t1⟩
    have F := Lib.hid (And.intro r1 t1)
    clear r1 t1 BG
    go_wp2
    go_ret
    exact ⟨⟨_, rfl⟩, _, _, _, Or.inl rfl, F.out.1, F.out.2⟩
  subst hb
  have FI := Lib.hid (fun w' (r : Rep w' b S.beg V L) => file_any b S.beg V L p w' r (by rw [bs.1]; omega))
  have HF := Lib.hid (file_two S.beg p.toList)
  have FE := Lib.hid (show S.beg.file p.toList = S.file p.toList by unfold SV.file; rw [bs.1, bs.2.1])
  obtain ⟨lk, hlk⟩ : ∃ o, S.beg.file p.toList = o := ⟨_, rfl⟩
  rw [hlk] at FI HF FE
  clear hlk bs hnm h hf hx hbyt hxl
  rcases HF.out with ⟨n, e1, hne⟩ | ⟨a, hl, hk, e1⟩
  · subst e1
    simp only [optr] at FI
    have tb : (n != 0) = true := by simpa using hne
    clear HF hne OK FU FE hvb hxn
    unfold ptr at *
    go_enter Tryz.func9, Tryz.ntmps9
    go_wp2_with fail
    refine (BG.out).mono ?_
    rintro e w1 ⟨rfl, r1, t1⟩
    have F := Lib.hid (And.intro r1 t1)
    clear r1 t1 BG
    go_wp2_with fail
    refine (FI.out _ F.out.1).mono ?_
    rintro e w2 ⟨rfl, e2⟩
    have E2 := Lib.hid e2
    clear e2 FI
    go_wp2
    go_ret
    exact ⟨⟨_, rfl⟩, _, _, _, Or.inl rfl, F.out.1.ext E2.out, F.out.2.trans (StTo.of_ext E2.out)⟩
  · subst e1
    have fe := FE.out.symm
    by_cases hm : m < 0 ∨ (65536 : Int) - x.length < m
    · simp only [optr] at FI
      have dm : decide (m < 0) = true ∨ (decide (m < 0) = false ∧ decide ((65536 : Int) - (x.length : Int) < m) = true) := by
        by_cases h1 : m < 0
        · exact Or.inl (by simpa using h1)
        · exact Or.inr ⟨by simpa using h1, by simp; omega⟩
      subst hvb
      clear hm HF OK FU FE fe hl hk
      generalize hXL : x.length = X at *
      clear hXL
      unfold ptr at *
      rcases dm with d1 | ⟨d1, d2⟩ <;>
      · go_enter Tryz.func9, Tryz.ntmps9
        go_wp2_with fail
        refine (BG.out).mono ?_
        rintro e w1 ⟨rfl, r1, t1⟩
        have F := Lib.hid (And.intro r1 t1)
        clear r1 t1 BG
        go_wp2_with fail
        refine (FI.out _ F.out.1).mono ?_
        rintro e w2 ⟨rfl, e2⟩
        have E2 := Lib.hid e2
        clear e2 FI
        go_wp2
        go_ret
        exact ⟨⟨_, rfl⟩, _, _, _, Or.inl rfl, F.out.1.ext E2.out, F.out.2.trans (StTo.of_ext E2.out)⟩
    · obtain ⟨k, rfl⟩ : ∃ k : Nat, m = (k : Int) := ⟨m.toNat, by omega⟩
      by_cases hr : (used S.nd S.names : Int) + max 0 ((k : Int) + x.length - (S.nd a).now.length) ≤ S.room
      · refine (OK.out a k rfl fe (by omega) hr).mono ?_
        rintro e w1 ⟨rfl, V', L', r, t⟩
        exact ⟨⟨_, rfl⟩, _, V', L', Or.inr ⟨a, { (S.beg.nd a).write k x with stamp := S.beg.clock + 1 }, S.beg.clock + 1, hl, write_kind _ _ _, by omega, by omega, rfl⟩, r, t⟩
      · refine (FU.out a k rfl fe (by omega) hr).mono ?_
        rintro e w1 ⟨rfl, r, t⟩
        exact ⟨⟨_, rfl⟩, _, _, _, Or.inl rfl, r, t⟩
end Go.Proofs.YtbneedmfpldpfaaGreatDoor

namespace Go.Proofs.YtbneedmfpldpfaaGreatDoor
open Go.RowKit Go.Pth
set_option linter.unusedSimpArgs false
set_option linter.unusedVariables false

theorem NdIn.putK1 {w : World} {a : Nat} {N : NV} {V : Vs} (h : NdIn w a N V) {g cap : Nat} (hv : V.k = .slice (some ⟨g, 0, none⟩) N.kept.length cap) (o : Nat) (x : List Int) (hl : o + x.length ≤ N.kept.length) :
    NdIn (w.setCells g o (bts x)) a { N with kept := splice N.kept o x } V ∧ NdTo w (w.setCells g o (bts x)) a V V := by
  have hg : V.k.ownBlock = some g := by rw [hv]; rfl
  have sc := Chg.sets g (bts x) o w
  have hr := h.k
  rw [hv] at hr
  have hr2 := Row.sets hr o (bts x) (by rw [bts_len]; exact hl)
  rw [bts_splice, ← hv] at hr2
  refine ⟨⟨sc.at h.cells fun e => h.ak (by rw [e]; exact hg), h.n.chg sc fun q hq e => h.nk q hq (by rw [e]; exact hg), by rw [splice_len _ _ _ hl]; exact hr2, h.l.chg sc fun q hq e => h.kl g hg (by rw [← e]; exact hq), h.an, h.ak, h.al, h.nk, h.nl, h.kl⟩, sc.mono fun i _ e => Or.inr (Or.inr (Or.inl (by rw [e]; exact hg))), fun i hi => Or.inl hi⟩
theorem xor_u8 (a b : Int) : 0 ≤ bits .xor .u8 a b ∧ bits .xor .u8 a b < 256 := by
  show 0 ≤ IntKind.u8.wrap ((BitVec.ofInt 8 a ^^^ BitVec.ofInt 8 b).toNat : Int) ∧ IntKind.u8.wrap ((BitVec.ofInt 8 a ^^^ BitVec.ofInt 8 b).toNat : Int) < 256
  rw [IntKind.wrap_u8']
  omega
theorem set_one (w : World) (g k : Nat) (v : Int) : w.setCells g k (bts [v]) = w.setCell ⟨g, k, none⟩ (.int .u8 v) := rfl
theorem splice_one {l : List Int} (hl : ∀ y ∈ l, 0 ≤ y ∧ y < 256) (o : Nat) (v : Int) (hv : 0 ≤ v ∧ v < 256) : ∀ y ∈ splice l o [v], 0 ≤ y ∧ y < 256 :=
  splice_byt hl (fun y hy => by rw [List.mem_singleton.1 hy]; exact hv) o

set_option maxRecDepth 100000 in
set_option maxHeartbeats 8000000 in
theorem rot_any (b : Nat) (S : SV) (V : SW) (L : Nat → Option Role) (p : ByteArray) (m x : Int) (w : World) (h : Rep w b S V L) (hnm : S.names.length ≤ 10000) (hx : 0 ≤ x ∧ x < 256) :
    Calls Tryz.prog 44 #[ptr b, .string p, .int .i64 m, .int .u8 x] w (TPost w b S p.toList L) := by
  have H := Lib.hid h
  have FI := Lib.hid (file_any b S V L p w h (by omega))
  have HL := Lib.hid (fun a (hl : look S.names p.toList = some a) => h.rn _ (look_mem _ _ _ hl))
  have HF := Lib.hid (file_two S p.toList)
  obtain ⟨lk, hlk⟩ : ∃ o, S.file p.toList = o := ⟨_, rfl⟩
  rw [hlk] at FI HF
  clear hlk h hnm
  rcases HF.out with ⟨n, e1, hne⟩ | ⟨a, hl, hk, e1⟩
  · subst e1
    simp only [optr] at FI
    have tb : (n != 0) = true := by simpa using hne
    clear HF hne HL hx
    unfold ptr at *
    go_enter Tryz.func44, Tryz.ntmps44
    go_wp2_with fail
    refine (FI.out).mono ?_
    rintro e w2 ⟨rfl, e2⟩
    have E2 := Lib.hid e2
    clear e2 FI
    go_wp2
    go_ret
    exact ⟨⟨_, rfl⟩, _, _, _, Or.inl rfl, H.out.ext E2.out, StTo.of_ext E2.out⟩
  · subst e1
    simp only [optr] at FI
    have HLK := Lib.hid hl
    have ha := Lib.hid (HL.out a hl)
    have XB := Lib.hid hx
    clear HL HF hl hk hx
    have na := Lib.hid (H.out.nd a ha.out)
    by_cases hm : (m < 0 ∨ ((S.nd a).now.length : Int) ≤ m) ∨ x = 0
    · have dm : decide (m < 0) = true ∨ (decide (m < 0) = false ∧ decide (((S.nd a).now.length : Int) ≤ m) = true) ∨ (decide (m < 0) = false ∧ decide (((S.nd a).now.length : Int) ≤ m) = false ∧ x = 0) := by
        by_cases h1 : m < 0
        · exact Or.inl (by simpa using h1)
        · by_cases h2 : ((S.nd a).now.length : Int) ≤ m
          · exact Or.inr (Or.inl ⟨by simpa using h1, by simpa using h2⟩)
          · exact Or.inr (Or.inr ⟨by simpa using h1, by simpa using h2, by omega⟩)
      clear hm
      unfold ptr at *
      rcases dm with d1 | ⟨d1, d2⟩ | ⟨d1, d2, rfl⟩ <;>
      · go_enter Tryz.func44, Tryz.ntmps44
        go_wp2_with fail
        refine (FI.out).mono ?_
        rintro e w2 ⟨rfl, e2⟩
        have na2 := na.out.1.ext e2
        have c3 := na2.c 3
        simp only [ncells] at c3
        obtain ⟨ad, cap, bb, bin, -⟩ := Bin.of_row na2.n
        have bl := bin.val
        have E2 := Lib.hid e2
        clear e2 FI bin na2
        rw [bl] at c3
        go_wp2
        go_ret
        exact ⟨⟨_, rfl⟩, _, _, _, Or.inl rfl, H.out.ext E2.out, StTo.of_ext E2.out⟩
    · obtain ⟨k, rfl⟩ : ∃ k : Nat, m = (k : Int) := ⟨m.toNat, by omega⟩
      have KL := Lib.hid (show k < (S.nd a).now.length by omega)
      have d1 : decide ((k : Int) < 0) = false := by simp
      have d2 : decide ((S.nd a).now.length ≤ k) = false := by have := KL.out; simp; omega
      have d3 : (x == 0) = false := by have : x ≠ 0 := by omega
                                       simpa using this
      clear hm
      unfold ptr at *
      go_enter Tryz.func44, Tryz.ntmps44
      go_wp2_with fail
      refine (FI.out).mono ?_
      rintro e w2 ⟨rfl, e2⟩
      have R2 := Lib.hid (H.out.ext e2)
      have na2 := (R2.out.nd a ha.out).1
      have ok := Lib.hid (R2.out.nd a ha.out).2
      obtain ⟨g, cap, hv, hc1, hc2⟩ := Row.own na2.n (by have := KL.out; omega)
      obtain ⟨g', cap', hv', hc1', hc2'⟩ := Row.own na2.k (by have := KL.out; have := ok.out.kl; omega)
      have c3 := na2.c 3
      simp only [ncells] at c3
      have rn := na2.n
      rw [hv] at c3 rn
      have ce := Row.cell rn k KL.out
      have gk : (bts (S.nd a).now)[k]? = some (.int .u8 ((S.nd a).now[k]'KL.out)) := by simp [bts, KL.out]
      rw [gk] at ce
      obtain ⟨ce1, ce2⟩ := ce
      have E2 := Lib.hid e2
      clear gk FI e2 rn
      go_upto_region 7 with fail
      obtain ⟨n3, t3⟩ := na2.putN hv k [bits .xor .u8 ((S.nd a).now[k]'KL.out) x] (by have := KL.out; simp only [List.length_cons, List.length_nil]; omega)
      have XR := Lib.hid (xor_u8 ((S.nd a).now[k]'KL.out) x)
      rw [set_one] at n3 t3
      generalize bits .xor .u8 ((S.nd a).now[k]'KL.out) x = v at *
      have kk : k < (S.nd a).kept.length := by have := KL.out; have := ok.out.kl; omega
      have c4 := n3.c 4
      simp only [ncells] at c4
      have rk := n3.k
      rw [hv'] at c4 rk
      have ce := Row.cell rk k kk
      have gk : (bts (S.nd a).kept)[k]? = some (.int .u8 ((S.nd a).kept[k]'kk)) := by simp [bts, kk]
      simp only [gk] at ce
      obtain ⟨ce3, ce4⟩ := ce
      have KK := Lib.hid kk
      obtain ⟨n4, t4⟩ := n3.putK1 hv' k [bits .xor .u8 ((S.nd a).kept[k]'kk) x] (by simp only [List.length_cons, List.length_nil]; omega)
      have XR2 := Lib.hid (xor_u8 ((S.nd a).kept[k]'kk) x)
      rw [set_one] at n4 t4
      obtain ⟨L5, r5, t5⟩ := R2.out.node a ha.out _ _ n4 (show NV.Ok _ from ⟨by simp only; rw [splice_len _ _ _ (by simp only [List.length_cons, List.length_nil]; omega), splice_len _ _ _ (by have := KL.out; simp only [List.length_cons, List.length_nil]; omega)]; exact ok.out.kl, by simp only; rw [splice_len _ _ _ (by have := KL.out; simp only [List.length_cons, List.length_nil]; omega)]; exact ok.out.ll, by simp only; rw [splice_len _ _ _ (by have := KL.out; simp only [List.length_cons, List.length_nil]; omega)]; exact ok.out.len, splice_one ok.out.bn k v XR.out, splice_one ok.out.bk k _ XR2.out⟩) (t3.trans t4)
      have FN := Lib.hid (And.intro r5 ((StTo.of_ext E2.out).trans t5))
      clear gk rk ce1 ce2 c3 n3 t3 n4 t4 r5 t5 XR XR2 ok na R2
      generalize w2.setCell ⟨g, k, none⟩ (.int .u8 v) = w3 at *
      have d4 : decide ((S.nd a).kept.length ≤ k) = false := by simp; omega
      go_wp2
      go_ret
      refine ⟨⟨_, rfl⟩, _, _, _, Or.inr ⟨a, _, S.clock, HLK.out, ?_, by omega, by omega, rfl⟩, FN.out.1, FN.out.2⟩
      rfl
end Go.Proofs.YtbneedmfpldpfaaGreatDoor

namespace Go.Proofs.YtbneedmfpldpfaaGreatDoor
open Go.RowKit Go.Pth
set_option linter.unusedSimpArgs false
set_option linter.unusedVariables false

set_option maxRecDepth 100000 in
set_option maxHeartbeats 8000000 in
theorem add_off (b : Nat) (S : SV) (V : SW) (L : Nat → Option Role) (p : ByteArray) (k c : Int) (w : World) (h : Rep w b S V L) (hf : S.Fit) (hb : S.begE [p.toList] = c) (hc : c ≠ 0) :
    Calls Tryz.prog 19 #[ptr b, .string p, .int .i64 k] w fun e w' => e = .returned (.int .i64 c) ∧ Rep w' b S.beg V L ∧ StTo w w' L L := by
  have BG := Lib.hid (begin_one b S V L p w h hf)
  rw [hb] at BG
  have tb : (c != 0) = true := by simpa using hc
  clear h hf hb hc
  unfold ptr at *
  go_enter Tryz.func19, Tryz.ntmps19
  go_wp2_with fail
  refine (BG.out).mono ?_
  rintro e w1 ⟨rfl, r1, t1⟩
  have F := Lib.hid (And.intro r1 t1)
  clear r1 t1 BG
  go_wp2
  go_ret
  exact ⟨rfl, F.out.1, F.out.2⟩
end Go.Proofs.YtbneedmfpldpfaaGreatDoor

set_option linter.unusedSimpArgs false
set_option linter.unusedVariables false
namespace Go.Proofs.YtbneedmfpldpfaaGreatDoor
open Go.RowKit Go.Pth

theorem run_row (v : Value) (l : List Nm) (p : ByteArray) (w : World) (h : Row w 78 2 v l.length (ents l)) (hs : Srt l) (hl : l.length ≤ 1000000) :
    Calls Tryz.prog 70 #[v, .string p] w fun e w' => ∃ ad cap, e = .returned (.slice ad (rung l p.toList).length cap) ∧ Ext w w' := by
  have key : ∃ ad cap b, TrR w v l ad cap b 0 ∧ l.length ≤ cap ∧ cap ≤ maxLen ∧ (ad = none → cap = 0) ∧ ∀ A, ad = some A → A = ⟨b, 0, none⟩ := by
    rcases h.2 with ⟨rfl, h0⟩ | ⟨g, cap, cur, hv, _, _, h1, h2, _⟩
    · have : l = [] := List.length_eq_zero_iff.1 h0
      subst this
      exact ⟨none, 0, 0, trr_nil w none 0 0 0, by simp, by simp [maxLen], fun _ => rfl, fun A hA => by cases hA⟩
    · subst hv
      exact ⟨_, cap, g, Row.trr h, h1, h2, (fun e => by cases e), fun A hA => by injection hA with hA; exact hA.symm⟩
  obtain ⟨ad, cap, b, ht, k1, k2, k3, k4⟩ := key
  refine (run_any v l p ad cap b 0 w ht k1 k2 k3 k4 hs hl).mono ?_
  rintro e w' ⟨v', ad', cap', o', rfl, he, tr⟩
  have := tr.val
  subst this
  exact ⟨ad', cap', rfl, he⟩
theorem rest_sub (l : List Nm) (f : B) : (rest l f).Sublist l := by
  have hd : l.take (place l f) ++ l.drop (place l f) = l := List.take_append_drop _ _
  conv => rhs; rw [← hd]
  unfold rest
  refine List.Sublist.append (List.Sublist.refl _) ?_
  rw [← List.drop_drop]
  exact List.drop_sublist _ _
/-- The state with a name less. -/
def SV.gone (S : SV) (q : B) : SV := { S with names := rest S.names q, acts := S.acts ++ [⟨q, [], none⟩] }
def RemR (w : World) (b : Nat) (S : SV) (q : B) (L : Nat → Option Role) (w' : World) : Prop := ∃ S' V' L', (S' = S.beg ∨ (S.begE [q] = 0 ∧ (rung S.names q).length = 1 ∧ S' = S.beg.gone q)) ∧ Rep w' b S' V' L' ∧ StTo w w' L L'

set_option maxRecDepth 100000 in
set_option maxHeartbeats 8000000 in
theorem remove_all (b : Nat) (S : SV) (V : SW) (L : Nat → Option Role) (p : ByteArray) (w : World) (h : Rep w b S V L) (hf : S.Fit) (hp : S.begE [p.toList] = 0 → (p.toList == []) = false) :
    Calls Tryz.prog 37 #[ptr b, .string p] w fun e w' => (∃ n : Int, e = .returned (.int .i64 n)) ∧ RemR w b S p.toList L w' := by
  have BG := Lib.hid (begin_one b S V L p w h hf)
  have bs := beg_same S
  have hnl := hf.names
  have hac := hf.acts
  obtain ⟨n0, hn0⟩ : ∃ n, S.begE [p.toList] = n := ⟨_, rfl⟩
  rw [hn0] at BG hp
  have HN := Lib.hid hn0
  clear hn0
  by_cases hb : n0 = 0
  rotate_left
  · have tb : (n0 != 0) = true := by simpa using hb
    clear h hf hb hp bs hnl hac
    unfold ptr at *
    go_enter Tryz.func37, Tryz.ntmps37
    go_wp2_with fail
    refine (BG.out).mono ?_
    rintro e w1 ⟨rfl, r1, t1⟩
    have F := Lib.hid (And.intro r1 t1)
    clear r1 t1 BG
    go_wp2
    go_ret
    exact ⟨⟨_, rfl⟩, _, _, _, Or.inl rfl, F.out.1, F.out.2⟩
  subst hb
  have hp1 := Lib.hid (hp rfl)
  have RU := Lib.hid (fun w' (r : Rep w' b S.beg V L) => run_row V.n S.names p w' (by have := r.nm; rw [bs.1] at this; exact this) (by have := r.sn; rw [bs.1] at this; exact this) (by omega))
  have CG := Lib.hid (fun w' (r : Rep w' b S.beg V L) (h1 : (rung S.names p.toList).length = 1) => (show Calls Tryz.prog 52 #[ptr b, .agg #[.string p, .string ⟨#[]⟩, .pointer none]] w' fun e w2 => e = .returned (.tuple #[]) ∧ ∃ V' L', Rep w2 b (S.beg.gone p.toList) V' L' ∧ StTo w' w2 L L' by
    have hle := rung_le S.names p.toList
    obtain ⟨g, cap, hv⟩ : ∃ g cap, V.n = .slice (some ⟨g, 0, none⟩) S.names.length cap := by
      have := r.nm
      rw [bs.1] at this
      rcases this.2 with ⟨_, h2⟩ | ⟨g, cap, cur, hv, _⟩
      · omega
      · exact ⟨g, cap, hv⟩
    refine change_gone b g cap S.beg V L p w' r (by rw [bs.2.2.2.2.1]; omega) (by rw [bs.1]; omega) (by rw [bs.1]; exact hv) hp1.out (by rw [bs.1]; omega) (r.sn.sublist (rest_sub _ _)) (fun x hx => r.rn x ((rest_sub _ _).subset hx))))
  clear h hf hp bs hnl hac
  obtain ⟨R, hR⟩ : ∃ R, R = (rung S.names p.toList).length := ⟨_, rfl⟩
  rw [← hR] at RU CG
  have HRR := Lib.hid hR
  clear hR
  unfold ptr at *
  rcases Nat.lt_trichotomy R 1 with h0 | h1 | h2
  · obtain rfl : R = 0 := by omega
    clear CG h0
    go_enter Tryz.func37, Tryz.ntmps37
    go_wp2_with fail
    refine (BG.out).mono ?_
    rintro e w1 ⟨rfl, r1, t1⟩
    have F := Lib.hid (And.intro r1 t1)
    have c2 := r1.c 2
    simp only [scells] at c2
    clear r1 t1 BG
    go_wp2_with fail
    refine (RU.out _ F.out.1).mono ?_
    rintro e w2 ⟨ad, cap, rfl, e2⟩
    have E2 := Lib.hid e2
    clear e2 RU c2
    go_wp2
    go_ret
    exact ⟨⟨_, rfl⟩, _, _, _, Or.inl rfl, F.out.1.ext E2.out, F.out.2.trans (StTo.of_ext E2.out)⟩
  · subst h1
    go_enter Tryz.func37, Tryz.ntmps37
    go_wp2_with fail
    refine (BG.out).mono ?_
    rintro e w1 ⟨rfl, r1, t1⟩
    have F := Lib.hid (And.intro r1 t1)
    have c2 := r1.c 2
    simp only [scells] at c2
    clear r1 t1 BG
    go_wp2_with fail
    refine (RU.out _ F.out.1).mono ?_
    rintro e w2 ⟨ad, cap, rfl, e2⟩
    have E2 := Lib.hid e2
    clear e2 RU c2
    go_wp2_with fail
    refine (CG.out _ (F.out.1.ext E2.out) trivial).mono ?_
    rintro e w3 ⟨rfl, V3, L3, r3, t3⟩
    have FN := Lib.hid (And.intro r3 ((F.out.2.trans (StTo.of_ext E2.out)).trans t3))
    clear r3 t3 CG
    go_wp2
    go_ret
    exact ⟨⟨_, rfl⟩, _, _, _, Or.inr ⟨HN.out, HRR.out.symm, rfl⟩, FN.out.1, FN.out.2⟩
  · have q0 : ¬ (R : Int) = 0 := by omega
    have q1 : ¬ (R : Int) = 1 := by omega
    have p0 : ¬ R = 0 := by omega
    have p1 : ¬ R = 1 := by omega
    clear CG h2
    go_enter Tryz.func37, Tryz.ntmps37
    go_wp2_with fail
    refine (BG.out).mono ?_
    rintro e w1 ⟨rfl, r1, t1⟩
    have F := Lib.hid (And.intro r1 t1)
    have c2 := r1.c 2
    simp only [scells] at c2
    clear r1 t1 BG
    go_wp2_with fail
    refine (RU.out _ F.out.1).mono ?_
    rintro e w2 ⟨ad, cap, rfl, e2⟩
    have E2 := Lib.hid e2
    clear e2 RU c2
    go_wp2
    go_ret
    exact ⟨⟨_, rfl⟩, _, _, _, Or.inl rfl, F.out.1.ext E2.out, F.out.2.trans (StTo.of_ext E2.out)⟩
end Go.Proofs.YtbneedmfpldpfaaGreatDoor
