/- Calls of the store on what stands at one name, whatever they answer: Truncate. Calls of the store on what stands at one name, whatever they answer: Sync. Calls of the store on what stands at one name, whatever they answer: Write. Calls of the store on what stands at one name, whatever they answer: Write. Calls of the store on what stands at one name, whatever they answer: Rot. Create and Mkdir, whatever they answer. Remove, whatever it answers. -/
import Derived.Test.YtnhokjnmpdiokaaGreatDoorVHM
import Derived.Test.YtnhokjnmpdiokaaGreatDoorVIM
import Derived.Test.YtnhokjnmpdiokaaGreatDoorVLM
namespace Go.Proofs.YtnhokjnmpdiokaaGreatDoor.V
open Go.RowKit Go.Pth
set_option linter.unusedSimpArgs false
set_option linter.unusedVariables false

end Go.Proofs.YtnhokjnmpdiokaaGreatDoor.V

namespace Go.Proofs.YtnhokjnmpdiokaaGreatDoor.V
open Go.RowKit Go.Pth
set_option linter.unusedSimpArgs false
set_option linter.unusedVariables false

end Go.Proofs.YtnhokjnmpdiokaaGreatDoor.V

namespace Go.Proofs.YtnhokjnmpdiokaaGreatDoor.V
open Go.RowKit Go.Pth
set_option linter.unusedSimpArgs false
set_option linter.unusedVariables false

set_option maxRecDepth 100000 in
set_option maxHeartbeats 8000000 in
theorem write_full (b : Nat) (S : SV) (V : SW) (L : Nat → Option Role) (p : ByteArray) (off : Nat) (x : List Int) (vb : Value) (ad : Option Addr) (cap bb o a : Nat) (w : World) (h : Rep w b S V L) (hf : S.Fit) (hb : S.begE [p.toList] = 0) (hfile : S.file p.toList = (some a, 0))
    (hx : Bin w vb x ad cap bb o) (hxl : L bb = none) (hbyt : ∀ y ∈ x, 0 ≤ y ∧ y < 256) (hsz : off + x.length ≤ 65536) (hroom : ¬ (used S.nd S.names : Int) + max 0 ((off : Int) + x.length - (S.nd a).now.length) ≤ S.room) :
    Calls Tryz.prog 105 #[ptr b, .string p, .int .i64 off, vb] w fun e w' => e = .returned (.int .i64 4) ∧ Rep w' b S.beg V L ∧ StTo w w' L L := by
  have BG := Lib.hid (begin_one b S V L p w h hf)
  rw [hb] at BG
  have bs := beg_same S
  have hfb : S.beg.file p.toList = (some a, 0) := by unfold SV.file; rw [bs.1, bs.2.1]; exact hfile
  have hlook : look S.names p.toList = some a := by
    unfold SV.file at hfile
    split at hfile
    · cases hfile
    · rename_i q hq
      split at hfile
      · injection hfile with h1; rw [hq, h1]
      · cases hfile
  have ha : a ∈ S.beg.ids := by rw [bs.2.2.1]; exact h.rn _ (look_mem _ _ _ hlook)
  have FI := Lib.hid (fun w' (r : Rep w' b S.beg V L) => file_any b S.beg V L p w' r (by rw [bs.1]; have := hf.names; omega))
  simp only [hfb, optr] at FI
  have US := Lib.hid (fun w' (r : Rep w' b S.beg V L) => used_any b S.beg V L w' r (by rw [bs.1]; have := hf.names; omega))
  rw [bs.1, bs.2.1] at US
  have bx : bb < w.heap.size ∨ x = [] := by
    rcases Nat.lt_or_ge bb w.heap.size with h1 | h1
    · exact Or.inl h1
    · refine Or.inr ?_
      cases x with
      | nil => rfl
      | cons y ys =>
        have := hx.cell 0 (.int .u8 y) rfl
        have := World.block_lt_of_cell? _ _ this
        simp at this; omega
  have C3 := Lib.hid (fun w' (r : Rep w' b S.beg V L) => (show w'.cell? ⟨a, 3, none⟩ = some (V.nv a).n by rw [(r.nd a ha).1.c 3]; rfl))
  have C0 := Lib.hid (fun w' (r : Rep w' b S.beg V L) => (show w'.cell? ⟨b, 0, none⟩ = some (.int .i64 S.room) by rw [r.c 0]; simp [scells, bs.2.2.2.2.2.1]))
  have hn0 := (h.nd a (by rw [← bs.2.2.1]; exact ha)).1.n
  obtain ⟨dn, kn, hvn, -⟩ := hn0.shape
  have hlen := (h.nd a (by rw [← bs.2.2.1]; exact ha)).2.len
  rw [hvn] at C3
  have hvb := hx.val
  subst hvb
  have hu0 : used S.nd S.names ≤ 1000000000000 := by
    have := used_le S.nd S.names fun q hq => (h.nd _ (h.rn q hq)).2.len
    have := hf.names
    omega
  have HX := Lib.hid hx
  have HF := Lib.hid hf
  have HRM := Lib.hid hroom
  clear h hf hb hfile bs hfb hlook bx hx hn0 hvn hxl hbyt ha hroom
  generalize used S.nd S.names = U at *
  generalize (S.nd a).now.length = LN at *
  generalize hXL : x.length = X at *
  have HXL := Lib.hid hXL
  clear hXL
  unfold ptr at *
  have g1 : decide ((off : Int) < 0) = false := decide_eq_false (by omega)
  have g2 : decide ((65536 : Int) - (X : Int) < (off : Int)) = false := decide_eq_false (by omega)
  go_enter Tryz.func105, Tryz.ntmps105
  go_wp2_with fail
  refine (BG.out).mono ?_
  rintro e w1 ⟨rfl, r1, t1⟩
  have R1 := Lib.hid r1
  have T1 := Lib.hid t1
  clear r1 t1
  go_wp2_with fail
  refine (FI.out _ R1.out).mono ?_
  rintro e w2 ⟨rfl, hE⟩
  have R2 := Lib.hid (R1.out.ext hE)
  have T2 := Lib.hid (T1.out.trans (StTo.of_ext hE))
  clear R1 T1 hE
  go_upto_region 11 with fail
  have hS : Ext w2 w2.drew := Ext.drew w2
  have c3 := C3.out _ R2.out
  have c0 := C0.out _ R2.out
  refine wp_region_held (S := fun w' => Ext w2 w') (by kernel_rfl) ?_
  change wpAnyH _ _ _ _ _ _ _ _ (World.drew _)
  refine tkS 0 (some 38) (.pointer (some ⟨b, 0, none⟩)) hS ?_
  simp only [pt0, pt4, pt1, pt2, pt3]
  refine tkS 2 (some 40) (.int .i64 (off : Int)) hS ?_
  simp only [pt0, pt4, pt1, pt2, pt3]
  refine tkS 3 (some 41) (.slice ad X cap) hS ?_
  simp only [pt0, pt4, pt1, pt2, pt3]
  refine tkS 4 (some 42) (.int .i64 (X : Int)) hS ?_
  simp only [pt0, pt4, pt1, pt2, pt3]
  refine tkS 5 (some 43) (.int .i64 ((off : Int) + (X : Int))) hS ?_ (hy := fun w' hw' => by go_simp; rw [IntKind.wrap_i64]; omega)
  simp only [pt0, pt4, pt1, pt2, pt3]
  refine tkS 6 (some 44) (.pointer (some ⟨a, 0, none⟩)) hS ?_
  simp only [pt0, pt4, pt1, pt2, pt3]
  refine tkS 7 (some 45) (.pointer (some ⟨a, 0, none⟩)) hS ?_
  simp only [pt0, pt4, pt1, pt2, pt3]
  refine tkS 8 (some 46) (.pointer (some ⟨a, 3, none⟩)) hS ?_
  simp only [pt0, pt4, pt1, pt2, pt3]
  refine tkS 9 (some 47) (.slice dn LN kn) hS ?_ (hy := fun w' hw' => by have := hw'.cell c3; go_simp)
  simp only [pt0, pt4, pt1, pt2, pt3]
  refine tkS 10 (some 48) (.int .i64 (LN : Int)) hS ?_
  simp only [pt0, pt4, pt1, pt2, pt3]
  refine tkS 11 (some 49) (.int .i64 ((off : Int) + (X : Int) - (LN : Int))) hS ?_ (hy := fun w' hw' => by go_simp; rw [IntKind.wrap_i64]; omega)
  simp only [pt0, pt4, pt1, pt2, pt3]
  refine tkS 12 (some 50) (.int .i64 (max 0 ((off : Int) + (X : Int) - (LN : Int)))) hS ?_
  simp only [pt0, pt4, pt1, pt2, pt3]
  refine tkS 14 (some 52) (.pointer (some ⟨b, 0, none⟩)) hS ?_
  simp only [pt0, pt4, pt1, pt2, pt3]
  refine tkS 15 (some 53) (.pointer (some ⟨b, 0, none⟩)) hS ?_
  simp only [pt0, pt4, pt1, pt2, pt3]
  refine tkS 16 (some 54) (.pointer (some ⟨b, 0, none⟩)) hS ?_
  simp only [pt0, pt4, pt1, pt2, pt3]
  refine tkS 17 (some 55) (.int .i64 S.room) hS ?_ (hy := fun w' hw' => by have := hw'.cell c0; go_simp)
  simp only [pt0, pt4, pt1, pt2, pt3]
  refine nextS 1 rfl (by kernel_rfl) rfl ?_
  refine callS (some 39) rfl 128 #[.pointer (some ⟨b, 0, none⟩)] (by go_simp) (fun v w' => v = .int .i64 (U : Int) ∧ Ext w2 w') ((US.out _ (R2.out.ext hS)).mono fun e w' he => ⟨_, he.1, rfl, hS.trans he.2⟩) ?_
  rintro v3 w3 ⟨rfl, hS3⟩
  refine ⟨hS3, ?_⟩
  simp only [pt0, pt4, pt1, pt2, pt3]
  have hmx : 0 ≤ max 0 ((off : Int) + (X : Int) - (LN : Int)) ∧ max 0 ((off : Int) + (X : Int) - (LN : Int)) ≤ 65536 := by omega
  have hroom := HRM.out
  generalize max 0 ((off : Int) + (X : Int) - (LN : Int)) = MX at *
  obtain ⟨mx1, mx2⟩ := hmx
  have g3 : decide (S.room < (U : Int) + MX) = true := decide_eq_true (by omega)
  clear hroom HRM
  refine tkS 13 (some 51) (.int .i64 ((U : Int) + MX)) hS3 ?_ (hy := fun w' hw' => by go_simp; rw [IntKind.wrap_i64]; omega)
  simp only [pt0, pt4, pt1, pt2, pt3]
  refine tkS 18 (some 56) (.bool true) hS3 ?_
  simp only [pt0, pt4, pt1, pt2, pt3]
  refine tkS 19 (some 37) (.bool true) hS3 ?_
  simp only [pt0, pt4, pt1, pt2, pt3]
  refine wpAnyH_done (by kernel_rfl) ?_ _
  have R3 := Lib.hid (R2.out.ext hS3)
  have T3 := Lib.hid (T2.out.trans (StTo.of_ext hS3))
  clear R2 T2 c3 c0 US BG FI
  have FN := Lib.hid (And.intro R3.out T3.out)
  clear R3 T3
  go_wp2
  go_ret
  exact ⟨rfl, FN.out⟩
end Go.Proofs.YtnhokjnmpdiokaaGreatDoor.V

namespace Go.Proofs.YtnhokjnmpdiokaaGreatDoor.V
open Go.RowKit Go.Pth
set_option linter.unusedSimpArgs false
set_option linter.unusedVariables false

end Go.Proofs.YtnhokjnmpdiokaaGreatDoor.V

namespace Go.Proofs.YtnhokjnmpdiokaaGreatDoor.V
open Go.RowKit Go.Pth
set_option linter.unusedSimpArgs false
set_option linter.unusedVariables false

theorem NdIn.putK1 {w : World} {a : Nat} {N : NV} {V : Vs} (h : NdIn w a N V) {g cap : Nat} (hv : V.k = .slice (some ⟨g, 0, none⟩) N.kept.length cap) (o : Nat) (x : List Int) (hl : o + x.length ≤ N.kept.length) :
    NdIn (w.setCells g o (bts x)) a { N with kept := splice N.kept o x } V ∧ NdTo w (w.setCells g o (bts x)) a V V := by
  have hg : V.k.ownBlock = some g := by rw [hv]; rfl
  have sc := Chg.sets g (bts x) o w
  have hr := h.k
  rw [hv] at hr
  have hr2 := Row.sets hr o (bts x) (by rw [bts_len]; exact hl)
  rw [bts_splice, ← hv] at hr2
  refine ⟨⟨sc.at h.cells fun e => h.ak (by rw [e]; exact hg), h.n.chg sc fun q hq e => h.nk q hq (by rw [e]; exact hg), by rw [splice_len _ _ _ hl]; exact hr2, h.l.chg sc fun q hq e => h.kl g hg (by rw [← e]; exact hq), h.an, h.ak, h.al, h.nk, h.nl, h.kl⟩, sc.mono fun i _ e => Or.inr (Or.inr (Or.inl (by rw [e]; exact hg))), fun i hi => Or.inl hi⟩
theorem xor_u8 (a b : Int) : 0 ≤ bits .xor .u8 a b ∧ bits .xor .u8 a b < 256 := by
  show 0 ≤ IntKind.u8.wrap ((BitVec.ofInt 8 a ^^^ BitVec.ofInt 8 b).toNat : Int) ∧ IntKind.u8.wrap ((BitVec.ofInt 8 a ^^^ BitVec.ofInt 8 b).toNat : Int) < 256
  rw [IntKind.wrap_u8']
  omega
theorem set_one (w : World) (g k : Nat) (v : Int) : w.setCells g k (bts [v]) = w.setCell ⟨g, k, none⟩ (.int .u8 v) := rfl
theorem splice_one {l : List Int} (hl : ∀ y ∈ l, 0 ≤ y ∧ y < 256) (o : Nat) (v : Int) (hv : 0 ≤ v ∧ v < 256) : ∀ y ∈ splice l o [v], 0 ≤ y ∧ y < 256 :=
  splice_byt hl (fun y hy => by rw [List.mem_singleton.1 hy]; exact hv) o

end Go.Proofs.YtnhokjnmpdiokaaGreatDoor.V

namespace Go.Proofs.YtnhokjnmpdiokaaGreatDoor.V
open Go.RowKit Go.Pth
set_option linter.unusedSimpArgs false
set_option linter.unusedVariables false

end Go.Proofs.YtnhokjnmpdiokaaGreatDoor.V

set_option linter.unusedSimpArgs false
set_option linter.unusedVariables false
namespace Go.Proofs.YtnhokjnmpdiokaaGreatDoor.V
open Go.RowKit Go.Pth

theorem run_row (v : Value) (l : List Nm) (p : ByteArray) (w : World) (h : Row w 79 2 v l.length (ents l)) (hs : Srt l) (hl : l.length ≤ 1000000) :
    Calls Tryz.prog 120 #[v, .string p] w fun e w' => ∃ ad cap, e = .returned (.slice ad (rung l p.toList).length cap) ∧ Ext w w' := by
  have key : ∃ ad cap b, TrR w v l ad cap b 0 ∧ l.length ≤ cap ∧ cap ≤ maxLen ∧ (ad = none → cap = 0) ∧ ∀ A, ad = some A → A = ⟨b, 0, none⟩ := by
    rcases h.2 with ⟨rfl, h0⟩ | ⟨g, cap, cur, hv, _, _, h1, h2, _⟩
    · have : l = [] := List.length_eq_zero_iff.1 h0
      subst this
      exact ⟨none, 0, 0, trr_nil w none 0 0 0, by simp, by simp [maxLen], fun _ => rfl, fun A hA => by cases hA⟩
    · subst hv
      exact ⟨_, cap, g, Row.trr h, h1, h2, (fun e => by cases e), fun A hA => by injection hA with hA; exact hA.symm⟩
  obtain ⟨ad, cap, b, ht, k1, k2, k3, k4⟩ := key
  refine (run_any v l p ad cap b 0 w ht k1 k2 k3 k4 hs hl).mono ?_
  rintro e w' ⟨v', ad', cap', o', rfl, he, tr⟩
  have := tr.val
  subst this
  exact ⟨ad', cap', rfl, he⟩
theorem rest_sub (l : List Nm) (f : B) : (rest l f).Sublist l := by
  have hd : l.take (place l f) ++ l.drop (place l f) = l := List.take_append_drop _ _
  conv => rhs; rw [← hd]
  unfold rest
  refine List.Sublist.append (List.Sublist.refl _) ?_
  rw [← List.drop_drop]
  exact List.drop_sublist _ _
def SV.gone (S : SV) (q : B) : SV := { S with names := rest S.names q, acts := S.acts ++ [⟨q, [], none⟩] }
end Go.Proofs.YtnhokjnmpdiokaaGreatDoor.V
