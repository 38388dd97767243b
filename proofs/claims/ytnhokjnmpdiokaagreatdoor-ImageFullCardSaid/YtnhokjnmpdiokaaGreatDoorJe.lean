/- The law's refs: an image of numbers. No conditions but those named: contracts. -/
import Derived.Test.YtnhokjnmpdiokaaGreatDoorJaM
import Derived.Test.YtnhokjnmpdiokaaGreatDoorSpM
import Derived.Deep.CutRange
namespace Go.Proofs.YtnhokjnmpdiokaaGreatDoor
open Go.RowKit Go.Sha Go.Pth
set_option linter.unusedSimpArgs false
set_option linter.unusedVariables false

def nmI (i : Nat) : ByteArray := strOfNums [97 + (i : Int)]
def refD (i : Nat) (a : Int) : RD := if a.tmod 5 = 4 then ⟨nmI i, 2, 0, a.tmod 7, a, []⟩ else ⟨nmI i, 1, a.tmod 100, a.tmod 7, a, shaL [a % 256]⟩
def refO (ms : List Int) (i : Nat) : List RD := match ms[i]? with
 | none => []
 | some a => if a < 0 then [] else [refD i a]
def refsK (ms : List Int) (k : Nat) : List RD := (List.range k).flatMap (refO ms)
theorem refsK_succ (ms : List Int) (k : Nat) : refsK ms (k + 1) = refsK ms k ++ refO ms k := by simp [refsK, List.range_succ, List.flatMap_append]
theorem refsK_len (ms : List Int) (k : Nat) : (refsK ms k).length ≤ k := by
 induction k with
 | zero => simp [refsK]
 | succ k ih =>
  rw [refsK_succ, List.length_append]
  have : (refO ms k).length ≤ 1 := by unfold refO; split <;> (try split) <;> simp
  omega
theorem conv_one {w : World} {g : Nat} {c : Int} (h : At w g #[.int .u8 c] 5) : (convert 50 9 (.slice (some ⟨g, 0, none⟩) 1 1)).run Tryz.prog w = .ok (.string (strOfNums [c])) w :=
 convB (b := g + 1) (m := [c]) ⟨_, 1, g, 0, rfl, by simp, fun _ => rfl, by omega, fun j hj => by
  have : j = 0 := by simpa using hj
  subst this
  exact h.cell 0, fun h => by cases h⟩
theorem sum_one (w : World) (g : Nat) (c : Int) (h : At w g #[.int .u8 c] 5) : Calls Tryz.prog 44 #[.slice (some ⟨g, 0, none⟩) 1 1] w fun e w' => ∃ v, e = .returned v ∧ ∃ adr capr, v = .slice adr 32 capr ∧ Ext w w' ∧ OwnB w' w.heap.size (.slice adr 32 capr) (shaL [c]) := by
 have s : Sha.Src w (.slice (some ⟨g, 0, none⟩) 1 1) [c] w.heap.size := ⟨_, 1, g, 0, rfl, by simp, fun _ => rfl, by have := h.lt; omega, fun j hj => by
  have : j = 0 := by simpa using hj
  subst this
  exact h.cell 0, fun h => by cases h⟩
 refine (ref_any _ [c] w s (by simp)).mono fun e w' ⟨v, h1, h2, h3⟩ => ?_
 obtain ⟨ad, cap, ev⟩ := h3.len
 rw [shaL_length] at ev
 subst ev
 exact ⟨_, h1, ad, cap, rfl, h2, h3⟩
theorem nextThree {P : Program} {md : Region.Mode} {ops : Array Oper} {Q : Exit → Act → World → Prop} {S : World → Prop} (i j l : Nat) {oi oj ol : Oper} {fuel : Nat} {listed : Array Bool} {a : Act} {w : World} (hi : ops[i]? = some oi) (hj : ops[j]? = some oj) (hl : ops[l]? = some ol)
  (hr : Region.ready md ops listed = [i, j, l]) (hwi : Region.wanted oi (yielded ops a.tmps) = true) (hwj : Region.wanted oj (yielded ops a.tmps) = true) (hwl : Region.wanted ol (yielded ops a.tmps) = true)
  (h1 : oi.wp P a w (fun a' w' => S w' ∧ wpAnyH P md ops Q S fuel (listed.setIfInBounds i true) a' w') Q)
  (h2 : oj.wp P a w (fun a' w' => S w' ∧ wpAnyH P md ops Q S fuel (listed.setIfInBounds j true) a' w') Q)
  (h3 : ol.wp P a w (fun a' w' => S w' ∧ wpAnyH P md ops Q S fuel (listed.setIfInBounds l true) a' w') Q) : wpAnyH P md ops Q S (fuel + 1) listed a w := by
 refine wpAnyH_all hr (by simp) fun k hk => ?_
 have hk : k = i ∨ k = j ∨ k = l := by simpa using hk
 rcases hk with rfl | rfl | rfl
 ·refine wpOp_step hi fun K hK => ?_
  rw [if_pos hwi]
  exact Oper.wp_mono (fun a' w' h' => hK a' w' h') h1
 ·refine wpOp_step hj fun K hK => ?_
  rw [if_pos hwj]
  exact Oper.wp_mono (fun a' w' h' => hK a' w' h') h2
 ·refine wpOp_step hl fun K hK => ?_
  rw [if_pos hwl]
  exact Oper.wp_mono (fun a' w' h' => hK a' w' h') h3
def InvRf (w : World) (ms : List Int) (v i : Value) (wr : World) : Prop := ∃ (k : Nat) (l' : List RV), k ≤ 20 ∧ i = .int .i64 k ∧ OwnR wr w.heap.size v l' ∧ l'.map RV.d = refsK ms k ∧ Ext w wr
set_option maxRecDepth 100000 in
set_option maxHeartbeats 32000000 in
theorem refs_any (v : Value) (ms : List Int) (w : World) (h : IR w v ms) (hb : ∀ a ∈ ms, -9223372036854775808 ≤ a ∧ a ≤ 9223372036854775807) (hl : ms.length ≤ 9223372036854775807) :
  Calls Tryz.prog 20 #[v] w (ClPost w (refsK ms 20)) := by
 obtain ⟨ad, cap, b, o, ev, hadr, hcell⟩ := h
 obtain ⟨n, hn⟩ : ∃ n, n = ms.length := ⟨_, rfl⟩
 have HN := Lib.hid hn
 rw [← hn] at ev hadr hl
 have HA := Lib.hid hadr
 have HC0 := Lib.hid hcell
 have HB := Lib.hid hb
 clear hn hadr hcell hb
 subst ev
 go_enter Tryz.func20, Tryz.ntmps20
 go_wp2
 go_loopw [3, 4] (fun v i wr => InvRf w ms v i wr) (fun _ i _ => 20 - (intOf i).toNat)
 case atStart => exact ⟨0, [], by omega, rfl, OwnR.nil w _, rfl, Ext.refl w⟩
 case round =>
  obtain ⟨k, l', hk, rfl, op, hd, ex⟩ := hrel
  have hll : l'.length ≤ 20 := by
   have := congrArg List.length hd
   have h2 := refsK_len ms k
   simp only [List.length_map] at this
   omega
  obtain ⟨adl, capl, el⟩ := op.len
  subst el
  obtain ⟨LL, hLL⟩ : ∃ n, n = l'.length := ⟨_, rfl⟩
  rw [← hLL] at op hll ⊢
  have HLL := Lib.hid hLL
  have OP := Lib.hid op
  have HD := Lib.hid hd
  have EX := Lib.hid ex
  clear hLL op hd ex
  by_cases hlt : k < 20
  ·have i0 : (k : Int) < 20 := by omega
   have i1 : (0 : Int) ≤ (k : Int) := by omega
   by_cases hkn : k < n
   ·have j0 : (k : Int) < (n : Int) := by omega
    have d0 : decide ((n : Int) ≤ (k : Int)) = false := by simp; omega
    have ea := HA.out (by omega)
    subst ea
    obtain ⟨a, ha⟩ : ∃ a, ms[k]? = some a := ⟨_, List.getElem?_eq_getElem (by rw [← HN.out]; exact hkn)⟩
    have hab := HB.out a (List.mem_of_getElem? ha)
    have CK := Lib.hid (ext_cell EX.out (HC0.out k a ha))
    have ck := CK.out
    by_cases hneg : a < 0
    ·have RO := Lib.hid (show refO ms k = [] by unfold refO; rw [ha]; simp [hneg])
     have d1 : decide (a < 0) = true := decide_eq_true hneg
     clear ha
     go_wp2
     exact ⟨⟨k + 1, l', by omega, by go_num, by have := OP.out; exact this, by rw [refsK_succ, RO.out, List.append_nil]; exact HD.out, EX.out⟩, by simp [intOf]; omega⟩
    ·have RO := Lib.hid (show refO ms k = [refD k a] by unfold refO; rw [ha]; simp [hneg])
     have d1 : decide (a < 0) = false := decide_eq_false hneg
     have CV64 := Lib.hid (show IntKind.u64.wrap a = a by rw [IntKind.wrap_u64]; omega)
     have CVA := Lib.hid (show IntKind.u8.wrap a = a % 256 from IntKind.wrap_u8' a)
     obtain ⟨nm, hnm⟩ : ∃ nm, nm = nmI k := ⟨_, rfl⟩
     have HNM := Lib.hid (show strOfNums [97 + (k : Int)] = nm from hnm.symm)
     have HNE := Lib.hid hnm
     clear ha hnm
     go_upto_region 6 with fail
     go_cut [5] from 6 to 61 (fun s5 wx => ∃ g6 adr capr, s5 = .pointer (some ⟨g6, 0, none⟩) ∧ wr.heap.size ≤ g6 ∧ Ext wr wx ∧ At wx g6 #[.string nm, .int .i64 1, .int .i64 (a.tmod 100), .int .i64 (a.tmod 7), .int .u64 a, .slice adr 32 capr] 52 ∧ (∀ bh, (bh < wr.heap.size ∨ wx.heap.size ≤ bh) → Sha.Src wx (.slice adr 32 capr) (shaL [a % 256]) bh))
     case first =>
      refine wp_region_held (S := Ext wr) (by kernel_rfl) ?_
      change wpAnyH _ _ _ _ _ _ _ _ wr.drew
      have S0 : Ext wr wr.drew := Below.drew (Below.refl _ _)
      clear ck
      generalize wr.drew = W at *
      refine tkS 0 (some 21) (.int .i64 (k : Int)) S0 ?_
      simp only [pt0, pt4, pt1, pt2, pt3]
      refine tkS 1 (some 22) (.int .i64 (97 + (k : Int))) S0 ?_ (hy := fun w' hw' => by go_simp; rw [IntKind.wrap_i64]; omega)
      simp only [pt0, pt4, pt1, pt2, pt3]
      refine tkS 2 (some 23) (.int .u8 (97 + (k : Int))) S0 ?_ (hy := fun w' hw' => by go_simp; rw [IntKind.wrap_u8']; omega)
      simp only [pt0, pt4, pt1, pt2, pt3]
      refine tkS 5 (some 26) (.slice (some ⟨b, o, none⟩) n cap) S0 ?_
      simp only [pt0, pt4, pt1, pt2, pt3]
      refine tkS 6 (some 27) (.int .i64 (k : Int)) S0 ?_
      simp only [pt0, pt4, pt1, pt2, pt3]
      refine tkS 7 (some 28) (.pointer (some ⟨b, o + k, none⟩)) S0 ?_
      simp only [pt0, pt4, pt1, pt2, pt3]
      refine tkS 8 (some 29) (.int .i64 a) S0 ?_ (hy := fun w' hw' => by have cc := ext_cell hw' CK.out; go_simp)
      simp only [pt0, pt4, pt1, pt2, pt3]
      refine tkS 9 (some 30) (.int .i64 (a.tmod 100)) S0 ?_
      simp only [pt0, pt4, pt1, pt2, pt3]
      refine tkS 10 (some 31) (.slice (some ⟨b, o, none⟩) n cap) S0 ?_
      simp only [pt0, pt4, pt1, pt2, pt3]
      refine tkS 11 (some 32) (.int .i64 (k : Int)) S0 ?_
      simp only [pt0, pt4, pt1, pt2, pt3]
      refine tkS 12 (some 33) (.pointer (some ⟨b, o + k, none⟩)) S0 ?_
      simp only [pt0, pt4, pt1, pt2, pt3]
      refine tkS 13 (some 34) (.int .i64 a) S0 ?_ (hy := fun w' hw' => by have cc := ext_cell hw' CK.out; go_simp)
      simp only [pt0, pt4, pt1, pt2, pt3]
      refine tkS 14 (some 35) (.int .i64 (a.tmod 7)) S0 ?_
      simp only [pt0, pt4, pt1, pt2, pt3]
      refine tkS 15 (some 36) (.slice (some ⟨b, o, none⟩) n cap) S0 ?_
      simp only [pt0, pt4, pt1, pt2, pt3]
      refine tkS 16 (some 37) (.int .i64 (k : Int)) S0 ?_
      simp only [pt0, pt4, pt1, pt2, pt3]
      refine tkS 17 (some 38) (.pointer (some ⟨b, o + k, none⟩)) S0 ?_
      simp only [pt0, pt4, pt1, pt2, pt3]
      refine tkS 18 (some 39) (.int .i64 a) S0 ?_ (hy := fun w' hw' => by have cc := ext_cell hw' CK.out; go_simp)
      simp only [pt0, pt4, pt1, pt2, pt3]
      refine tkS 19 (some 40) (.int .u64 a) S0 ?_ (hy := fun w' hw' => by go_simp; exact CV64.out)
      simp only [pt0, pt4, pt1, pt2, pt3]
      refine tkS 20 (some 41) (.slice (some ⟨b, o, none⟩) n cap) S0 ?_
      simp only [pt0, pt4, pt1, pt2, pt3]
      refine tkS 21 (some 42) (.int .i64 (k : Int)) S0 ?_
      simp only [pt0, pt4, pt1, pt2, pt3]
      refine tkS 22 (some 43) (.pointer (some ⟨b, o + k, none⟩)) S0 ?_
      simp only [pt0, pt4, pt1, pt2, pt3]
      refine tkS 23 (some 44) (.int .i64 a) S0 ?_ (hy := fun w' hw' => by have cc := ext_cell hw' CK.out; go_simp)
      simp only [pt0, pt4, pt1, pt2, pt3]
      refine tkS 24 (some 45) (.int .u8 (a % 256)) S0 ?_ (hy := fun w' hw' => by go_simp; exact CVA.out)
      simp only [pt0, pt4, pt1, pt2, pt3]
      refine nextThree 3 25 28 rfl rfl rfl (by kernel_rfl) rfl rfl rfl ?_ ?_ ?_
      ·refine makeS (some 24) rfl (.slice (some ⟨W.heap.size, 0, none⟩) 1 1) (w1 := W.alloc (.cells #[.int .u8 (97 + (k : Int))] 5)) (by go_simp) ?_
       simp only [pt0, pt4, pt1, pt2, pt3]
       have e1x : Ext W (W.alloc (.cells #[.int .u8 (97 + (k : Int))] 5)) := Ext.alloc _ _
       have A3 := At.new W #[.int .u8 (97 + (k : Int))] 5
       have Q1 := (S0).trans e1x
       generalize hw1 : W.alloc (.cells #[.int .u8 (97 + (k : Int))] 5) = W1 at *
       refine ⟨Q1, ?_⟩
       refine anyH_mono (S' := fun w' => Ext wr w' ∧ At w' W.heap.size #[.int .u8 (97 + (k : Int))] 5) (fun w' h => h.1) _ _ _ _ ?_
       refine tkS 4 (some 25) (.string nm) ⟨Q1, A3⟩ ?_ (hy := fun w' hw' => by have cc := conv_one hw'.2; rw [HNM.out] at cc; go_simp)
       simp only [pt0, pt4, pt1, pt2, pt3]
       refine nextTwo 25 28 rfl rfl (by kernel_rfl) rfl rfl ?_ ?_
       ·refine makeS (some 46) rfl (.slice (some ⟨W1.heap.size, 0, none⟩) 1 1) (w1 := W1.alloc (.cells #[.int .u8 (a % 256)] 5)) (by go_simp) ?_
        simp only [pt0, pt4, pt1, pt2, pt3]
        have e2x : Ext W1 (W1.alloc (.cells #[.int .u8 (a % 256)] 5)) := Ext.alloc _ _
        have A25 := At.new W1 #[.int .u8 (a % 256)] 5
        replace A3 := at_ext A3 e2x
        have Q2 := (Q1).trans e2x
        generalize hw2 : W1.alloc (.cells #[.int .u8 (a % 256)] 5) = W2 at *
        refine ⟨⟨Q2, A3⟩, ?_⟩
        refine nextTwo 26 28 rfl rfl (by kernel_rfl) rfl rfl ?_ ?_
        ·refine callS (some 47) rfl 44 #[.slice (some ⟨W1.heap.size, 0, none⟩) 1 1] (by go_simp) (fun v w' => ∃ adr capr, v = .slice adr 32 capr ∧ Ext W2 w' ∧ OwnB w' W2.heap.size (.slice adr 32 capr) (shaL [(a % 256)])) (sum_one _ _ _ A25) ?_
         rintro v3 W3 ⟨adr, capr, rfl, e3x, RT0⟩
         simp only [pt0, pt4, pt1, pt2, pt3]
         have Q3 := (Q2).trans e3x
         have RT := own_less RT0 (Q2).size
         clear RT0
         replace A25 := at_ext A25 e3x
         replace A3 := at_ext A3 e3x
         refine ⟨⟨Q3, A3⟩, ?_⟩
         refine tkS 27 (some 48) (.agg #[.string nm, .int .i64 1, .int .i64 (a.tmod 100), .int .i64 (a.tmod 7), .int .u64 a, .slice adr 32 capr]) ⟨Q3, A3⟩ ?_
         simp only [pt0, pt4, pt1, pt2, pt3]
         refine nextS 28 rfl (by kernel_rfl) rfl ?_
         refine makeS (some 5) rfl (.pointer (some ⟨W3.heap.size, 0, none⟩)) (w1 := W3.alloc (.cells #[.string ⟨#[]⟩, .int .i64 0, .int .i64 0, .int .i64 0, .int .u64 0, .slice none 0 0] 52)) (by go_simp) ?_
         simp only [pt0, pt4, pt1, pt2, pt3]
         have e4x : Ext W3 (W3.alloc (.cells #[.string ⟨#[]⟩, .int .i64 0, .int .i64 0, .int .i64 0, .int .u64 0, .slice none 0 0] 52)) := Ext.alloc _ _
         have L6 : wr.heap.size ≤ W3.heap.size := (Q3).size
         have SG6 := (RT.srcs W3.heap.size (Or.inr (Nat.le_refl _))).below e4x
         have N36 : W.heap.size ≠ W3.heap.size := Nat.ne_of_lt A3.lt
         have A6 := At.new W3 #[.string ⟨#[]⟩, .int .i64 0, .int .i64 0, .int .i64 0, .int .u64 0, .slice none 0 0] 52
         replace A25 := at_ext A25 e4x
         replace A3 := at_ext A3 e4x
         replace RT := OwnB.ext RT e4x
         have Q4 := (Q3).trans e4x
         generalize hw4 : W3.alloc (.cells #[.string ⟨#[]⟩, .int .i64 0, .int .i64 0, .int .i64 0, .int .u64 0, .slice none 0 0] 52) = W4 at *
         refine ⟨⟨Q4, A3⟩, ?_⟩
         have sz : (Tryz.prog.info? 52).map (·.size) = some (#[.string nm, .int .i64 1, .int .i64 (a.tmod 100), .int .i64 (a.tmod 7), .int .u64 a, .slice adr 32 capr] : Array Value).size := szRef
         have one : (#[.string nm, .int .i64 1, .int .i64 (a.tmod 100), .int .i64 (a.tmod 7), .int .u64 a, .slice adr 32 capr] : Array Value).all (·.oneCell') = true := by simp [Value.oneCell']
         refine nextS 29 rfl (by kernel_rfl) rfl (wp_store_row 52 (.tmp 5) (.tmp 48) rfl W3.heap.size _ rfl rfl 52 _ A6 sz rfl one ?_)
         have oS := Only.setRow W3.heap.size W4 #[.string nm, .int .i64 1, .int .i64 (a.tmod 100), .int .i64 (a.tmod 7), .int .u64 a, .slice adr 32 capr]
         have S9 : Ext wr (W4.setRow W3.heap.size #[.string nm, .int .i64 1, .int .i64 (a.tmod 100), .int .i64 (a.tmod 7), .int .u64 a, .slice adr 32 capr]) := ext_only' Q4 oS L6
         refine ⟨⟨S9, oS.at A3 N36⟩, ?_⟩
         refine wpAnyH_done (by kernel_rfl) ?_ _
         go_wp2
         go_meet
         exact ⟨W3.heap.size, adr, capr, rfl, L6, S9, A6.row _, fun bh hb => src_keep SG6 (RT.srcs bh (by rcases hb with hb | hb; exact Or.inl hb; rw [size_setRow] at hb; exact Or.inr hb)) oS⟩
        ·refine makeS (some 5) rfl (.pointer (some ⟨W2.heap.size, 0, none⟩)) (w1 := W2.alloc (.cells #[.string ⟨#[]⟩, .int .i64 0, .int .i64 0, .int .i64 0, .int .u64 0, .slice none 0 0] 52)) (by go_simp) ?_
         simp only [pt0, pt4, pt1, pt2, pt3]
         have e5x : Ext W2 (W2.alloc (.cells #[.string ⟨#[]⟩, .int .i64 0, .int .i64 0, .int .i64 0, .int .u64 0, .slice none 0 0] 52)) := Ext.alloc _ _
         have L6 : wr.heap.size ≤ W2.heap.size := (Q2).size
         have N36 : W.heap.size ≠ W2.heap.size := Nat.ne_of_lt A3.lt
         have A6 := At.new W2 #[.string ⟨#[]⟩, .int .i64 0, .int .i64 0, .int .i64 0, .int .u64 0, .slice none 0 0] 52
         replace A25 := at_ext A25 e5x
         replace A3 := at_ext A3 e5x
         have Q5 := (Q2).trans e5x
         generalize hw5 : W2.alloc (.cells #[.string ⟨#[]⟩, .int .i64 0, .int .i64 0, .int .i64 0, .int .u64 0, .slice none 0 0] 52) = W5 at *
         refine ⟨⟨Q5, A3⟩, ?_⟩
         refine nextS 26 rfl (by kernel_rfl) rfl ?_
         refine callS (some 47) rfl 44 #[.slice (some ⟨W1.heap.size, 0, none⟩) 1 1] (by go_simp) (fun v w' => ∃ adr capr, v = .slice adr 32 capr ∧ Ext W5 w' ∧ OwnB w' W5.heap.size (.slice adr 32 capr) (shaL [(a % 256)])) (sum_one _ _ _ A25) ?_
         rintro v6 W6 ⟨adr, capr, rfl, e6x, RT0⟩
         simp only [pt0, pt4, pt1, pt2, pt3]
         have Q6 := (Q5).trans e6x
         have SG6 := RT0.srcs W2.heap.size (Or.inl A6.lt)
         have RT := own_less RT0 (Q5).size
         clear RT0
         replace A25 := at_ext A25 e6x
         replace A3 := at_ext A3 e6x
         replace A6 := at_ext A6 e6x
         refine ⟨⟨Q6, A3⟩, ?_⟩
         refine tkS 27 (some 48) (.agg #[.string nm, .int .i64 1, .int .i64 (a.tmod 100), .int .i64 (a.tmod 7), .int .u64 a, .slice adr 32 capr]) ⟨Q6, A3⟩ ?_
         simp only [pt0, pt4, pt1, pt2, pt3]
         have sz : (Tryz.prog.info? 52).map (·.size) = some (#[.string nm, .int .i64 1, .int .i64 (a.tmod 100), .int .i64 (a.tmod 7), .int .u64 a, .slice adr 32 capr] : Array Value).size := szRef
         have one : (#[.string nm, .int .i64 1, .int .i64 (a.tmod 100), .int .i64 (a.tmod 7), .int .u64 a, .slice adr 32 capr] : Array Value).all (·.oneCell') = true := by simp [Value.oneCell']
         refine nextS 29 rfl (by kernel_rfl) rfl (wp_store_row 52 (.tmp 5) (.tmp 48) rfl W2.heap.size _ rfl rfl 52 _ A6 sz rfl one ?_)
         have oS := Only.setRow W2.heap.size W6 #[.string nm, .int .i64 1, .int .i64 (a.tmod 100), .int .i64 (a.tmod 7), .int .u64 a, .slice adr 32 capr]
         have S9 : Ext wr (W6.setRow W2.heap.size #[.string nm, .int .i64 1, .int .i64 (a.tmod 100), .int .i64 (a.tmod 7), .int .u64 a, .slice adr 32 capr]) := ext_only' Q6 oS L6
         refine ⟨⟨S9, oS.at A3 N36⟩, ?_⟩
         refine wpAnyH_done (by kernel_rfl) ?_ _
         go_wp2
         go_meet
         exact ⟨W2.heap.size, adr, capr, rfl, L6, S9, A6.row _, fun bh hb => src_keep SG6 (RT.srcs bh (by rcases hb with hb | hb; exact Or.inl hb; rw [size_setRow] at hb; exact Or.inr hb)) oS⟩
       ·refine makeS (some 5) rfl (.pointer (some ⟨W1.heap.size, 0, none⟩)) (w1 := W1.alloc (.cells #[.string ⟨#[]⟩, .int .i64 0, .int .i64 0, .int .i64 0, .int .u64 0, .slice none 0 0] 52)) (by go_simp) ?_
        simp only [pt0, pt4, pt1, pt2, pt3]
        have e7x : Ext W1 (W1.alloc (.cells #[.string ⟨#[]⟩, .int .i64 0, .int .i64 0, .int .i64 0, .int .u64 0, .slice none 0 0] 52)) := Ext.alloc _ _
        have L6 : wr.heap.size ≤ W1.heap.size := (Q1).size
        have N36 : W.heap.size ≠ W1.heap.size := Nat.ne_of_lt A3.lt
        have A6 := At.new W1 #[.string ⟨#[]⟩, .int .i64 0, .int .i64 0, .int .i64 0, .int .u64 0, .slice none 0 0] 52
        replace A3 := at_ext A3 e7x
        have Q7 := (Q1).trans e7x
        generalize hw7 : W1.alloc (.cells #[.string ⟨#[]⟩, .int .i64 0, .int .i64 0, .int .i64 0, .int .u64 0, .slice none 0 0] 52) = W7 at *
        refine ⟨⟨Q7, A3⟩, ?_⟩
        refine nextS 25 rfl (by kernel_rfl) rfl ?_
        refine makeS (some 46) rfl (.slice (some ⟨W7.heap.size, 0, none⟩) 1 1) (w1 := W7.alloc (.cells #[.int .u8 (a % 256)] 5)) (by go_simp) ?_
        simp only [pt0, pt4, pt1, pt2, pt3]
        have e8x : Ext W7 (W7.alloc (.cells #[.int .u8 (a % 256)] 5)) := Ext.alloc _ _
        have A25 := At.new W7 #[.int .u8 (a % 256)] 5
        replace A3 := at_ext A3 e8x
        replace A6 := at_ext A6 e8x
        have Q8 := (Q7).trans e8x
        generalize hw8 : W7.alloc (.cells #[.int .u8 (a % 256)] 5) = W8 at *
        refine ⟨⟨Q8, A3⟩, ?_⟩
        refine nextS 26 rfl (by kernel_rfl) rfl ?_
        refine callS (some 47) rfl 44 #[.slice (some ⟨W7.heap.size, 0, none⟩) 1 1] (by go_simp) (fun v w' => ∃ adr capr, v = .slice adr 32 capr ∧ Ext W8 w' ∧ OwnB w' W8.heap.size (.slice adr 32 capr) (shaL [(a % 256)])) (sum_one _ _ _ A25) ?_
        rintro v9 W9 ⟨adr, capr, rfl, e9x, RT0⟩
        simp only [pt0, pt4, pt1, pt2, pt3]
        have Q9 := (Q8).trans e9x
        have SG6 := RT0.srcs W1.heap.size (Or.inl A6.lt)
        have RT := own_less RT0 (Q8).size
        clear RT0
        replace A25 := at_ext A25 e9x
        replace A3 := at_ext A3 e9x
        replace A6 := at_ext A6 e9x
        refine ⟨⟨Q9, A3⟩, ?_⟩
        refine tkS 27 (some 48) (.agg #[.string nm, .int .i64 1, .int .i64 (a.tmod 100), .int .i64 (a.tmod 7), .int .u64 a, .slice adr 32 capr]) ⟨Q9, A3⟩ ?_
        simp only [pt0, pt4, pt1, pt2, pt3]
        have sz : (Tryz.prog.info? 52).map (·.size) = some (#[.string nm, .int .i64 1, .int .i64 (a.tmod 100), .int .i64 (a.tmod 7), .int .u64 a, .slice adr 32 capr] : Array Value).size := szRef
        have one : (#[.string nm, .int .i64 1, .int .i64 (a.tmod 100), .int .i64 (a.tmod 7), .int .u64 a, .slice adr 32 capr] : Array Value).all (·.oneCell') = true := by simp [Value.oneCell']
        refine nextS 29 rfl (by kernel_rfl) rfl (wp_store_row 52 (.tmp 5) (.tmp 48) rfl W1.heap.size _ rfl rfl 52 _ A6 sz rfl one ?_)
        have oS := Only.setRow W1.heap.size W9 #[.string nm, .int .i64 1, .int .i64 (a.tmod 100), .int .i64 (a.tmod 7), .int .u64 a, .slice adr 32 capr]
        have S9 : Ext wr (W9.setRow W1.heap.size #[.string nm, .int .i64 1, .int .i64 (a.tmod 100), .int .i64 (a.tmod 7), .int .u64 a, .slice adr 32 capr]) := ext_only' Q9 oS L6
        refine ⟨⟨S9, oS.at A3 N36⟩, ?_⟩
        refine wpAnyH_done (by kernel_rfl) ?_ _
        go_wp2
        go_meet
        exact ⟨W1.heap.size, adr, capr, rfl, L6, S9, A6.row _, fun bh hb => src_keep SG6 (RT.srcs bh (by rcases hb with hb | hb; exact Or.inl hb; rw [size_setRow] at hb; exact Or.inr hb)) oS⟩
      ·refine makeS (some 46) rfl (.slice (some ⟨W.heap.size, 0, none⟩) 1 1) (w1 := W.alloc (.cells #[.int .u8 (a % 256)] 5)) (by go_simp) ?_
       simp only [pt0, pt4, pt1, pt2, pt3]
       have e10x : Ext W (W.alloc (.cells #[.int .u8 (a % 256)] 5)) := Ext.alloc _ _
       have A25 := At.new W #[.int .u8 (a % 256)] 5
       have Q10 := (S0).trans e10x
       generalize hw10 : W.alloc (.cells #[.int .u8 (a % 256)] 5) = W10 at *
       refine ⟨Q10, ?_⟩
       refine nextThree 3 26 28 rfl rfl rfl (by kernel_rfl) rfl rfl rfl ?_ ?_ ?_
       ·refine makeS (some 24) rfl (.slice (some ⟨W10.heap.size, 0, none⟩) 1 1) (w1 := W10.alloc (.cells #[.int .u8 (97 + (k : Int))] 5)) (by go_simp) ?_
        simp only [pt0, pt4, pt1, pt2, pt3]
        have e11x : Ext W10 (W10.alloc (.cells #[.int .u8 (97 + (k : Int))] 5)) := Ext.alloc _ _
        have A3 := At.new W10 #[.int .u8 (97 + (k : Int))] 5
        replace A25 := at_ext A25 e11x
        have Q11 := (Q10).trans e11x
        generalize hw11 : W10.alloc (.cells #[.int .u8 (97 + (k : Int))] 5) = W11 at *
        refine ⟨Q11, ?_⟩
        refine anyH_mono (S' := fun w' => Ext wr w' ∧ At w' W10.heap.size #[.int .u8 (97 + (k : Int))] 5) (fun w' h => h.1) _ _ _ _ ?_
        refine tkS 4 (some 25) (.string nm) ⟨Q11, A3⟩ ?_ (hy := fun w' hw' => by have cc := conv_one hw'.2; rw [HNM.out] at cc; go_simp)
        simp only [pt0, pt4, pt1, pt2, pt3]
        refine nextTwo 26 28 rfl rfl (by kernel_rfl) rfl rfl ?_ ?_
        ·refine callS (some 47) rfl 44 #[.slice (some ⟨W.heap.size, 0, none⟩) 1 1] (by go_simp) (fun v w' => ∃ adr capr, v = .slice adr 32 capr ∧ Ext W11 w' ∧ OwnB w' W11.heap.size (.slice adr 32 capr) (shaL [(a % 256)])) (sum_one _ _ _ A25) ?_
         rintro v12 W12 ⟨adr, capr, rfl, e12x, RT0⟩
         simp only [pt0, pt4, pt1, pt2, pt3]
         have Q12 := (Q11).trans e12x
         have RT := own_less RT0 (Q11).size
         clear RT0
         replace A25 := at_ext A25 e12x
         replace A3 := at_ext A3 e12x
         refine ⟨⟨Q12, A3⟩, ?_⟩
         refine tkS 27 (some 48) (.agg #[.string nm, .int .i64 1, .int .i64 (a.tmod 100), .int .i64 (a.tmod 7), .int .u64 a, .slice adr 32 capr]) ⟨Q12, A3⟩ ?_
         simp only [pt0, pt4, pt1, pt2, pt3]
         refine nextS 28 rfl (by kernel_rfl) rfl ?_
         refine makeS (some 5) rfl (.pointer (some ⟨W12.heap.size, 0, none⟩)) (w1 := W12.alloc (.cells #[.string ⟨#[]⟩, .int .i64 0, .int .i64 0, .int .i64 0, .int .u64 0, .slice none 0 0] 52)) (by go_simp) ?_
         simp only [pt0, pt4, pt1, pt2, pt3]
         have e13x : Ext W12 (W12.alloc (.cells #[.string ⟨#[]⟩, .int .i64 0, .int .i64 0, .int .i64 0, .int .u64 0, .slice none 0 0] 52)) := Ext.alloc _ _
         have L6 : wr.heap.size ≤ W12.heap.size := (Q12).size
         have SG6 := (RT.srcs W12.heap.size (Or.inr (Nat.le_refl _))).below e13x
         have N36 : W10.heap.size ≠ W12.heap.size := Nat.ne_of_lt A3.lt
         have A6 := At.new W12 #[.string ⟨#[]⟩, .int .i64 0, .int .i64 0, .int .i64 0, .int .u64 0, .slice none 0 0] 52
         replace A25 := at_ext A25 e13x
         replace A3 := at_ext A3 e13x
         replace RT := OwnB.ext RT e13x
         have Q13 := (Q12).trans e13x
         generalize hw13 : W12.alloc (.cells #[.string ⟨#[]⟩, .int .i64 0, .int .i64 0, .int .i64 0, .int .u64 0, .slice none 0 0] 52) = W13 at *
         refine ⟨⟨Q13, A3⟩, ?_⟩
         have sz : (Tryz.prog.info? 52).map (·.size) = some (#[.string nm, .int .i64 1, .int .i64 (a.tmod 100), .int .i64 (a.tmod 7), .int .u64 a, .slice adr 32 capr] : Array Value).size := szRef
         have one : (#[.string nm, .int .i64 1, .int .i64 (a.tmod 100), .int .i64 (a.tmod 7), .int .u64 a, .slice adr 32 capr] : Array Value).all (·.oneCell') = true := by simp [Value.oneCell']
         refine nextS 29 rfl (by kernel_rfl) rfl (wp_store_row 52 (.tmp 5) (.tmp 48) rfl W12.heap.size _ rfl rfl 52 _ A6 sz rfl one ?_)
         have oS := Only.setRow W12.heap.size W13 #[.string nm, .int .i64 1, .int .i64 (a.tmod 100), .int .i64 (a.tmod 7), .int .u64 a, .slice adr 32 capr]
         have S9 : Ext wr (W13.setRow W12.heap.size #[.string nm, .int .i64 1, .int .i64 (a.tmod 100), .int .i64 (a.tmod 7), .int .u64 a, .slice adr 32 capr]) := ext_only' Q13 oS L6
         refine ⟨⟨S9, oS.at A3 N36⟩, ?_⟩
         refine wpAnyH_done (by kernel_rfl) ?_ _
         go_wp2
         go_meet
         exact ⟨W12.heap.size, adr, capr, rfl, L6, S9, A6.row _, fun bh hb => src_keep SG6 (RT.srcs bh (by rcases hb with hb | hb; exact Or.inl hb; rw [size_setRow] at hb; exact Or.inr hb)) oS⟩
        ·refine makeS (some 5) rfl (.pointer (some ⟨W11.heap.size, 0, none⟩)) (w1 := W11.alloc (.cells #[.string ⟨#[]⟩, .int .i64 0, .int .i64 0, .int .i64 0, .int .u64 0, .slice none 0 0] 52)) (by go_simp) ?_
         simp only [pt0, pt4, pt1, pt2, pt3]
         have e14x : Ext W11 (W11.alloc (.cells #[.string ⟨#[]⟩, .int .i64 0, .int .i64 0, .int .i64 0, .int .u64 0, .slice none 0 0] 52)) := Ext.alloc _ _
         have L6 : wr.heap.size ≤ W11.heap.size := (Q11).size
         have N36 : W10.heap.size ≠ W11.heap.size := Nat.ne_of_lt A3.lt
         have A6 := At.new W11 #[.string ⟨#[]⟩, .int .i64 0, .int .i64 0, .int .i64 0, .int .u64 0, .slice none 0 0] 52
         replace A25 := at_ext A25 e14x
         replace A3 := at_ext A3 e14x
         have Q14 := (Q11).trans e14x
         generalize hw14 : W11.alloc (.cells #[.string ⟨#[]⟩, .int .i64 0, .int .i64 0, .int .i64 0, .int .u64 0, .slice none 0 0] 52) = W14 at *
         refine ⟨⟨Q14, A3⟩, ?_⟩
         refine nextS 26 rfl (by kernel_rfl) rfl ?_
         refine callS (some 47) rfl 44 #[.slice (some ⟨W.heap.size, 0, none⟩) 1 1] (by go_simp) (fun v w' => ∃ adr capr, v = .slice adr 32 capr ∧ Ext W14 w' ∧ OwnB w' W14.heap.size (.slice adr 32 capr) (shaL [(a % 256)])) (sum_one _ _ _ A25) ?_
         rintro v15 W15 ⟨adr, capr, rfl, e15x, RT0⟩
         simp only [pt0, pt4, pt1, pt2, pt3]
         have Q15 := (Q14).trans e15x
         have SG6 := RT0.srcs W11.heap.size (Or.inl A6.lt)
         have RT := own_less RT0 (Q14).size
         clear RT0
         replace A25 := at_ext A25 e15x
         replace A3 := at_ext A3 e15x
         replace A6 := at_ext A6 e15x
         refine ⟨⟨Q15, A3⟩, ?_⟩
         refine tkS 27 (some 48) (.agg #[.string nm, .int .i64 1, .int .i64 (a.tmod 100), .int .i64 (a.tmod 7), .int .u64 a, .slice adr 32 capr]) ⟨Q15, A3⟩ ?_
         simp only [pt0, pt4, pt1, pt2, pt3]
         have sz : (Tryz.prog.info? 52).map (·.size) = some (#[.string nm, .int .i64 1, .int .i64 (a.tmod 100), .int .i64 (a.tmod 7), .int .u64 a, .slice adr 32 capr] : Array Value).size := szRef
         have one : (#[.string nm, .int .i64 1, .int .i64 (a.tmod 100), .int .i64 (a.tmod 7), .int .u64 a, .slice adr 32 capr] : Array Value).all (·.oneCell') = true := by simp [Value.oneCell']
         refine nextS 29 rfl (by kernel_rfl) rfl (wp_store_row 52 (.tmp 5) (.tmp 48) rfl W11.heap.size _ rfl rfl 52 _ A6 sz rfl one ?_)
         have oS := Only.setRow W11.heap.size W15 #[.string nm, .int .i64 1, .int .i64 (a.tmod 100), .int .i64 (a.tmod 7), .int .u64 a, .slice adr 32 capr]
         have S9 : Ext wr (W15.setRow W11.heap.size #[.string nm, .int .i64 1, .int .i64 (a.tmod 100), .int .i64 (a.tmod 7), .int .u64 a, .slice adr 32 capr]) := ext_only' Q15 oS L6
         refine ⟨⟨S9, oS.at A3 N36⟩, ?_⟩
         refine wpAnyH_done (by kernel_rfl) ?_ _
         go_wp2
         go_meet
         exact ⟨W11.heap.size, adr, capr, rfl, L6, S9, A6.row _, fun bh hb => src_keep SG6 (RT.srcs bh (by rcases hb with hb | hb; exact Or.inl hb; rw [size_setRow] at hb; exact Or.inr hb)) oS⟩
       ·refine callS (some 47) rfl 44 #[.slice (some ⟨W.heap.size, 0, none⟩) 1 1] (by go_simp) (fun v w' => ∃ adr capr, v = .slice adr 32 capr ∧ Ext W10 w' ∧ OwnB w' W10.heap.size (.slice adr 32 capr) (shaL [(a % 256)])) (sum_one _ _ _ A25) ?_
        rintro v16 W16 ⟨adr, capr, rfl, e16x, RT0⟩
        simp only [pt0, pt4, pt1, pt2, pt3]
        have Q16 := (Q10).trans e16x
        have RT := own_less RT0 (Q10).size
        clear RT0
        replace A25 := at_ext A25 e16x
        refine ⟨Q16, ?_⟩
        refine nextTwo 3 28 rfl rfl (by kernel_rfl) rfl rfl ?_ ?_
        ·refine makeS (some 24) rfl (.slice (some ⟨W16.heap.size, 0, none⟩) 1 1) (w1 := W16.alloc (.cells #[.int .u8 (97 + (k : Int))] 5)) (by go_simp) ?_
         simp only [pt0, pt4, pt1, pt2, pt3]
         have e17x : Ext W16 (W16.alloc (.cells #[.int .u8 (97 + (k : Int))] 5)) := Ext.alloc _ _
         have A3 := At.new W16 #[.int .u8 (97 + (k : Int))] 5
         replace A25 := at_ext A25 e17x
         replace RT := OwnB.ext RT e17x
         have Q17 := (Q16).trans e17x
         generalize hw17 : W16.alloc (.cells #[.int .u8 (97 + (k : Int))] 5) = W17 at *
         refine ⟨Q17, ?_⟩
         refine anyH_mono (S' := fun w' => Ext wr w' ∧ At w' W16.heap.size #[.int .u8 (97 + (k : Int))] 5) (fun w' h => h.1) _ _ _ _ ?_
         refine tkS 4 (some 25) (.string nm) ⟨Q17, A3⟩ ?_ (hy := fun w' hw' => by have cc := conv_one hw'.2; rw [HNM.out] at cc; go_simp)
         simp only [pt0, pt4, pt1, pt2, pt3]
         refine tkS 27 (some 48) (.agg #[.string nm, .int .i64 1, .int .i64 (a.tmod 100), .int .i64 (a.tmod 7), .int .u64 a, .slice adr 32 capr]) ⟨Q17, A3⟩ ?_
         simp only [pt0, pt4, pt1, pt2, pt3]
         refine nextS 28 rfl (by kernel_rfl) rfl ?_
         refine makeS (some 5) rfl (.pointer (some ⟨W17.heap.size, 0, none⟩)) (w1 := W17.alloc (.cells #[.string ⟨#[]⟩, .int .i64 0, .int .i64 0, .int .i64 0, .int .u64 0, .slice none 0 0] 52)) (by go_simp) ?_
         simp only [pt0, pt4, pt1, pt2, pt3]
         have e18x : Ext W17 (W17.alloc (.cells #[.string ⟨#[]⟩, .int .i64 0, .int .i64 0, .int .i64 0, .int .u64 0, .slice none 0 0] 52)) := Ext.alloc _ _
         have L6 : wr.heap.size ≤ W17.heap.size := (Q17).size
         have SG6 := (RT.srcs W17.heap.size (Or.inr (Nat.le_refl _))).below e18x
         have N36 : W16.heap.size ≠ W17.heap.size := Nat.ne_of_lt A3.lt
         have A6 := At.new W17 #[.string ⟨#[]⟩, .int .i64 0, .int .i64 0, .int .i64 0, .int .u64 0, .slice none 0 0] 52
         replace A25 := at_ext A25 e18x
         replace A3 := at_ext A3 e18x
         replace RT := OwnB.ext RT e18x
         have Q18 := (Q17).trans e18x
         generalize hw18 : W17.alloc (.cells #[.string ⟨#[]⟩, .int .i64 0, .int .i64 0, .int .i64 0, .int .u64 0, .slice none 0 0] 52) = W18 at *
         refine ⟨⟨Q18, A3⟩, ?_⟩
         have sz : (Tryz.prog.info? 52).map (·.size) = some (#[.string nm, .int .i64 1, .int .i64 (a.tmod 100), .int .i64 (a.tmod 7), .int .u64 a, .slice adr 32 capr] : Array Value).size := szRef
         have one : (#[.string nm, .int .i64 1, .int .i64 (a.tmod 100), .int .i64 (a.tmod 7), .int .u64 a, .slice adr 32 capr] : Array Value).all (·.oneCell') = true := by simp [Value.oneCell']
         refine nextS 29 rfl (by kernel_rfl) rfl (wp_store_row 52 (.tmp 5) (.tmp 48) rfl W17.heap.size _ rfl rfl 52 _ A6 sz rfl one ?_)
         have oS := Only.setRow W17.heap.size W18 #[.string nm, .int .i64 1, .int .i64 (a.tmod 100), .int .i64 (a.tmod 7), .int .u64 a, .slice adr 32 capr]
         have S9 : Ext wr (W18.setRow W17.heap.size #[.string nm, .int .i64 1, .int .i64 (a.tmod 100), .int .i64 (a.tmod 7), .int .u64 a, .slice adr 32 capr]) := ext_only' Q18 oS L6
         refine ⟨⟨S9, oS.at A3 N36⟩, ?_⟩
         refine wpAnyH_done (by kernel_rfl) ?_ _
         go_wp2
         go_meet
         exact ⟨W17.heap.size, adr, capr, rfl, L6, S9, A6.row _, fun bh hb => src_keep SG6 (RT.srcs bh (by rcases hb with hb | hb; exact Or.inl hb; rw [size_setRow] at hb; exact Or.inr hb)) oS⟩
        ·refine makeS (some 5) rfl (.pointer (some ⟨W16.heap.size, 0, none⟩)) (w1 := W16.alloc (.cells #[.string ⟨#[]⟩, .int .i64 0, .int .i64 0, .int .i64 0, .int .u64 0, .slice none 0 0] 52)) (by go_simp) ?_
         simp only [pt0, pt4, pt1, pt2, pt3]
         have e19x : Ext W16 (W16.alloc (.cells #[.string ⟨#[]⟩, .int .i64 0, .int .i64 0, .int .i64 0, .int .u64 0, .slice none 0 0] 52)) := Ext.alloc _ _
         have L6 : wr.heap.size ≤ W16.heap.size := (Q16).size
         have SG6 := (RT.srcs W16.heap.size (Or.inr (Nat.le_refl _))).below e19x
         have A6 := At.new W16 #[.string ⟨#[]⟩, .int .i64 0, .int .i64 0, .int .i64 0, .int .u64 0, .slice none 0 0] 52
         replace A25 := at_ext A25 e19x
         replace RT := OwnB.ext RT e19x
         have Q19 := (Q16).trans e19x
         generalize hw19 : W16.alloc (.cells #[.string ⟨#[]⟩, .int .i64 0, .int .i64 0, .int .i64 0, .int .u64 0, .slice none 0 0] 52) = W19 at *
         refine ⟨Q19, ?_⟩
         refine nextS 3 rfl (by kernel_rfl) rfl ?_
         refine makeS (some 24) rfl (.slice (some ⟨W19.heap.size, 0, none⟩) 1 1) (w1 := W19.alloc (.cells #[.int .u8 (97 + (k : Int))] 5)) (by go_simp) ?_
         simp only [pt0, pt4, pt1, pt2, pt3]
         have e20x : Ext W19 (W19.alloc (.cells #[.int .u8 (97 + (k : Int))] 5)) := Ext.alloc _ _
         have N36 : W19.heap.size ≠ W16.heap.size := (Nat.ne_of_lt A6.lt).symm
         have A3 := At.new W19 #[.int .u8 (97 + (k : Int))] 5
         replace A25 := at_ext A25 e20x
         replace A6 := at_ext A6 e20x
         replace RT := OwnB.ext RT e20x
         replace SG6 := SG6.below e20x
         have Q20 := (Q19).trans e20x
         generalize hw20 : W19.alloc (.cells #[.int .u8 (97 + (k : Int))] 5) = W20 at *
         refine ⟨Q20, ?_⟩
         refine anyH_mono (S' := fun w' => Ext wr w' ∧ At w' W19.heap.size #[.int .u8 (97 + (k : Int))] 5) (fun w' h => h.1) _ _ _ _ ?_
         refine tkS 4 (some 25) (.string nm) ⟨Q20, A3⟩ ?_ (hy := fun w' hw' => by have cc := conv_one hw'.2; rw [HNM.out] at cc; go_simp)
         simp only [pt0, pt4, pt1, pt2, pt3]
         refine tkS 27 (some 48) (.agg #[.string nm, .int .i64 1, .int .i64 (a.tmod 100), .int .i64 (a.tmod 7), .int .u64 a, .slice adr 32 capr]) ⟨Q20, A3⟩ ?_
         simp only [pt0, pt4, pt1, pt2, pt3]
         have sz : (Tryz.prog.info? 52).map (·.size) = some (#[.string nm, .int .i64 1, .int .i64 (a.tmod 100), .int .i64 (a.tmod 7), .int .u64 a, .slice adr 32 capr] : Array Value).size := szRef
         have one : (#[.string nm, .int .i64 1, .int .i64 (a.tmod 100), .int .i64 (a.tmod 7), .int .u64 a, .slice adr 32 capr] : Array Value).all (·.oneCell') = true := by simp [Value.oneCell']
         refine nextS 29 rfl (by kernel_rfl) rfl (wp_store_row 52 (.tmp 5) (.tmp 48) rfl W16.heap.size _ rfl rfl 52 _ A6 sz rfl one ?_)
         have oS := Only.setRow W16.heap.size W20 #[.string nm, .int .i64 1, .int .i64 (a.tmod 100), .int .i64 (a.tmod 7), .int .u64 a, .slice adr 32 capr]
         have S9 : Ext wr (W20.setRow W16.heap.size #[.string nm, .int .i64 1, .int .i64 (a.tmod 100), .int .i64 (a.tmod 7), .int .u64 a, .slice adr 32 capr]) := ext_only' Q20 oS L6
         refine ⟨⟨S9, oS.at A3 N36⟩, ?_⟩
         refine wpAnyH_done (by kernel_rfl) ?_ _
         go_wp2
         go_meet
         exact ⟨W16.heap.size, adr, capr, rfl, L6, S9, A6.row _, fun bh hb => src_keep SG6 (RT.srcs bh (by rcases hb with hb | hb; exact Or.inl hb; rw [size_setRow] at hb; exact Or.inr hb)) oS⟩
       ·refine makeS (some 5) rfl (.pointer (some ⟨W10.heap.size, 0, none⟩)) (w1 := W10.alloc (.cells #[.string ⟨#[]⟩, .int .i64 0, .int .i64 0, .int .i64 0, .int .u64 0, .slice none 0 0] 52)) (by go_simp) ?_
        simp only [pt0, pt4, pt1, pt2, pt3]
        have e21x : Ext W10 (W10.alloc (.cells #[.string ⟨#[]⟩, .int .i64 0, .int .i64 0, .int .i64 0, .int .u64 0, .slice none 0 0] 52)) := Ext.alloc _ _
        have L6 : wr.heap.size ≤ W10.heap.size := (Q10).size
        have A6 := At.new W10 #[.string ⟨#[]⟩, .int .i64 0, .int .i64 0, .int .i64 0, .int .u64 0, .slice none 0 0] 52
        replace A25 := at_ext A25 e21x
        have Q21 := (Q10).trans e21x
        generalize hw21 : W10.alloc (.cells #[.string ⟨#[]⟩, .int .i64 0, .int .i64 0, .int .i64 0, .int .u64 0, .slice none 0 0] 52) = W21 at *
        refine ⟨Q21, ?_⟩
        refine nextTwo 3 26 rfl rfl (by kernel_rfl) rfl rfl ?_ ?_
        ·refine makeS (some 24) rfl (.slice (some ⟨W21.heap.size, 0, none⟩) 1 1) (w1 := W21.alloc (.cells #[.int .u8 (97 + (k : Int))] 5)) (by go_simp) ?_
         simp only [pt0, pt4, pt1, pt2, pt3]
         have e22x : Ext W21 (W21.alloc (.cells #[.int .u8 (97 + (k : Int))] 5)) := Ext.alloc _ _
         have N36 : W21.heap.size ≠ W10.heap.size := (Nat.ne_of_lt A6.lt).symm
         have A3 := At.new W21 #[.int .u8 (97 + (k : Int))] 5
         replace A25 := at_ext A25 e22x
         replace A6 := at_ext A6 e22x
         have Q22 := (Q21).trans e22x
         generalize hw22 : W21.alloc (.cells #[.int .u8 (97 + (k : Int))] 5) = W22 at *
         refine ⟨Q22, ?_⟩
         refine anyH_mono (S' := fun w' => Ext wr w' ∧ At w' W21.heap.size #[.int .u8 (97 + (k : Int))] 5) (fun w' h => h.1) _ _ _ _ ?_
         refine tkS 4 (some 25) (.string nm) ⟨Q22, A3⟩ ?_ (hy := fun w' hw' => by have cc := conv_one hw'.2; rw [HNM.out] at cc; go_simp)
         simp only [pt0, pt4, pt1, pt2, pt3]
         refine nextS 26 rfl (by kernel_rfl) rfl ?_
         refine callS (some 47) rfl 44 #[.slice (some ⟨W.heap.size, 0, none⟩) 1 1] (by go_simp) (fun v w' => ∃ adr capr, v = .slice adr 32 capr ∧ Ext W22 w' ∧ OwnB w' W22.heap.size (.slice adr 32 capr) (shaL [(a % 256)])) (sum_one _ _ _ A25) ?_
         rintro v23 W23 ⟨adr, capr, rfl, e23x, RT0⟩
         simp only [pt0, pt4, pt1, pt2, pt3]
         have Q23 := (Q22).trans e23x
         have SG6 := RT0.srcs W10.heap.size (Or.inl A6.lt)
         have RT := own_less RT0 (Q22).size
         clear RT0
         replace A25 := at_ext A25 e23x
         replace A3 := at_ext A3 e23x
         replace A6 := at_ext A6 e23x
         refine ⟨⟨Q23, A3⟩, ?_⟩
         refine tkS 27 (some 48) (.agg #[.string nm, .int .i64 1, .int .i64 (a.tmod 100), .int .i64 (a.tmod 7), .int .u64 a, .slice adr 32 capr]) ⟨Q23, A3⟩ ?_
         simp only [pt0, pt4, pt1, pt2, pt3]
         have sz : (Tryz.prog.info? 52).map (·.size) = some (#[.string nm, .int .i64 1, .int .i64 (a.tmod 100), .int .i64 (a.tmod 7), .int .u64 a, .slice adr 32 capr] : Array Value).size := szRef
         have one : (#[.string nm, .int .i64 1, .int .i64 (a.tmod 100), .int .i64 (a.tmod 7), .int .u64 a, .slice adr 32 capr] : Array Value).all (·.oneCell') = true := by simp [Value.oneCell']
         refine nextS 29 rfl (by kernel_rfl) rfl (wp_store_row 52 (.tmp 5) (.tmp 48) rfl W10.heap.size _ rfl rfl 52 _ A6 sz rfl one ?_)
         have oS := Only.setRow W10.heap.size W23 #[.string nm, .int .i64 1, .int .i64 (a.tmod 100), .int .i64 (a.tmod 7), .int .u64 a, .slice adr 32 capr]
         have S9 : Ext wr (W23.setRow W10.heap.size #[.string nm, .int .i64 1, .int .i64 (a.tmod 100), .int .i64 (a.tmod 7), .int .u64 a, .slice adr 32 capr]) := ext_only' Q23 oS L6
         refine ⟨⟨S9, oS.at A3 N36⟩, ?_⟩
         refine wpAnyH_done (by kernel_rfl) ?_ _
         go_wp2
         go_meet
         exact ⟨W10.heap.size, adr, capr, rfl, L6, S9, A6.row _, fun bh hb => src_keep SG6 (RT.srcs bh (by rcases hb with hb | hb; exact Or.inl hb; rw [size_setRow] at hb; exact Or.inr hb)) oS⟩
        ·refine callS (some 47) rfl 44 #[.slice (some ⟨W.heap.size, 0, none⟩) 1 1] (by go_simp) (fun v w' => ∃ adr capr, v = .slice adr 32 capr ∧ Ext W21 w' ∧ OwnB w' W21.heap.size (.slice adr 32 capr) (shaL [(a % 256)])) (sum_one _ _ _ A25) ?_
         rintro v24 W24 ⟨adr, capr, rfl, e24x, RT0⟩
         simp only [pt0, pt4, pt1, pt2, pt3]
         have Q24 := (Q21).trans e24x
         have SG6 := RT0.srcs W10.heap.size (Or.inl A6.lt)
         have RT := own_less RT0 (Q21).size
         clear RT0
         replace A25 := at_ext A25 e24x
         replace A6 := at_ext A6 e24x
         refine ⟨Q24, ?_⟩
         refine nextS 3 rfl (by kernel_rfl) rfl ?_
         refine makeS (some 24) rfl (.slice (some ⟨W24.heap.size, 0, none⟩) 1 1) (w1 := W24.alloc (.cells #[.int .u8 (97 + (k : Int))] 5)) (by go_simp) ?_
         simp only [pt0, pt4, pt1, pt2, pt3]
         have e25x : Ext W24 (W24.alloc (.cells #[.int .u8 (97 + (k : Int))] 5)) := Ext.alloc _ _
         have N36 : W24.heap.size ≠ W10.heap.size := (Nat.ne_of_lt A6.lt).symm
         have A3 := At.new W24 #[.int .u8 (97 + (k : Int))] 5
         replace A25 := at_ext A25 e25x
         replace A6 := at_ext A6 e25x
         replace RT := OwnB.ext RT e25x
         replace SG6 := SG6.below e25x
         have Q25 := (Q24).trans e25x
         generalize hw25 : W24.alloc (.cells #[.int .u8 (97 + (k : Int))] 5) = W25 at *
         refine ⟨Q25, ?_⟩
         refine anyH_mono (S' := fun w' => Ext wr w' ∧ At w' W24.heap.size #[.int .u8 (97 + (k : Int))] 5) (fun w' h => h.1) _ _ _ _ ?_
         refine tkS 4 (some 25) (.string nm) ⟨Q25, A3⟩ ?_ (hy := fun w' hw' => by have cc := conv_one hw'.2; rw [HNM.out] at cc; go_simp)
         simp only [pt0, pt4, pt1, pt2, pt3]
         refine tkS 27 (some 48) (.agg #[.string nm, .int .i64 1, .int .i64 (a.tmod 100), .int .i64 (a.tmod 7), .int .u64 a, .slice adr 32 capr]) ⟨Q25, A3⟩ ?_
         simp only [pt0, pt4, pt1, pt2, pt3]
         have sz : (Tryz.prog.info? 52).map (·.size) = some (#[.string nm, .int .i64 1, .int .i64 (a.tmod 100), .int .i64 (a.tmod 7), .int .u64 a, .slice adr 32 capr] : Array Value).size := szRef
         have one : (#[.string nm, .int .i64 1, .int .i64 (a.tmod 100), .int .i64 (a.tmod 7), .int .u64 a, .slice adr 32 capr] : Array Value).all (·.oneCell') = true := by simp [Value.oneCell']
         refine nextS 29 rfl (by kernel_rfl) rfl (wp_store_row 52 (.tmp 5) (.tmp 48) rfl W10.heap.size _ rfl rfl 52 _ A6 sz rfl one ?_)
         have oS := Only.setRow W10.heap.size W25 #[.string nm, .int .i64 1, .int .i64 (a.tmod 100), .int .i64 (a.tmod 7), .int .u64 a, .slice adr 32 capr]
         have S9 : Ext wr (W25.setRow W10.heap.size #[.string nm, .int .i64 1, .int .i64 (a.tmod 100), .int .i64 (a.tmod 7), .int .u64 a, .slice adr 32 capr]) := ext_only' Q25 oS L6
         refine ⟨⟨S9, oS.at A3 N36⟩, ?_⟩
         refine wpAnyH_done (by kernel_rfl) ?_ _
         go_wp2
         go_meet
         exact ⟨W10.heap.size, adr, capr, rfl, L6, S9, A6.row _, fun bh hb => src_keep SG6 (RT.srcs bh (by rcases hb with hb | hb; exact Or.inl hb; rw [size_setRow] at hb; exact Or.inr hb)) oS⟩
      ·refine makeS (some 5) rfl (.pointer (some ⟨W.heap.size, 0, none⟩)) (w1 := W.alloc (.cells #[.string ⟨#[]⟩, .int .i64 0, .int .i64 0, .int .i64 0, .int .u64 0, .slice none 0 0] 52)) (by go_simp) ?_
       simp only [pt0, pt4, pt1, pt2, pt3]
       have e26x : Ext W (W.alloc (.cells #[.string ⟨#[]⟩, .int .i64 0, .int .i64 0, .int .i64 0, .int .u64 0, .slice none 0 0] 52)) := Ext.alloc _ _
       have L6 : wr.heap.size ≤ W.heap.size := (S0).size
       have A6 := At.new W #[.string ⟨#[]⟩, .int .i64 0, .int .i64 0, .int .i64 0, .int .u64 0, .slice none 0 0] 52
       have Q26 := (S0).trans e26x
       generalize hw26 : W.alloc (.cells #[.string ⟨#[]⟩, .int .i64 0, .int .i64 0, .int .i64 0, .int .u64 0, .slice none 0 0] 52) = W26 at *
       refine ⟨Q26, ?_⟩
       refine nextTwo 3 25 rfl rfl (by kernel_rfl) rfl rfl ?_ ?_
       ·refine makeS (some 24) rfl (.slice (some ⟨W26.heap.size, 0, none⟩) 1 1) (w1 := W26.alloc (.cells #[.int .u8 (97 + (k : Int))] 5)) (by go_simp) ?_
        simp only [pt0, pt4, pt1, pt2, pt3]
        have e27x : Ext W26 (W26.alloc (.cells #[.int .u8 (97 + (k : Int))] 5)) := Ext.alloc _ _
        have N36 : W26.heap.size ≠ W.heap.size := (Nat.ne_of_lt A6.lt).symm
        have A3 := At.new W26 #[.int .u8 (97 + (k : Int))] 5
        replace A6 := at_ext A6 e27x
        have Q27 := (Q26).trans e27x
        generalize hw27 : W26.alloc (.cells #[.int .u8 (97 + (k : Int))] 5) = W27 at *
        refine ⟨Q27, ?_⟩
        refine anyH_mono (S' := fun w' => Ext wr w' ∧ At w' W26.heap.size #[.int .u8 (97 + (k : Int))] 5) (fun w' h => h.1) _ _ _ _ ?_
        refine tkS 4 (some 25) (.string nm) ⟨Q27, A3⟩ ?_ (hy := fun w' hw' => by have cc := conv_one hw'.2; rw [HNM.out] at cc; go_simp)
        simp only [pt0, pt4, pt1, pt2, pt3]
        refine nextS 25 rfl (by kernel_rfl) rfl ?_
        refine makeS (some 46) rfl (.slice (some ⟨W27.heap.size, 0, none⟩) 1 1) (w1 := W27.alloc (.cells #[.int .u8 (a % 256)] 5)) (by go_simp) ?_
        simp only [pt0, pt4, pt1, pt2, pt3]
        have e28x : Ext W27 (W27.alloc (.cells #[.int .u8 (a % 256)] 5)) := Ext.alloc _ _
        have A25 := At.new W27 #[.int .u8 (a % 256)] 5
        replace A3 := at_ext A3 e28x
        replace A6 := at_ext A6 e28x
        have Q28 := (Q27).trans e28x
        generalize hw28 : W27.alloc (.cells #[.int .u8 (a % 256)] 5) = W28 at *
        refine ⟨⟨Q28, A3⟩, ?_⟩
        refine nextS 26 rfl (by kernel_rfl) rfl ?_
        refine callS (some 47) rfl 44 #[.slice (some ⟨W27.heap.size, 0, none⟩) 1 1] (by go_simp) (fun v w' => ∃ adr capr, v = .slice adr 32 capr ∧ Ext W28 w' ∧ OwnB w' W28.heap.size (.slice adr 32 capr) (shaL [(a % 256)])) (sum_one _ _ _ A25) ?_
        rintro v29 W29 ⟨adr, capr, rfl, e29x, RT0⟩
        simp only [pt0, pt4, pt1, pt2, pt3]
        have Q29 := (Q28).trans e29x
        have SG6 := RT0.srcs W.heap.size (Or.inl A6.lt)
        have RT := own_less RT0 (Q28).size
        clear RT0
        replace A25 := at_ext A25 e29x
        replace A3 := at_ext A3 e29x
        replace A6 := at_ext A6 e29x
        refine ⟨⟨Q29, A3⟩, ?_⟩
        refine tkS 27 (some 48) (.agg #[.string nm, .int .i64 1, .int .i64 (a.tmod 100), .int .i64 (a.tmod 7), .int .u64 a, .slice adr 32 capr]) ⟨Q29, A3⟩ ?_
        simp only [pt0, pt4, pt1, pt2, pt3]
        have sz : (Tryz.prog.info? 52).map (·.size) = some (#[.string nm, .int .i64 1, .int .i64 (a.tmod 100), .int .i64 (a.tmod 7), .int .u64 a, .slice adr 32 capr] : Array Value).size := szRef
        have one : (#[.string nm, .int .i64 1, .int .i64 (a.tmod 100), .int .i64 (a.tmod 7), .int .u64 a, .slice adr 32 capr] : Array Value).all (·.oneCell') = true := by simp [Value.oneCell']
        refine nextS 29 rfl (by kernel_rfl) rfl (wp_store_row 52 (.tmp 5) (.tmp 48) rfl W.heap.size _ rfl rfl 52 _ A6 sz rfl one ?_)
        have oS := Only.setRow W.heap.size W29 #[.string nm, .int .i64 1, .int .i64 (a.tmod 100), .int .i64 (a.tmod 7), .int .u64 a, .slice adr 32 capr]
        have S9 : Ext wr (W29.setRow W.heap.size #[.string nm, .int .i64 1, .int .i64 (a.tmod 100), .int .i64 (a.tmod 7), .int .u64 a, .slice adr 32 capr]) := ext_only' Q29 oS L6
        refine ⟨⟨S9, oS.at A3 N36⟩, ?_⟩
        refine wpAnyH_done (by kernel_rfl) ?_ _
        go_wp2
        go_meet
        exact ⟨W.heap.size, adr, capr, rfl, L6, S9, A6.row _, fun bh hb => src_keep SG6 (RT.srcs bh (by rcases hb with hb | hb; exact Or.inl hb; rw [size_setRow] at hb; exact Or.inr hb)) oS⟩
       ·refine makeS (some 46) rfl (.slice (some ⟨W26.heap.size, 0, none⟩) 1 1) (w1 := W26.alloc (.cells #[.int .u8 (a % 256)] 5)) (by go_simp) ?_
        simp only [pt0, pt4, pt1, pt2, pt3]
        have e30x : Ext W26 (W26.alloc (.cells #[.int .u8 (a % 256)] 5)) := Ext.alloc _ _
        have A25 := At.new W26 #[.int .u8 (a % 256)] 5
        replace A6 := at_ext A6 e30x
        have Q30 := (Q26).trans e30x
        generalize hw30 : W26.alloc (.cells #[.int .u8 (a % 256)] 5) = W30 at *
        refine ⟨Q30, ?_⟩
        refine nextTwo 3 26 rfl rfl (by kernel_rfl) rfl rfl ?_ ?_
        ·refine makeS (some 24) rfl (.slice (some ⟨W30.heap.size, 0, none⟩) 1 1) (w1 := W30.alloc (.cells #[.int .u8 (97 + (k : Int))] 5)) (by go_simp) ?_
         simp only [pt0, pt4, pt1, pt2, pt3]
         have e31x : Ext W30 (W30.alloc (.cells #[.int .u8 (97 + (k : Int))] 5)) := Ext.alloc _ _
         have N36 : W30.heap.size ≠ W.heap.size := (Nat.ne_of_lt A6.lt).symm
         have A3 := At.new W30 #[.int .u8 (97 + (k : Int))] 5
         replace A25 := at_ext A25 e31x
         replace A6 := at_ext A6 e31x
         have Q31 := (Q30).trans e31x
         generalize hw31 : W30.alloc (.cells #[.int .u8 (97 + (k : Int))] 5) = W31 at *
         refine ⟨Q31, ?_⟩
         refine anyH_mono (S' := fun w' => Ext wr w' ∧ At w' W30.heap.size #[.int .u8 (97 + (k : Int))] 5) (fun w' h => h.1) _ _ _ _ ?_
         refine tkS 4 (some 25) (.string nm) ⟨Q31, A3⟩ ?_ (hy := fun w' hw' => by have cc := conv_one hw'.2; rw [HNM.out] at cc; go_simp)
         simp only [pt0, pt4, pt1, pt2, pt3]
         refine nextS 26 rfl (by kernel_rfl) rfl ?_
         refine callS (some 47) rfl 44 #[.slice (some ⟨W26.heap.size, 0, none⟩) 1 1] (by go_simp) (fun v w' => ∃ adr capr, v = .slice adr 32 capr ∧ Ext W31 w' ∧ OwnB w' W31.heap.size (.slice adr 32 capr) (shaL [(a % 256)])) (sum_one _ _ _ A25) ?_
         rintro v32 W32 ⟨adr, capr, rfl, e32x, RT0⟩
         simp only [pt0, pt4, pt1, pt2, pt3]
         have Q32 := (Q31).trans e32x
         have SG6 := RT0.srcs W.heap.size (Or.inl A6.lt)
         have RT := own_less RT0 (Q31).size
         clear RT0
         replace A25 := at_ext A25 e32x
         replace A3 := at_ext A3 e32x
         replace A6 := at_ext A6 e32x
         refine ⟨⟨Q32, A3⟩, ?_⟩
         refine tkS 27 (some 48) (.agg #[.string nm, .int .i64 1, .int .i64 (a.tmod 100), .int .i64 (a.tmod 7), .int .u64 a, .slice adr 32 capr]) ⟨Q32, A3⟩ ?_
         simp only [pt0, pt4, pt1, pt2, pt3]
         have sz : (Tryz.prog.info? 52).map (·.size) = some (#[.string nm, .int .i64 1, .int .i64 (a.tmod 100), .int .i64 (a.tmod 7), .int .u64 a, .slice adr 32 capr] : Array Value).size := szRef
         have one : (#[.string nm, .int .i64 1, .int .i64 (a.tmod 100), .int .i64 (a.tmod 7), .int .u64 a, .slice adr 32 capr] : Array Value).all (·.oneCell') = true := by simp [Value.oneCell']
         refine nextS 29 rfl (by kernel_rfl) rfl (wp_store_row 52 (.tmp 5) (.tmp 48) rfl W.heap.size _ rfl rfl 52 _ A6 sz rfl one ?_)
         have oS := Only.setRow W.heap.size W32 #[.string nm, .int .i64 1, .int .i64 (a.tmod 100), .int .i64 (a.tmod 7), .int .u64 a, .slice adr 32 capr]
         have S9 : Ext wr (W32.setRow W.heap.size #[.string nm, .int .i64 1, .int .i64 (a.tmod 100), .int .i64 (a.tmod 7), .int .u64 a, .slice adr 32 capr]) := ext_only' Q32 oS L6
         refine ⟨⟨S9, oS.at A3 N36⟩, ?_⟩
         refine wpAnyH_done (by kernel_rfl) ?_ _
         go_wp2
         go_meet
         exact ⟨W.heap.size, adr, capr, rfl, L6, S9, A6.row _, fun bh hb => src_keep SG6 (RT.srcs bh (by rcases hb with hb | hb; exact Or.inl hb; rw [size_setRow] at hb; exact Or.inr hb)) oS⟩
        ·refine callS (some 47) rfl 44 #[.slice (some ⟨W26.heap.size, 0, none⟩) 1 1] (by go_simp) (fun v w' => ∃ adr capr, v = .slice adr 32 capr ∧ Ext W30 w' ∧ OwnB w' W30.heap.size (.slice adr 32 capr) (shaL [(a % 256)])) (sum_one _ _ _ A25) ?_
         rintro v33 W33 ⟨adr, capr, rfl, e33x, RT0⟩
         simp only [pt0, pt4, pt1, pt2, pt3]
         have Q33 := (Q30).trans e33x
         have SG6 := RT0.srcs W.heap.size (Or.inl A6.lt)
         have RT := own_less RT0 (Q30).size
         clear RT0
         replace A25 := at_ext A25 e33x
         replace A6 := at_ext A6 e33x
         refine ⟨Q33, ?_⟩
         refine nextS 3 rfl (by kernel_rfl) rfl ?_
         refine makeS (some 24) rfl (.slice (some ⟨W33.heap.size, 0, none⟩) 1 1) (w1 := W33.alloc (.cells #[.int .u8 (97 + (k : Int))] 5)) (by go_simp) ?_
         simp only [pt0, pt4, pt1, pt2, pt3]
         have e34x : Ext W33 (W33.alloc (.cells #[.int .u8 (97 + (k : Int))] 5)) := Ext.alloc _ _
         have N36 : W33.heap.size ≠ W.heap.size := (Nat.ne_of_lt A6.lt).symm
         have A3 := At.new W33 #[.int .u8 (97 + (k : Int))] 5
         replace A25 := at_ext A25 e34x
         replace A6 := at_ext A6 e34x
         replace RT := OwnB.ext RT e34x
         replace SG6 := SG6.below e34x
         have Q34 := (Q33).trans e34x
         generalize hw34 : W33.alloc (.cells #[.int .u8 (97 + (k : Int))] 5) = W34 at *
         refine ⟨Q34, ?_⟩
         refine anyH_mono (S' := fun w' => Ext wr w' ∧ At w' W33.heap.size #[.int .u8 (97 + (k : Int))] 5) (fun w' h => h.1) _ _ _ _ ?_
         refine tkS 4 (some 25) (.string nm) ⟨Q34, A3⟩ ?_ (hy := fun w' hw' => by have cc := conv_one hw'.2; rw [HNM.out] at cc; go_simp)
         simp only [pt0, pt4, pt1, pt2, pt3]
         refine tkS 27 (some 48) (.agg #[.string nm, .int .i64 1, .int .i64 (a.tmod 100), .int .i64 (a.tmod 7), .int .u64 a, .slice adr 32 capr]) ⟨Q34, A3⟩ ?_
         simp only [pt0, pt4, pt1, pt2, pt3]
         have sz : (Tryz.prog.info? 52).map (·.size) = some (#[.string nm, .int .i64 1, .int .i64 (a.tmod 100), .int .i64 (a.tmod 7), .int .u64 a, .slice adr 32 capr] : Array Value).size := szRef
         have one : (#[.string nm, .int .i64 1, .int .i64 (a.tmod 100), .int .i64 (a.tmod 7), .int .u64 a, .slice adr 32 capr] : Array Value).all (·.oneCell') = true := by simp [Value.oneCell']
         refine nextS 29 rfl (by kernel_rfl) rfl (wp_store_row 52 (.tmp 5) (.tmp 48) rfl W.heap.size _ rfl rfl 52 _ A6 sz rfl one ?_)
         have oS := Only.setRow W.heap.size W34 #[.string nm, .int .i64 1, .int .i64 (a.tmod 100), .int .i64 (a.tmod 7), .int .u64 a, .slice adr 32 capr]
         have S9 : Ext wr (W34.setRow W.heap.size #[.string nm, .int .i64 1, .int .i64 (a.tmod 100), .int .i64 (a.tmod 7), .int .u64 a, .slice adr 32 capr]) := ext_only' Q34 oS L6
         refine ⟨⟨S9, oS.at A3 N36⟩, ?_⟩
         refine wpAnyH_done (by kernel_rfl) ?_ _
         go_wp2
         go_meet
         exact ⟨W.heap.size, adr, capr, rfl, L6, S9, A6.row _, fun bh hb => src_keep SG6 (RT.srcs bh (by rcases hb with hb | hb; exact Or.inl hb; rw [size_setRow] at hb; exact Or.inr hb)) oS⟩
     case rest =>
      obtain ⟨g6, adr, capr, rfl, L6, e6, A6, R6⟩ := hcut
      have E6 := Lib.hid (And.intro e6 L6)
      have R6H := Lib.hid R6
      have c6 := ext_cell e6 CK.out
      clear R6 e6 ck L6
      by_cases h54 : a.tmod 5 = 4
      ·have t54 : (a.tmod 5 == 4) = true := by simpa using h54
       have t55 : (a % 5 == 4) = true := by rw [← Int.tmod_eq_emod_of_nonneg (by omega)]; exact t54
       have RD2 := Lib.hid (show refD k a = ⟨nm, 2, 0, a.tmod 7, a, []⟩ by unfold refD; rw [if_pos h54, ← HNE.out])
       generalize a.tmod 7 = T7 at *
       generalize a.tmod 100 = T100 at *
       have z1 := A6.cell 1
       have y1 := A6.frozen 1
       have B1 : At (wc.setCell ⟨g6, 1, none⟩ (.int .i64 2)) g6 _ 52 := A6.set 1 (.int .i64 2)
       have z5 := B1.cell 5
       have y5 := B1.frozen 5
       have B2 : At ((wc.setCell ⟨g6, 1, none⟩ (.int .i64 2)).setCell ⟨g6, 5, none⟩ (.slice none 0 0)) g6 _ 52 := B1.set 5 (.slice none 0 0)
       have z2 := B2.cell 2
       have y2 := B2.frozen 2
       have B3 : At (((wc.setCell ⟨g6, 1, none⟩ (.int .i64 2)).setCell ⟨g6, 5, none⟩ (.slice none 0 0)).setCell ⟨g6, 2, none⟩ (.int .i64 0)) g6 #[.string nm, .int .i64 2, .int .i64 0, .int .i64 (T7), .int .u64 a, .slice none 0 0] 52 := B2.set 2 (.int .i64 0)
       have E7 := Lib.hid (show Ext wr (((wc.setCell ⟨g6, 1, none⟩ (.int .i64 2)).setCell ⟨g6, 5, none⟩ (.slice none 0 0)).setCell ⟨g6, 2, none⟩ (.int .i64 0)) from ext_only' (ext_only' (ext_only' E6.out.1 (Only.set g6 1 _ _) E6.out.2) (Only.set g6 5 _ _) E6.out.2) (Only.set g6 2 _ _) E6.out.2)
       clear B1 B2 A6
       go_upto_region 9 with fail
       clear z1 y1 z5 y5 z2 y2 c6
       generalize ((wc.setCell ⟨g6, 1, none⟩ (.int .i64 2)).setCell ⟨g6, 5, none⟩ (.slice none 0 0)).setCell ⟨g6, 2, none⟩ (.int .i64 0) = w7 at *
       have A7 := B3
       clear B3
       have SB := Lib.hid (show ∀ bh, (bh < wr.heap.size ∨ w7.heap.size ≤ bh) → Sha.Src w7 (.slice none 0 0) [] bh from fun bh _ => src_nil w7 bh)
       have a8 := At.new w7 #[.string nm, .int .i64 2, .int .i64 0, .int .i64 (T7), .int .u64 a, .slice none 0 0] 52
       have e8 : Ext w7 (w7.alloc (.cells #[.string nm, .int .i64 2, .int .i64 0, .int .i64 (T7), .int .u64 a, .slice none 0 0] 52)) := Ext.alloc _ _
       have OP8 := Lib.hid (OP.out.ext (E7.out.trans e8))
       have HC := Lib.hid (show ∀ j u, (rcs ⟨nm, 2, 0, T7, a, .slice none 0 0, []⟩)[j]? = some u → (w7.alloc (.cells #[.string nm, .int .i64 2, .int .i64 0, .int .i64 (T7), .int .u64 a, .slice none 0 0] 52)).cell? ⟨w7.heap.size, j, none⟩ = some u from fun j u hu => by rw [a8.cell]; simpa [rcs] using hu)
       have HS := Lib.hid (show ∀ bh, (bh < w.heap.size ∨ (.slice adl LL capl : Value).ownBlock = some bh ∨ (w7.alloc (.cells #[.string nm, .int .i64 2, .int .i64 0, .int .i64 (T7), .int .u64 a, .slice none 0 0] 52)).heap.size ≤ bh) → Sha.Src (w7.alloc (.cells #[.string nm, .int .i64 2, .int .i64 0, .int .i64 (T7), .int .u64 a, .slice none 0 0] 52)) (.slice none 0 0) [] bh from fun bh hbh => by
        refine (SB.out bh ?_).below e8
        rcases hbh with h | h | h
        ·exact Or.inl (Nat.lt_of_lt_of_le h EX.out.size)
        ·exact Or.inl (OP.out.block bh h).2
        ·exact Or.inr (Nat.le_trans e8.size h))
       have HB2 := Lib.hid (EX.out.trans (E7.out.trans e8))
       have HL5 := Lib.hid (show l'.length < 1099511627776 by rw [← HLL.out]; omega)
       clear e8 a8
       go_wp2_with (first | (refine wpList_load_row rfl 52 _ rfl g6 rfl 52 _ (0, 0) _ A7 Tryz.underlying52 rfl szRef ?_) | (refine list_append_r rfl (.tmp 58) (.tmp 60) 22 rfl Tryz.underlying22 w.heap.size (.slice adl LL capl) l' rfl OP8.out w7.heap.size 1 ⟨nm, 2, 0, T7, a, .slice none 0 0, []⟩ rfl HC.out rfl HS.out HL5.out HB2.out.size ?_; intro v9 w9 op9 b9))
       exact ⟨⟨k + 1, _, by omega, by go_num, op9, by rw [List.map_append, HD.out, refsK_succ, RO.out, RD2.out]; rfl, Below.trans HB2.out b9⟩, by simp [intOf]; omega⟩
      ·have t54 : (a.tmod 5 == 4) = false := by simpa using h54
       have t55 : (a % 5 == 4) = false := by rw [← Int.tmod_eq_emod_of_nonneg (by omega)]; exact t54
       have RD2 := Lib.hid (show refD k a = ⟨nm, 1, a.tmod 100, a.tmod 7, a, shaL [a % 256]⟩ by unfold refD; rw [if_neg h54, ← HNE.out])
       generalize a.tmod 7 = T7 at *
       generalize a.tmod 100 = T100 at *
       have E7 := Lib.hid E6.out.1
       go_upto_region 9 with fail
       clear c6
       have A7 := A6
       clear A6
       generalize wc = w7 at *
       have SB := R6H
       have a8 := At.new w7 #[.string nm, .int .i64 1, .int .i64 (T100), .int .i64 (T7), .int .u64 a, .slice adr 32 capr] 52
       have e8 : Ext w7 (w7.alloc (.cells #[.string nm, .int .i64 1, .int .i64 (T100), .int .i64 (T7), .int .u64 a, .slice adr 32 capr] 52)) := Ext.alloc _ _
       have OP8 := Lib.hid (OP.out.ext (E7.out.trans e8))
       have HC := Lib.hid (show ∀ j u, (rcs ⟨nm, 1, T100, T7, a, .slice adr 32 capr, shaL [a % 256]⟩)[j]? = some u → (w7.alloc (.cells #[.string nm, .int .i64 1, .int .i64 (T100), .int .i64 (T7), .int .u64 a, .slice adr 32 capr] 52)).cell? ⟨w7.heap.size, j, none⟩ = some u from fun j u hu => by rw [a8.cell]; simpa [rcs] using hu)
       have HS := Lib.hid (show ∀ bh, (bh < w.heap.size ∨ (.slice adl LL capl : Value).ownBlock = some bh ∨ (w7.alloc (.cells #[.string nm, .int .i64 1, .int .i64 (T100), .int .i64 (T7), .int .u64 a, .slice adr 32 capr] 52)).heap.size ≤ bh) → Sha.Src (w7.alloc (.cells #[.string nm, .int .i64 1, .int .i64 (T100), .int .i64 (T7), .int .u64 a, .slice adr 32 capr] 52)) (.slice adr 32 capr) (shaL [a % 256]) bh from fun bh hbh => by
        refine (SB.out bh ?_).below e8
        rcases hbh with h | h | h
        ·exact Or.inl (Nat.lt_of_lt_of_le h EX.out.size)
        ·exact Or.inl (OP.out.block bh h).2
        ·exact Or.inr (Nat.le_trans e8.size h))
       have HB2 := Lib.hid (EX.out.trans (E7.out.trans e8))
       have HL5 := Lib.hid (show l'.length < 1099511627776 by rw [← HLL.out]; omega)
       clear e8 a8
       go_wp2_with (first | (refine wpList_load_row rfl 52 _ rfl g6 rfl 52 _ (0, 0) _ A7 Tryz.underlying52 rfl szRef ?_) | (refine list_append_r rfl (.tmp 58) (.tmp 60) 22 rfl Tryz.underlying22 w.heap.size (.slice adl LL capl) l' rfl OP8.out w7.heap.size 1 ⟨nm, 1, T100, T7, a, .slice adr 32 capr, shaL [a % 256]⟩ rfl HC.out rfl HS.out HL5.out HB2.out.size ?_; intro v9 w9 op9 b9))
       exact ⟨⟨k + 1, _, by omega, by go_num, op9, by rw [List.map_append, HD.out, refsK_succ, RO.out, RD2.out]; rfl, Below.trans HB2.out b9⟩, by simp [intOf]; omega⟩
   ·have d0 : decide ((n : Int) ≤ (k : Int)) = true := by simp; omega
    have RO := Lib.hid (show refO ms k = [] by unfold refO; rw [List.getElem?_eq_none (by rw [← HN.out]; omega)])
    go_wp2
    exact ⟨⟨k + 1, l', by omega, by go_num, OP.out, by rw [refsK_succ, RO.out, List.append_nil]; exact HD.out, EX.out⟩, by simp [intOf]; omega⟩
  ·have d0 : decide ((k : Int) < 20) = false := by simp; omega
   obtain rfl : k = 20 := by omega
   clear hlt
   go_wp2
   go_ret
   exact ⟨_, l', rfl, EX.out, OP.out, HD.out⟩
end Go.Proofs.YtnhokjnmpdiokaaGreatDoor
