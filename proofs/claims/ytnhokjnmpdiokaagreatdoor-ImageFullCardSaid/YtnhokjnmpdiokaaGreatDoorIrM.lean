/- What Open's parts answer on a store of nothing: refsOf, ofAnImage, voted. No conditions but those named: contracts. What voted answers on a store of nothing. No conditions but those named: contracts. What Open does on a new store. No conditions but those named: contracts. -/
import Derived.Test.YtnhokjnmpdiokaaGreatDoorIoM
import Derived.Test.YtnhokjnmpdiokaaGreatDoorHgM
import Derived.Test.YtnhokjnmpdiokaaGreatDoorCbM
namespace Go.Proofs.YtnhokjnmpdiokaaGreatDoor
open Go.RowKit Go.Sha Go.Pth
set_option linter.unusedSimpArgs false
set_option linter.unusedVariables false

set_option maxRecDepth 100000 in
set_option maxHeartbeats 8000000 in
theorem refsOf_nil (ad : Option Addr) (cap : Nat) (w : World) (h : Sha.Src w (.slice ad 0 cap) [] w.heap.size) :
    Calls Tryz.prog 65 #[.slice ad 0 cap] w fun e w' => e = .returned (.tuple #[.slice none 0 0, .bool true]) ∧ Ext w w' := by
  have NR := Lib.hid (newr_any (.slice ad 0 cap) [] _ w h (by simp))
  clear h
  go_enter Tryz.func65, Tryz.ntmps65
  go_wp2_with fail
  refine (NR.out).mono ?_
  rintro e w1 ⟨g, rfl, e1, rs, hg⟩
  have LF := Lib.hid (left_any g [] 0 w1 rs)
  have ER := Lib.hid (err_any g [] 0 w1 rs)
  have MY := Lib.hid (may_any (fun _ => False) (.slice none 0 0) [] w1 (RR.nil _ _) (by simp))
  have E1 := Lib.hid e1
  clear e1 rs hg NR
  simp only [List.length_nil] at LF
  go_wp2
  go_loopw [5] (fun v wr => v = .slice none 0 0 ∧ w1 = wr) (fun _ _ => 0)
  case atStart => exact ⟨rfl, rfl⟩
  case round =>
    obtain ⟨rfl, rfl⟩ := hrel
    go_wp2_with fail
    refine (LF.out).mono ?_
    rintro e w2 ⟨rfl, rfl⟩
    go_wp2_with fail
    refine (ER.out).mono ?_
    rintro e w2 ⟨rfl, rfl⟩
    go_wp2_with fail
    refine (MY.out).mono ?_
    rintro e w2 ⟨rfl, e2⟩
    have E2 := Lib.hid (E1.out.trans e2)
    clear e2
    have hi : imageL (List.map RV.d []) = true := by decide
    rw [hi]
    go_wp2
    go_ret2
    exact ⟨rfl, E2.out⟩
theorem decP_nil : decP [] = none := by decide
theorem voteP_nil : voteP [] [] [] = (0, []) := by decide
set_option maxRecDepth 100000 in
set_option maxHeartbeats 8000000 in
theorem ofAn_nil (w : World) (hK : KAt w) : Calls Tryz.prog 63 #[.slice none 0 0] w fun e w' => e = .returned (.slice none 0 0) ∧ Ext w w' := by
  have DC := Lib.hid (decode_any (.slice none 0 0) [] w hK (src_nil w _) byt_nil (by simp))
  rw [decP_nil] at DC
  go_enter Tryz.func63, Tryz.ntmps63
  go_wp2_with fail
  refine (DC.out).mono ?_
  rintro e w1 ⟨v, rfl, e1, far⟩
  have s1 := far _ (Or.inr (Nat.le_refl _))
  simp only [pgO, Option.getD_none] at s1
  obtain ⟨adv, capv, ev⟩ := s1.len
  simp only [List.length_nil] at ev
  subst ev
  have E1 := Lib.hid e1
  have S1 := Lib.hid s1
  have one : (#[.int .i64 0, .slice adv 0 capv] : Array Value).all (·.oneCell') = true := by simp [Value.oneCell']
  have sz : (Tryz.prog.info? 108).map (·.size) = some (#[.int .i64 0, .slice adv 0 capv] : Array Value).size := szPage
  have ea : Ext w1 (w1.alloc (.cells #[.int .i64 0, .slice none 0 0] 108)) := Ext.alloc w1 _
  have aa := At.new w1 #[.int .i64 0, .slice none 0 0] 108
  have E2 := ext_only' ea (Only.setRow w1.heap.size _ #[.int .i64 0, .slice adv 0 capv]) (Nat.le_refl _)
  have A2 : At ((w1.alloc (.cells #[.int .i64 0, .slice none 0 0] 108)).setRow w1.heap.size #[.int .i64 0, .slice adv 0 capv]) w1.heap.size #[.int .i64 0, .slice adv 0 capv] 108 := aa.row _
  clear e1 far s1 DC
  simp only [pgO, Option.getD_none, Option.isSome_none, Bool.false_eq_true, if_false]
  go_upto_region 2 with (refine wpList_store_row rfl 108 _ _ rfl w1.heap.size _ rfl rfl 108 _ aa sz rfl one ?_)
  clear ea aa sz one
  generalize (w1.alloc (.cells #[.int .i64 0, .slice none 0 0] 108)).setRow w1.heap.size #[.int .i64 0, .slice adv 0 capv] = w2 at *
  obtain ⟨g2, hg2⟩ : ∃ g, g = w1.heap.size := ⟨_, rfl⟩
  rw [← hg2] at A2 ⊢
  have f1 := A2.cell 1
  have RO := Lib.hid (refsOf_nil adv capv w2 (S1.out.now E2))
  have EX := Lib.hid (E1.out.trans E2)
  clear E2 A2 hg2
  go_wp2_with fail
  refine (RO.out).mono ?_
  rintro e w3 ⟨rfl, e3⟩
  have F := Lib.hid (EX.out.trans e3)
  clear e3 RO
  go_wp2
  go_ret
  exact ⟨rfl, F.out⟩
end Go.Proofs.YtnhokjnmpdiokaaGreatDoor

namespace Go.Proofs.YtnhokjnmpdiokaaGreatDoor
open Go.RowKit Go.Sha Go.Pth
set_option linter.unusedSimpArgs false
set_option linter.unusedVariables false

set_option maxRecDepth 100000 in
set_option maxHeartbeats 8000000 in
theorem read_not (sb : Nat) (S : V.SV) (W : V.SW) (L : Nat → Option V.Role) (p : ByteArray) (w : World) (h : V.Rep w sb S W L) (hn : S.names.length ≤ 1000000) (hl : V.look S.names p.toList = none) :
    Calls Tryz.prog 61 #[V.ptr sb, .string p] w fun e w' => e = .returned (.tuple #[.slice none 0 0, .int .i64 5]) ∧ Ext w w' := by
  have FI := Lib.hid (V.file_any sb S W L p w h hn)
  have e : S.file p.toList = (none, 5) := by unfold V.SV.file; rw [hl]
  rw [e] at FI
  simp only [V.optr] at FI
  clear h e hl
  unfold V.ptr at FI ⊢
  go_enter Tryz.func61, Tryz.ntmps61
  go_wp2_with fail
  refine (FI.out).mono ?_
  rintro e w1 ⟨rfl, e1⟩
  have E1 := Lib.hid (ext_v e1)
  clear e1 FI
  go_wp2
  go_ret2
  exact ⟨rfl, E1.out⟩

theorem nextTwo {P : Program} {md : Region.Mode} {ops : Array Oper} {Q : Exit → Act → World → Prop} {S : World → Prop} (i j : Nat) {oi oj : Oper} {fuel : Nat} {listed : Array Bool} {a : Act} {w : World} (hi : ops[i]? = some oi) (hj : ops[j]? = some oj)
    (hr : Region.ready md ops listed = [i, j]) (hwi : Region.wanted oi (yielded ops a.tmps) = true) (hwj : Region.wanted oj (yielded ops a.tmps) = true)
    (h1 : oi.wp P a w (fun a' w' => S w' ∧ wpAnyH P md ops Q S fuel (listed.setIfInBounds i true) a' w') Q)
    (h2 : oj.wp P a w (fun a' w' => S w' ∧ wpAnyH P md ops Q S fuel (listed.setIfInBounds j true) a' w') Q) : wpAnyH P md ops Q S (fuel + 1) listed a w := by
  refine wpAnyH_all hr (by simp) fun k hk => ?_
  have hk : k = i ∨ k = j := by simpa using hk
  rcases hk with rfl | rfl
  · refine wpOp_step hi fun K hK => ?_
    rw [if_pos hwi]
    exact Oper.wp_mono (fun a' w' h' => hK a' w' h') h1
  · refine wpOp_step hj fun K hK => ?_
    rw [if_pos hwj]
    exact Oper.wp_mono (fun a' w' h' => hK a' w' h') h2
theorem src_empty (ad : Option Addr) (cap : Nat) (w w' : World) {b : Nat} (h : Sha.Src w (.slice ad 0 cap) [] b) : Sha.Src w' (.slice ad 0 cap) [] w'.heap.size := by
  obtain ⟨ad', cap', sb, so, h1, h2, h3, h4, h5, h6⟩ := h
  injection h1 with i1 i2 i3
  subst i1 i3
  exact ⟨ad, cap, w'.heap.size + 1, so, rfl, h2, fun h => by simp at h, by omega, fun j hj => by simp at hj, h6⟩
def nilP : Value × List Int := (.slice none 0 0, [])
def InvVt (w3 : World) (v t i : Value) (wr : World) : Prop := ∃ k : Nat, k ≤ 3 ∧ i = .int .i64 k ∧ t = .int .i64 0 ∧ OwnG 50 Sha.Src wr w3.heap.size v (List.replicate k nilP) (fun _ => False) ∧ Ext w3 wr
set_option maxRecDepth 100000 in
set_option maxHeartbeats 16000000 in
theorem voted_none (sb : Nat) (S : V.SV) (W : V.SW) (L : Nat → Option V.Role) (w : World) (h : V.Rep w sb S W L) (hn : S.names.length ≤ 1000000) (hlk : ∀ k, V.look S.names (cpT k).toList = none) (hK : KAt w) :
    Calls Tryz.prog 42 #[V.ptr sb] w fun e w' => ∃ ab, e = .returned (.tuple #[V.ptr ab, .int .i64 0]) ∧ Ext w w' ∧ w.heap.size ≤ ab ∧ V.At w' ab (acell sb 0 (.slice none 0 0) false) 68 := by
  have CO := Lib.hid (copies_any w)
  have HK := Lib.hid hK
  have RD := Lib.hid (fun w1 (e1 : Ext w w1) (k : Nat) => read_not sb S W L (cpT k) w1 (h.ext e1) hn (hlk k))
  clear h hn hK hlk
  unfold V.ptr at RD ⊢
  go_enter Tryz.func42, Tryz.ntmps42
  go_wp2_with fail
  refine (CO.out).mono ?_
  rintro e w3 ⟨rfl, rfl⟩
  have E3 := Lib.hid (Ext.alloc w (.cells #[.string (cpT 0), .string (cpT 1), .string (cpT 2)] 9))
  have C3 := Lib.hid (cps_new w)
  generalize w.alloc (.cells #[.string (cpT 0), .string (cpT 1), .string (cpT 2)] 9) = w3 at *
  obtain ⟨b3, hb3⟩ : ∃ b, b = w.heap.size := ⟨_, rfl⟩
  rw [← hb3] at C3 ⊢
  clear CO hb3
  go_wp2
  go_loopw [4, 5, 17] (fun v t i wr => InvVt w3 v t i wr) (fun _ _ i _ => 3 - (intOf i).toNat)
  case atStart => exact ⟨0, by omega, rfl, rfl, OwnG.nil _ _ _ _ _, Ext.refl _⟩
  case round =>
    obtain ⟨k, hk, rfl, rfl, ow, ex⟩ := hrel
    obtain ⟨adl, capl, el⟩ := ow.len
    rw [List.length_replicate] at el
    subst el
    by_cases hlt : k < 3
    · have i0 : (k : Int) < 3 := by omega
      have i1 : (0 : Int) ≤ (k : Int) := by omega
      have ck := ext_cell ex (C3.out.cell k k (by
        match k, hlt with
        | 0, _ => rfl
        | 1, _ => rfl
        | 2, _ => rfl))
      rw [Nat.zero_add] at ck
      have RK := Lib.hid (RD.out wr (E3.out.trans ex) k)
      have OW := Lib.hid ow
      have EX := Lib.hid ex
      clear ow ex
      go_wp2_with fail
      refine (RK.out).mono ?_
      rintro e w4 ⟨rfl, e4⟩
      have OF := Lib.hid (ofAn_nil w4 (HK.out.below ((E3.out.trans EX.out).trans e4) HK.out.lt))
      have E4 := Lib.hid e4
      clear e4 RK ck
      go_wp2_with fail
      refine (OF.out).mono ?_
      rintro e w5 ⟨rfl, e5⟩
      have E5 := Lib.hid (E4.out.trans e5)
      have OW5 := Lib.hid (own_one src_kept (OwnG.ext src_kept OW.out E5.out) (.slice none 0 0) 50)
      have SY := Lib.hid (show ∀ bh, ((fun _ => False) bh ∨ (.slice adl k capl : Value).ownBlock = some bh ∨ (w5.alloc (.cells #[.slice none 0 0] 50)).heap.size ≤ bh) → Sha.Src (w5.alloc (.cells #[.slice none 0 0] 50)) (.slice none 0 0) [] bh from fun bh _ => src_nil _ bh)
      have HB := Lib.hid (show w3.heap.size ≤ (w5.alloc (.cells #[.slice none 0 0] 50)).heap.size by have := EX.out.size; have := E5.out.size; rw [V.size_alloc]; omega)
      clear e5 OF
      go_wp2_with (refine list_append_g src_kept rfl (.tmp 31) (.tmp 34) 115 rfl (.slice none 0 0) 24 Tryz.underlying115 slzero rfl (by omega) w3.heap.size _ (List.replicate k nilP) _ rfl OW5.out w5.heap.size 1 _ [] rfl (cell_one w5 _ 50) rfl SY.out (by rw [List.length_replicate]; omega) HB.out ?_; intro v6 w6 o6 b6)
      refine ⟨⟨k + 1, by omega, by go_num, rfl, ?_, ?_⟩, by simp [intOf]; omega⟩
      · rw [List.replicate_succ']; exact o6
      · exact Below.trans (EX.out.trans (E5.out.trans (Ext.alloc w5 (.cells #[.slice none 0 0] 50)))) b6
    · have d0 : decide ((k : Int) < 3) = false := by simp; omega
      obtain rfl : k = 3 := by omega
      obtain ⟨g, hg, hf⟩ : ∃ g, adl = some ⟨g, 0, none⟩ ∧ ∀ j, j < 3 → wr.cell? ⟨g, j, none⟩ = some (.slice none 0 0) := by
        obtain ⟨⟨_, ⟨hv, h0⟩ | ⟨g, cap, cur, hv, hg, hw, hn, _, _, hx⟩⟩, _⟩ := ow
        · simp at h0
        · injection hv with hv
          refine ⟨g, hv, fun j hj => ?_⟩
          have hw' : wr.heap[g]? = some (.cells cur 50 (0, 0)) := hw
          have e : cur.toList[j]? = some (.slice none 0 0) := by
            rw [← List.getElem?_take_of_lt (by rw [List.length_replicate]; omega : j < (List.replicate 3 nilP).length * 1), hx, List.getElem?_map, List.getElem?_replicate]
            simp [hj, nilP]
          simp only [World.cell?, hw']
          rw [← Array.getElem?_toList, e]
          rfl
      subst hg
      have f0 := hf 0 (by omega)
      have f1 := hf 1 (by omega)
      have f2 := hf 2 (by omega)
      have EX := Lib.hid (E3.out.trans ex)
      have KR := HK.out.below (E3.out.trans ex) HK.out.lt
      have VT := Lib.hid (fun w1 (e1 : Ext wr w1) => ((vote_any (.slice none 0 0) (.slice none 0 0) (.slice none 0 0) [] [] [] w1 (KR.below e1 KR.lt) (src_nil _ _) (src_nil _ _) (src_nil _ _) ⟨⟨byt_nil, by simp⟩, ⟨byt_nil, by simp⟩, ⟨byt_nil, by simp⟩⟩).mono fun e w' ⟨_, hv⟩ => (by
        obtain ⟨vb, vm, h1, e5, sb5, _⟩ := hv (by rw [voteP_nil]; decide)
        obtain ⟨adb, capb, eb⟩ := sb5.len
        simp only [List.length_nil] at eb
        subst eb
        exact ⟨_, h1, adb, capb, vm, rfl, e5, sb5⟩ : ∃ v, e = Ending.returned v ∧ ∃ adb capb vm, v = (Value.tuple #[.agg #[.int .i64 0, .slice adb 0 capb], vm, .int .i64 10]) ∧ Ext w1 w' ∧ Sha.Src w' (.slice adb 0 capb) [] w'.heap.size)))
      clear ow ex hf hlt KR RD
      go_upto_region 11 with fail
      refine wp_region_held (S := Ext wr) (by kernel_rfl) ?_
      change wpAnyH _ _ _ _ _ _ _ _ wr.drew
      have S0 : Ext wr wr.drew := Below.drew (Below.refl _ _)
      generalize wr.drew = W at *
      refine tkS 0 (some 38) (.slice (some ⟨g, 0, none⟩) 3 capl) S0 ?_
      simp only [pt0, pt4, pt1, pt2, pt3]
      refine tkS 1 (some 39) (.pointer (some ⟨g, 0, none⟩)) S0 ?_
      simp only [pt0, pt4, pt1, pt2, pt3]
      refine tkS 2 (some 40) (.slice none 0 0) S0 ?_ (hy := fun w' hw' => by have cc := ext_cell hw' f0; go_simp)
      simp only [pt0, pt4, pt1, pt2, pt3]
      refine tkS 3 (some 41) (.slice (some ⟨g, 0, none⟩) 3 capl) S0 ?_
      simp only [pt0, pt4, pt1, pt2, pt3]
      refine tkS 4 (some 42) (.pointer (some ⟨g, 1, none⟩)) S0 ?_
      simp only [pt0, pt4, pt1, pt2, pt3]
      refine tkS 5 (some 43) (.slice none 0 0) S0 ?_ (hy := fun w' hw' => by have cc := ext_cell hw' f1; go_simp)
      simp only [pt0, pt4, pt1, pt2, pt3]
      refine tkS 6 (some 44) (.slice (some ⟨g, 0, none⟩) 3 capl) S0 ?_
      simp only [pt0, pt4, pt1, pt2, pt3]
      refine tkS 7 (some 45) (.pointer (some ⟨g, 2, none⟩)) S0 ?_
      simp only [pt0, pt4, pt1, pt2, pt3]
      refine tkS 8 (some 46) (.slice none 0 0) S0 ?_ (hy := fun w' hw' => by have cc := ext_cell hw' f2; go_simp)
      simp only [pt0, pt4, pt1, pt2, pt3]
      refine nextTwo 9 14 rfl rfl (by kernel_rfl) rfl rfl ?_ ?_
      · refine callS (some 47) rfl 64 #[.slice none 0 0, .slice none 0 0, .slice none 0 0] (by go_simp) (fun v w' => ∃ adb capb vm, v = (.tuple #[.agg #[.int .i64 0, .slice adb 0 capb], vm, .int .i64 10]) ∧ Ext W w' ∧ Sha.Src w' (.slice adb 0 capb) [] w'.heap.size) (VT.out W S0) ?_
        rintro v1 W1 ⟨adb, capb, vm, rfl, e1, s1⟩
        simp only [pt0, pt4, pt1, pt2, pt3]
        have S1 := S0.trans e1
        refine ⟨S1, ?_⟩
        refine tkS 10 (some 37) (.tuple #[.agg #[.int .i64 0, .slice adb 0 capb], vm, .int .i64 10]) S1 ?_
        simp only [pt0, pt4, pt1, pt2, pt3]
        refine tkS 11 (some 48) (.agg #[.int .i64 0, .slice adb 0 capb]) S1 ?_
        simp only [pt0, pt4, pt1, pt2, pt3]
        refine tkS 12 (some 49) vm S1 ?_
        simp only [pt0, pt4, pt1, pt2, pt3]
        refine tkS 13 (some 50) (.int .i64 10) S1 ?_
        simp only [pt0, pt4, pt1, pt2, pt3]
        have one : (#[.int .i64 0, .slice adb 0 capb] : Array Value).all (·.oneCell') = true := by simp [Value.oneCell']
        have sz : (Tryz.prog.info? 108).map (·.size) = some (#[.int .i64 0, .slice adb 0 capb] : Array Value).size := szPage
        refine nextS 14 rfl (by kernel_rfl) rfl (makeS (some 10) rfl (.pointer (some ⟨W1.heap.size, 0, none⟩)) (w1 := W1.alloc (.cells #[.int .i64 0, .slice none 0 0] 108)) (by go_simp) ?_)
        simp only [pt0, pt4, pt1, pt2, pt3]
        have S2 : Ext wr (W1.alloc (.cells #[.int .i64 0, .slice none 0 0] 108)) := S1.trans (Ext.alloc _ _)
        have aa := At.new W1 #[.int .i64 0, .slice none 0 0] 108
        have hsz := S1.size
        refine ⟨S2, ?_⟩
        refine nextS 15 rfl (by kernel_rfl) rfl (wp_store_row 108 (.tmp 10) (.tmp 48) rfl W1.heap.size _ rfl rfl 108 _ aa sz rfl one ?_)
        have E6 : Ext wr ((W1.alloc (.cells #[.int .i64 0, .slice none 0 0] 108)).setRow W1.heap.size #[.int .i64 0, .slice adb 0 capb]) := ext_only' S2 (Only.setRow W1.heap.size _ #[.int .i64 0, .slice adb 0 capb]) hsz
        have A6 : At ((W1.alloc (.cells #[.int .i64 0, .slice none 0 0] 108)).setRow W1.heap.size #[.int .i64 0, .slice adb 0 capb]) W1.heap.size #[.int .i64 0, .slice adb 0 capb] 108 := aa.row _
        refine ⟨E6, ?_⟩
        refine tkS 16 (some 11) vm E6 ?_
        simp only [pt0, pt4, pt1, pt2, pt3]
        refine tkS 17 (some 12) (.int .i64 10) E6 ?_
        simp only [pt0, pt4, pt1, pt2, pt3]
        refine wpAnyH_done (by kernel_rfl) ?_ _
        generalize (W1.alloc (.cells #[.int .i64 0, .slice none 0 0] 108)).setRow W1.heap.size #[.int .i64 0, .slice adb 0 capb] = w6 at *
        have SB := Lib.hid (src_empty adb capb W1 w6 s1)
        generalize hg6 : W1.heap.size = g6 at *
        have q1 := A6.cell 1
        have A6H := Lib.hid A6
        have RO := Lib.hid (refsOf_nil adb capb w6 SB.out)
        have EX6 := Lib.hid (EX.out.trans E6)
        clear E6 A6 SB S2 aa one sz S1 s1 e1 f0 f1 f2 VT hg6 hsz S0
        go_wp2_with fail
        refine (RO.out).mono ?_
        rintro e w7 ⟨rfl, e7⟩
        have q0 := (at_ext A6H.out e7).cell 0
        have E7 := Lib.hid (EX6.out.trans e7)
        clear e7 RO q1
        go_wp2
        go_ret2
        refine ⟨w7.heap.size, rfl, E7.out.trans (Ext.alloc _ _), E7.out.size, ?_⟩
        exact V.At.new w7 (acell sb 0 (.slice none 0 0) false) 68
      · refine makeS (some 10) rfl (.pointer (some ⟨W.heap.size, 0, none⟩)) (w1 := W.alloc (.cells #[.int .i64 0, .slice none 0 0] 108)) (by go_simp) ?_
        simp only [pt0, pt4, pt1, pt2, pt3]
        have S1 : Ext wr (W.alloc (.cells #[.int .i64 0, .slice none 0 0] 108)) := S0.trans (Ext.alloc _ _)
        have a0 := At.new W #[.int .i64 0, .slice none 0 0] 108
        refine ⟨S1, ?_⟩
        refine nextS 9 rfl (by kernel_rfl) rfl (callS (some 47) rfl 64 #[.slice none 0 0, .slice none 0 0, .slice none 0 0] (by go_simp) (fun v w' => ∃ adb capb vm, v = (.tuple #[.agg #[.int .i64 0, .slice adb 0 capb], vm, .int .i64 10]) ∧ Ext (W.alloc (.cells #[.int .i64 0, .slice none 0 0] 108)) w' ∧ Sha.Src w' (.slice adb 0 capb) [] w'.heap.size) (VT.out (W.alloc (.cells #[.int .i64 0, .slice none 0 0] 108)) S1) ?_)
        rintro v1 W1 ⟨adb, capb, vm, rfl, e1, s1⟩
        simp only [pt0, pt4, pt1, pt2, pt3]
        have S2 := S1.trans e1
        have aa := at_ext a0 e1
        have hsz := S0.size
        refine ⟨S2, ?_⟩
        refine tkS 10 (some 37) (.tuple #[.agg #[.int .i64 0, .slice adb 0 capb], vm, .int .i64 10]) S2 ?_
        simp only [pt0, pt4, pt1, pt2, pt3]
        refine tkS 11 (some 48) (.agg #[.int .i64 0, .slice adb 0 capb]) S2 ?_
        simp only [pt0, pt4, pt1, pt2, pt3]
        refine tkS 12 (some 49) vm S2 ?_
        simp only [pt0, pt4, pt1, pt2, pt3]
        refine tkS 13 (some 50) (.int .i64 10) S2 ?_
        simp only [pt0, pt4, pt1, pt2, pt3]
        have one : (#[.int .i64 0, .slice adb 0 capb] : Array Value).all (·.oneCell') = true := by simp [Value.oneCell']
        have sz : (Tryz.prog.info? 108).map (·.size) = some (#[.int .i64 0, .slice adb 0 capb] : Array Value).size := szPage
        refine nextS 15 rfl (by kernel_rfl) rfl (wp_store_row 108 (.tmp 10) (.tmp 48) rfl W.heap.size _ rfl rfl 108 _ aa sz rfl one ?_)
        have E6 : Ext wr (W1.setRow W.heap.size #[.int .i64 0, .slice adb 0 capb]) := ext_only' S2 (Only.setRow W.heap.size _ #[.int .i64 0, .slice adb 0 capb]) hsz
        have A6 : At (W1.setRow W.heap.size #[.int .i64 0, .slice adb 0 capb]) W.heap.size #[.int .i64 0, .slice adb 0 capb] 108 := aa.row _
        refine ⟨E6, ?_⟩
        refine tkS 16 (some 11) vm E6 ?_
        simp only [pt0, pt4, pt1, pt2, pt3]
        refine tkS 17 (some 12) (.int .i64 10) E6 ?_
        simp only [pt0, pt4, pt1, pt2, pt3]
        refine wpAnyH_done (by kernel_rfl) ?_ _
        generalize W1.setRow W.heap.size #[.int .i64 0, .slice adb 0 capb] = w6 at *
        have SB := Lib.hid (src_empty adb capb W1 w6 s1)
        generalize hg6 : W.heap.size = g6 at *
        have q1 := A6.cell 1
        have A6H := Lib.hid A6
        have RO := Lib.hid (refsOf_nil adb capb w6 SB.out)
        have EX6 := Lib.hid (EX.out.trans E6)
        clear E6 A6 SB S2 aa a0 one sz S1 s1 e1 f0 f1 f2 VT hg6 hsz S0
        go_wp2_with fail
        refine (RO.out).mono ?_
        rintro e w7 ⟨rfl, e7⟩
        have q0 := (at_ext A6H.out e7).cell 0
        have E7 := Lib.hid (EX6.out.trans e7)
        clear e7 RO q1
        go_wp2
        go_ret2
        refine ⟨w7.heap.size, rfl, E7.out.trans (Ext.alloc _ _), E7.out.size, ?_⟩
        exact V.At.new w7 (acell sb 0 (.slice none 0 0) false) 68
theorem voted_new (sb : Nat) (S : V.SV) (W : V.SW) (L : Nat → Option V.Role) (w : World) (h : V.Rep w sb S W L) (hn : S.names = []) (hK : KAt w) :
    Calls Tryz.prog 42 #[V.ptr sb] w fun e w' => ∃ ab, e = .returned (.tuple #[V.ptr ab, .int .i64 0]) ∧ Ext w w' ∧ w.heap.size ≤ ab ∧ V.At w' ab (acell sb 0 (.slice none 0 0) false) 68 :=
  voted_none sb S W L w h (by rw [hn]; simp) (fun k => by rw [hn]; exact V.look_empty _) hK
end Go.Proofs.YtnhokjnmpdiokaaGreatDoor

namespace Go.Proofs.YtnhokjnmpdiokaaGreatDoor
open Go.RowKit Go.Sha Go.Pth
set_option linter.unusedSimpArgs false
set_option linter.unusedVariables false

def hT : ByteArray := ⟨#[46, 97, 114, 99, 104, 105, 118, 101]⟩
theorem hT_list : hT.toList = V.homeB := ByteArray.toList_mk _
structure Nul (S : V.SV) (n : Nat) : Prop where
  names : S.names = []
  kept : S.kept = []
  acts : S.acts = []
  power : S.power = 0
  clock : 0 ≤ S.clock ∧ S.clock ≤ n
  ops : 0 ≤ S.ops ∧ S.ops ≤ n
  left : 0 ≤ S.left ∧ S.left ≤ 9223372036854775807
  room : 1000000 ≤ S.room
theorem Nul.fit {S : V.SV} {n : Nat} (h : Nul S n) (hn : n ≤ 10000) : S.Fit := ⟨h.left, ⟨h.ops.1, by have := h.ops.2; omega⟩, ⟨h.clock.1, by have := h.clock.2; omega⟩, by rw [h.names]; simp, by rw [h.acts]; simp⟩
theorem Nul.begE {S : V.SV} {n : Nat} (h : Nul S n) : S.begE [V.homeB] = 0 := by
  unfold V.SV.begE
  rw [V.beg_ops h.power]
  simp [h.power, V.valid_home]
theorem Nul.takes {S : V.SV} {n : Nat} (h : Nul S n) : V.takes S.names (V.kinds S) V.homeB = 0 := by
  unfold V.takes
  rw [h.names, V.look_empty]
  simp only
  rw [if_pos V.parent_home]
theorem Nul.safe {S : V.SV} {n : Nat} (h : Nul S n) (d : Nat) : V.Mt ((S.beg.made d V.homeB 2).beg.dirred ([] ++ [(V.homeB, d)])) (n + 2) d [] := by
  have hb := V.beg_ops h.power
  have hp2 : (S.beg.made d V.homeB 2).power = 0 := by rw [hb]; exact h.power
  have hb2 := V.beg_ops hp2
  rw [hb2, hb]
  refine ⟨?_, rfl, Or.inl ⟨rfl, rfl⟩, h.power, by simp, ?_, ?_, by simp, by simp, by simp, List.mem_cons_self, ?_, ?_, h.left, h.room, by simp⟩
  · show S.names ++ [(V.homeB, d)] = _; rw [h.names]; rfl
  · show (V.upd S.nd d _ d).kind = 2; rw [V.upd_same]; rfl
  · show (V.upd S.nd d _ d).now = []; rw [V.upd_same]; rfl
  · show 0 ≤ S.clock + 1 ∧ S.clock + 1 ≤ ((n + 2 : Nat) : Int); have := h.clock; omega
  · show 0 ≤ S.ops + 1 + 1 ∧ S.ops + 1 + 1 ≤ ((n + 2 : Nat) : Int); have := h.ops; omega
theorem made_fit {S : V.SV} {n : Nat} (h : Nul S n) (hn : n ≤ 10000) (d : Nat) : (S.beg.made d V.homeB 2).Fit ∧ (S.beg.made d V.homeB 2).power = 0 ∧ (S.beg.made d V.homeB 2).kept = [] ∧ (S.beg.made d V.homeB 2).acts = [⟨[], V.homeB, some d⟩] ∧ (S.beg.made d V.homeB 2).names = V.names4 d [] ∧ d ∈ (S.beg.made d V.homeB 2).ids := by
  have hb := V.beg_ops h.power
  rw [hb]
  refine ⟨⟨h.left, ?_, ?_, ?_, ?_⟩, h.power, h.kept, ?_, ?_, List.mem_cons_self⟩
  · show 0 ≤ S.ops + 1 ∧ S.ops + 1 ≤ 100000; have := h.ops; omega
  · show 0 ≤ S.clock + 1 ∧ S.clock + 1 ≤ 100000; have := h.clock; omega
  · show (S.names ++ _).length ≤ 10000; rw [h.names]; simp
  · show (S.acts ++ _).length ≤ 10000; rw [h.acts]; simp
  · show S.acts ++ _ = _; rw [h.acts]; rfl
  · show S.names ++ _ = _; rw [h.names]; rfl
def HmP (w : World) (sb ab : Nat) (S : V.SV) (L : Nat → Option V.Role) (w' : World) : Prop := ∃ d W' L', Arc w' sb ab (S.beg.made d V.homeB 2) W' L' 0 (.slice none 0 0) [] ∧ Mv w w' ab L L'
set_option maxRecDepth 100000 in
set_option maxHeartbeats 8000000 in
theorem makeHome_new {w : World} {sb ab : Nat} {S : V.SV} {W : V.SW} {L : Nat → Option V.Role} {n : Nat} (A : Arc w sb ab S W L 0 (.slice none 0 0) []) (h : Nul S n) (hn : n ≤ 10000) :
    Calls Tryz.prog 66 #[V.ptr ab] w fun e w' => e = .returned (.int .i64 0) ∧ HmP w sb ab S L w' := by
  have MK := Lib.hid (V.mkdir_of sb hT 0 w (V.add_ok sb S W L hT 2 w A.rep (h.fit hn) (by rw [hT_list]; exact h.begE) (by rw [hT_list]; exact h.takes) (by rw [hT_list, h.names]; rfl)))
  rw [hT_list] at MK
  have HA := Lib.hid A
  have HN := Lib.hid h
  have c0 := A.c.1
  clear A h
  unfold V.ptr at c0 MK ⊢
  unfold hT at MK
  go_enter Tryz.func66, Tryz.ntmps66
  go_wp2_with fail
  refine (MK.out).mono ?_
  rintro e w1 ⟨rfl, d, W1, L1, hd, r1, t1⟩
  have A1 := Lib.hid (HA.out.st r1 t1)
  have M1 := Lib.hid (Mv.of_st (ab := ab) t1)
  have MF := made_fit HN.out hn d
  have ST := Lib.hid (V.stat_some sb _ W1 L1 hT d w1 r1 (by have := MF.1.names; omega) (by rw [hT_list, MF.2.2.2.2.1]; exact V.look_home d []))
  obtain ⟨q0, q1, q2, q3, q4, hq⟩ : ∃ q0 q1 q2 q3 q4, V.statC hT.toList ((S.beg.made d V.homeB 2).nd d) = #[.string q0, .int .i64 q1, .int .i64 q2, .int .i64 q3, .int .u64 q4] := ⟨_, _, _, _, _, rfl⟩
  rw [hq] at ST
  have d0 := A1.out.c.1
  unfold V.ptr at ST d0
  unfold hT at ST
  clear hq MF r1 t1 MK c0 hd
  go_wp2_with fail
  refine (ST.out).mono ?_
  rintro e w2 ⟨rfl, e2⟩
  have ea : Ext w2 (w2.alloc (.cells #[.string ⟨#[]⟩, .int .i64 0, .int .i64 0, .int .i64 0, .int .u64 0] 40)) := Ext.alloc w2 _
  have aa := At.new w2 #[.string ⟨#[]⟩, .int .i64 0, .int .i64 0, .int .i64 0, .int .u64 0] 40
  have one : (#[.string q0, .int .i64 q1, .int .i64 q2, .int .i64 q3, .int .u64 q4] : Array Value).all (·.oneCell') = true := by simp [Value.oneCell']
  have sz : (Tryz.prog.info? 40).map (·.size) = some (#[.string q0, .int .i64 q1, .int .i64 q2, .int .i64 q3, .int .u64 q4] : Array Value).size := szStat
  have E3 := ext_only' ea (Only.setRow w2.heap.size _ #[.string q0, .int .i64 q1, .int .i64 q2, .int .i64 q3, .int .u64 q4]) (Nat.le_refl _)
  go_upto_region 3 with (refine wpList_store_row rfl 40 _ _ rfl w2.heap.size _ rfl rfl 40 _ aa sz rfl one ?_)
  clear ea aa sz one d0
  generalize (w2.alloc (.cells #[.string ⟨#[]⟩, .int .i64 0, .int .i64 0, .int .i64 0, .int .u64 0] 40)).setRow w2.heap.size #[.string q0, .int .i64 q1, .int .i64 q2, .int .i64 q3, .int .u64 q4] = w3 at *
  have EX := (ext_v e2).trans E3
  have F := Lib.hid (show HmP w sb ab S L w3 from ⟨d, W1, L1, A1.out.ext EX, M1.out.trans (Mv.of_ext EX)⟩)
  clear e2 E3 EX A1 M1 ST
  go_wp2
  go_ret
  exact ⟨rfl, F.out⟩
def InvZ (w3 : World) (i : Value) (wr : World) : Prop := ∃ k : Nat, k ≤ 3 ∧ i = .int .i64 k ∧ Ext w3 wr
def NwP (w : World) (sb ab n : Nat) (L : Nat → Option V.Role) (w' : World) : Prop := ∃ S' W' L' d, Arc w' sb ab S' W' L' 0 (.slice none 0 0) [] ∧ V.Mt S' n d [] ∧ Mv w w' ab L L'
set_option maxRecDepth 100000 in
set_option maxHeartbeats 8000000 in
theorem clear_new {w : World} {sb ab : Nat} {S : V.SV} {W : V.SW} {L : Nat → Option V.Role} {n d : Nat} (h : Nul S n) (hn : n ≤ 10000) (A : Arc w sb ab (S.beg.made d V.homeB 2) W L 0 (.slice none 0 0) []) :
    Calls Tryz.prog 67 #[V.ptr ab] w fun e w' => e = .returned (.int .i64 0) ∧ NwP w sb ab (n + 2) L w' := by
  have CO := Lib.hid (copies_any w)
  have MF := made_fit h hn d
  have ST := Lib.hid (fun w1 (e1 : Ext w w1) (k : Nat) (hk : k < 3) => V.stat_none sb _ W L (cpT k) w1 (A.rep.ext e1) (by have := MF.1.names; omega) (by rw [cpT_list, MF.2.2.2.2.1]; exact V.look_far d k hk))
  have SD := Lib.hid (fun w1 (e1 : Ext w w1) => V.syncdir_end [] sb _ W L V.homeB d w1 (A.rep.ext e1) MF.1 MF.2.1 MF.2.2.1 (by simp) rfl MF.2.2.2.1 MF.2.2.2.2.2)
  have HA := Lib.hid A
  have HN := Lib.hid (h.safe d)
  clear A h MF
  unfold V.ptr at ST SD ⊢
  unfold V.zstat at ST
  go_enter Tryz.func67, Tryz.ntmps67
  go_wp2_with fail
  refine (CO.out).mono ?_
  rintro e w3 ⟨rfl, rfl⟩
  have E3 := Lib.hid (Ext.alloc w (.cells #[.string (cpT 0), .string (cpT 1), .string (cpT 2)] 9))
  have C3 := Lib.hid (cps_new w)
  generalize w.alloc (.cells #[.string (cpT 0), .string (cpT 1), .string (cpT 2)] 9) = w3 at *
  obtain ⟨b3, hb3⟩ : ∃ b, b = w.heap.size := ⟨_, rfl⟩
  rw [← hb3] at C3 ⊢
  clear CO hb3
  go_wp2
  go_loopw [10] (fun i wr => InvZ w3 i wr) (fun i _ => 3 - (intOf i).toNat)
  case atStart => exact ⟨0, by omega, rfl, Ext.refl _⟩
  case round =>
    obtain ⟨k, hk, rfl, ex⟩ := hrel
    have EW := Lib.hid (E3.out.trans ex)
    have EX := Lib.hid ex
    by_cases hlt : k < 3
    · have i0 : (k : Int) < 3 := by omega
      have i1 : (0 : Int) ≤ (k : Int) := by omega
      have ck := ext_cell ex (C3.out.cell k k (by
        match k, hlt with
        | 0, _ => rfl
        | 1, _ => rfl
        | 2, _ => rfl))
      rw [Nat.zero_add] at ck
      have d0 := (HA.out.ext EW.out).c.1
      unfold V.ptr at d0
      have SK := Lib.hid (ST.out wr EW.out k hlt)
      clear ex
      go_wp2_with fail
      refine (SK.out).mono ?_
      rintro e w1 ⟨rfl, e1⟩
      have ea : Ext w1 (w1.alloc (.cells #[.string ⟨#[]⟩, .int .i64 0, .int .i64 0, .int .i64 0, .int .u64 0] 40)) := Ext.alloc w1 _
      have aa := At.new w1 #[.string ⟨#[]⟩, .int .i64 0, .int .i64 0, .int .i64 0, .int .u64 0] 40
      have one : (#[.string ⟨#[]⟩, .int .i64 0, .int .i64 0, .int .i64 0, .int .u64 0] : Array Value).all (·.oneCell') = true := by simp [Value.oneCell']
      have sz : (Tryz.prog.info? 40).map (·.size) = some (#[.string ⟨#[]⟩, .int .i64 0, .int .i64 0, .int .i64 0, .int .u64 0] : Array Value).size := szStat
      have E2 := ext_only' ea (Only.setRow w1.heap.size _ #[.string ⟨#[]⟩, .int .i64 0, .int .i64 0, .int .i64 0, .int .u64 0]) (Nat.le_refl _)
      have A2 : At ((w1.alloc (.cells #[.string ⟨#[]⟩, .int .i64 0, .int .i64 0, .int .i64 0, .int .u64 0] 40)).setRow w1.heap.size #[.string ⟨#[]⟩, .int .i64 0, .int .i64 0, .int .i64 0, .int .u64 0]) w1.heap.size #[.string ⟨#[]⟩, .int .i64 0, .int .i64 0, .int .i64 0, .int .u64 0] 40 := aa.row _
      go_upto_region 5 with (refine wpList_store_row rfl 40 _ _ rfl w1.heap.size _ rfl rfl 40 _ aa sz rfl one ?_)
      clear ea aa sz one d0 ck
      generalize (w1.alloc (.cells #[.string ⟨#[]⟩, .int .i64 0, .int .i64 0, .int .i64 0, .int .u64 0] 40)).setRow w1.heap.size #[.string ⟨#[]⟩, .int .i64 0, .int .i64 0, .int .i64 0, .int .u64 0] = w2 at *
      obtain ⟨g2, hg2⟩ : ∃ g, g = w1.heap.size := ⟨_, rfl⟩
      rw [← hg2] at A2 ⊢
      have f1 := A2.cell 1
      have F := Lib.hid ((EX.out.trans (ext_v e1)).trans E2)
      clear e1 E2 A2 hg2
      go_wp2
      exact ⟨⟨k + 1, by omega, by go_num, F.out⟩, by simp [intOf]; omega⟩
    · have d1 : decide ((k : Int) < 3) = false := by simp; omega
      obtain rfl : k = 3 := by omega
      have d0 := (HA.out.ext EW.out).c.1
      unfold V.ptr at d0
      have SK := Lib.hid (SD.out wr EW.out)
      clear ex hlt
      go_wp2_with fail
      refine (SK.out).mono ?_
      rintro e w1 ⟨rfl, W1, L1, r1, t1⟩
      have F := Lib.hid (show NwP w sb ab (n + 2) L w1 from ⟨_, W1, L1, d, (HA.out.ext EW.out).st r1 t1, HN.out, (Mv.of_ext EW.out).trans (Mv.of_st t1)⟩)
      clear r1 t1 SK d0
      go_wp2
      go_ret
      exact ⟨rfl, F.out⟩
end Go.Proofs.YtnhokjnmpdiokaaGreatDoor
