/- Open on a store that has the directory and no copies. No conditions: contracts. -/
import Derived.Test.YtnhokjnmpdiokaaGreatDoorKg
namespace Go.Proofs.YtnhokjnmpdiokaaGreatDoor
open Go.RowKit Go.Sha Go.Pth
set_option linter.unusedSimpArgs false
set_option linter.unusedVariables false

theorem cpT_two (k : Nat) (h : 2 ≤ k) : (cpT k).toList = V.cpB 2 := by
  rw [cpT_list]
  unfold V.cpB
  have h0 : k ≠ 0 := by omega
  have h1 : k ≠ 1 := by omega
  simp [h0, h1]
theorem look_cps {S : V.SV} {n d : Nat} (h : V.Mt S n d []) (k : Nat) : V.look S.names (cpT k).toList = none := by
  rw [h.names]
  rcases Nat.lt_or_ge k 3 with q | q
  · rw [cpT_list]; exact V.look_far d k q
  · rw [cpT_two k (by omega)]; exact V.look_far d 2 (by omega)
set_option maxRecDepth 100000 in
set_option maxHeartbeats 16000000 in
theorem voted_none (sb : Nat) (S : V.SV) (W : V.SW) (L : Nat → Option V.Role) (w : World) (h : V.Rep w sb S W L) (hn : S.names.length ≤ 1000000) (hlk : ∀ k, V.look S.names (cpT k).toList = none) (hK : KAt w) :
    Calls Tryz.prog 42 #[V.ptr sb] w fun e w' => ∃ ab, e = .returned (.tuple #[V.ptr ab, .int .i64 0]) ∧ Ext w w' ∧ w.heap.size ≤ ab ∧ V.At w' ab (acell sb 0 (.slice none 0 0) false) 68 := by
  have CO := Lib.hid (copies_any w)
  have HK := Lib.hid hK
  have RD := Lib.hid (fun w1 (e1 : Ext w w1) (k : Nat) => read_not sb S W L (cpT k) w1 (h.ext e1) hn (hlk k))
  clear h hn hK hlk
  unfold V.ptr at RD ⊢
  go_enter Tryz.func42, Tryz.ntmps42
  go_wp2_with fail
  refine (CO.out).mono ?_
  rintro e w3 ⟨rfl, rfl⟩
  have E3 := Lib.hid (Ext.alloc w (.cells #[.string (cpT 0), .string (cpT 1), .string (cpT 2)] 9))
  have C3 := Lib.hid (cps_new w)
  generalize w.alloc (.cells #[.string (cpT 0), .string (cpT 1), .string (cpT 2)] 9) = w3 at *
  obtain ⟨b3, hb3⟩ : ∃ b, b = w.heap.size := ⟨_, rfl⟩
  rw [← hb3] at C3 ⊢
  clear CO hb3
  go_wp2
  go_loopw [4, 5, 17] (fun v t i wr => InvVt w3 v t i wr) (fun _ _ i _ => 3 - (intOf i).toNat)
  case atStart => exact ⟨0, by omega, rfl, rfl, OwnG.nil _ _ _ _ _, Ext.refl _⟩
  case round =>
    obtain ⟨k, hk, rfl, rfl, ow, ex⟩ := hrel
    obtain ⟨adl, capl, el⟩ := ow.len
    rw [List.length_replicate] at el
    subst el
    by_cases hlt : k < 3
    · have i0 : (k : Int) < 3 := by omega
      have i1 : (0 : Int) ≤ (k : Int) := by omega
      have ck := ext_cell ex (C3.out.cell k k (by
        match k, hlt with
        | 0, _ => rfl
        | 1, _ => rfl
        | 2, _ => rfl))
      rw [Nat.zero_add] at ck
      have RK := Lib.hid (RD.out wr (E3.out.trans ex) k)
      have OW := Lib.hid ow
      have EX := Lib.hid ex
      clear ow ex
      go_wp2_with fail
      refine (RK.out).mono ?_
      rintro e w4 ⟨rfl, e4⟩
      have OF := Lib.hid (ofAn_nil w4 (HK.out.below ((E3.out.trans EX.out).trans e4) HK.out.lt))
      have E4 := Lib.hid e4
      clear e4 RK ck
      go_wp2_with fail
      refine (OF.out).mono ?_
      rintro e w5 ⟨rfl, e5⟩
      have E5 := Lib.hid (E4.out.trans e5)
      have OW5 := Lib.hid (own_one src_kept (OwnG.ext src_kept OW.out E5.out) (.slice none 0 0) 50)
      have SY := Lib.hid (show ∀ bh, ((fun _ => False) bh ∨ (.slice adl k capl : Value).ownBlock = some bh ∨ (w5.alloc (.cells #[.slice none 0 0] 50)).heap.size ≤ bh) → Sha.Src (w5.alloc (.cells #[.slice none 0 0] 50)) (.slice none 0 0) [] bh from fun bh _ => src_nil _ bh)
      have HB := Lib.hid (show w3.heap.size ≤ (w5.alloc (.cells #[.slice none 0 0] 50)).heap.size by have := EX.out.size; have := E5.out.size; rw [V.size_alloc]; omega)
      clear e5 OF
      go_wp2_with (refine list_append_g src_kept rfl (.tmp 31) (.tmp 34) 115 rfl (.slice none 0 0) 24 Tryz.underlying115 slzero rfl (by omega) w3.heap.size _ (List.replicate k nilP) _ rfl OW5.out w5.heap.size 1 _ [] rfl (cell_one w5 _ 50) rfl SY.out (by rw [List.length_replicate]; omega) HB.out ?_; intro v6 w6 o6 b6)
      refine ⟨⟨k + 1, by omega, by go_num, rfl, ?_, ?_⟩, by simp [intOf]; omega⟩
      · rw [List.replicate_succ']; exact o6
      · exact Below.trans (EX.out.trans (E5.out.trans (Ext.alloc w5 (.cells #[.slice none 0 0] 50)))) b6
    · have d0 : decide ((k : Int) < 3) = false := by simp; omega
      obtain rfl : k = 3 := by omega
      obtain ⟨g, hg, hf⟩ : ∃ g, adl = some ⟨g, 0, none⟩ ∧ ∀ j, j < 3 → wr.cell? ⟨g, j, none⟩ = some (.slice none 0 0) := by
        obtain ⟨⟨_, ⟨hv, h0⟩ | ⟨g, cap, cur, hv, hg, hw, hn, _, _, hx⟩⟩, _⟩ := ow
        · simp at h0
        · injection hv with hv
          refine ⟨g, hv, fun j hj => ?_⟩
          have hw' : wr.heap[g]? = some (.cells cur 50 (0, 0)) := hw
          have e : cur.toList[j]? = some (.slice none 0 0) := by
            rw [← List.getElem?_take_of_lt (by rw [List.length_replicate]; omega : j < (List.replicate 3 nilP).length * 1), hx, List.getElem?_map, List.getElem?_replicate]
            simp [hj, nilP]
          simp only [World.cell?, hw']
          rw [← Array.getElem?_toList, e]
          rfl
      subst hg
      have f0 := hf 0 (by omega)
      have f1 := hf 1 (by omega)
      have f2 := hf 2 (by omega)
      have EX := Lib.hid (E3.out.trans ex)
      have KR := HK.out.below (E3.out.trans ex) HK.out.lt
      have VT := Lib.hid (fun w1 (e1 : Ext wr w1) => ((vote_any (.slice none 0 0) (.slice none 0 0) (.slice none 0 0) [] [] [] w1 (KR.below e1 KR.lt) (src_nil _ _) (src_nil _ _) (src_nil _ _) ⟨⟨byt_nil, by simp⟩, ⟨byt_nil, by simp⟩, ⟨byt_nil, by simp⟩⟩).mono fun e w' ⟨_, hv⟩ => (by
        obtain ⟨vb, vm, h1, e5, sb5, _⟩ := hv (by rw [voteP_nil]; decide)
        obtain ⟨adb, capb, eb⟩ := sb5.len
        simp only [List.length_nil] at eb
        subst eb
        exact ⟨_, h1, adb, capb, vm, rfl, e5, sb5⟩ : ∃ v, e = Ending.returned v ∧ ∃ adb capb vm, v = (Value.tuple #[.agg #[.int .i64 0, .slice adb 0 capb], vm, .int .i64 10]) ∧ Ext w1 w' ∧ Sha.Src w' (.slice adb 0 capb) [] w'.heap.size)))
      clear ow ex hf hlt KR RD
      go_upto_region 11 with fail
      refine wp_region_held (S := Ext wr) (by kernel_rfl) ?_
      change wpAnyH _ _ _ _ _ _ _ _ wr.drew
      have S0 : Ext wr wr.drew := Below.drew (Below.refl _ _)
      generalize wr.drew = W at *
      refine takeS 0 (some 38) (.slice (some ⟨g, 0, none⟩) 3 capl) rfl rfl (by kernel_rfl) (by kernel_rfl) (by kernel_rfl) (fun _ _ _ h => h) rfl S0 (fun w' hw' => by go_simp) ?_
      simp only [Act.put, List.setIfInBounds_toArray, List.set_cons_zero, List.set_cons_succ]
      refine takeS 1 (some 39) (.pointer (some ⟨g, 0, none⟩)) rfl rfl (by kernel_rfl) (by kernel_rfl) (by kernel_rfl) (fun _ _ _ h => h) rfl S0 (fun w' hw' => by go_simp) ?_
      simp only [Act.put, List.setIfInBounds_toArray, List.set_cons_zero, List.set_cons_succ]
      refine takeS 2 (some 40) (.slice none 0 0) rfl rfl (by kernel_rfl) (by kernel_rfl) (by kernel_rfl) (fun _ _ _ h => h) rfl S0 (fun w' hw' => by have cc := ext_cell hw' f0; go_simp) ?_
      simp only [Act.put, List.setIfInBounds_toArray, List.set_cons_zero, List.set_cons_succ]
      refine takeS 3 (some 41) (.slice (some ⟨g, 0, none⟩) 3 capl) rfl rfl (by kernel_rfl) (by kernel_rfl) (by kernel_rfl) (fun _ _ _ h => h) rfl S0 (fun w' hw' => by go_simp) ?_
      simp only [Act.put, List.setIfInBounds_toArray, List.set_cons_zero, List.set_cons_succ]
      refine takeS 4 (some 42) (.pointer (some ⟨g, 1, none⟩)) rfl rfl (by kernel_rfl) (by kernel_rfl) (by kernel_rfl) (fun _ _ _ h => h) rfl S0 (fun w' hw' => by go_simp) ?_
      simp only [Act.put, List.setIfInBounds_toArray, List.set_cons_zero, List.set_cons_succ]
      refine takeS 5 (some 43) (.slice none 0 0) rfl rfl (by kernel_rfl) (by kernel_rfl) (by kernel_rfl) (fun _ _ _ h => h) rfl S0 (fun w' hw' => by have cc := ext_cell hw' f1; go_simp) ?_
      simp only [Act.put, List.setIfInBounds_toArray, List.set_cons_zero, List.set_cons_succ]
      refine takeS 6 (some 44) (.slice (some ⟨g, 0, none⟩) 3 capl) rfl rfl (by kernel_rfl) (by kernel_rfl) (by kernel_rfl) (fun _ _ _ h => h) rfl S0 (fun w' hw' => by go_simp) ?_
      simp only [Act.put, List.setIfInBounds_toArray, List.set_cons_zero, List.set_cons_succ]
      refine takeS 7 (some 45) (.pointer (some ⟨g, 2, none⟩)) rfl rfl (by kernel_rfl) (by kernel_rfl) (by kernel_rfl) (fun _ _ _ h => h) rfl S0 (fun w' hw' => by go_simp) ?_
      simp only [Act.put, List.setIfInBounds_toArray, List.set_cons_zero, List.set_cons_succ]
      refine takeS 8 (some 46) (.slice none 0 0) rfl rfl (by kernel_rfl) (by kernel_rfl) (by kernel_rfl) (fun _ _ _ h => h) rfl S0 (fun w' hw' => by have cc := ext_cell hw' f2; go_simp) ?_
      simp only [Act.put, List.setIfInBounds_toArray, List.set_cons_zero, List.set_cons_succ]
      refine nextTwo 9 14 rfl rfl (by kernel_rfl) rfl rfl ?_ ?_
      · refine callS (some 47) rfl 64 #[.slice none 0 0, .slice none 0 0, .slice none 0 0] (by go_simp) (fun v w' => ∃ adb capb vm, v = (.tuple #[.agg #[.int .i64 0, .slice adb 0 capb], vm, .int .i64 10]) ∧ Ext W w' ∧ Sha.Src w' (.slice adb 0 capb) [] w'.heap.size) (VT.out W S0) ?_
        rintro v1 W1 ⟨adb, capb, vm, rfl, e1, s1⟩
        simp only [Act.put, List.setIfInBounds_toArray, List.set_cons_zero, List.set_cons_succ]
        have S1 := S0.trans e1
        refine ⟨S1, ?_⟩
        refine takeS 10 (some 37) (.tuple #[.agg #[.int .i64 0, .slice adb 0 capb], vm, .int .i64 10]) rfl rfl (by kernel_rfl) (by kernel_rfl) (by kernel_rfl) (fun _ _ _ h => h) rfl S1 (fun w' hw' => by go_simp) ?_
        simp only [Act.put, List.setIfInBounds_toArray, List.set_cons_zero, List.set_cons_succ]
        refine takeS 11 (some 48) (.agg #[.int .i64 0, .slice adb 0 capb]) rfl rfl (by kernel_rfl) (by kernel_rfl) (by kernel_rfl) (fun _ _ _ h => h) rfl S1 (fun w' hw' => by go_simp) ?_
        simp only [Act.put, List.setIfInBounds_toArray, List.set_cons_zero, List.set_cons_succ]
        refine takeS 12 (some 49) vm rfl rfl (by kernel_rfl) (by kernel_rfl) (by kernel_rfl) (fun _ _ _ h => h) rfl S1 (fun w' hw' => by go_simp) ?_
        simp only [Act.put, List.setIfInBounds_toArray, List.set_cons_zero, List.set_cons_succ]
        refine takeS 13 (some 50) (.int .i64 10) rfl rfl (by kernel_rfl) (by kernel_rfl) (by kernel_rfl) (fun _ _ _ h => h) rfl S1 (fun w' hw' => by go_simp) ?_
        simp only [Act.put, List.setIfInBounds_toArray, List.set_cons_zero, List.set_cons_succ]
        have one : (#[.int .i64 0, .slice adb 0 capb] : Array Value).all (·.oneCell') = true := by simp [Value.oneCell']
        have sz : (Tryz.prog.info? 108).map (·.size) = some (#[.int .i64 0, .slice adb 0 capb] : Array Value).size := szPage
        refine nextS 14 rfl (by kernel_rfl) rfl (makeS (some 10) rfl (.pointer (some ⟨W1.heap.size, 0, none⟩)) (w1 := W1.alloc (.cells #[.int .i64 0, .slice none 0 0] 108)) (by go_simp) ?_)
        simp only [Act.put, List.setIfInBounds_toArray, List.set_cons_zero, List.set_cons_succ]
        have S2 : Ext wr (W1.alloc (.cells #[.int .i64 0, .slice none 0 0] 108)) := S1.trans (Ext.alloc _ _)
        have aa := At.new W1 #[.int .i64 0, .slice none 0 0] 108
        have hsz := S1.size
        refine ⟨S2, ?_⟩
        refine nextS 15 rfl (by kernel_rfl) rfl (wp_store_row 108 (.tmp 10) (.tmp 48) rfl W1.heap.size _ rfl rfl 108 _ aa sz rfl one ?_)
        have E6 : Ext wr ((W1.alloc (.cells #[.int .i64 0, .slice none 0 0] 108)).setRow W1.heap.size #[.int .i64 0, .slice adb 0 capb]) := ext_only' S2 (Only.setRow W1.heap.size _ #[.int .i64 0, .slice adb 0 capb]) hsz
        have A6 : At ((W1.alloc (.cells #[.int .i64 0, .slice none 0 0] 108)).setRow W1.heap.size #[.int .i64 0, .slice adb 0 capb]) W1.heap.size #[.int .i64 0, .slice adb 0 capb] 108 := aa.row _
        refine ⟨E6, ?_⟩
        refine takeS 16 (some 11) vm rfl rfl (by kernel_rfl) (by kernel_rfl) (by kernel_rfl) (fun _ _ _ h => h) rfl E6 (fun w' hw' => by go_simp) ?_
        simp only [Act.put, List.setIfInBounds_toArray, List.set_cons_zero, List.set_cons_succ]
        refine takeS 17 (some 12) (.int .i64 10) rfl rfl (by kernel_rfl) (by kernel_rfl) (by kernel_rfl) (fun _ _ _ h => h) rfl E6 (fun w' hw' => by go_simp) ?_
        simp only [Act.put, List.setIfInBounds_toArray, List.set_cons_zero, List.set_cons_succ]
        refine wpAnyH_done (by kernel_rfl) ?_ _
        generalize (W1.alloc (.cells #[.int .i64 0, .slice none 0 0] 108)).setRow W1.heap.size #[.int .i64 0, .slice adb 0 capb] = w6 at *
        have SB := Lib.hid (src_empty adb capb W1 w6 s1)
        generalize hg6 : W1.heap.size = g6 at *
        have q1 := A6.cell 1
        have A6H := Lib.hid A6
        have RO := Lib.hid (refsOf_nil adb capb w6 SB.out)
        have EX6 := Lib.hid (EX.out.trans E6)
        clear E6 A6 SB S2 aa one sz S1 s1 e1 f0 f1 f2 VT hg6 hsz S0
        go_wp2_with fail
        refine (RO.out).mono ?_
        rintro e w7 ⟨rfl, e7⟩
        have q0 := (at_ext A6H.out e7).cell 0
        have E7 := Lib.hid (EX6.out.trans e7)
        clear e7 RO q1
        go_wp2
        go_ret2
        refine ⟨w7.heap.size, rfl, E7.out.trans (Ext.alloc _ _), E7.out.size, ?_⟩
        exact V.At.new w7 (acell sb 0 (.slice none 0 0) false) 68
      · refine makeS (some 10) rfl (.pointer (some ⟨W.heap.size, 0, none⟩)) (w1 := W.alloc (.cells #[.int .i64 0, .slice none 0 0] 108)) (by go_simp) ?_
        simp only [Act.put, List.setIfInBounds_toArray, List.set_cons_zero, List.set_cons_succ]
        have S1 : Ext wr (W.alloc (.cells #[.int .i64 0, .slice none 0 0] 108)) := S0.trans (Ext.alloc _ _)
        have a0 := At.new W #[.int .i64 0, .slice none 0 0] 108
        refine ⟨S1, ?_⟩
        refine nextS 9 rfl (by kernel_rfl) rfl (callS (some 47) rfl 64 #[.slice none 0 0, .slice none 0 0, .slice none 0 0] (by go_simp) (fun v w' => ∃ adb capb vm, v = (.tuple #[.agg #[.int .i64 0, .slice adb 0 capb], vm, .int .i64 10]) ∧ Ext (W.alloc (.cells #[.int .i64 0, .slice none 0 0] 108)) w' ∧ Sha.Src w' (.slice adb 0 capb) [] w'.heap.size) (VT.out (W.alloc (.cells #[.int .i64 0, .slice none 0 0] 108)) S1) ?_)
        rintro v1 W1 ⟨adb, capb, vm, rfl, e1, s1⟩
        simp only [Act.put, List.setIfInBounds_toArray, List.set_cons_zero, List.set_cons_succ]
        have S2 := S1.trans e1
        have aa := at_ext a0 e1
        have hsz := S0.size
        refine ⟨S2, ?_⟩
        refine takeS 10 (some 37) (.tuple #[.agg #[.int .i64 0, .slice adb 0 capb], vm, .int .i64 10]) rfl rfl (by kernel_rfl) (by kernel_rfl) (by kernel_rfl) (fun _ _ _ h => h) rfl S2 (fun w' hw' => by go_simp) ?_
        simp only [Act.put, List.setIfInBounds_toArray, List.set_cons_zero, List.set_cons_succ]
        refine takeS 11 (some 48) (.agg #[.int .i64 0, .slice adb 0 capb]) rfl rfl (by kernel_rfl) (by kernel_rfl) (by kernel_rfl) (fun _ _ _ h => h) rfl S2 (fun w' hw' => by go_simp) ?_
        simp only [Act.put, List.setIfInBounds_toArray, List.set_cons_zero, List.set_cons_succ]
        refine takeS 12 (some 49) vm rfl rfl (by kernel_rfl) (by kernel_rfl) (by kernel_rfl) (fun _ _ _ h => h) rfl S2 (fun w' hw' => by go_simp) ?_
        simp only [Act.put, List.setIfInBounds_toArray, List.set_cons_zero, List.set_cons_succ]
        refine takeS 13 (some 50) (.int .i64 10) rfl rfl (by kernel_rfl) (by kernel_rfl) (by kernel_rfl) (fun _ _ _ h => h) rfl S2 (fun w' hw' => by go_simp) ?_
        simp only [Act.put, List.setIfInBounds_toArray, List.set_cons_zero, List.set_cons_succ]
        have one : (#[.int .i64 0, .slice adb 0 capb] : Array Value).all (·.oneCell') = true := by simp [Value.oneCell']
        have sz : (Tryz.prog.info? 108).map (·.size) = some (#[.int .i64 0, .slice adb 0 capb] : Array Value).size := szPage
        refine nextS 15 rfl (by kernel_rfl) rfl (wp_store_row 108 (.tmp 10) (.tmp 48) rfl W.heap.size _ rfl rfl 108 _ aa sz rfl one ?_)
        have E6 : Ext wr (W1.setRow W.heap.size #[.int .i64 0, .slice adb 0 capb]) := ext_only' S2 (Only.setRow W.heap.size _ #[.int .i64 0, .slice adb 0 capb]) hsz
        have A6 : At (W1.setRow W.heap.size #[.int .i64 0, .slice adb 0 capb]) W.heap.size #[.int .i64 0, .slice adb 0 capb] 108 := aa.row _
        refine ⟨E6, ?_⟩
        refine takeS 16 (some 11) vm rfl rfl (by kernel_rfl) (by kernel_rfl) (by kernel_rfl) (fun _ _ _ h => h) rfl E6 (fun w' hw' => by go_simp) ?_
        simp only [Act.put, List.setIfInBounds_toArray, List.set_cons_zero, List.set_cons_succ]
        refine takeS 17 (some 12) (.int .i64 10) rfl rfl (by kernel_rfl) (by kernel_rfl) (by kernel_rfl) (fun _ _ _ h => h) rfl E6 (fun w' hw' => by go_simp) ?_
        simp only [Act.put, List.setIfInBounds_toArray, List.set_cons_zero, List.set_cons_succ]
        refine wpAnyH_done (by kernel_rfl) ?_ _
        generalize W1.setRow W.heap.size #[.int .i64 0, .slice adb 0 capb] = w6 at *
        have SB := Lib.hid (src_empty adb capb W1 w6 s1)
        generalize hg6 : W.heap.size = g6 at *
        have q1 := A6.cell 1
        have A6H := Lib.hid A6
        have RO := Lib.hid (refsOf_nil adb capb w6 SB.out)
        have EX6 := Lib.hid (EX.out.trans E6)
        clear E6 A6 SB S2 aa a0 one sz S1 s1 e1 f0 f1 f2 VT hg6 hsz S0
        go_wp2_with fail
        refine (RO.out).mono ?_
        rintro e w7 ⟨rfl, e7⟩
        have q0 := (at_ext A6H.out e7).cell 0
        have E7 := Lib.hid (EX6.out.trans e7)
        clear e7 RO q1
        go_wp2
        go_ret2
        refine ⟨w7.heap.size, rfl, E7.out.trans (Ext.alloc _ _), E7.out.size, ?_⟩
        exact V.At.new w7 (acell sb 0 (.slice none 0 0) false) 68
set_option maxRecDepth 100000 in
set_option maxHeartbeats 8000000 in
theorem clear_none {w : World} {sb ab : Nat} {S : V.SV} {W : V.SW} {L : Nat → Option V.Role} {n d : Nat} (h : V.Mt S n d []) (hn : n ≤ 10000) (A : Arc w sb ab S W L 0 (.slice none 0 0) []) :
    Calls Tryz.prog 67 #[V.ptr ab] w fun e w' => e = .returned (.int .i64 0) ∧ NwP w sb ab (n + 1) L w' := by
  have CO := Lib.hid (copies_any w)
  have MF := h.fit (by omega)
  have ST := Lib.hid (fun w1 (e1 : Ext w w1) (k : Nat) (hk : k < 3) => V.stat_none sb _ W L (cpT k) w1 (A.rep.ext e1) (by have := MF.names; omega) (look_cps h k))
  have SD := Lib.hid (fun w1 (e1 : Ext w w1) => V.syncdir_none sb S W L w1 (A.rep.ext e1) MF h.power (h.acts.elim (fun q => q.2) fun q => by obtain ⟨a, q, _⟩ := q; simp at q))
  have HA := Lib.hid A
  have HN := Lib.hid (show V.Mt (S.beg.dirred S.kept) (n + 1) d [] by have q := h.safe; have e : S.kept = V.names4 d [] := h.kept; rw [e]; exact q)
  clear A h MF
  unfold V.ptr at ST SD ⊢
  unfold V.zstat at ST
  go_enter Tryz.func67, Tryz.ntmps67
  go_wp2_with fail
  refine (CO.out).mono ?_
  rintro e w3 ⟨rfl, rfl⟩
  have E3 := Lib.hid (Ext.alloc w (.cells #[.string (cpT 0), .string (cpT 1), .string (cpT 2)] 9))
  have C3 := Lib.hid (cps_new w)
  generalize w.alloc (.cells #[.string (cpT 0), .string (cpT 1), .string (cpT 2)] 9) = w3 at *
  obtain ⟨b3, hb3⟩ : ∃ b, b = w.heap.size := ⟨_, rfl⟩
  rw [← hb3] at C3 ⊢
  clear CO hb3
  go_wp2
  go_loopw [10] (fun i wr => InvZ w3 i wr) (fun i _ => 3 - (intOf i).toNat)
  case atStart => exact ⟨0, by omega, rfl, Ext.refl _⟩
  case round =>
    obtain ⟨k, hk, rfl, ex⟩ := hrel
    have EW := Lib.hid (E3.out.trans ex)
    have EX := Lib.hid ex
    by_cases hlt : k < 3
    · have i0 : (k : Int) < 3 := by omega
      have i1 : (0 : Int) ≤ (k : Int) := by omega
      have ck := ext_cell ex (C3.out.cell k k (by
        match k, hlt with
        | 0, _ => rfl
        | 1, _ => rfl
        | 2, _ => rfl))
      rw [Nat.zero_add] at ck
      have d0 := (HA.out.ext EW.out).c.1
      unfold V.ptr at d0
      have SK := Lib.hid (ST.out wr EW.out k hlt)
      clear ex
      go_wp2_with fail
      refine (SK.out).mono ?_
      rintro e w1 ⟨rfl, e1⟩
      have ea : Ext w1 (w1.alloc (.cells #[.string ⟨#[]⟩, .int .i64 0, .int .i64 0, .int .i64 0, .int .u64 0] 40)) := Ext.alloc w1 _
      have aa := At.new w1 #[.string ⟨#[]⟩, .int .i64 0, .int .i64 0, .int .i64 0, .int .u64 0] 40
      have one : (#[.string ⟨#[]⟩, .int .i64 0, .int .i64 0, .int .i64 0, .int .u64 0] : Array Value).all (·.oneCell') = true := by simp [Value.oneCell']
      have sz : (Tryz.prog.info? 40).map (·.size) = some (#[.string ⟨#[]⟩, .int .i64 0, .int .i64 0, .int .i64 0, .int .u64 0] : Array Value).size := szStat
      have E2 := ext_only' ea (Only.setRow w1.heap.size _ #[.string ⟨#[]⟩, .int .i64 0, .int .i64 0, .int .i64 0, .int .u64 0]) (Nat.le_refl _)
      have A2 : At ((w1.alloc (.cells #[.string ⟨#[]⟩, .int .i64 0, .int .i64 0, .int .i64 0, .int .u64 0] 40)).setRow w1.heap.size #[.string ⟨#[]⟩, .int .i64 0, .int .i64 0, .int .i64 0, .int .u64 0]) w1.heap.size #[.string ⟨#[]⟩, .int .i64 0, .int .i64 0, .int .i64 0, .int .u64 0] 40 := aa.row _
      go_upto_region 5 with (refine wpList_store_row rfl 40 _ _ rfl w1.heap.size _ rfl rfl 40 _ aa sz rfl one ?_)
      clear ea aa sz one d0 ck
      generalize (w1.alloc (.cells #[.string ⟨#[]⟩, .int .i64 0, .int .i64 0, .int .i64 0, .int .u64 0] 40)).setRow w1.heap.size #[.string ⟨#[]⟩, .int .i64 0, .int .i64 0, .int .i64 0, .int .u64 0] = w2 at *
      obtain ⟨g2, hg2⟩ : ∃ g, g = w1.heap.size := ⟨_, rfl⟩
      rw [← hg2] at A2 ⊢
      have f1 := A2.cell 1
      have F := Lib.hid ((EX.out.trans (ext_v e1)).trans E2)
      clear e1 E2 A2 hg2
      go_wp2
      exact ⟨⟨k + 1, by omega, by go_num, F.out⟩, by simp [intOf]; omega⟩
    · have d1 : decide ((k : Int) < 3) = false := by simp; omega
      obtain rfl : k = 3 := by omega
      have d0 := (HA.out.ext EW.out).c.1
      unfold V.ptr at d0
      have SK := Lib.hid (SD.out wr EW.out)
      clear ex hlt
      go_wp2_with fail
      refine (SK.out).mono ?_
      rintro e w1 ⟨rfl, W1, L1, r1, t1⟩
      have F := Lib.hid (show NwP w sb ab (n + 1) L w1 from ⟨_, W1, L1, d, (HA.out.ext EW.out).st r1 t1, HN.out, (Mv.of_ext EW.out).trans (Mv.of_st t1)⟩)
      clear r1 t1 SK d0
      go_wp2
      go_ret
      exact ⟨rfl, F.out⟩
set_option maxRecDepth 100000 in
set_option maxHeartbeats 8000000 in
theorem settle_none {w : World} {sb ab : Nat} {S : V.SV} {W : V.SW} {L : Nat → Option V.Role} {n d : Nat} (A : Arc w sb ab S W L 0 (.slice none 0 0) []) (h : V.Mt S n d []) (hn : n ≤ 9000) :
    Calls Tryz.prog 43 #[V.ptr ab] w fun e w' => e = .returned (.int .i64 0) ∧ NwP w sb ab (n + 2) L w' := by
  have MH := Lib.hid (makeHome_there A h (by omega))
  have CL := Lib.hid (fun (w1 : World) (A1 : Arc w1 sb ab S.beg W L 0 (.slice none 0 0) []) => clear_none h.beg (by omega) A1)
  clear A h
  unfold V.ptr at MH CL ⊢
  go_enter Tryz.func43, Tryz.ntmps43
  go_wp2_with fail
  refine (MH.out).mono ?_
  rintro e w1 ⟨rfl, A1, M1⟩
  have c1 : w1.cell? ⟨ab, 1, none⟩ = some (.int .i64 0) := A1.c.2.1
  have CK := Lib.hid (CL.out w1 A1)
  have HM1 := Lib.hid M1
  clear A1 M1 MH CL
  go_wp2_with fail
  refine (CK.out).mono ?_
  rintro e w2 ⟨rfl, S2, W2, L2, d2, A2, MD2, M2⟩
  have SC := Lib.hid (scrub_zero A2)
  have H2 := Lib.hid (And.intro A2 (And.intro MD2 (HM1.out.trans M2)))
  unfold V.ptr at SC
  clear A2 MD2 M2 CK c1
  go_wp2_with fail
  refine (SC.out).mono ?_
  rintro e w3 ⟨rfl, e3⟩
  have F := Lib.hid (show NwP w sb ab (n + 2) L w3 from ⟨S2, W2, L2, d2, H2.out.1.ext e3, H2.out.2.1, H2.out.2.2.trans (Mv.of_ext e3)⟩)
  clear e3 SC
  go_wp2
  go_ret
  exact ⟨rfl, F.out⟩
set_option maxRecDepth 100000 in
set_option maxHeartbeats 8000000 in
theorem open_none {w0 w : World} {sb : Nat} {S : V.SV} {W : V.SW} {L : Nat → Option V.Role} {n d : Nat} (r : V.Rep w sb S W L) (h : V.Mt S n d []) (hn : n ≤ 9000) (hK : KAt w) (e0 : Ext w0 w) (hL : ∀ i, L i ≠ none → w0.heap.size ≤ i) :
    Calls Tryz.prog 19 #[V.ptr sb] w fun e w' => ∃ ab, e = .returned (.tuple #[V.ptr ab, .int .i64 0]) ∧ FrP w0 (n + 2) w' sb ab := by
  have VO := Lib.hid (voted_none sb S W L w r (by have := (h.fit (by omega)).names; omega) (look_cps h) hK)
  have HR := Lib.hid r
  have HN := Lib.hid h
  have HL := Lib.hid hL
  have H0 := Lib.hid e0
  clear r h hK e0 hL
  unfold V.ptr at VO ⊢
  go_enter Tryz.func19, Tryz.ntmps19
  go_wp2_with fail
  refine (VO.out).mono ?_
  rintro e w1 ⟨ab, rfl, e1, hab, a1⟩
  have A1 : Arc w1 sb ab S W L 0 (.slice none 0 0) [] := ⟨HR.out.ext e1, by
    cases e : L ab with
    | none => rfl
    | some q => have := HR.out.lt ab (by rw [e]; simp); omega, a1, RR.nil _ _⟩
  have ST := Lib.hid (settle_none A1 HN.out hn)
  have HAB := Lib.hid (And.intro hab e1)
  unfold V.ptr at ST
  clear A1 VO hab e1 a1
  go_wp2_with fail
  refine (ST.out).mono ?_
  rintro e w2 ⟨rfl, S2, W2, L2, d, A2, MD2, M2⟩
  have F := Lib.hid (show FrP w0 (n + 2) w2 sb ab from by
    have hs := H0.out.size
    have hs1 := HAB.out.2.size
    have hl := HAB.out.1
    have b := M2.below (n := w0.heap.size) HL.out (by omega) (by omega)
    exact ⟨S2, W2, L2, d, A2, MD2, Below.trans (H0.out.trans HAB.out.2) b.1, b.2, by omega⟩)
  clear A2 MD2 M2 ST
  go_wp2
  go_ret2
  exact ⟨ab, rfl, F.out⟩
end Go.Proofs.YtnhokjnmpdiokaaGreatDoor
