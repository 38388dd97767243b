/- The contract of the document's own rule. -/
import Derived.Test.YtoompkmncglmoaaDoorPm
import Derived.Test.YtoompkmncglmoaaDoorIg
import Derived.Deep.WholeRow
import Derived.Laws.ResultCell
namespace Go.Proofs.YtoompkmncglmoaaDoor
open Go.RowKit Go.Pth

theorem byte_is (c : UInt8) (n : Nat) (h : n < 256) : ((c.toNat : Int) == (n : Int)) = (c == UInt8.ofNat n) := by
  rw [Bool.eq_iff_iff, beq_iff_eq, beq_iff_eq, ← UInt8.toNat_inj]
  simp
  omega
/-- a sign ahead. -/
theorem pre_at (s : ByteArray) (h : 0 < s.size) : Lib.hasPrefix s.toList [33] = ((s[0].toNat : Int) == 33) := by
  have e := tx_get s 0 h
  have b := byte_is s[0] 33 (by omega)
  rw [show ((33 : Nat) : Int) = 33 from rfl] at b
  rw [b]
  match hs : s.toList, e with
  | c :: r, e =>
    simp at e
    subst e
    unfold Lib.hasPrefix
    simp only [List.isPrefixOf, Bool.and_true]
    rw [Bool.eq_iff_iff, beq_iff_eq, beq_iff_eq]
    exact ⟨fun h => h.symm, fun h => h.symm⟩
theorem pre_zero (s : ByteArray) (h : s.size = 0) : s.toList = [] := List.length_eq_zero_iff.1 (by rw [← size_list]; exact h)
theorem pre_cut (s : ByteArray) (h : Lib.hasPrefix s.toList [33] = true) : Lib.trimPrefix s.toList [33] = (s.extract 1 s.size).toList := by
  unfold Lib.trimPrefix
  rw [if_pos h, tx_cut, List.take_of_length_le (by rw [List.length_drop, ← size_list]; exact Nat.le_refl _)]
  rfl
theorem pre_keep (s : ByteArray) (h : Lib.hasPrefix s.toList [33] = false) : Lib.trimPrefix s.toList [33] = s.toList := by
  unfold Lib.trimPrefix
  rw [h, if_neg (by simp)]
/-- a slash behind. -/
theorem suf_at (s : ByteArray) (h : 0 < s.size) : Lib.hasSuffix s.toList [47] = ((s[s.size - 1].toNat : Int) == 47) := by
  have hz := size_list s
  have e := tx_get s (s.size - 1) (by omega)
  have h0 : s.toList ≠ [] := List.length_pos_iff.1 (by omega)
  have hl : s.toList.getLast h0 = s[s.size - 1] := by
    rw [List.getLast_eq_getElem]
    rw [List.getElem?_eq_getElem (by omega)] at e
    injection e with e
    rw [← e]
    congr 1
    omega
  have b := byte_is s[s.size - 1] 47 (by omega)
  rw [show ((47 : Nat) : Int) = 47 from rfl] at b
  rw [b, ← hl]
  by_cases hc : s.toList.getLast h0 = 47
  · rw [hc]
    have e2 := List.dropLast_concat_getLast h0
    rw [hc] at e2
    rw [← e2, (suf_end _).2]; rfl
  · rw [(suf_no h0 (fun c hcc => by
      rw [List.getLast?_eq_some_getLast h0] at hcc
      injection hcc with hcc
      rw [← hcc]; exact hc)).2]
    exact (beq_eq_false_iff_ne.mpr hc).symm
theorem suf_cut (s : ByteArray) (h : Lib.hasSuffix s.toList [47] = true) : Lib.trimSuffix s.toList [47] = (s.extract 0 (s.size - 1)).toList := by
  unfold Lib.trimSuffix
  rw [if_pos h, tx_cut, ← size_list]; simp
theorem suf_keep (s : ByteArray) (h : Lib.hasSuffix s.toList [47] = false) : Lib.trimSuffix s.toList [47] = s.toList := by
  unfold Lib.trimSuffix
  rw [h, if_neg (by simp)]

/-- the cells of a rule of the document's own. -/
def gc (r : RL) : List Value := [.bool r.nt, .bool r.dr, .bool r.wh, .string (tx r.pat)]
def RefP (w : World) (r : RL) (e : Ending) (w' : World) : Prop :=
  Ext w w' ∧ ((okR r = true ∧ e = .returned (.tuple #[.agg #[.bool r.nt, .bool r.dr, .bool r.wh, .string (tx r.pat)], .bool true])) ∨ (okR r = false ∧ e = .returned (.tuple #[.agg #[.bool false, .bool false, .bool false, .string ⟨#[]⟩], .bool false])))
theorem results_row_tmp {P : Program} {fn : Func} {p u : Tmp} {ty : TypeId} (h : fn.results = #[.cell p ty, .tmp u]) (tmps : Array Value) (w : World) (g : Nat) (t : TypeId) (cs : Array Value) {d : TypeDesc} (hp : tmps.getD p undef = .pointer (some ⟨g, 0, none⟩)) (hg : At w g cs t)
    (hu : P.underlying ty = some d) (hd : (match d with | .struct _ | .array _ _ => true | _ => false) = true) (hi : (P.info? ty).map (·.size) = some cs.size) :
    (results fn tmps).run P w = .ok (.tuple #[.agg cs, tmps.getD u undef]) w := by
  rw [results_cell_tmp h, hp]
  simp only [asAddr, Sem.run_pure, Result.andThen_ok, run_loadVar_row w g t ty cs (0, 0) d hg hu hd hi]
theorem one4 (a b c : Bool) (s : ByteArray) : (#[.bool a, .bool b, .bool c, .string s] : Array Value).all (·.oneCell') = true := by simp [Value.oneCell']
theorem szG : (Tryd.prog.info? 58).map (·.size) = some 4 := by kernel_rfl
theorem _root_.Go.Proofs.At.row {w : World} {b : Nat} {c : Array Value} {t : TypeId} (h : At w b c t) (c' : Array Value) : At (w.setRow b c') b c' t := by
  unfold At at *; simp [World.setRow, Array.getElem?_modify, h]
theorem heap_setRow (w : World) (b : Nat) (c : Array Value) (k : Nat) (h : k ≠ b) : (w.setRow b c).heap[k]? = w.heap[k]? := by
  simp only [World.setRow, Array.getElem?_modify]; rw [if_neg (by omega)]
theorem ext_row' {w0 w : World} (e : Ext w0 w) (b : Nat) (c : Array Value) (h : w0.heap.size ≤ b) : Ext w0 (w.setRow b c) :=
  Below.trans e ⟨rfl, rfl, rfl, by simp [World.setRow], fun k hk => heap_setRow _ _ _ _ (by omega)⟩
theorem okR_not {r : RL} {c : UInt8} (h : c ∈ r.pat) (hc : c = 32 ∨ c = 10) : okR r = false := by
  have : Lib.containsAny r.pat [32, 10] = true := by
    unfold Lib.containsAny
    have key : ∀ l : B, c ∈ l → 0 ≤ Lib.indexAny l [32, 10] := by
      intro l
      induction l with
      | nil => intro h; cases h
      | cons b t ih =>
        intro h
        unfold Lib.indexAny
        by_cases hb : List.contains [(32 : UInt8), 10] b = true
        · rw [if_pos hb]; omega
        · rw [if_neg hb]
          have hbc : c ≠ b := by
            intro e; subst e
            apply hb
            rcases hc with rfl | rfl <;> decide
          have := ih ((List.mem_cons.1 h).resolve_left hbc)
          split
          · rename_i h3; have := beq_iff_eq.1 h3; omega
          · omega
    exact decide_eq_true (key _ h)
  unfold okR
  rw [this]; simp
theorem take_one (z : ByteArray) (k : Nat) (h : k < z.size) : z.toList.take (k + 1) = z.toList.take k ++ [z[k]] := by
  have hl : k < z.toList.length := by rw [← size_list]; exact h
  have e := tx_get z k h
  rw [List.getElem?_eq_getElem hl] at e
  injection e with e
  rw [List.take_succ_eq_append_getElem hl, e]
theorem mem_at (z : ByteArray) (k : Nat) (h : k < z.size) : z[k] ∈ z.toList := List.mem_of_getElem? (tx_get z k h)
theorem has_app (l : B) (x : UInt8) : (l ++ [x]).contains 47 = (l.contains 47 || (x == 47)) := by
  rw [Bool.eq_iff_iff]
  simp only [List.contains_eq_mem, Bool.or_eq_true, decide_eq_true_eq, List.mem_append, List.mem_singleton, beq_iff_eq]
  constructor
  · rintro (h | h)
    · exact Or.inl h
    · exact Or.inr h.symm
  · rintro (h | h)
    · exact Or.inl h
    · exact Or.inr h.symm
def InvRr (w : World) (g : Nat) (z : ByteArray) (n d : Bool) (i : Value) (wr : World) : Prop :=
  ∃ (k : Nat) (D : Bool), k ≤ z.size ∧ i = .int .i64 k ∧ At wr g #[.bool false, .bool false, .bool false, .string ⟨#[]⟩] 58 ∧ At wr (g + 1) #[.bool n, .bool d, .bool D, .string ⟨#[]⟩] 58 ∧ Ext w wr ∧ D = (z.toList.take k).contains 47 ∧ ∀ c ∈ z.toList.take k, c ≠ 32 ∧ c ≠ 10
set_option linter.unusedVariables false in
set_option linter.unusedSimpArgs false in
set_option maxRecDepth 100000 in
set_option maxHeartbeats 16000000 in
theorem rrule_any (s : ByteArray) (hs : s.size ≤ 1000000) (w : World) : Calls Tryd.prog 27 #[.string s] w (RefP w (mkR s.toList)) := by
  cases hp : Lib.hasPrefix s.toList [33] with
  | true =>
    have h0 : 0 < s.size := by
      rcases Nat.eq_zero_or_pos s.size with h | h
      · rw [pre_zero s h] at hp; cases hp
      · exact h
    have p0 : ((s[0].toNat : Int) == 33) = true := by rw [← pre_at s h0]; exact hp
    have HC := Lib.hid (pre_cut s hp)
    have HNT : Hid ((mkR s.toList).nt = true) := Lib.hid hp
    have d0 : decide ((0 : Int) < (s.size : Int)) = true := decide_eq_true (by omega)
    have i0 : (0 : Int) < (s.size : Int) := by omega
    have i1 : (1 : Int) ≤ (s.size : Int) := by omega
    clear hp
    go_enter Tryd.func27, Tryd.ntmps27
    go_upto_region 5 with fail
    have hq1 : (s.extract 1 s.size).size ≤ 1000000 := by rw [ByteArray.size_extract]; omega
    clear p0 d0 i0 i1
    generalize s.extract 1 s.size = q at *
    cases hq : Lib.hasSuffix q.toList [47] with
    | true =>
      have h2 : 0 < q.size := by
        rcases Nat.eq_zero_or_pos q.size with h | h
        · rw [pre_zero q h] at hq; cases hq
        · exact h
      have q0 : ((q[q.size - 1].toNat : Int) == 47) = true := by rw [← suf_at q h2]; exact hq
      have HC2 := Lib.hid (suf_cut q hq)
      have d2 : decide ((0 : Int) < (q.size : Int)) = true := decide_eq_true (by omega)
      have i2 : ((q.size : Int) - 1).toNat = q.size - 1 := by omega
      have i3 : (0 : Int) ≤ (q.size : Int) - 1 := by omega
      have i4 : (q.size : Int) - 1 < (q.size : Int) := by omega
      have i5 : (q.size : Int) - 1 ≤ (q.size : Int) := by omega
      go_upto_region 8 with fail
      clear d2
      have hzb : (q.extract 0 (q.size - 1)).size ≤ 1000000 := by first | assumption | (rw [ByteArray.size_extract]; omega)
      have hN : (mkR s.toList).nt = true := HNT.out
      have hD : (mkR s.toList).dr = true := by show Lib.hasSuffix (Lib.trimPrefix s.toList [33]) [47] = true; rw [HC.out]; exact hq
      have hP : (mkR s.toList).pat = (q.extract 0 (q.size - 1)).toList := by show Lib.trimSuffix (Lib.trimPrefix s.toList [33]) [47] = (q.extract 0 (q.size - 1)).toList; rw [HC.out]; exact HC2.out
      have hW : (mkR s.toList).wh = (mkR s.toList).pat.contains 47 := rfl
      rw [hP] at hW
      have HPP := Lib.hid (And.intro hN (And.intro hD (And.intro hP hW)))
      have E2 := Lib.hid ((Ext.alloc w (.cells #[.bool false, .bool false, .bool false, .string ⟨#[]⟩] 58)).trans (Ext.alloc _ (.cells #[.bool true, .bool true, .bool false, .string ⟨#[]⟩] 58)))
      have A0 := Lib.hid ((At.new w #[.bool false, .bool false, .bool false, .string ⟨#[]⟩] 58).ext (Ext.alloc _ (.cells #[.bool true, .bool true, .bool false, .string ⟨#[]⟩] 58)))
      have A1 := Lib.hid (show At ((w.alloc (.cells #[.bool false, .bool false, .bool false, .string ⟨#[]⟩] 58)).alloc (.cells #[.bool true, .bool true, .bool false, .string ⟨#[]⟩] 58)) (w.heap.size + 1) #[.bool true, .bool true, .bool false, .string ⟨#[]⟩] 58 by
        have := At.new (w.alloc (.cells #[.bool false, .bool false, .bool false, .string ⟨#[]⟩] 58)) #[.bool true, .bool true, .bool false, .string ⟨#[]⟩] 58
        rwa [size_alloc] at this)
      have HRF := Lib.hid (fun (e : Ending) (w' : World) (h : RefP w (mkR s.toList) e w') => h)
      clear hN hD hP hW
      generalize (w.alloc (.cells #[.bool false, .bool false, .bool false, .string ⟨#[]⟩] 58)).alloc (.cells #[.bool true, .bool true, .bool false, .string ⟨#[]⟩] 58) = W2 at *
      generalize hR : mkR s.toList = R at *
      clear hR HC HC2 HNT
      generalize q.extract 0 (q.size - 1) = z at *
      obtain ⟨g, hg⟩ : ∃ g, g = w.heap.size := ⟨_, rfl⟩
      have HG := Lib.hid hg
      rw [← hg] at A0 A1 ⊢
      clear hg
      by_cases h1 : z.size < 1
      · have l1 : decide ((z.size : Int) < 1) = true := decide_eq_true (by omega)
        have NO : Hid (okR R = false) := Lib.hid (by
          unfold okR
          rw [HPP.out.2.2.1, decide_eq_false (p := 0 < z.toList.length) (by rw [← size_list]; omega)]; rfl)
        have a0 := A0.out
        go_wp2_with (refine wpList_store_row rfl 58 _ _ rfl g #[.bool false, .bool false, .bool false, .string ⟨#[]⟩] rfl rfl 58 _ a0 szG rfl (one4 _ _ _ _) ?_)
        (try simp only [Exit.inBlock, Exit.then]); refine bodyPost_ret (results_row_tmp rfl _ _ g 58 _ rfl (a0.row #[.bool false, .bool false, .bool false, .string ⟨#[]⟩]) Tryd.underlying58 rfl szG) rfl ?_
        exact ⟨ext_row' E2.out g _ (by have := HG.out; omega), Or.inr ⟨NO.out, rfl⟩⟩
      have l1 : decide ((z.size : Int) < 1) = false := decide_eq_false (by omega)
      by_cases h60 : 60 < z.size
      · have l2 : decide ((60 : Int) < (z.size : Int)) = true := decide_eq_true (by omega)
        have NO : Hid (okR R = false) := Lib.hid (by
          unfold okR
          rw [HPP.out.2.2.1, decide_eq_false (p := z.toList.length ≤ 60) (by rw [← size_list]; omega), Bool.and_false]; rfl)
        have a0 := A0.out
        go_wp2_with (refine wpList_store_row rfl 58 _ _ rfl g #[.bool false, .bool false, .bool false, .string ⟨#[]⟩] rfl rfl 58 _ a0 szG rfl (one4 _ _ _ _) ?_)
        (try simp only [Exit.inBlock, Exit.then]); refine bodyPost_ret (results_row_tmp rfl _ _ g 58 _ rfl (a0.row #[.bool false, .bool false, .bool false, .string ⟨#[]⟩]) Tryd.underlying58 rfl szG) rfl ?_
        exact ⟨ext_row' E2.out g _ (by have := HG.out; omega), Or.inr ⟨NO.out, rfl⟩⟩
      have l2 : decide ((60 : Int) < (z.size : Int)) = false := decide_eq_false (by omega)
      go_wp2_with fail
      go_loopw [5] (fun i wr => InvRr w g z true true i wr) (fun i _ => z.size - (intOf i).toNat)
      case atStart => exact ⟨0, false, by omega, rfl, A0.out, A1.out, E2.out, rfl, fun c hc => by simp at hc⟩
      case round =>
        obtain ⟨k, D, hk, rfl, a0, a1, he, hd, hcl⟩ := hrel
        have HD := Lib.hid hd; have HE := Lib.hid he; have HCL := Lib.hid hcl
        clear hd hcl
        by_cases hlt : k < z.size
        · have j0 : (0 : Int) ≤ (k : Int) := by omega
          have j1 : (k : Int) < (z.size : Int) := by omega
          have TK := Lib.hid (take_one z k hlt)
          have B32 := Lib.hid (byte_is z[k] 32 (by omega))
          have B10 := Lib.hid (byte_is z[k] 10 (by omega))
          have B47 := Lib.hid (byte_is z[k] 47 (by omega))
          have MEM := Lib.hid (mem_at z k hlt)
          cases c32 : ((z[k].toNat : Int) == 32) with
          | true =>
            have NO : Hid (okR R = false) := Lib.hid (okR_not (by rw [HPP.out.2.2.1]; exact MEM.out) (Or.inl (by have := B32.out; rw [show ((32 : Nat) : Int) = 32 from rfl, c32] at this; exact beq_iff_eq.1 this.symm)))
            clear HRF
            go_wp2_with (refine wpList_store_row rfl 58 _ _ rfl g #[.bool false, .bool false, .bool false, .string ⟨#[]⟩] rfl rfl 58 _ a0 szG rfl (one4 _ _ _ _) ?_)
            (try simp only [Exit.inBlock, Exit.then]); refine bodyPost_ret (results_row_tmp rfl _ _ g 58 _ rfl (a0.row #[.bool false, .bool false, .bool false, .string ⟨#[]⟩]) Tryd.underlying58 rfl szG) rfl ?_
            exact ⟨ext_row' HE.out g _ (by have := HG.out; omega), Or.inr ⟨NO.out, rfl⟩⟩
          | false =>
            cases c10 : ((z[k].toNat : Int) == 10) with
            | true =>
              have NO : Hid (okR R = false) := Lib.hid (okR_not (by rw [HPP.out.2.2.1]; exact MEM.out) (Or.inr (by have := B10.out; rw [show ((10 : Nat) : Int) = 10 from rfl, c10] at this; exact beq_iff_eq.1 this.symm)))
              go_wp2_with (refine wpList_store_row rfl 58 _ _ rfl g #[.bool false, .bool false, .bool false, .string ⟨#[]⟩] rfl rfl 58 _ a0 szG rfl (one4 _ _ _ _) ?_)
              (try simp only [Exit.inBlock, Exit.then]); refine bodyPost_ret (results_row_tmp rfl _ _ g 58 _ rfl (a0.row #[.bool false, .bool false, .bool false, .string ⟨#[]⟩]) Tryd.underlying58 rfl szG) rfl ?_
              exact ⟨ext_row' HE.out g _ (by have := HG.out; omega), Or.inr ⟨NO.out, rfl⟩⟩
            | false =>
              have n32 : z[k] ≠ 32 := by have := B32.out; rw [show ((32 : Nat) : Int) = 32 from rfl, c32] at this; exact beq_eq_false_iff_ne.1 this.symm
              have n10 : z[k] ≠ 10 := by have := B10.out; rw [show ((10 : Nat) : Int) = 10 from rfl, c10] at this; exact beq_eq_false_iff_ne.1 this.symm
              have NX := Lib.hid (fun (D' : Bool) (h : D' = (D || ((z[k].toNat : Int) == 47))) => (show InvRr w g z true true (.int .i64 ((k : Int) + 1)) (wr.setCell ⟨g + 1, 2, none⟩ (.bool D')) from
                ⟨k + 1, D', by omega, by push_cast; rfl, at_set_other a0 (by omega) 2 _, a1.set 2 _, ext_set HE.out (g + 1) 2 (by have := HG.out; omega) _, by
                  rw [h, TK.out, has_app, ← HD.out]
                  have := B47.out
                  rw [show ((47 : Nat) : Int) = 47 from rfl] at this
                  rw [this]; rfl, fun c hc => by
                  rw [TK.out] at hc
                  rcases List.mem_append.1 hc with h | h
                  · exact HCL.out c h
                  · simp at h; subst h; exact ⟨n32, n10⟩⟩))
              have c2 : wr.cell? ⟨g + 1, 2, none⟩ = some (.bool D) := by rw [a1.cell]; rfl
              have f2 := a1.frozen 2
              clear a0 a1 n32 n10 he
              cases D with
              | true =>
                have NXX := Lib.hid (NX.out true rfl)
                clear NX
                go_wp2_with fail
                exact ⟨NXX.out, by simp [intOf]; omega⟩
              | false =>
                have NXX := Lib.hid (NX.out _ rfl)
                clear NX
                simp only [Bool.false_or] at NXX
                go_wp2_with fail
                exact ⟨NXX.out, by simp [intOf]; omega⟩
        · obtain rfl : k = z.size := by omega
          have TK := Lib.hid (show z.toList.take z.size = z.toList by rw [size_list, List.take_length])
          have YES : Hid (okR R = true) := Lib.hid (okR_of (by rw [HPP.out.2.2.1, ← size_list]; omega) (by rw [HPP.out.2.2.1, ← size_list]; omega) (by rw [HPP.out.2.2.1]; intro c hc; exact HCL.out c (by rw [TK.out]; exact hc)))
          have HWH : Hid (R.wh = D) := Lib.hid (by rw [HPP.out.2.2.2, HD.out, TK.out])
          have c3 : wr.cell? ⟨g + 1, 3, none⟩ = some (.string ⟨#[]⟩) := by rw [a1.cell]; rfl
          have f3 := a1.frozen 3
          have a0' := at_set_other a0 (b' := g + 1) (by omega) 3 (.string z)
          have a1' : At (wr.setCell ⟨g + 1, 3, none⟩ (.string z)) (g + 1) #[.bool true, .bool true, .bool D, .string z] 58 := a1.set 3 _
          have E3 := Lib.hid (ext_set HE.out (g + 1) 3 (by have := HG.out; omega) (.string z))
          clear a0 a1 he hlt
          go_upto_region 17 with fail
          generalize wr.setCell ⟨g + 1, 3, none⟩ (.string z) = W4 at *
          clear c3 f3
          go_wp2_with (first | (refine wpList_load_row rfl 58 _ rfl (g + 1) rfl 58 _ (0, 0) _ a1' Tryd.underlying58 rfl szG ?_) | (refine wpList_store_row rfl 58 _ _ rfl g #[.bool true, .bool true, .bool D, .string z] rfl rfl 58 _ a0' szG rfl (one4 _ _ _ _) ?_))
          (try simp only [Exit.inBlock, Exit.then]); refine bodyPost_ret (results_row_tmp rfl _ _ g 58 _ rfl (a0'.row #[.bool true, .bool true, .bool D, .string z]) Tryd.underlying58 rfl szG) rfl ?_
          refine ⟨ext_row' E3.out g _ (by have := HG.out; omega), Or.inl ⟨YES.out, ?_⟩⟩
          rw [HPP.out.1, HPP.out.2.1, HPP.out.2.2.1, HWH.out, list_tx]
          rfl
    | false =>
      have HC2 := Lib.hid (suf_keep q hq)
      by_cases h2 : 0 < q.size
      · have q0 : ((q[q.size - 1].toNat : Int) == 47) = false := by rw [← suf_at q h2]; exact hq
        have d2 : decide ((0 : Int) < (q.size : Int)) = true := decide_eq_true (by omega)
        have i2 : ((q.size : Int) - 1).toNat = q.size - 1 := by omega
        have i3 : (0 : Int) ≤ (q.size : Int) - 1 := by omega
        have i4 : (q.size : Int) - 1 < (q.size : Int) := by omega
        go_upto_region 8 with fail
        clear d2
        have hzb : (q).size ≤ 1000000 := by first | assumption | (rw [ByteArray.size_extract]; omega)
        have hN : (mkR s.toList).nt = true := HNT.out
        have hD : (mkR s.toList).dr = false := by show Lib.hasSuffix (Lib.trimPrefix s.toList [33]) [47] = false; rw [HC.out]; exact hq
        have hP : (mkR s.toList).pat = (q).toList := by show Lib.trimSuffix (Lib.trimPrefix s.toList [33]) [47] = (q).toList; rw [HC.out]; exact HC2.out
        have hW : (mkR s.toList).wh = (mkR s.toList).pat.contains 47 := rfl
        rw [hP] at hW
        have HPP := Lib.hid (And.intro hN (And.intro hD (And.intro hP hW)))
        have E2 := Lib.hid ((Ext.alloc w (.cells #[.bool false, .bool false, .bool false, .string ⟨#[]⟩] 58)).trans (Ext.alloc _ (.cells #[.bool true, .bool false, .bool false, .string ⟨#[]⟩] 58)))
        have A0 := Lib.hid ((At.new w #[.bool false, .bool false, .bool false, .string ⟨#[]⟩] 58).ext (Ext.alloc _ (.cells #[.bool true, .bool false, .bool false, .string ⟨#[]⟩] 58)))
        have A1 := Lib.hid (show At ((w.alloc (.cells #[.bool false, .bool false, .bool false, .string ⟨#[]⟩] 58)).alloc (.cells #[.bool true, .bool false, .bool false, .string ⟨#[]⟩] 58)) (w.heap.size + 1) #[.bool true, .bool false, .bool false, .string ⟨#[]⟩] 58 by
          have := At.new (w.alloc (.cells #[.bool false, .bool false, .bool false, .string ⟨#[]⟩] 58)) #[.bool true, .bool false, .bool false, .string ⟨#[]⟩] 58
          rwa [size_alloc] at this)
        have HRF := Lib.hid (fun (e : Ending) (w' : World) (h : RefP w (mkR s.toList) e w') => h)
        clear hN hD hP hW
        generalize (w.alloc (.cells #[.bool false, .bool false, .bool false, .string ⟨#[]⟩] 58)).alloc (.cells #[.bool true, .bool false, .bool false, .string ⟨#[]⟩] 58) = W2 at *
        generalize hR : mkR s.toList = R at *
        clear hR HC HC2 HNT

        obtain ⟨g, hg⟩ : ∃ g, g = w.heap.size := ⟨_, rfl⟩
        have HG := Lib.hid hg
        rw [← hg] at A0 A1 ⊢
        clear hg
        by_cases h1 : q.size < 1
        · have l1 : decide ((q.size : Int) < 1) = true := decide_eq_true (by omega)
          have NO : Hid (okR R = false) := Lib.hid (by
            unfold okR
            rw [HPP.out.2.2.1, decide_eq_false (p := 0 < q.toList.length) (by rw [← size_list]; omega)]; rfl)
          have a0 := A0.out
          go_wp2_with (refine wpList_store_row rfl 58 _ _ rfl g #[.bool false, .bool false, .bool false, .string ⟨#[]⟩] rfl rfl 58 _ a0 szG rfl (one4 _ _ _ _) ?_)
          (try simp only [Exit.inBlock, Exit.then]); refine bodyPost_ret (results_row_tmp rfl _ _ g 58 _ rfl (a0.row #[.bool false, .bool false, .bool false, .string ⟨#[]⟩]) Tryd.underlying58 rfl szG) rfl ?_
          exact ⟨ext_row' E2.out g _ (by have := HG.out; omega), Or.inr ⟨NO.out, rfl⟩⟩
        have l1 : decide ((q.size : Int) < 1) = false := decide_eq_false (by omega)
        by_cases h60 : 60 < q.size
        · have l2 : decide ((60 : Int) < (q.size : Int)) = true := decide_eq_true (by omega)
          have NO : Hid (okR R = false) := Lib.hid (by
            unfold okR
            rw [HPP.out.2.2.1, decide_eq_false (p := q.toList.length ≤ 60) (by rw [← size_list]; omega), Bool.and_false]; rfl)
          have a0 := A0.out
          go_wp2_with (refine wpList_store_row rfl 58 _ _ rfl g #[.bool false, .bool false, .bool false, .string ⟨#[]⟩] rfl rfl 58 _ a0 szG rfl (one4 _ _ _ _) ?_)
          (try simp only [Exit.inBlock, Exit.then]); refine bodyPost_ret (results_row_tmp rfl _ _ g 58 _ rfl (a0.row #[.bool false, .bool false, .bool false, .string ⟨#[]⟩]) Tryd.underlying58 rfl szG) rfl ?_
          exact ⟨ext_row' E2.out g _ (by have := HG.out; omega), Or.inr ⟨NO.out, rfl⟩⟩
        have l2 : decide ((60 : Int) < (q.size : Int)) = false := decide_eq_false (by omega)
        go_wp2_with fail
        go_loopw [5] (fun i wr => InvRr w g q true false i wr) (fun i _ => q.size - (intOf i).toNat)
        case atStart => exact ⟨0, false, by omega, rfl, A0.out, A1.out, E2.out, rfl, fun c hc => by simp at hc⟩
        case round =>
          obtain ⟨k, D, hk, rfl, a0, a1, he, hd, hcl⟩ := hrel
          have HD := Lib.hid hd; have HE := Lib.hid he; have HCL := Lib.hid hcl
          clear hd hcl
          by_cases hlt : k < q.size
          · have j0 : (0 : Int) ≤ (k : Int) := by omega
            have j1 : (k : Int) < (q.size : Int) := by omega
            have TK := Lib.hid (take_one q k hlt)
            have B32 := Lib.hid (byte_is q[k] 32 (by omega))
            have B10 := Lib.hid (byte_is q[k] 10 (by omega))
            have B47 := Lib.hid (byte_is q[k] 47 (by omega))
            have MEM := Lib.hid (mem_at q k hlt)
            cases c32 : ((q[k].toNat : Int) == 32) with
            | true =>
              have NO : Hid (okR R = false) := Lib.hid (okR_not (by rw [HPP.out.2.2.1]; exact MEM.out) (Or.inl (by have := B32.out; rw [show ((32 : Nat) : Int) = 32 from rfl, c32] at this; exact beq_iff_eq.1 this.symm)))
              clear HRF
              go_wp2_with (refine wpList_store_row rfl 58 _ _ rfl g #[.bool false, .bool false, .bool false, .string ⟨#[]⟩] rfl rfl 58 _ a0 szG rfl (one4 _ _ _ _) ?_)
              (try simp only [Exit.inBlock, Exit.then]); refine bodyPost_ret (results_row_tmp rfl _ _ g 58 _ rfl (a0.row #[.bool false, .bool false, .bool false, .string ⟨#[]⟩]) Tryd.underlying58 rfl szG) rfl ?_
              exact ⟨ext_row' HE.out g _ (by have := HG.out; omega), Or.inr ⟨NO.out, rfl⟩⟩
            | false =>
              cases c10 : ((q[k].toNat : Int) == 10) with
              | true =>
                have NO : Hid (okR R = false) := Lib.hid (okR_not (by rw [HPP.out.2.2.1]; exact MEM.out) (Or.inr (by have := B10.out; rw [show ((10 : Nat) : Int) = 10 from rfl, c10] at this; exact beq_iff_eq.1 this.symm)))
                go_wp2_with (refine wpList_store_row rfl 58 _ _ rfl g #[.bool false, .bool false, .bool false, .string ⟨#[]⟩] rfl rfl 58 _ a0 szG rfl (one4 _ _ _ _) ?_)
                (try simp only [Exit.inBlock, Exit.then]); refine bodyPost_ret (results_row_tmp rfl _ _ g 58 _ rfl (a0.row #[.bool false, .bool false, .bool false, .string ⟨#[]⟩]) Tryd.underlying58 rfl szG) rfl ?_
                exact ⟨ext_row' HE.out g _ (by have := HG.out; omega), Or.inr ⟨NO.out, rfl⟩⟩
              | false =>
                have n32 : q[k] ≠ 32 := by have := B32.out; rw [show ((32 : Nat) : Int) = 32 from rfl, c32] at this; exact beq_eq_false_iff_ne.1 this.symm
                have n10 : q[k] ≠ 10 := by have := B10.out; rw [show ((10 : Nat) : Int) = 10 from rfl, c10] at this; exact beq_eq_false_iff_ne.1 this.symm
                have NX := Lib.hid (fun (D' : Bool) (h : D' = (D || ((q[k].toNat : Int) == 47))) => (show InvRr w g q true false (.int .i64 ((k : Int) + 1)) (wr.setCell ⟨g + 1, 2, none⟩ (.bool D')) from
                  ⟨k + 1, D', by omega, by push_cast; rfl, at_set_other a0 (by omega) 2 _, a1.set 2 _, ext_set HE.out (g + 1) 2 (by have := HG.out; omega) _, by
                    rw [h, TK.out, has_app, ← HD.out]
                    have := B47.out
                    rw [show ((47 : Nat) : Int) = 47 from rfl] at this
                    rw [this]; rfl, fun c hc => by
                    rw [TK.out] at hc
                    rcases List.mem_append.1 hc with h | h
                    · exact HCL.out c h
                    · simp at h; subst h; exact ⟨n32, n10⟩⟩))
                have c2 : wr.cell? ⟨g + 1, 2, none⟩ = some (.bool D) := by rw [a1.cell]; rfl
                have f2 := a1.frozen 2
                clear a0 a1 n32 n10 he
                cases D with
                | true =>
                  have NXX := Lib.hid (NX.out true rfl)
                  clear NX
                  go_wp2_with fail
                  exact ⟨NXX.out, by simp [intOf]; omega⟩
                | false =>
                  have NXX := Lib.hid (NX.out _ rfl)
                  clear NX
                  simp only [Bool.false_or] at NXX
                  go_wp2_with fail
                  exact ⟨NXX.out, by simp [intOf]; omega⟩
          · obtain rfl : k = q.size := by omega
            have TK := Lib.hid (show q.toList.take q.size = q.toList by rw [size_list, List.take_length])
            have YES : Hid (okR R = true) := Lib.hid (okR_of (by rw [HPP.out.2.2.1, ← size_list]; omega) (by rw [HPP.out.2.2.1, ← size_list]; omega) (by rw [HPP.out.2.2.1]; intro c hc; exact HCL.out c (by rw [TK.out]; exact hc)))
            have HWH : Hid (R.wh = D) := Lib.hid (by rw [HPP.out.2.2.2, HD.out, TK.out])
            have c3 : wr.cell? ⟨g + 1, 3, none⟩ = some (.string ⟨#[]⟩) := by rw [a1.cell]; rfl
            have f3 := a1.frozen 3
            have a0' := at_set_other a0 (b' := g + 1) (by omega) 3 (.string q)
            have a1' : At (wr.setCell ⟨g + 1, 3, none⟩ (.string q)) (g + 1) #[.bool true, .bool false, .bool D, .string q] 58 := a1.set 3 _
            have E3 := Lib.hid (ext_set HE.out (g + 1) 3 (by have := HG.out; omega) (.string q))
            clear a0 a1 he hlt
            go_upto_region 17 with fail
            generalize wr.setCell ⟨g + 1, 3, none⟩ (.string q) = W4 at *
            clear c3 f3
            go_wp2_with (first | (refine wpList_load_row rfl 58 _ rfl (g + 1) rfl 58 _ (0, 0) _ a1' Tryd.underlying58 rfl szG ?_) | (refine wpList_store_row rfl 58 _ _ rfl g #[.bool true, .bool false, .bool D, .string q] rfl rfl 58 _ a0' szG rfl (one4 _ _ _ _) ?_))
            (try simp only [Exit.inBlock, Exit.then]); refine bodyPost_ret (results_row_tmp rfl _ _ g 58 _ rfl (a0'.row #[.bool true, .bool false, .bool D, .string q]) Tryd.underlying58 rfl szG) rfl ?_
            refine ⟨ext_row' E3.out g _ (by have := HG.out; omega), Or.inl ⟨YES.out, ?_⟩⟩
            rw [HPP.out.1, HPP.out.2.1, HPP.out.2.2.1, HWH.out, list_tx]
            rfl
      · have d2 : decide ((0 : Int) < (q.size : Int)) = false := decide_eq_false (by omega)
        go_upto_region 8 with fail
        clear d2
        have hzb : (q).size ≤ 1000000 := by first | assumption | (rw [ByteArray.size_extract]; omega)
        have hN : (mkR s.toList).nt = true := HNT.out
        have hD : (mkR s.toList).dr = false := by show Lib.hasSuffix (Lib.trimPrefix s.toList [33]) [47] = false; rw [HC.out]; exact hq
        have hP : (mkR s.toList).pat = (q).toList := by show Lib.trimSuffix (Lib.trimPrefix s.toList [33]) [47] = (q).toList; rw [HC.out]; exact HC2.out
        have hW : (mkR s.toList).wh = (mkR s.toList).pat.contains 47 := rfl
        rw [hP] at hW
        have HPP := Lib.hid (And.intro hN (And.intro hD (And.intro hP hW)))
        have E2 := Lib.hid ((Ext.alloc w (.cells #[.bool false, .bool false, .bool false, .string ⟨#[]⟩] 58)).trans (Ext.alloc _ (.cells #[.bool true, .bool false, .bool false, .string ⟨#[]⟩] 58)))
        have A0 := Lib.hid ((At.new w #[.bool false, .bool false, .bool false, .string ⟨#[]⟩] 58).ext (Ext.alloc _ (.cells #[.bool true, .bool false, .bool false, .string ⟨#[]⟩] 58)))
        have A1 := Lib.hid (show At ((w.alloc (.cells #[.bool false, .bool false, .bool false, .string ⟨#[]⟩] 58)).alloc (.cells #[.bool true, .bool false, .bool false, .string ⟨#[]⟩] 58)) (w.heap.size + 1) #[.bool true, .bool false, .bool false, .string ⟨#[]⟩] 58 by
          have := At.new (w.alloc (.cells #[.bool false, .bool false, .bool false, .string ⟨#[]⟩] 58)) #[.bool true, .bool false, .bool false, .string ⟨#[]⟩] 58
          rwa [size_alloc] at this)
        have HRF := Lib.hid (fun (e : Ending) (w' : World) (h : RefP w (mkR s.toList) e w') => h)
        clear hN hD hP hW
        generalize (w.alloc (.cells #[.bool false, .bool false, .bool false, .string ⟨#[]⟩] 58)).alloc (.cells #[.bool true, .bool false, .bool false, .string ⟨#[]⟩] 58) = W2 at *
        generalize hR : mkR s.toList = R at *
        clear hR HC HC2 HNT

        obtain ⟨g, hg⟩ : ∃ g, g = w.heap.size := ⟨_, rfl⟩
        have HG := Lib.hid hg
        rw [← hg] at A0 A1 ⊢
        clear hg
        have h1 : q.size < 1 := by omega
        have l1 : decide ((q.size : Int) < 1) = true := decide_eq_true (by omega)
        have NO : Hid (okR R = false) := Lib.hid (by
          unfold okR
          rw [HPP.out.2.2.1, decide_eq_false (p := 0 < q.toList.length) (by rw [← size_list]; omega)]; rfl)
        have a0 := A0.out
        go_wp2_with (refine wpList_store_row rfl 58 _ _ rfl g #[.bool false, .bool false, .bool false, .string ⟨#[]⟩] rfl rfl 58 _ a0 szG rfl (one4 _ _ _ _) ?_)
        (try simp only [Exit.inBlock, Exit.then]); refine bodyPost_ret (results_row_tmp rfl _ _ g 58 _ rfl (a0.row #[.bool false, .bool false, .bool false, .string ⟨#[]⟩]) Tryd.underlying58 rfl szG) rfl ?_
        exact ⟨ext_row' E2.out g _ (by have := HG.out; omega), Or.inr ⟨NO.out, rfl⟩⟩
  | false =>
    have HC := Lib.hid (pre_keep s hp)
    have HNT : Hid ((mkR s.toList).nt = false) := Lib.hid hp
    have hq1 := hs
    by_cases h0 : 0 < s.size
    · have p0 : ((s[0].toNat : Int) == 33) = false := by rw [← pre_at s h0]; exact hp
      have d0 : decide ((0 : Int) < (s.size : Int)) = true := decide_eq_true (by omega)
      have i0 : (0 : Int) < (s.size : Int) := by omega
      clear hp
      go_enter Tryd.func27, Tryd.ntmps27
      go_upto_region 5 with fail
      clear p0 d0 i0
      cases hq : Lib.hasSuffix s.toList [47] with
      | true =>
        have h2 : 0 < s.size := by
          rcases Nat.eq_zero_or_pos s.size with h | h
          · rw [pre_zero s h] at hq; cases hq
          · exact h
        have q0 : ((s[s.size - 1].toNat : Int) == 47) = true := by rw [← suf_at s h2]; exact hq
        have HC2 := Lib.hid (suf_cut s hq)
        have d2 : decide ((0 : Int) < (s.size : Int)) = true := decide_eq_true (by omega)
        have i2 : ((s.size : Int) - 1).toNat = s.size - 1 := by omega
        have i3 : (0 : Int) ≤ (s.size : Int) - 1 := by omega
        have i4 : (s.size : Int) - 1 < (s.size : Int) := by omega
        have i5 : (s.size : Int) - 1 ≤ (s.size : Int) := by omega
        go_upto_region 8 with fail
        clear d2
        have hzb : (s.extract 0 (s.size - 1)).size ≤ 1000000 := by first | assumption | (rw [ByteArray.size_extract]; omega)
        have hN : (mkR s.toList).nt = false := HNT.out
        have hD : (mkR s.toList).dr = true := by show Lib.hasSuffix (Lib.trimPrefix s.toList [33]) [47] = true; rw [HC.out]; exact hq
        have hP : (mkR s.toList).pat = (s.extract 0 (s.size - 1)).toList := by show Lib.trimSuffix (Lib.trimPrefix s.toList [33]) [47] = (s.extract 0 (s.size - 1)).toList; rw [HC.out]; exact HC2.out
        have hW : (mkR s.toList).wh = (mkR s.toList).pat.contains 47 := rfl
        rw [hP] at hW
        have HPP := Lib.hid (And.intro hN (And.intro hD (And.intro hP hW)))
        have E2 := Lib.hid ((Ext.alloc w (.cells #[.bool false, .bool false, .bool false, .string ⟨#[]⟩] 58)).trans (Ext.alloc _ (.cells #[.bool false, .bool true, .bool false, .string ⟨#[]⟩] 58)))
        have A0 := Lib.hid ((At.new w #[.bool false, .bool false, .bool false, .string ⟨#[]⟩] 58).ext (Ext.alloc _ (.cells #[.bool false, .bool true, .bool false, .string ⟨#[]⟩] 58)))
        have A1 := Lib.hid (show At ((w.alloc (.cells #[.bool false, .bool false, .bool false, .string ⟨#[]⟩] 58)).alloc (.cells #[.bool false, .bool true, .bool false, .string ⟨#[]⟩] 58)) (w.heap.size + 1) #[.bool false, .bool true, .bool false, .string ⟨#[]⟩] 58 by
          have := At.new (w.alloc (.cells #[.bool false, .bool false, .bool false, .string ⟨#[]⟩] 58)) #[.bool false, .bool true, .bool false, .string ⟨#[]⟩] 58
          rwa [size_alloc] at this)
        have HRF := Lib.hid (fun (e : Ending) (w' : World) (h : RefP w (mkR s.toList) e w') => h)
        clear hN hD hP hW
        generalize (w.alloc (.cells #[.bool false, .bool false, .bool false, .string ⟨#[]⟩] 58)).alloc (.cells #[.bool false, .bool true, .bool false, .string ⟨#[]⟩] 58) = W2 at *
        generalize hR : mkR s.toList = R at *
        clear hR HC HC2 HNT
        generalize s.extract 0 (s.size - 1) = z at *
        obtain ⟨g, hg⟩ : ∃ g, g = w.heap.size := ⟨_, rfl⟩
        have HG := Lib.hid hg
        rw [← hg] at A0 A1 ⊢
        clear hg
        by_cases h1 : z.size < 1
        · have l1 : decide ((z.size : Int) < 1) = true := decide_eq_true (by omega)
          have NO : Hid (okR R = false) := Lib.hid (by
            unfold okR
            rw [HPP.out.2.2.1, decide_eq_false (p := 0 < z.toList.length) (by rw [← size_list]; omega)]; rfl)
          have a0 := A0.out
          go_wp2_with (refine wpList_store_row rfl 58 _ _ rfl g #[.bool false, .bool false, .bool false, .string ⟨#[]⟩] rfl rfl 58 _ a0 szG rfl (one4 _ _ _ _) ?_)
          (try simp only [Exit.inBlock, Exit.then]); refine bodyPost_ret (results_row_tmp rfl _ _ g 58 _ rfl (a0.row #[.bool false, .bool false, .bool false, .string ⟨#[]⟩]) Tryd.underlying58 rfl szG) rfl ?_
          exact ⟨ext_row' E2.out g _ (by have := HG.out; omega), Or.inr ⟨NO.out, rfl⟩⟩
        have l1 : decide ((z.size : Int) < 1) = false := decide_eq_false (by omega)
        by_cases h60 : 60 < z.size
        · have l2 : decide ((60 : Int) < (z.size : Int)) = true := decide_eq_true (by omega)
          have NO : Hid (okR R = false) := Lib.hid (by
            unfold okR
            rw [HPP.out.2.2.1, decide_eq_false (p := z.toList.length ≤ 60) (by rw [← size_list]; omega), Bool.and_false]; rfl)
          have a0 := A0.out
          go_wp2_with (refine wpList_store_row rfl 58 _ _ rfl g #[.bool false, .bool false, .bool false, .string ⟨#[]⟩] rfl rfl 58 _ a0 szG rfl (one4 _ _ _ _) ?_)
          (try simp only [Exit.inBlock, Exit.then]); refine bodyPost_ret (results_row_tmp rfl _ _ g 58 _ rfl (a0.row #[.bool false, .bool false, .bool false, .string ⟨#[]⟩]) Tryd.underlying58 rfl szG) rfl ?_
          exact ⟨ext_row' E2.out g _ (by have := HG.out; omega), Or.inr ⟨NO.out, rfl⟩⟩
        have l2 : decide ((60 : Int) < (z.size : Int)) = false := decide_eq_false (by omega)
        go_wp2_with fail
        go_loopw [5] (fun i wr => InvRr w g z false true i wr) (fun i _ => z.size - (intOf i).toNat)
        case atStart => exact ⟨0, false, by omega, rfl, A0.out, A1.out, E2.out, rfl, fun c hc => by simp at hc⟩
        case round =>
          obtain ⟨k, D, hk, rfl, a0, a1, he, hd, hcl⟩ := hrel
          have HD := Lib.hid hd; have HE := Lib.hid he; have HCL := Lib.hid hcl
          clear hd hcl
          by_cases hlt : k < z.size
          · have j0 : (0 : Int) ≤ (k : Int) := by omega
            have j1 : (k : Int) < (z.size : Int) := by omega
            have TK := Lib.hid (take_one z k hlt)
            have B32 := Lib.hid (byte_is z[k] 32 (by omega))
            have B10 := Lib.hid (byte_is z[k] 10 (by omega))
            have B47 := Lib.hid (byte_is z[k] 47 (by omega))
            have MEM := Lib.hid (mem_at z k hlt)
            cases c32 : ((z[k].toNat : Int) == 32) with
            | true =>
              have NO : Hid (okR R = false) := Lib.hid (okR_not (by rw [HPP.out.2.2.1]; exact MEM.out) (Or.inl (by have := B32.out; rw [show ((32 : Nat) : Int) = 32 from rfl, c32] at this; exact beq_iff_eq.1 this.symm)))
              clear HRF
              go_wp2_with (refine wpList_store_row rfl 58 _ _ rfl g #[.bool false, .bool false, .bool false, .string ⟨#[]⟩] rfl rfl 58 _ a0 szG rfl (one4 _ _ _ _) ?_)
              (try simp only [Exit.inBlock, Exit.then]); refine bodyPost_ret (results_row_tmp rfl _ _ g 58 _ rfl (a0.row #[.bool false, .bool false, .bool false, .string ⟨#[]⟩]) Tryd.underlying58 rfl szG) rfl ?_
              exact ⟨ext_row' HE.out g _ (by have := HG.out; omega), Or.inr ⟨NO.out, rfl⟩⟩
            | false =>
              cases c10 : ((z[k].toNat : Int) == 10) with
              | true =>
                have NO : Hid (okR R = false) := Lib.hid (okR_not (by rw [HPP.out.2.2.1]; exact MEM.out) (Or.inr (by have := B10.out; rw [show ((10 : Nat) : Int) = 10 from rfl, c10] at this; exact beq_iff_eq.1 this.symm)))
                go_wp2_with (refine wpList_store_row rfl 58 _ _ rfl g #[.bool false, .bool false, .bool false, .string ⟨#[]⟩] rfl rfl 58 _ a0 szG rfl (one4 _ _ _ _) ?_)
                (try simp only [Exit.inBlock, Exit.then]); refine bodyPost_ret (results_row_tmp rfl _ _ g 58 _ rfl (a0.row #[.bool false, .bool false, .bool false, .string ⟨#[]⟩]) Tryd.underlying58 rfl szG) rfl ?_
                exact ⟨ext_row' HE.out g _ (by have := HG.out; omega), Or.inr ⟨NO.out, rfl⟩⟩
              | false =>
                have n32 : z[k] ≠ 32 := by have := B32.out; rw [show ((32 : Nat) : Int) = 32 from rfl, c32] at this; exact beq_eq_false_iff_ne.1 this.symm
                have n10 : z[k] ≠ 10 := by have := B10.out; rw [show ((10 : Nat) : Int) = 10 from rfl, c10] at this; exact beq_eq_false_iff_ne.1 this.symm
                have NX := Lib.hid (fun (D' : Bool) (h : D' = (D || ((z[k].toNat : Int) == 47))) => (show InvRr w g z false true (.int .i64 ((k : Int) + 1)) (wr.setCell ⟨g + 1, 2, none⟩ (.bool D')) from
                  ⟨k + 1, D', by omega, by push_cast; rfl, at_set_other a0 (by omega) 2 _, a1.set 2 _, ext_set HE.out (g + 1) 2 (by have := HG.out; omega) _, by
                    rw [h, TK.out, has_app, ← HD.out]
                    have := B47.out
                    rw [show ((47 : Nat) : Int) = 47 from rfl] at this
                    rw [this]; rfl, fun c hc => by
                    rw [TK.out] at hc
                    rcases List.mem_append.1 hc with h | h
                    · exact HCL.out c h
                    · simp at h; subst h; exact ⟨n32, n10⟩⟩))
                have c2 : wr.cell? ⟨g + 1, 2, none⟩ = some (.bool D) := by rw [a1.cell]; rfl
                have f2 := a1.frozen 2
                clear a0 a1 n32 n10 he
                cases D with
                | true =>
                  have NXX := Lib.hid (NX.out true rfl)
                  clear NX
                  go_wp2_with fail
                  exact ⟨NXX.out, by simp [intOf]; omega⟩
                | false =>
                  have NXX := Lib.hid (NX.out _ rfl)
                  clear NX
                  simp only [Bool.false_or] at NXX
                  go_wp2_with fail
                  exact ⟨NXX.out, by simp [intOf]; omega⟩
          · obtain rfl : k = z.size := by omega
            have TK := Lib.hid (show z.toList.take z.size = z.toList by rw [size_list, List.take_length])
            have YES : Hid (okR R = true) := Lib.hid (okR_of (by rw [HPP.out.2.2.1, ← size_list]; omega) (by rw [HPP.out.2.2.1, ← size_list]; omega) (by rw [HPP.out.2.2.1]; intro c hc; exact HCL.out c (by rw [TK.out]; exact hc)))
            have HWH : Hid (R.wh = D) := Lib.hid (by rw [HPP.out.2.2.2, HD.out, TK.out])
            have c3 : wr.cell? ⟨g + 1, 3, none⟩ = some (.string ⟨#[]⟩) := by rw [a1.cell]; rfl
            have f3 := a1.frozen 3
            have a0' := at_set_other a0 (b' := g + 1) (by omega) 3 (.string z)
            have a1' : At (wr.setCell ⟨g + 1, 3, none⟩ (.string z)) (g + 1) #[.bool false, .bool true, .bool D, .string z] 58 := a1.set 3 _
            have E3 := Lib.hid (ext_set HE.out (g + 1) 3 (by have := HG.out; omega) (.string z))
            clear a0 a1 he hlt
            go_upto_region 17 with fail
            generalize wr.setCell ⟨g + 1, 3, none⟩ (.string z) = W4 at *
            clear c3 f3
            go_wp2_with (first | (refine wpList_load_row rfl 58 _ rfl (g + 1) rfl 58 _ (0, 0) _ a1' Tryd.underlying58 rfl szG ?_) | (refine wpList_store_row rfl 58 _ _ rfl g #[.bool false, .bool true, .bool D, .string z] rfl rfl 58 _ a0' szG rfl (one4 _ _ _ _) ?_))
            (try simp only [Exit.inBlock, Exit.then]); refine bodyPost_ret (results_row_tmp rfl _ _ g 58 _ rfl (a0'.row #[.bool false, .bool true, .bool D, .string z]) Tryd.underlying58 rfl szG) rfl ?_
            refine ⟨ext_row' E3.out g _ (by have := HG.out; omega), Or.inl ⟨YES.out, ?_⟩⟩
            rw [HPP.out.1, HPP.out.2.1, HPP.out.2.2.1, HWH.out, list_tx]
            rfl
      | false =>
        have HC2 := Lib.hid (suf_keep s hq)
        by_cases h2 : 0 < s.size
        · have q0 : ((s[s.size - 1].toNat : Int) == 47) = false := by rw [← suf_at s h2]; exact hq
          have d2 : decide ((0 : Int) < (s.size : Int)) = true := decide_eq_true (by omega)
          have i2 : ((s.size : Int) - 1).toNat = s.size - 1 := by omega
          have i3 : (0 : Int) ≤ (s.size : Int) - 1 := by omega
          have i4 : (s.size : Int) - 1 < (s.size : Int) := by omega
          go_upto_region 8 with fail
          clear d2
          have hzb : (s).size ≤ 1000000 := by first | assumption | (rw [ByteArray.size_extract]; omega)
          have hN : (mkR s.toList).nt = false := HNT.out
          have hD : (mkR s.toList).dr = false := by show Lib.hasSuffix (Lib.trimPrefix s.toList [33]) [47] = false; rw [HC.out]; exact hq
          have hP : (mkR s.toList).pat = (s).toList := by show Lib.trimSuffix (Lib.trimPrefix s.toList [33]) [47] = (s).toList; rw [HC.out]; exact HC2.out
          have hW : (mkR s.toList).wh = (mkR s.toList).pat.contains 47 := rfl
          rw [hP] at hW
          have HPP := Lib.hid (And.intro hN (And.intro hD (And.intro hP hW)))
          have E2 := Lib.hid ((Ext.alloc w (.cells #[.bool false, .bool false, .bool false, .string ⟨#[]⟩] 58)).trans (Ext.alloc _ (.cells #[.bool false, .bool false, .bool false, .string ⟨#[]⟩] 58)))
          have A0 := Lib.hid ((At.new w #[.bool false, .bool false, .bool false, .string ⟨#[]⟩] 58).ext (Ext.alloc _ (.cells #[.bool false, .bool false, .bool false, .string ⟨#[]⟩] 58)))
          have A1 := Lib.hid (show At ((w.alloc (.cells #[.bool false, .bool false, .bool false, .string ⟨#[]⟩] 58)).alloc (.cells #[.bool false, .bool false, .bool false, .string ⟨#[]⟩] 58)) (w.heap.size + 1) #[.bool false, .bool false, .bool false, .string ⟨#[]⟩] 58 by
            have := At.new (w.alloc (.cells #[.bool false, .bool false, .bool false, .string ⟨#[]⟩] 58)) #[.bool false, .bool false, .bool false, .string ⟨#[]⟩] 58
            rwa [size_alloc] at this)
          have HRF := Lib.hid (fun (e : Ending) (w' : World) (h : RefP w (mkR s.toList) e w') => h)
          clear hN hD hP hW
          generalize (w.alloc (.cells #[.bool false, .bool false, .bool false, .string ⟨#[]⟩] 58)).alloc (.cells #[.bool false, .bool false, .bool false, .string ⟨#[]⟩] 58) = W2 at *
          generalize hR : mkR s.toList = R at *
          clear hR HC HC2 HNT

          obtain ⟨g, hg⟩ : ∃ g, g = w.heap.size := ⟨_, rfl⟩
          have HG := Lib.hid hg
          rw [← hg] at A0 A1 ⊢
          clear hg
          by_cases h1 : s.size < 1
          · have l1 : decide ((s.size : Int) < 1) = true := decide_eq_true (by omega)
            have NO : Hid (okR R = false) := Lib.hid (by
              unfold okR
              rw [HPP.out.2.2.1, decide_eq_false (p := 0 < s.toList.length) (by rw [← size_list]; omega)]; rfl)
            have a0 := A0.out
            go_wp2_with (refine wpList_store_row rfl 58 _ _ rfl g #[.bool false, .bool false, .bool false, .string ⟨#[]⟩] rfl rfl 58 _ a0 szG rfl (one4 _ _ _ _) ?_)
            (try simp only [Exit.inBlock, Exit.then]); refine bodyPost_ret (results_row_tmp rfl _ _ g 58 _ rfl (a0.row #[.bool false, .bool false, .bool false, .string ⟨#[]⟩]) Tryd.underlying58 rfl szG) rfl ?_
            exact ⟨ext_row' E2.out g _ (by have := HG.out; omega), Or.inr ⟨NO.out, rfl⟩⟩
          have l1 : decide ((s.size : Int) < 1) = false := decide_eq_false (by omega)
          by_cases h60 : 60 < s.size
          · have l2 : decide ((60 : Int) < (s.size : Int)) = true := decide_eq_true (by omega)
            have NO : Hid (okR R = false) := Lib.hid (by
              unfold okR
              rw [HPP.out.2.2.1, decide_eq_false (p := s.toList.length ≤ 60) (by rw [← size_list]; omega), Bool.and_false]; rfl)
            have a0 := A0.out
            go_wp2_with (refine wpList_store_row rfl 58 _ _ rfl g #[.bool false, .bool false, .bool false, .string ⟨#[]⟩] rfl rfl 58 _ a0 szG rfl (one4 _ _ _ _) ?_)
            (try simp only [Exit.inBlock, Exit.then]); refine bodyPost_ret (results_row_tmp rfl _ _ g 58 _ rfl (a0.row #[.bool false, .bool false, .bool false, .string ⟨#[]⟩]) Tryd.underlying58 rfl szG) rfl ?_
            exact ⟨ext_row' E2.out g _ (by have := HG.out; omega), Or.inr ⟨NO.out, rfl⟩⟩
          have l2 : decide ((60 : Int) < (s.size : Int)) = false := decide_eq_false (by omega)
          go_wp2_with fail
          go_loopw [5] (fun i wr => InvRr w g s false false i wr) (fun i _ => s.size - (intOf i).toNat)
          case atStart => exact ⟨0, false, by omega, rfl, A0.out, A1.out, E2.out, rfl, fun c hc => by simp at hc⟩
          case round =>
            obtain ⟨k, D, hk, rfl, a0, a1, he, hd, hcl⟩ := hrel
            have HD := Lib.hid hd; have HE := Lib.hid he; have HCL := Lib.hid hcl
            clear hd hcl
            by_cases hlt : k < s.size
            · have j0 : (0 : Int) ≤ (k : Int) := by omega
              have j1 : (k : Int) < (s.size : Int) := by omega
              have TK := Lib.hid (take_one s k hlt)
              have B32 := Lib.hid (byte_is s[k] 32 (by omega))
              have B10 := Lib.hid (byte_is s[k] 10 (by omega))
              have B47 := Lib.hid (byte_is s[k] 47 (by omega))
              have MEM := Lib.hid (mem_at s k hlt)
              cases c32 : ((s[k].toNat : Int) == 32) with
              | true =>
                have NO : Hid (okR R = false) := Lib.hid (okR_not (by rw [HPP.out.2.2.1]; exact MEM.out) (Or.inl (by have := B32.out; rw [show ((32 : Nat) : Int) = 32 from rfl, c32] at this; exact beq_iff_eq.1 this.symm)))
                clear HRF
                go_wp2_with (refine wpList_store_row rfl 58 _ _ rfl g #[.bool false, .bool false, .bool false, .string ⟨#[]⟩] rfl rfl 58 _ a0 szG rfl (one4 _ _ _ _) ?_)
                (try simp only [Exit.inBlock, Exit.then]); refine bodyPost_ret (results_row_tmp rfl _ _ g 58 _ rfl (a0.row #[.bool false, .bool false, .bool false, .string ⟨#[]⟩]) Tryd.underlying58 rfl szG) rfl ?_
                exact ⟨ext_row' HE.out g _ (by have := HG.out; omega), Or.inr ⟨NO.out, rfl⟩⟩
              | false =>
                cases c10 : ((s[k].toNat : Int) == 10) with
                | true =>
                  have NO : Hid (okR R = false) := Lib.hid (okR_not (by rw [HPP.out.2.2.1]; exact MEM.out) (Or.inr (by have := B10.out; rw [show ((10 : Nat) : Int) = 10 from rfl, c10] at this; exact beq_iff_eq.1 this.symm)))
                  go_wp2_with (refine wpList_store_row rfl 58 _ _ rfl g #[.bool false, .bool false, .bool false, .string ⟨#[]⟩] rfl rfl 58 _ a0 szG rfl (one4 _ _ _ _) ?_)
                  (try simp only [Exit.inBlock, Exit.then]); refine bodyPost_ret (results_row_tmp rfl _ _ g 58 _ rfl (a0.row #[.bool false, .bool false, .bool false, .string ⟨#[]⟩]) Tryd.underlying58 rfl szG) rfl ?_
                  exact ⟨ext_row' HE.out g _ (by have := HG.out; omega), Or.inr ⟨NO.out, rfl⟩⟩
                | false =>
                  have n32 : s[k] ≠ 32 := by have := B32.out; rw [show ((32 : Nat) : Int) = 32 from rfl, c32] at this; exact beq_eq_false_iff_ne.1 this.symm
                  have n10 : s[k] ≠ 10 := by have := B10.out; rw [show ((10 : Nat) : Int) = 10 from rfl, c10] at this; exact beq_eq_false_iff_ne.1 this.symm
                  have NX := Lib.hid (fun (D' : Bool) (h : D' = (D || ((s[k].toNat : Int) == 47))) => (show InvRr w g s false false (.int .i64 ((k : Int) + 1)) (wr.setCell ⟨g + 1, 2, none⟩ (.bool D')) from
                    ⟨k + 1, D', by omega, by push_cast; rfl, at_set_other a0 (by omega) 2 _, a1.set 2 _, ext_set HE.out (g + 1) 2 (by have := HG.out; omega) _, by
                      rw [h, TK.out, has_app, ← HD.out]
                      have := B47.out
                      rw [show ((47 : Nat) : Int) = 47 from rfl] at this
                      rw [this]; rfl, fun c hc => by
                      rw [TK.out] at hc
                      rcases List.mem_append.1 hc with h | h
                      · exact HCL.out c h
                      · simp at h; subst h; exact ⟨n32, n10⟩⟩))
                  have c2 : wr.cell? ⟨g + 1, 2, none⟩ = some (.bool D) := by rw [a1.cell]; rfl
                  have f2 := a1.frozen 2
                  clear a0 a1 n32 n10 he
                  cases D with
                  | true =>
                    have NXX := Lib.hid (NX.out true rfl)
                    clear NX
                    go_wp2_with fail
                    exact ⟨NXX.out, by simp [intOf]; omega⟩
                  | false =>
                    have NXX := Lib.hid (NX.out _ rfl)
                    clear NX
                    simp only [Bool.false_or] at NXX
                    go_wp2_with fail
                    exact ⟨NXX.out, by simp [intOf]; omega⟩
            · obtain rfl : k = s.size := by omega
              have TK := Lib.hid (show s.toList.take s.size = s.toList by rw [size_list, List.take_length])
              have YES : Hid (okR R = true) := Lib.hid (okR_of (by rw [HPP.out.2.2.1, ← size_list]; omega) (by rw [HPP.out.2.2.1, ← size_list]; omega) (by rw [HPP.out.2.2.1]; intro c hc; exact HCL.out c (by rw [TK.out]; exact hc)))
              have HWH : Hid (R.wh = D) := Lib.hid (by rw [HPP.out.2.2.2, HD.out, TK.out])
              have c3 : wr.cell? ⟨g + 1, 3, none⟩ = some (.string ⟨#[]⟩) := by rw [a1.cell]; rfl
              have f3 := a1.frozen 3
              have a0' := at_set_other a0 (b' := g + 1) (by omega) 3 (.string s)
              have a1' : At (wr.setCell ⟨g + 1, 3, none⟩ (.string s)) (g + 1) #[.bool false, .bool false, .bool D, .string s] 58 := a1.set 3 _
              have E3 := Lib.hid (ext_set HE.out (g + 1) 3 (by have := HG.out; omega) (.string s))
              clear a0 a1 he hlt
              go_upto_region 17 with fail
              generalize wr.setCell ⟨g + 1, 3, none⟩ (.string s) = W4 at *
              clear c3 f3
              go_wp2_with (first | (refine wpList_load_row rfl 58 _ rfl (g + 1) rfl 58 _ (0, 0) _ a1' Tryd.underlying58 rfl szG ?_) | (refine wpList_store_row rfl 58 _ _ rfl g #[.bool false, .bool false, .bool D, .string s] rfl rfl 58 _ a0' szG rfl (one4 _ _ _ _) ?_))
              (try simp only [Exit.inBlock, Exit.then]); refine bodyPost_ret (results_row_tmp rfl _ _ g 58 _ rfl (a0'.row #[.bool false, .bool false, .bool D, .string s]) Tryd.underlying58 rfl szG) rfl ?_
              refine ⟨ext_row' E3.out g _ (by have := HG.out; omega), Or.inl ⟨YES.out, ?_⟩⟩
              rw [HPP.out.1, HPP.out.2.1, HPP.out.2.2.1, HWH.out, list_tx]
              rfl
        · exact absurd h0 h2
    · have d0 : decide ((0 : Int) < (s.size : Int)) = false := decide_eq_false (by omega)
      clear hp
      go_enter Tryd.func27, Tryd.ntmps27
      have hq : Lib.hasSuffix s.toList [47] = false := by rw [pre_zero s (by omega)]; rfl
      have HC2 := Lib.hid (suf_keep s hq)
      go_upto_region 8 with fail
      clear d0
      have hzb : (s).size ≤ 1000000 := by first | assumption | (rw [ByteArray.size_extract]; omega)
      have hN : (mkR s.toList).nt = false := HNT.out
      have hD : (mkR s.toList).dr = false := by show Lib.hasSuffix (Lib.trimPrefix s.toList [33]) [47] = false; rw [HC.out]; exact hq
      have hP : (mkR s.toList).pat = (s).toList := by show Lib.trimSuffix (Lib.trimPrefix s.toList [33]) [47] = (s).toList; rw [HC.out]; exact HC2.out
      have hW : (mkR s.toList).wh = (mkR s.toList).pat.contains 47 := rfl
      rw [hP] at hW
      have HPP := Lib.hid (And.intro hN (And.intro hD (And.intro hP hW)))
      have E2 := Lib.hid ((Ext.alloc w (.cells #[.bool false, .bool false, .bool false, .string ⟨#[]⟩] 58)).trans (Ext.alloc _ (.cells #[.bool false, .bool false, .bool false, .string ⟨#[]⟩] 58)))
      have A0 := Lib.hid ((At.new w #[.bool false, .bool false, .bool false, .string ⟨#[]⟩] 58).ext (Ext.alloc _ (.cells #[.bool false, .bool false, .bool false, .string ⟨#[]⟩] 58)))
      have A1 := Lib.hid (show At ((w.alloc (.cells #[.bool false, .bool false, .bool false, .string ⟨#[]⟩] 58)).alloc (.cells #[.bool false, .bool false, .bool false, .string ⟨#[]⟩] 58)) (w.heap.size + 1) #[.bool false, .bool false, .bool false, .string ⟨#[]⟩] 58 by
        have := At.new (w.alloc (.cells #[.bool false, .bool false, .bool false, .string ⟨#[]⟩] 58)) #[.bool false, .bool false, .bool false, .string ⟨#[]⟩] 58
        rwa [size_alloc] at this)
      have HRF := Lib.hid (fun (e : Ending) (w' : World) (h : RefP w (mkR s.toList) e w') => h)
      clear hN hD hP hW
      generalize (w.alloc (.cells #[.bool false, .bool false, .bool false, .string ⟨#[]⟩] 58)).alloc (.cells #[.bool false, .bool false, .bool false, .string ⟨#[]⟩] 58) = W2 at *
      generalize hR : mkR s.toList = R at *
      clear hR HC HC2 HNT

      obtain ⟨g, hg⟩ : ∃ g, g = w.heap.size := ⟨_, rfl⟩
      have HG := Lib.hid hg
      rw [← hg] at A0 A1 ⊢
      clear hg
      have h1 : s.size < 1 := by omega
      have l1 : decide ((s.size : Int) < 1) = true := decide_eq_true (by omega)
      have NO : Hid (okR R = false) := Lib.hid (by
        unfold okR
        rw [HPP.out.2.2.1, decide_eq_false (p := 0 < s.toList.length) (by rw [← size_list]; omega)]; rfl)
      have a0 := A0.out
      go_wp2_with (refine wpList_store_row rfl 58 _ _ rfl g #[.bool false, .bool false, .bool false, .string ⟨#[]⟩] rfl rfl 58 _ a0 szG rfl (one4 _ _ _ _) ?_)
      (try simp only [Exit.inBlock, Exit.then]); refine bodyPost_ret (results_row_tmp rfl _ _ g 58 _ rfl (a0.row #[.bool false, .bool false, .bool false, .string ⟨#[]⟩]) Tryd.underlying58 rfl szG) rfl ?_
      exact ⟨ext_row' E2.out g _ (by have := HG.out; omega), Or.inr ⟨NO.out, rfl⟩⟩
end Go.Proofs.YtoompkmncglmoaaDoor
