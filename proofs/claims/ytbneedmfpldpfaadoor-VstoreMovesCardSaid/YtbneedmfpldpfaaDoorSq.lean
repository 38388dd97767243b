/- The walk of VstoreNothing. -/
import Derived.Test.YtbneedmfpldpfaaDoorSn
import Derived.Test.YtbneedmfpldpfaaDoorSo
import Derived.Laws.BytesArg
set_option linter.unusedSimpArgs false
namespace Go.Proofs.YtbneedmfpldpfaaDoor
open Go.RowKit Go.Pth

theorem awake_acc {w0 w : World} (h : Ext w0 w) : Calls Tryd.prog 6 #[] w fun e w' => e = .returned (.bool true) ∧ Ext w0 w' :=
  (awake_any w).mono fun _ _ ⟨x, y⟩ => ⟨x, h.trans y⟩
theorem Bin.src {w : World} {v : Value} {l : List Int} {ad : Option Addr} {cap b o : Nat} (h : Bin w v l ad cap b o) (hl : 0 < l.length) : Src Tryd.prog 1 22 v l.length (bts l) w := by
  rw [h.val, h.adr hl]
  refine Src.ofSlice w Tryd.underlying22 ⟨b, o, none⟩ l.length cap (bts l) (by rw [bts_len, Nat.mul_one]) (fun j u hu => ?_) (bts_one l)
  rw [Addr.add_lit]; exact h.cell j u hu
theorem bin_row {w : World} {g cap n : Nat} {l : List Int} (h : Row w 5 1 (.slice (some ⟨g, 0, none⟩) n cap) n (bts l)) (hl : l.length = n) : Bin w (.slice (some ⟨g, 0, none⟩) n cap) l (some ⟨g, 0, none⟩) cap g 0 :=
  ⟨by rw [hl], fun _ => rfl, fun j u hu => by
    have hj := (List.getElem?_eq_some_iff.1 hu).1
    rw [bts_len] at hj
    rw [Nat.zero_add, (Row.cell h j (by omega)).1, hu]⟩
theorem SX_nd (a : Nat) (m : List Int) (hm : m ≠ []) : ((((SV.new 1000).beg.made a [120] 1).beg.wrote a 0 m).nd a).now = m ∧ ((((SV.new 1000).beg.made a [120] 1).beg.wrote a 0 m).nd a).kind = 1 := by
  unfold SV.wrote
  simp only [upd_same]
  have b1 := beg_same ((SV.new 1000).beg.made a [120] 1)
  have b0 := beg_same (SV.new 1000)
  rw [b1.2.1]
  have e1 : ((SV.new 1000).beg.made a [120] 1).nd a = newN 1 1 := by unfold SV.made; simp only [upd_same]; rw [b0.2.2.2.1]; rfl
  rw [e1, write_new 1 1 m hm]
  exact ⟨rfl, rfl⟩
theorem SX_names (a : Nat) (m : List Int) : (((SV.new 1000).beg.made a [120] 1).beg.wrote a 0 m).names = [([120], a)] := by
  unfold SV.wrote
  simp only [(beg_same _).1]
  unfold SV.made
  simp only [(beg_same _).1]
  rfl
theorem SX_file (a : Nat) (m : List Int) (hm : m ≠ []) : (((SV.new 1000).beg.made a [120] 1).beg.wrote a 0 m).file [120] = (some a, 0) := by
  unfold SV.file
  rw [SX_names, look_one]
  simp only [(SX_nd a m hm).2, if_true]
theorem conv_row {w : World} {b o cap : Nat} {m : List Int} {n : Nat} (hn : m.length = n) (hc : ∀ j u, (bts m)[j]? = some u → w.cell? ⟨b, o + j, none⟩ = some u) :
    (convert 22 9 (.slice (some ⟨b, o, none⟩) n cap)).run Tryd.prog w = .ok (.string (strOfNums m)) w :=
  run_convert_bytes_arg w 22 5 Tryd.underlying22 Tryd.underlying5 b o n cap m hn (fun j hj => by
    refine hc j _ ?_
    rw [bts, List.getElem?_map, List.getElem?_eq_getElem (by omega)]
    simp [List.getD_eq_getElem?_getD, hn, hj]) 9 Tryd.underlying9
theorem tl120 : (⟨#[120]⟩ : ByteArray).toList = [120] := ByteArray.toList_mk [120]
set_option maxRecDepth 100000 in
set_option maxHeartbeats 8000000 in
theorem nothing_any (path : ByteArray) (m : List Int) (ad : Option Addr) (cap bb o : Nat) (w : World) (hb : Bin w (.slice ad m.length cap) m ad cap bb o) (hm : ∀ y ∈ m, 0 ≤ y ∧ y < 256) (hp : path.size ≤ 9223372036854775807) (hml : m.length ≤ 9223372036854775807) :
    Calls Tryd.prog 3 #[.string path, .slice ad m.length cap] w fun e w' => e = .returned (.bool true) ∧ Ext w w' := by
  have hE := Ext.refl w
  by_cases h0 : 200 < path.size ∨ m.length = 0 ∨ 300 < m.length
  · generalize m.length = n at *
    clear hb hm
    by_cases h1 : 200 < path.size
    · have d1 : decide ((200 : Int) < (path.size : Int)) = true := decide_eq_true (by omega)
      clear h0 h1
      go_enter Tryd.func3, Tryd.ntmps3
      go_wp2_with (go_at_call 6; refine (awake_acc hE).mono ?_; rintro e w' ⟨rfl, hE⟩)
      go_ret
      exact ⟨rfl, hE⟩
    · have d1 : decide ((200 : Int) < (path.size : Int)) = false := decide_eq_false (by omega)
      by_cases h2 : n = 0
      · subst h2
        clear h0 h1
        go_enter Tryd.func3, Tryd.ntmps3
        go_wp2_with (go_at_call 6; refine (awake_acc hE).mono ?_; rintro e w' ⟨rfl, hE⟩)
        go_ret
        exact ⟨rfl, hE⟩
      · have q1 : (n == 0) = false := by simpa using h2
        have q2 : ((n : Int) == 0) = false := by simp; omega
        have d3 : decide ((300 : Int) < (n : Int)) = true := decide_eq_true (by omega)
        clear h0 h1 h2
        go_enter Tryd.func3, Tryd.ntmps3
        go_wp2_with (go_at_call 6; refine (awake_acc hE).mono ?_; rintro e w' ⟨rfl, hE⟩)
        go_ret
        exact ⟨rfl, hE⟩
  · have d1 : decide ((200 : Int) < (path.size : Int)) = false := decide_eq_false (by omega)
    have d3 : decide ((300 : Int) < (m.length : Int)) = false := decide_eq_false (by omega)
    have hn0 : 0 < m.length := by omega
    have hn3 : m.length ≤ 300 := by omega
    clear h0
    have RN := Lib.hid read_nil
    have SN := Lib.hid stat_nil
    have NW := Lib.hid (fun w => new_ok 1000 w (by omega) (by omega))
    have HB := Lib.hid hb
    have HM := Lib.hid hm
    clear hb hm
    obtain ⟨n, hn⟩ : ∃ n, n = m.length := ⟨_, rfl⟩
    have HN := Lib.hid hn
    rw [← hn] at d3 hn0 hn3 hml HB ⊢
    clear hn
    have q1 : (n == 0) = false := by simp; omega
    have q2 : ((n : Int) == 0) = false := by simp; omega
    unfold zstat at SN
    go_enter Tryd.func3, Tryd.ntmps3
    go_wp2_with fail
    refine (RN.out _ _).mono ?_
    rintro e w1 ⟨rfl, e1⟩
    go_wp2_with fail
    refine (SN.out _ _).mono ?_
    rintro e w2 ⟨rfl, e2⟩
    have E2 := Lib.hid ((e1.trans e2).trans (Ext.alloc w2 (.cells #[.string ⟨#[]⟩, .int .i64 0, .int .i64 0, .int .i64 0, .int .u64 0] 30)))
    clear e1 e2
    go_wp2_with fail
    refine (NW.out _).mono ?_
    rintro e w3 ⟨rfl, e3, V3, L3, r3, l3⟩
    have R3 := Lib.hid r3
    have O3 := Lib.hid l3
    have E3 := Lib.hid (E2.out.trans e3)
    have X3 := Lib.hid E2.out
    obtain ⟨b, hbb⟩ : ∃ b, b = (w2.alloc (.cells #[.string ⟨#[]⟩, .int .i64 0, .int .i64 0, .int .i64 0, .int .u64 0] 30)).heap.size := ⟨_, rfl⟩
    rw [← hbb] at R3 O3 ⊢
    have HBB := Lib.hid hbb
    clear r3 e3 l3 NW RN SN hbb
    unfold ptr
    have hE := Ext.refl w3
    have z1 := Lib.hid create_nil
    have z2 := Lib.hid write_nil
    have z3 := Lib.hid syncDir_nil
    have z4 := Lib.hid rot_nil
    have z5 := Lib.hid list_nil
    have z6 := Lib.hid used_nil
    have z7 := Lib.hid clock_nil
    have z8 := Lib.hid crash_nil
    go_upto_region 9 with (first
      | (go_at_call 10; refine (z1.out _ _).mono ?_; rintro e w' ⟨rfl, e'⟩; replace hE := hE.trans e'; clear e')
      | (go_at_call 11; refine (z2.out _ _ _ _).mono ?_; rintro e w' ⟨rfl, e'⟩; replace hE := hE.trans e'; clear e')
      | (go_at_call 12; refine (z3.out _).mono ?_; rintro e w' ⟨rfl, rfl⟩)
      | (go_at_call 13; refine (z4.out _ _ _ _).mono ?_; rintro e w' ⟨rfl, e'⟩; replace hE := hE.trans e'; clear e')
      | (go_at_call 14; refine (z5.out _).mono ?_; rintro e w' ⟨rfl, rfl⟩)
      | (go_at_call 15; refine (z6.out _).mono ?_; rintro e w' ⟨rfl, rfl⟩)
      | (go_at_call 16; refine (z7.out _).mono ?_; rintro e w' ⟨rfl, rfl⟩)
      | (go_at_call 17; refine (z8.out _ _).mono ?_; rintro e w' ⟨rfl, rfl⟩))
    have R4 := Lib.hid (R3.out.ext hE)
    have E4 := Lib.hid (E3.out.trans hE)
    obtain ⟨i, hi1, hi2, hi3, hi4⟩ := info_of info5
    obtain ⟨v5, w5, h1, h2, h3⟩ := run_append_row (P := Tryd.prog) (w'.alloc (.cells #[] 5)) 22 22 22 5 i _ Tryd.underlying22 hi1 hi2 (by rw [hi3]; rfl) (.slice (some ⟨w'.heap.size, 0, none⟩) 0 0) 0 [] (by rw [hi3]; exact empty_row _ _ _) (.slice ad n cap) n (bts m) (by rw [hi3]; have := ((HB.out.ext E4.out).ext (Ext.alloc w' (.cells #[] 5))).src (by rw [← HN.out]; exact hn0); rw [← HN.out] at this; exact this) (by simp only [maxLen]; omega) (by rw [hi4]; omega)
    rw [hi3, Nat.zero_add, List.nil_append] at h2
    have fr := fresh2 h3
    obtain ⟨gc, kc, hv5, hkc, -⟩ := Row.own h2 hn0
    subst hv5
    have hgc := fr.2 gc rfl
    have LN : L3 gc = none := by
      cases hc : L3 gc with
      | none => rfl
      | some r => have := R4.out.lt gc (by rw [hc]; simp); omega
    have H1 := Lib.hid h1
    have R5 := R4.out.ext fr.1
    have E5 := Lib.hid (E4.out.trans fr.1)
    have S5 := Lib.hid (fr.1.size)
    have CA := Lib.hid (create_of b ⟨#[120]⟩ 0 w5 (add_ok b (SV.new 1000) V3 L3 ⟨#[120]⟩ 1 w5 R5 (new_fit 1000) (by rw [tl120]; exact begE_ok rfl _ vx) (by rw [tl120]; exact new_takes 1000 _ px) rfl))
    simp only [tl120] at CA
    unfold ptr at CA
    have H2 := Lib.hid h2
    have HLN := Lib.hid LN
    have GC := Lib.hid (show gc < w5.heap.size from h2.lt gc rfl)
    have GW := Lib.hid (Nat.le_trans E4.out.size hgc)
    clear h1 h2 h3 fr hi1 hi2 hi3 hi4 LN hgc R5 z1 z2 z3 z4 z5 z6 z7 z8
    go_wp2_with (first | (at_builtin; refine Lib.wpList_append_run _ rfl _ _ _ _ rfl _ _ rfl rfl _ _ H1.out ?_) | fail)
    refine (CA.out).mono ?_
    rintro e w6 ⟨rfl, a, V6, L6, na, r6, t6⟩
    have hmn : m ≠ [] := fun e => by have := HN.out; rw [e] at this; simp at this; omega
    have LL : ∀ i, L3 i ≠ none → w.heap.size ≤ i := fun i hi => by have h1 := X3.out.size; have h2 := O3.out i hi; have h3 := HBB.out; omega
    have O6 := own_step E5.out LL t6
    have n6 : L6 gc = none := none_step t6 HLN.out GC.out
    have gl6 : gc < w6.heap.size := Nat.lt_of_lt_of_le GC.out t6.chg.size
    have rv6 := H2.out.chg t6.chg (fun g hg => by injection hg with hg; rw [← hg, HLN.out]; simp)
    have WR := write_ok b ((SV.new 1000).beg.made a [120] 1) V6 L6 ⟨#[120]⟩ 0 m (.slice (some ⟨gc, 0, none⟩) n kc) _ _ gc 0 a w6 r6 (SM_fit a _ _) (by rw [tl120]; exact begE_ok (SM_power a _ _) _ vx) (by rw [tl120]; exact made_file a _ rfl) (bin_row rv6 HN.out.symm) n6 HM.out (by rw [← HN.out]; omega) (by rw [(SM_used a _ _).1, (SM_used a _ _).2.1, (SM_used a _ _).2.2, ← HN.out]; simp; omega)
    rw [show ((0 : Nat) : Int) = 0 from rfl] at WR
    have HWR := Lib.hid WR
    unfold ptr at HWR
    have HO6 := Lib.hid O6
    have HN6 := Lib.hid n6
    have HG6 := Lib.hid gl6
    have HV6 := Lib.hid rv6
    have HMN := Lib.hid hmn
    clear WR r6 t6 CA na O6 n6 gl6 rv6 LL hmn H1 H2
    go_wp2_with fail
    refine (HWR.out).mono ?_
    rintro e w7 ⟨rfl, V7, L7, r7, t7⟩
    have O7 := Lib.hid (own_step HO6.out.1 HO6.out.2 t7)
    have n7 := Lib.hid (none_step t7 HN6.out HG6.out)
    have rv7 := HV6.out.chg t7.chg (fun g hg => by injection hg with hg; rw [← hg, HN6.out]; simp)
    have R7 := Lib.hid r7
    obtain ⟨m0, mr, hm0⟩ : ∃ m0 mr, m = m0 :: mr := by cases m with | nil => exact absurd rfl HMN.out | cons x y => exact ⟨x, y, rfl⟩
    have HM0 := Lib.hid hm0
    have cg0 : w7.cell? ⟨gc, 0, none⟩ = some (.int .u8 m0) := by rw [(Row.cell rv7 0 hn0).1, hm0]; rfl
    have cf0 := (Row.cell rv7 0 hn0).2
    have RD := Lib.hid (fun u => read_ok b _ V7 L7 ⟨#[120]⟩ a (w7.setCell ⟨gc, 0, none⟩ u) (r7.keep (fun i hi => (Chg.setCell w7 gc 0 u).block i (r7.lt i hi) (fun e => hi (by rw [e]; exact n7.out))) (by rw [size_setCell]; exact Nat.le_refl _)) (by rw [SX_names]; simp) (by rw [tl120]; exact SX_file a m HMN.out))
    simp only [(SX_nd a m HMN.out).1, ← HN.out] at RD
    unfold ptr at RD
    have EX := Lib.hid (fun u => (((Chg.of_ext (X := fun _ => False) O7.out.1).trans (Chg.setCell w7 gc 0 u) (fun i hi e => by have := GW.out; omega)).ext : Ext w (w7.setCell ⟨gc, 0, none⟩ u)))
    have KP := Lib.hid (fun u => (r7.keep (fun i hi => (Chg.setCell w7 gc 0 u).block i (r7.lt i hi) (fun e => hi (by rw [e]; exact n7.out))) (by rw [size_setCell]; exact Nat.le_refl _) : Rep (w7.setCell ⟨gc, 0, none⟩ u) b _ V7 L7))
    have i0 : (0 : Int) < (n : Int) := by omega
    clear r7 t7 rv7 HWR HV6 HO6 hm0
    go_wp2_with fail
    refine (RD.out _).mono ?_
    rintro e w9 ⟨v9, rfl, r9, e9, f9⟩
    have szw : (w7.setCell ⟨gc, 0, none⟩ (.int .u8 ((m0 + 1) % 256))).heap.size = w7.heap.size := size_setCell _ _ _
    obtain ⟨g9, k9, hv9, hk9, -⟩ := Row.own r9 hn0
    subst hv9
    have E9 := (EX.out (.int .u8 ((m0 + 1) % 256))).trans e9
    have hb9 := HB.out.ext E9
    have had : ad = some ⟨bb, o, none⟩ := HB.out.adr (by rw [← HN.out]; exact hn0)
    subst had
    have cvb : (convert 22 9 (.slice (some ⟨bb, o, none⟩) n cap)).run Tryd.prog w9 = .ok (.string (strOfNums m)) w9 := conv_row HN.out.symm hb9.cell
    have cv9 : (convert 22 9 (.slice (some ⟨g9, 0, none⟩) n k9)).run Tryd.prog w9 = .ok (.string (strOfNums m)) w9 := conv_row HN.out.symm (bin_row r9 HN.out.symm).cell
    have f9g := f9 g9 rfl
    rw [szw] at f9g
    have R9 := Lib.hid ((KP.out (.int .u8 ((m0 + 1) % 256))).ext e9)
    have c9 : w9.cell? ⟨g9, 0, none⟩ = some (.int .u8 m0) := by rw [(Row.cell r9 0 hn0).1, HM0.out]; rfl
    have z9 := (Row.cell r9 0 hn0).2
    have n9 : L7 g9 = none := by
      cases hc : L7 g9 with
      | none => rfl
      | some r => have := R7.out.lt g9 (by rw [hc]; simp); omega
    have ww7 := O7.out.1.size
    have gb : bb ≠ g9 := fun e => by
      have h1 := HB.out.cell 0 (.int .u8 m0) (by rw [HM0.out]; rfl)
      have h2 := World.block_lt_of_cell? _ _ h1
      simp at h2; omega
    have RD2 := Lib.hid (fun u => read_ok b _ V7 L7 ⟨#[120]⟩ a (w9.setCell ⟨g9, 0, none⟩ u) (R9.out.keep (fun i hi => (Chg.setCell w9 g9 0 u).block i (R9.out.lt i hi) (fun e => hi (by rw [e]; exact n9))) (by rw [size_setCell]; exact Nat.le_refl _)) (by rw [SX_names]; simp) (by rw [tl120]; exact SX_file a m HMN.out))
    simp only [(SX_nd a m HMN.out).1, ← HN.out] at RD2
    unfold ptr at RD2
    have EX2 := Lib.hid (fun u => (((Chg.of_ext (X := fun _ => False) E9).trans (Chg.setCell w9 g9 0 u) (fun i hi e => by omega)).ext : Ext w (w9.setCell ⟨g9, 0, none⟩ u)))
    generalize hsm : strOfNums m = sm at *
    have HSM := Lib.hid hsm
    clear hsm E9 hb9 f9 f9g R9 e9 EX KP szw n9 ww7 gb r9 cg0 cf0 RD R7
    go_wp2_with fail
    refine (RD2.out _).mono ?_
    rintro e w11 ⟨v11, rfl, r11, e11, f11⟩
    obtain ⟨g11, k11, hv11, hk11, -⟩ := Row.own r11 hn0
    subst hv11
    have E11 := (EX2.out (.int .u8 ((m0 + 1) % 256))).trans e11
    have hb11 := HB.out.ext E11
    have cvb2 : (convert 22 9 (.slice (some ⟨bb, o, none⟩) n cap)).run Tryd.prog w11 = .ok (.string sm) w11 := by rw [← HSM.out]; exact conv_row HN.out.symm hb11.cell
    have cv11 : (convert 22 9 (.slice (some ⟨g11, 0, none⟩) n k11)).run Tryd.prog w11 = .ok (.string sm) w11 := by rw [← HSM.out]; exact conv_row HN.out.symm (bin_row r11 HN.out.symm).cell
    clear cvb cv9 r11 e11 f11 hb11 RD2 EX2
    go_wp2_with (go_at_call 6; refine (awake_acc E11).mono ?_; rintro e w' ⟨rfl, hEE⟩)
    go_ret
    exact ⟨rfl, hEE⟩
end Go.Proofs.YtbneedmfpldpfaaDoor
