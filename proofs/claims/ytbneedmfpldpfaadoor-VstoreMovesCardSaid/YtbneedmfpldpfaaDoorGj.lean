/- Contract of Rename. -/
import Derived.Test.YtbneedmfpldpfaaDoorGi
import Derived.Test.YtbneedmfpldpfaaDoorSg
set_option linter.unusedSimpArgs false
namespace Go.Proofs.YtbneedmfpldpfaaDoor
open Go.RowKit Go.Pth

theorem txt_two (w : World) (p q : ByteArray) : Txt (w.alloc (.cells #[.string p, .string q] 9)) (.slice (some ⟨w.heap.size, 0, none⟩) 2 2) [p.toList, q.toList] :=
  ⟨_, _, w.heap.size, rfl, fun _ => rfl, fun j hj => by
    have hj : j < 2 := hj
    rcases j with _ | _ | j
    · rw [(At.new w #[.string p, .string q] 9).cell]; simp [list_tx]
    · rw [(At.new w #[.string p, .string q] 9).cell]; simp [list_tx]
    · omega⟩
theorem begin_two (b : Nat) (S : SV) (V : SW) (L : Nat → Option Role) (p q : ByteArray) (w : World) (h : Rep w b S V L) (hf : S.Fit) :
    Calls Tryd.prog 30 #[ptr b, .slice (some ⟨w.heap.size, 0, none⟩) 2 2] (w.alloc (.cells #[.string p, .string q] 9)) fun e w' => e = .returned (.int .i64 (S.begE [p.toList, q.toList])) ∧ Rep w' b S.beg V L ∧ StTo w w' L L :=
  (begin_any b S V L _ [p.toList, q.toList] _ (h.ext (Ext.alloc _ _)) hf.left ⟨hf.ops.1, by have := hf.ops.2; omega⟩ (txt_two w p q) (by simp) (fun ad n c hv => by
    injection hv with h1; injection h1 with h1; rw [← h1]
    cases hc : L w.heap.size with
    | none => rfl
    | some r => have := h.lt w.heap.size (by rw [hc]; simp); omega)).mono fun e w' ⟨h1, h2, h3⟩ => ⟨h1, h2, (StTo.of_ext (Ext.alloc _ _)).trans h3⟩

def mvOk (l : List Nm) (f t : B) : Bool := (mvd (rung l f) f t).all fun e => valid e.1
/-- What Rename answers. -/
def renE (S : SV) (f t : B) : Int :=
  if S.begE [f, t] ≠ 0 then S.begE [f, t] else if (rung S.names f).length = 0 then 5 else if (t == f || under t f) = true then 1
  else if takes S.names (kinds S) t ≠ 0 then takes S.names (kinds S) t else if mvOk S.names f t = true then 0 else 1
def RenPost (w : World) (b : Nat) (S T : SV) (V : SW) (L : Nat → Option Role) (c : Int) (e : Ending) (w' : World) : Prop :=
  e = .returned (.int .i64 c) ∧ (c ≠ 0 → Rep w' b S.beg V L ∧ StTo w w' L L) ∧ (c = 0 → ∃ V' L', Rep w' b T V' L' ∧ StTo w w' L L')
theorem RenPost.err {w : World} {b : Nat} {S T : SV} {V : SW} {L : Nat → Option Role} {c : Int} {w' : World} (hc : c ≠ 0) (h : Rep w' b S.beg V L) (t : StTo w w' L L) : RenPost w b S T V L c (.returned (.int .i64 c)) w' := ⟨rfl, fun _ => ⟨h, t⟩, fun h => absurd h hc⟩
def InvRn (w : World) (l : List Nm) (i : Value) (wr : World) : Prop := ∃ k : Nat, k ≤ l.length ∧ i = .int .i64 k ∧ Ext w wr ∧ (l.take k).all (fun e => valid e.1) = true

set_option maxRecDepth 100000 in
set_option maxHeartbeats 8000000 in
theorem rename_any (b g cap : Nat) (S T : SV) (V : SW) (L : Nat → Option Role) (f t : ByteArray) (w : World) (h : Rep w b S V L) (hf : S.Fit) (hvn : V.n = .slice (some ⟨g, 0, none⟩) S.names.length cap)
    (hpre : ∀ e ∈ rung S.names f.toList, f.size ≤ e.1.length ∧ e.1.length ≤ 1000000) (ht : t.size ≤ 1000000)
    (hch : renE S f.toList t.toList = 0 → ∀ w', Rep w' b S.beg V L → Calls Tryd.prog 45 #[ptr b, .agg #[.string f, .string t, .pointer none]] w' fun e w'' => e = .returned (.tuple #[]) ∧ ∃ V' L', Rep w'' b T V' L' ∧ StTo w' w'' L L') :
    Calls Tryd.prog 20 #[ptr b, .string f, .string t] w (RenPost w b S T V L (renE S f.toList t.toList)) := by
  have BG := Lib.hid (begin_two b S V L f t w h hf)
  have bs := beg_same S
  have hnl := hf.names
  have hrl := rung_le S.names f.toList
  obtain ⟨R, hR⟩ : ∃ R, R = rung S.names f.toList := ⟨_, rfl⟩
  have TK := Lib.hid (fun w' (r : Rep w' b S.beg V L) => takes_any V.n S.beg.names (kinds S.beg) t w' (Tr.of_row r.nm) r.sn (by rw [bs.1]; omega) r.kindc)
  rw [show takes S.beg.names (kinds S.beg) t.toList = takes S.names (kinds S) t.toList by unfold kinds; rw [bs.1, bs.2.1], hvn] at TK
  have RU : Hid (∀ w', Rep w' b S.beg V L → Calls Tryd.prog 40 #[.slice (some ⟨g, 0, none⟩) S.names.length cap, .string f] w' (RunPost w' g R)) := fun w' r => by
    have hn := r.nm
    rw [bs.1, hvn] at hn
    obtain ⟨cur, hat, hn1, hcm, hcs, hxs⟩ := Row.at' hn
    rw [hR]
    exact run_any _ S.names f _ cap g 0 w' (Row.trr hn) hn1 hcm (fun hh => by cases hh) (fun A hA => by injection hA with hA; exact hA.symm) h.sn (by omega)
  have MV : Hid (∀ v w', Tr w' v R → 0 < R.length → Calls Tryd.prog 43 #[v, .string f, .string t] w' (MvPost w' (mvd R f.toList t.toList))) := fun v w' hv h0 => moved_any v R f t w' hv h0 (by rw [hR]; omega) (by rw [hR]; exact hpre) ht
  have C2 : Hid (∀ w', Rep w' b S.beg V L → w'.cell? ⟨b, 2, none⟩ = some (.slice (some ⟨g, 0, none⟩) S.names.length cap)) := fun w' r => by rw [r.c 2, ← hvn]; rfl
  have CH := Lib.hid hch
  have hEr : S.begE [f.toList, t.toList] = 0 ∨ renE S f.toList t.toList = S.begE [f.toList, t.toList] := by
    by_cases hq : S.begE [f.toList, t.toList] = 0
    · exact Or.inl hq
    · right; unfold renE; rw [if_pos hq]
  have hEr1 : S.begE [f.toList, t.toList] = 0 → R.length = 0 → renE S f.toList t.toList = 5 := fun h1 h2 => by
    unfold renE; rw [if_neg (by simp [h1]), if_pos (by rw [← hR]; exact h2)]
  have hEr2 : S.begE [f.toList, t.toList] = 0 → ¬ R.length = 0 → (t.toList == f.toList || under t.toList f.toList) = true → renE S f.toList t.toList = 1 := fun h1 h2 h3 => by
    unfold renE; rw [if_neg (by simp [h1]), if_neg (by rw [← hR]; exact h2), if_pos h3]
  have hEr3 : S.begE [f.toList, t.toList] = 0 → ¬ R.length = 0 → (t.toList == f.toList || under t.toList f.toList) = false → takes S.names (kinds S) t.toList ≠ 0 → renE S f.toList t.toList = takes S.names (kinds S) t.toList := fun h1 h2 h3 h4 => by
    unfold renE; rw [if_neg (by simp [h1]), if_neg (by rw [← hR]; exact h2), if_neg (by rw [h3]; simp), if_pos h4]
  have hEr4 : S.begE [f.toList, t.toList] = 0 → ¬ R.length = 0 → (t.toList == f.toList || under t.toList f.toList) = false → takes S.names (kinds S) t.toList = 0 → renE S f.toList t.toList = if (mvd R f.toList t.toList).all (fun e => valid e.1) = true then 0 else 1 := fun h1 h2 h3 h4 => by
    unfold renE mvOk; rw [if_neg (by simp [h1]), if_neg (by rw [← hR]; exact h2), if_neg (by rw [h3]; simp), if_neg (by simp [h4]), ← hR]
  have U := Lib.hid (fun (w0 w1 : World) (he : Ext w0 w1) => under_acc t f he)
  have H1 := Lib.hid hEr1; have H2 := Lib.hid hEr2; have H3 := Lib.hid hEr3; have H4 := Lib.hid hEr4
  generalize renE S f.toList t.toList = c at *
  generalize takes S.names (kinds S) t.toList = tk at *
  generalize S.names.length = n at *
  obtain ⟨E, hE⟩ : ∃ E, E = S.begE [f.toList, t.toList] := ⟨_, rfl⟩
  rw [← hE] at BG H1 H2 H3 H4 hEr
  clear h hf hvn hpre ht hch bs hnl hrl hR hEr1 hEr2 hEr3 hEr4 hE
  unfold ptr at *
  go_enter Tryd.func20, Tryd.ntmps20
  go_wp2_with fail
  refine (BG.out).mono ?_
  rintro e w1 ⟨rfl, r1, t1⟩
  have R1 := Lib.hid r1
  have T1 := Lib.hid t1
  clear BG r1 t1
  by_cases hb : E = 0
  · subst hb
    clear hEr
    have d2 := C2.out _ R1.out
    go_wp2_with fail
    refine (RU.out _ R1.out).mono ?_
    rintro e w2 ⟨v2, ad2, cap2, o2, rfl, e2, t2⟩
    have hv2 := t2.val
    subst hv2
    have TR2 := Lib.hid (show Tr w2 _ R from ⟨_, _, _, _, t2⟩)
    have R2 := Lib.hid (R1.out.ext e2)
    have T2 := Lib.hid (T1.out.trans (StTo.of_ext (L := L) e2))
    have d3 := C2.out _ R2.out
    clear RU t2 e2 R1 T1 d2
    by_cases hr0 : R.length = 0
    · have hc := H1.out (by first | trivial | rfl) hr0
      subst hc
      have q : (R.length == 0) = true := by simpa using hr0
      have q2 : ((R.length : Int) == 0) = true := by simpa using hr0
      have R2o := R2.out
      have T2o := T2.out
      clear H1 H2 H3 H4 MV TR2
      generalize R.length = m at *
      subst hr0
      go_wp2
      go_ret
      exact RenPost.err (by decide) R2o T2o
    · have hm0 : 0 < R.length := by omega
      have H2a := Lib.hid (fun h => H2.out (by first | trivial | rfl) hr0 h)
      have H3a := Lib.hid (fun h h' => H3.out (by first | trivial | rfl) hr0 h h')
      have H4a := Lib.hid (fun h h' => H4.out (by first | trivial | rfl) hr0 h h')
      obtain ⟨m, hm⟩ : ∃ m, m = R.length := ⟨_, rfl⟩
      have HM := Lib.hid hm
      have MVa := Lib.hid (fun v w' hv => MV.out v w' hv hm0)
      rw [← hm] at hm0 hr0 TR2 ⊢
      clear H1 H2 H3 H4 MV hm
      have q : (m == 0) = false := by simpa using hr0
      have q2 : ((m : Int) == 0) = false := by simpa using hr0
      cases htf : (t.toList == f.toList) with
      | true =>
        have hc := H2a.out (by rw [htf]; rfl)
        subst hc
        have R2o := R2.out
        have T2o := T2.out
        clear H2a H3a H4a MVa CH
        go_wp2
        go_ret
        exact RenPost.err (by decide) R2o T2o
      | false =>
        have UA := Lib.hid (U.out w2 w2 (Ext.refl w2))
        cases hu : under t.toList f.toList with
        | true =>
          have hc := H2a.out (by rw [htf, hu]; rfl)
          subst hc
          rw [hu] at UA
          clear H2a H3a H4a MVa CH U hu
          go_wp2_with fail
          refine (UA.out).mono ?_
          rintro e w3 ⟨rfl, e3⟩
          go_wp2
          go_ret
          exact RenPost.err (by decide) (R2.out.ext e3) (T2.out.trans (StTo.of_ext e3))
        | false =>
          have H3b := Lib.hid (fun h => H3a.out (by rw [htf, hu]; rfl) h)
          have H4b := Lib.hid (fun h => H4a.out (by rw [htf, hu]; rfl) h)
          rw [hu] at UA
          clear H2a H3a H4a U hu
          go_wp2_with fail
          refine (UA.out).mono ?_
          rintro e w3 ⟨rfl, e3⟩
          have R3 := Lib.hid (R2.out.ext e3)
          have T3 := Lib.hid (T2.out.trans (StTo.of_ext (L := L) e3))
          have TR3 := Lib.hid (TR2.out.ext e3)
          have d4 := C2.out _ R3.out
          clear UA R2 T2 TR2 d3 e3
          go_wp2_with fail
          refine (TK.out _ R3.out).mono ?_
          rintro e w4 ⟨rfl, e4⟩
          have R4 := Lib.hid (R3.out.ext e4)
          have T4 := Lib.hid (T3.out.trans (StTo.of_ext (L := L) e4))
          have TR4 := Lib.hid (TR3.out.ext e4)
          clear TK R3 T3 TR3 d4 e4
          by_cases htk : tk = 0
          · subst htk
            have H4c := Lib.hid (H4b.out (by first | trivial | rfl))
            clear H3b H4b
            go_wp2_with fail
            refine (MVa.out _ _ TR4.out).mono ?_
            rintro e w5 ⟨v5, rfl, r5, e5, f5⟩
            obtain ⟨M, hM⟩ : ∃ M, M = mvd R f.toList t.toList := ⟨_, rfl⟩
            have hMl : M.length = m := by rw [hM, mvd_len, HM.out]
            rw [← hM] at r5 H4c
            have HMl := Lib.hid hMl
            rw [hMl] at r5
            obtain ⟨gm, capm, hv5, hc1, hc2⟩ := Row.ownK r5 hm0
            subst hv5
            simp only [maxLen] at hc2
            have R5 := Lib.hid (R4.out.ext e5)
            have T5 := Lib.hid (T4.out.trans (StTo.of_ext (L := L) e5))
            have RR := Lib.hid r5
            have I0 : InvRn w5 M (.int .i64 0) w5 := ⟨0, by omega, rfl, Ext.refl _, by simp⟩
            clear MVa R4 T4 TR4 e5 r5 hM hMl f5
            go_wp2
            go_loopw [53] (fun i wr => InvRn w5 M i wr) (fun i _ => m - (intOf i).toNat)
            case atStart => exact I0
            case round =>
              obtain ⟨k, hk, rfl, he, hall⟩ := hrel
              have hMl := HMl.out
              rw [hMl] at hk
              by_cases hlt : k < m
              · have hkM : k < M.length := by omega
                have RW := RR.out.ext he
                have eg := ents_get M k hkM
                have c1 := (Row.cellK RW (k * 2) (by omega))
                have c2 := (Row.cellK RW (k * 2 + 1) (by omega))
                rw [eg.1] at c1
                rw [eg.2] at c2
                have htake : M.take (k + 1) = M.take k ++ [M[k]] := List.take_succ_eq_append_getElem hkM
                have hA1 : valid M[k].1 = true → (M.take (k + 1)).all (fun e => valid e.1) = true := fun hv => by rw [htake, List.all_append, hall]; simp [hv]
                have hA2 : valid M[k].1 = false → c = 1 := fun hv => by
                  have : M.all (fun e => valid e.1) = false := by
                    cases hq : M.all (fun e => valid e.1) with
                    | false => rfl
                    | true => have := List.all_eq_true.1 hq M[k] (List.getElem_mem hkM); rw [hv] at this; cases this
                  have h4 := H4c.out
                  rw [this] at h4
                  simpa using h4
                have VA := Lib.hid (fun (W : World) (hW : Ext w5 W) => valid_acc (tx M[k].1) hW)
                rw [tx_list] at VA
                obtain ⟨c1a, c1b⟩ := c1
                obtain ⟨c2a, c2b⟩ := c2
                have HA1 := Lib.hid hA1
                have HA2 := Lib.hid hA2
                have HE := Lib.hid (he.trans (Ext.alloc wr (.cells #[.string (tx M[k].1), ptr M[k].2] 64)))
                unfold ptr at *
                clear hall RW eg htake hA1 hA2 he
                generalize M[k].1 = xp at *
                generalize M[k].2 = xn at *
                have i0 : (0 : Int) ≤ (k : Int) := by omega
                have i1 : (k : Int) < (m : Int) := by omega
                have hcx : (wr.alloc (.cells #[.string (tx xp), .pointer (some ⟨xn, 0, none⟩)] 64)).cell? ⟨wr.heap.size, 0, none⟩ = some (.string (tx xp)) := by rw [(At.new wr #[.string (tx xp), .pointer (some ⟨xn, 0, none⟩)] 64).cell]; rfl
                go_wp2_with fail
                refine (VA.out _ HE.out).mono ?_
                rintro e w6 ⟨rfl, e6⟩
                cases hv : valid xp with
                | true =>
                  have hx := HA1.out hv
                  clear HA1 HA2 H4c hv
                  go_wp2
                  exact ⟨⟨k + 1, by omega, by norm_cast, e6, hx⟩, by show m - ((k : Int) + 1).toNat < m - ((k : Int)).toNat; omega⟩
                | false =>
                  have hc := HA2.out hv
                  subst hc
                  clear HA1 HA2 H4c hv
                  go_wp2
                  go_ret
                  exact RenPost.err (by decide) (R5.out.ext e6) (T5.out.trans (StTo.of_ext e6))
              · obtain rfl : k = m := by omega
                rw [List.take_of_length_le (by omega)] at hall
                have h4 := H4c.out
                rw [hall] at h4
                have hc : c = 0 := by simpa using h4
                have CA := Lib.hid (CH.out hc wr (R5.out.ext he))
                have HT := Lib.hid (T5.out.trans (StTo.of_ext (L := L) he))
                subst hc
                have i1 : ¬ ((k : Int) < (k : Int)) := by omega
                clear H4c CH h4 hall he hMl hlt hk
                go_wp2_with fail
                refine (CA.out).mono ?_
                rintro e w6 ⟨rfl, V', L', rT, tT⟩
                have RT := Lib.hid rT
                have TT := Lib.hid (HT.out.trans tT)
                clear rT tT
                go_wp2
                go_ret
                exact ⟨rfl, fun h => absurd rfl h, fun _ => ⟨V', L', RT.out, TT.out⟩⟩
          · have hc := H3b.out (by first | exact htk | trivial)
            subst hc
            have qt : (c == 0) = false := by simpa using htk
            clear H3b H4b MVa CH
            go_wp2
            go_ret
            exact RenPost.err htk R4.out T4.out
  · have hc := hEr.resolve_left hb
    subst hc
    have q : (c == 0) = false := by simpa using hb
    clear H1 H2 H3 H4 hEr
    go_wp2
    go_ret
    exact RenPost.err hb R1.out T1.out
end Go.Proofs.YtbneedmfpldpfaaDoor
