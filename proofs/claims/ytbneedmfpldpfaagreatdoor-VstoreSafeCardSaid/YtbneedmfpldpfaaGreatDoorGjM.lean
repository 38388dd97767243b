/- Contract of Rename. A move of a directory in a store of four names: no model. Names as a tree: what stands under a name stands directly behind it; what is made, taken away and moved keeps them a tree. No conditions but those named: definitions and lemmas. Rename, whatever it answers, where the names are a tree. -/
import Derived.Test.YtbneedmfpldpfaaGreatDoorGhM
import Derived.Test.YtbneedmfpldpfaaGreatDoorSfM
import Derived.Test.YtbneedmfpldpfaaGreatDoorVdM
import Derived.Test.YtbneedmfpldpfaaGreatDoorGeM
set_option linter.unusedSimpArgs false
namespace Go.Proofs.YtbneedmfpldpfaaGreatDoor
open Go.RowKit Go.Pth

theorem txt_two (w : World) (p q : ByteArray) : Txt (w.alloc (.cells #[.string p, .string q] 9)) (.slice (some ⟨w.heap.size, 0, none⟩) 2 2) [p.toList, q.toList] :=
  ⟨_, _, w.heap.size, rfl, fun _ => rfl, fun j hj => by
    have hj : j < 2 := hj
    rcases j with _ | _ | j
    · rw [(At.new w #[.string p, .string q] 9).cell]; simp [list_tx]
    · rw [(At.new w #[.string p, .string q] 9).cell]; simp [list_tx]
    · omega⟩
theorem begin_two (b : Nat) (S : SV) (V : SW) (L : Nat → Option Role) (p q : ByteArray) (w : World) (h : Rep w b S V L) (hf : S.Fit) :
    Calls Tryz.prog 20 #[ptr b, .slice (some ⟨w.heap.size, 0, none⟩) 2 2] (w.alloc (.cells #[.string p, .string q] 9)) fun e w' => e = .returned (.int .i64 (S.begE [p.toList, q.toList])) ∧ Rep w' b S.beg V L ∧ StTo w w' L L :=
  (begin_any b S V L _ [p.toList, q.toList] _ (h.ext (Ext.alloc _ _)) hf.left ⟨hf.ops.1, by have := hf.ops.2; omega⟩ (txt_two w p q) (by simp) (fun ad n c hv => by
    injection hv with h1; injection h1 with h1; rw [← h1]
    cases hc : L w.heap.size with
    | none => rfl
    | some r => have := h.lt w.heap.size (by rw [hc]; simp); omega)).mono fun e w' ⟨h1, h2, h3⟩ => ⟨h1, h2, (StTo.of_ext (Ext.alloc _ _)).trans h3⟩

def mvOk (l : List Nm) (f t : B) : Bool := (mvd (rung l f) f t).all fun e => valid e.1
/-- What Rename answers. -/
def renE (S : SV) (f t : B) : Int :=
  if S.begE [f, t] ≠ 0 then S.begE [f, t] else if (rung S.names f).length = 0 then 5 else if (t == f || under t f) = true then 1
  else if takes S.names (kinds S) t ≠ 0 then takes S.names (kinds S) t else if mvOk S.names f t = true then 0 else 1
def RenPost (w : World) (b : Nat) (S T : SV) (V : SW) (L : Nat → Option Role) (c : Int) (e : Ending) (w' : World) : Prop :=
  e = .returned (.int .i64 c) ∧ (c ≠ 0 → Rep w' b S.beg V L ∧ StTo w w' L L) ∧ (c = 0 → ∃ V' L', Rep w' b T V' L' ∧ StTo w w' L L')
theorem RenPost.err {w : World} {b : Nat} {S T : SV} {V : SW} {L : Nat → Option Role} {c : Int} {w' : World} (hc : c ≠ 0) (h : Rep w' b S.beg V L) (t : StTo w w' L L) : RenPost w b S T V L c (.returned (.int .i64 c)) w' := ⟨rfl, fun _ => ⟨h, t⟩, fun h => absurd h hc⟩
def InvRn (w : World) (l : List Nm) (i : Value) (wr : World) : Prop := ∃ k : Nat, k ≤ l.length ∧ i = .int .i64 k ∧ Ext w wr ∧ (l.take k).all (fun e => valid e.1) = true

set_option maxRecDepth 100000 in
set_option maxHeartbeats 8000000 in
theorem rename_any (b g cap : Nat) (S T : SV) (V : SW) (L : Nat → Option Role) (f t : ByteArray) (w : World) (h : Rep w b S V L) (hf : S.Fit) (hvn : V.n = .slice (some ⟨g, 0, none⟩) S.names.length cap)
    (hpre : ∀ e ∈ rung S.names f.toList, f.size ≤ e.1.length ∧ e.1.length ≤ 1000000) (ht : t.size ≤ 1000000)
    (hch : renE S f.toList t.toList = 0 → ∀ w', Rep w' b S.beg V L → Calls Tryz.prog 52 #[ptr b, .agg #[.string f, .string t, .pointer none]] w' fun e w'' => e = .returned (.tuple #[]) ∧ ∃ V' L', Rep w'' b T V' L' ∧ StTo w' w'' L L') :
    Calls Tryz.prog 39 #[ptr b, .string f, .string t] w (RenPost w b S T V L (renE S f.toList t.toList)) := by
  have BG := Lib.hid (begin_two b S V L f t w h hf)
  have bs := beg_same S
  have hnl := hf.names
  have hrl := rung_le S.names f.toList
  obtain ⟨R, hR⟩ : ∃ R, R = rung S.names f.toList := ⟨_, rfl⟩
  have TK := Lib.hid (fun w' (r : Rep w' b S.beg V L) => takes_any V.n S.beg.names (kinds S.beg) t w' (Tr.of_row r.nm) r.sn (by rw [bs.1]; omega) r.kindc)
  rw [show takes S.beg.names (kinds S.beg) t.toList = takes S.names (kinds S) t.toList by unfold kinds; rw [bs.1, bs.2.1], hvn] at TK
  have RU : Hid (∀ w', Rep w' b S.beg V L → Calls Tryz.prog 70 #[.slice (some ⟨g, 0, none⟩) S.names.length cap, .string f] w' (RunPost w' g R)) := fun w' r => by
    have hn := r.nm
    rw [bs.1, hvn] at hn
    obtain ⟨cur, hat, hn1, hcm, hcs, hxs⟩ := Row.at' hn
    rw [hR]
    exact run_any _ S.names f _ cap g 0 w' (Row.trr hn) hn1 hcm (fun hh => by cases hh) (fun A hA => by injection hA with hA; exact hA.symm) h.sn (by omega)
  have MV : Hid (∀ v w', Tr w' v R → 0 < R.length → Calls Tryz.prog 59 #[v, .string f, .string t] w' (MvPost w' (mvd R f.toList t.toList))) := fun v w' hv h0 => moved_any v R f t w' hv h0 (by rw [hR]; omega) (by rw [hR]; exact hpre) ht
  have C2 : Hid (∀ w', Rep w' b S.beg V L → w'.cell? ⟨b, 2, none⟩ = some (.slice (some ⟨g, 0, none⟩) S.names.length cap)) := fun w' r => by rw [r.c 2, ← hvn]; rfl
  have CH := Lib.hid hch
  have hEr : S.begE [f.toList, t.toList] = 0 ∨ renE S f.toList t.toList = S.begE [f.toList, t.toList] := by
    by_cases hq : S.begE [f.toList, t.toList] = 0
    · exact Or.inl hq
    · right; unfold renE; rw [if_pos hq]
  have hEr1 : S.begE [f.toList, t.toList] = 0 → R.length = 0 → renE S f.toList t.toList = 5 := fun h1 h2 => by
    unfold renE; rw [if_neg (by simp [h1]), if_pos (by rw [← hR]; exact h2)]
  have hEr2 : S.begE [f.toList, t.toList] = 0 → ¬ R.length = 0 → (t.toList == f.toList || under t.toList f.toList) = true → renE S f.toList t.toList = 1 := fun h1 h2 h3 => by
    unfold renE; rw [if_neg (by simp [h1]), if_neg (by rw [← hR]; exact h2), if_pos h3]
  have hEr3 : S.begE [f.toList, t.toList] = 0 → ¬ R.length = 0 → (t.toList == f.toList || under t.toList f.toList) = false → takes S.names (kinds S) t.toList ≠ 0 → renE S f.toList t.toList = takes S.names (kinds S) t.toList := fun h1 h2 h3 h4 => by
    unfold renE; rw [if_neg (by simp [h1]), if_neg (by rw [← hR]; exact h2), if_neg (by rw [h3]; simp), if_pos h4]
  have hEr4 : S.begE [f.toList, t.toList] = 0 → ¬ R.length = 0 → (t.toList == f.toList || under t.toList f.toList) = false → takes S.names (kinds S) t.toList = 0 → renE S f.toList t.toList = if (mvd R f.toList t.toList).all (fun e => valid e.1) = true then 0 else 1 := fun h1 h2 h3 h4 => by
    unfold renE mvOk; rw [if_neg (by simp [h1]), if_neg (by rw [← hR]; exact h2), if_neg (by rw [h3]; simp), if_neg (by simp [h4]), ← hR]
  have U := Lib.hid (fun (w0 w1 : World) (he : Ext w0 w1) => under_acc t f he)
  have H1 := Lib.hid hEr1; have H2 := Lib.hid hEr2; have H3 := Lib.hid hEr3; have H4 := Lib.hid hEr4
  generalize renE S f.toList t.toList = c at *
  generalize takes S.names (kinds S) t.toList = tk at *
  generalize S.names.length = n at *
  obtain ⟨E, hE⟩ : ∃ E, E = S.begE [f.toList, t.toList] := ⟨_, rfl⟩
  rw [← hE] at BG H1 H2 H3 H4 hEr
  clear h hf hvn hpre ht hch bs hnl hrl hR hEr1 hEr2 hEr3 hEr4 hE
  unfold ptr at *
  go_enter Tryz.func39, Tryz.ntmps39
  go_wp2_with fail
  refine (BG.out).mono ?_
  rintro e w1 ⟨rfl, r1, t1⟩
  have R1 := Lib.hid r1
  have T1 := Lib.hid t1
  clear BG r1 t1
  by_cases hb : E = 0
  · subst hb
    clear hEr
    have d2 := C2.out _ R1.out
    go_wp2_with fail
    refine (RU.out _ R1.out).mono ?_
    rintro e w2 ⟨v2, ad2, cap2, o2, rfl, e2, t2⟩
    have hv2 := t2.val
    subst hv2
    have TR2 := Lib.hid (show Tr w2 _ R from ⟨_, _, _, _, t2⟩)
    have R2 := Lib.hid (R1.out.ext e2)
    have T2 := Lib.hid (T1.out.trans (StTo.of_ext (L := L) e2))
    have d3 := C2.out _ R2.out
    clear RU t2 e2 R1 T1 d2
    by_cases hr0 : R.length = 0
    · have hc := H1.out (by first | trivial | rfl) hr0
      subst hc
      have q : (R.length == 0) = true := by simpa using hr0
      have q2 : ((R.length : Int) == 0) = true := by simpa using hr0
      have R2o := R2.out
      have T2o := T2.out
      clear H1 H2 H3 H4 MV TR2
      generalize R.length = m at *
      subst hr0
      go_wp2
      go_ret
      exact RenPost.err (by decide) R2o T2o
    · have hm0 : 0 < R.length := by omega
      have H2a := Lib.hid (fun h => H2.out (by first | trivial | rfl) hr0 h)
      have H3a := Lib.hid (fun h h' => H3.out (by first | trivial | rfl) hr0 h h')
      have H4a := Lib.hid (fun h h' => H4.out (by first | trivial | rfl) hr0 h h')
      obtain ⟨m, hm⟩ : ∃ m, m = R.length := ⟨_, rfl⟩
      have HM := Lib.hid hm
      have MVa := Lib.hid (fun v w' hv => MV.out v w' hv hm0)
      rw [← hm] at hm0 hr0 TR2 ⊢
      clear H1 H2 H3 H4 MV hm
      have q : (m == 0) = false := by simpa using hr0
      have q2 : ((m : Int) == 0) = false := by simpa using hr0
      cases htf : (t.toList == f.toList) with
      | true =>
        have hc := H2a.out (by rw [htf]; rfl)
        subst hc
        have R2o := R2.out
        have T2o := T2.out
        clear H2a H3a H4a MVa CH
        go_wp2
        go_ret
        exact RenPost.err (by decide) R2o T2o
      | false =>
        have UA := Lib.hid (U.out w2 w2 (Ext.refl w2))
        cases hu : under t.toList f.toList with
        | true =>
          have hc := H2a.out (by rw [htf, hu]; rfl)
          subst hc
          rw [hu] at UA
          clear H2a H3a H4a MVa CH U hu
          go_wp2_with fail
          refine (UA.out).mono ?_
          rintro e w3 ⟨rfl, e3⟩
          go_wp2
          go_ret
          exact RenPost.err (by decide) (R2.out.ext e3) (T2.out.trans (StTo.of_ext e3))
        | false =>
          have H3b := Lib.hid (fun h => H3a.out (by rw [htf, hu]; rfl) h)
          have H4b := Lib.hid (fun h => H4a.out (by rw [htf, hu]; rfl) h)
          rw [hu] at UA
          clear H2a H3a H4a U hu
          go_wp2_with fail
          refine (UA.out).mono ?_
          rintro e w3 ⟨rfl, e3⟩
          have R3 := Lib.hid (R2.out.ext e3)
          have T3 := Lib.hid (T2.out.trans (StTo.of_ext (L := L) e3))
          have TR3 := Lib.hid (TR2.out.ext e3)
          have d4 := C2.out _ R3.out
          clear UA R2 T2 TR2 d3 e3
          go_wp2_with fail
          refine (TK.out _ R3.out).mono ?_
          rintro e w4 ⟨rfl, e4⟩
          have R4 := Lib.hid (R3.out.ext e4)
          have T4 := Lib.hid (T3.out.trans (StTo.of_ext (L := L) e4))
          have TR4 := Lib.hid (TR3.out.ext e4)
          clear TK R3 T3 TR3 d4 e4
          by_cases htk : tk = 0
          · subst htk
            have H4c := Lib.hid (H4b.out (by first | trivial | rfl))
            clear H3b H4b
            go_wp2_with fail
            refine (MVa.out _ _ TR4.out).mono ?_
            rintro e w5 ⟨v5, rfl, r5, e5, f5⟩
            obtain ⟨M, hM⟩ : ∃ M, M = mvd R f.toList t.toList := ⟨_, rfl⟩
            have hMl : M.length = m := by rw [hM, mvd_len, HM.out]
            rw [← hM] at r5 H4c
            have HMl := Lib.hid hMl
            rw [hMl] at r5
            obtain ⟨gm, capm, hv5, hc1, hc2⟩ := Row.ownK r5 hm0
            subst hv5
            simp only [maxLen] at hc2
            have R5 := Lib.hid (R4.out.ext e5)
            have T5 := Lib.hid (T4.out.trans (StTo.of_ext (L := L) e5))
            have RR := Lib.hid r5
            have I0 : InvRn w5 M (.int .i64 0) w5 := ⟨0, by omega, rfl, Ext.refl _, by simp⟩
            clear MVa R4 T4 TR4 e5 r5 hM hMl f5
            go_wp2
            go_loopw [53] (fun i wr => InvRn w5 M i wr) (fun i _ => m - (intOf i).toNat)
            case atStart => exact I0
            case round =>
              obtain ⟨k, hk, rfl, he, hall⟩ := hrel
              have hMl := HMl.out
              rw [hMl] at hk
              by_cases hlt : k < m
              · have hkM : k < M.length := by omega
                have RW := RR.out.ext he
                have eg := ents_get M k hkM
                have c1 := (Row.cellK RW (k * 2) (by omega))
                have c2 := (Row.cellK RW (k * 2 + 1) (by omega))
                rw [eg.1] at c1
                rw [eg.2] at c2
                have htake : M.take (k + 1) = M.take k ++ [M[k]] := List.take_succ_eq_append_getElem hkM
                have hA1 : valid M[k].1 = true → (M.take (k + 1)).all (fun e => valid e.1) = true := fun hv => by rw [htake, List.all_append, hall]; simp [hv]
                have hA2 : valid M[k].1 = false → c = 1 := fun hv => by
                  have : M.all (fun e => valid e.1) = false := by
                    cases hq : M.all (fun e => valid e.1) with
                    | false => rfl
                    | true => have := List.all_eq_true.1 hq M[k] (List.getElem_mem hkM); rw [hv] at this; cases this
                  have h4 := H4c.out
                  rw [this] at h4
                  simpa using h4
                have VA := Lib.hid (fun (W : World) (hW : Ext w5 W) => valid_acc (tx M[k].1) hW)
                rw [tx_list] at VA
                obtain ⟨c1a, c1b⟩ := c1
                obtain ⟨c2a, c2b⟩ := c2
                have HA1 := Lib.hid hA1
                have HA2 := Lib.hid hA2
                have HE := Lib.hid (he.trans (Ext.alloc wr (.cells #[.string (tx M[k].1), ptr M[k].2] 78)))
                unfold ptr at *
                clear hall RW eg htake hA1 hA2 he
                generalize M[k].1 = xp at *
                generalize M[k].2 = xn at *
                have i0 : (0 : Int) ≤ (k : Int) := by omega
                have i1 : (k : Int) < (m : Int) := by omega
                have hcx : (wr.alloc (.cells #[.string (tx xp), .pointer (some ⟨xn, 0, none⟩)] 78)).cell? ⟨wr.heap.size, 0, none⟩ = some (.string (tx xp)) := by rw [(At.new wr #[.string (tx xp), .pointer (some ⟨xn, 0, none⟩)] 78).cell]; rfl
                go_wp2_with fail
                refine (VA.out _ HE.out).mono ?_
                rintro e w6 ⟨rfl, e6⟩
                cases hv : valid xp with
                | true =>
                  have hx := HA1.out hv
                  clear HA1 HA2 H4c hv
                  go_wp2
                  exact ⟨⟨k + 1, by omega, by norm_cast, e6, hx⟩, by show m - ((k : Int) + 1).toNat < m - ((k : Int)).toNat; omega⟩
                | false =>
                  have hc := HA2.out hv
                  subst hc
                  clear HA1 HA2 H4c hv
                  go_wp2
                  go_ret
                  exact RenPost.err (by decide) (R5.out.ext e6) (T5.out.trans (StTo.of_ext e6))
              · obtain rfl : k = m := by omega
                rw [List.take_of_length_le (by omega)] at hall
                have h4 := H4c.out
                rw [hall] at h4
                have hc : c = 0 := by simpa using h4
                have CA := Lib.hid (CH.out hc wr (R5.out.ext he))
                have HT := Lib.hid (T5.out.trans (StTo.of_ext (L := L) he))
                subst hc
                have i1 : ¬ ((k : Int) < (k : Int)) := by omega
                clear H4c CH h4 hall he hMl hlt hk
                go_wp2_with fail
                refine (CA.out).mono ?_
                rintro e w6 ⟨rfl, V', L', rT, tT⟩
                have RT := Lib.hid rT
                have TT := Lib.hid (HT.out.trans tT)
                clear rT tT
                go_wp2
                go_ret
                exact ⟨rfl, fun h => absurd rfl h, fun _ => ⟨V', L', RT.out, TT.out⟩⟩
          · have hc := H3b.out (by first | exact htk | trivial)
            subst hc
            have qt : (c == 0) = false := by simpa using htk
            clear H3b H4b MVa CH
            go_wp2
            go_ret
            exact RenPost.err htk R4.out T4.out
  · have hc := hEr.resolve_left hb
    subst hc
    have q : (c == 0) = false := by simpa using hb
    clear H1 H2 H3 H4 hEr
    go_wp2
    go_ret
    exact RenPost.err hb R1.out T1.out
end Go.Proofs.YtbneedmfpldpfaaGreatDoor

set_option linter.unusedSimpArgs false
namespace Go.Proofs.YtbneedmfpldpfaaGreatDoor
open Go.RowKit Go.Pth

def nD : B := [100]
def nE : B := [100, 47, 101]
def nF : B := [100, 47, 101, 47, 102]
def nX : B := [120]
def n4 (a e f x : Nat) : List Nm := [(nD, a), (nE, e), (nF, f), (nX, x)]
/-- A part alone. -/
theorem alone {t : B} (h : valid t = true) (hp : parent t = []) : (47 : UInt8) ∉ t := by
  intro hm
  unfold parent at hp
  rw [if_pos h] at hp
  obtain ⟨p, r, hc⟩ := cut_cons t
  cases r with
  | nil =>
    have := cut_mem t p (by rw [hc]; simp)
    have ht := glue_cut t
    rw [hc] at ht
    have ht : p = t := by simpa [glue] using ht
    rw [ht] at this
    exact this hm
  | cons q r =>
    have hpp := valid_parts h p (by rw [hc]; simp)
    have := (okPart_len p hpp).1
    rw [hc, List.dropLast_cons_cons] at hp
    have hl : (glue (p :: (q :: r).dropLast)).length = 0 := by rw [hp]; rfl
    cases hd : (q :: r).dropLast with
    | nil => rw [hd] at hl; simp [glue] at hl; rw [hl] at this; simp at this
    | cons y z => rw [hd, glue_cons _ _ (by simp)] at hl; simp at hl
theorem up_app {t : B} (h : valid t = true) (hp : parent t ≠ []) : ∃ n, t = parent t ++ 47 :: n := by
  have hj := join_back h
  have hn : join (parent t) (name t) ≠ [] := by rw [hj]; exact valid_ne h
  obtain ⟨h1, _⟩ := join_some hp hn
  exact ⟨name t, by rw [← h1, hj]⟩
end Go.Proofs.YtbneedmfpldpfaaGreatDoor

set_option linter.unusedSimpArgs false
set_option linter.unusedVariables false
namespace Go.Proofs.YtbneedmfpldpfaaGreatDoor
open Go.RowKit Go.Pth

theorem lex_app {α : Type} [DecidableEq α] {lt : α → α → Bool} : ∀ (x a b : List α), lex lt (x ++ a) (x ++ b) = lex lt a b
  | [], _, _ => rfl
  | c :: x, a, b => by rw [List.cons_append, List.cons_append, lex, if_pos rfl]; exact lex_app x a b
theorem less_cut {a b : B} (ha : valid a = true) (hb : valid b = true) : less a b = ltP (cut a) (cut b) := by
  unfold less
  rw [ha, hb]
  rfl
/-- A name, or one under it, as the parts say it. -/
theorem runF_iff {p : B} {e : Nm} (hp : valid p = true) (he : valid e.1 = true) : runF p e = true ↔ ∃ z, cut e.1 = cut p ++ z := by
  unfold runF
  rw [under_parts _ _ (valid_ne hp)]
  unfold parts
  rw [hp, he]
  simp only [if_true, Bool.or_eq_true, Bool.and_eq_true, decide_eq_true_eq, beq_iff_eq, com_all]
  constructor
  · rintro (h | ⟨_, z, h⟩)
    · exact ⟨[], by rw [h, List.append_nil]⟩
    · exact ⟨z, h.symm⟩
  · rintro ⟨z, h⟩
    by_cases hz : z = []
    · left
      subst hz
      rw [List.append_nil] at h
      exact cut_inj h
    · right
      have l0 : 0 < (cut p).length := List.length_pos_iff.2 (cut_ne p)
      refine ⟨⟨l0, ?_⟩, ⟨z, h.symm⟩⟩
      rw [h, List.length_append]
      have := List.length_pos_iff.2 hz
      omega
/-- Names that are a tree. -/
structure Tree (l : List Nm) : Prop where
  srt : Srt l
  val : ∀ x ∈ l, valid x.1 = true
  up : ∀ x ∈ l, parent x.1 = [] ∨ ∃ y ∈ l, y.1 = parent x.1
theorem Tree.nil : Tree [] := ⟨List.Pairwise.nil, fun x hx => by simp at hx, fun x hx => by simp at hx⟩

theorem filter_while {α : Type} (f : α → Bool) : ∀ (d : List α), d.Pairwise (fun a b => f a = false → f b = false) → d.filter f = d.takeWhile f ∧ d.filter (fun x => !f x) = d.drop (d.takeWhile f).length
  | [], _ => ⟨rfl, rfl⟩
  | x :: r, h => by
    rw [List.pairwise_cons] at h
    have ih := filter_while f r h.2
    cases hx : f x with
    | true =>
      rw [List.filter_cons, List.filter_cons, List.takeWhile_cons]
      simp only [hx, if_true, Bool.not_true, Bool.false_eq_true, if_false, List.length_cons, List.drop_succ_cons]
      exact ⟨by rw [ih.1], ih.2⟩
    | false =>
      have hr : ∀ y ∈ r, f y = false := fun y hy => h.1 y hy hx
      have e1 : r.filter f = [] := List.filter_eq_nil_iff.2 fun y hy => by rw [hr y hy]; simp
      have e2 : r.filter (fun x => !f x) = r := List.filter_eq_self.2 fun y hy => by rw [hr y hy]; rfl
      rw [List.filter_cons, List.filter_cons, List.takeWhile_cons]
      simp only [hx, Bool.false_eq_true, if_false, Bool.not_false, if_true, List.length_nil, List.drop_zero]
      exact ⟨e1, by rw [e2]⟩
theorem run_place {l : List Nm} {p : B} (hs : Srt l) (hv : ∀ x ∈ l, valid x.1 = true) (hp : valid p = true) : rung l p = l.filter (runF p) ∧ rest l p = l.filter (fun x => !runF p x) := by
  have hd : l.take (place l p) ++ l.drop (place l p) = l := List.take_append_drop _ _
  have below : ∀ x ∈ l.take (place l p), runF p x = false := by
    intro x hx
    have hxl := List.mem_of_mem_take hx
    obtain ⟨j, hj, rfl⟩ := List.mem_iff_getElem.1 hx
    rw [List.getElem_take] at hxl ⊢
    rw [List.length_take] at hj
    have hb := place_before l p j (by omega) (by omega)
    cases hr : runF p l[j] with
    | false => rfl
    | true =>
      obtain ⟨z, hz⟩ := (runF_iff hp (hv _ hxl)).1 hr
      rw [less_cut (hv _ hxl) hp, hz] at hb
      by_cases h0 : z = []
      · subst h0
        rw [List.append_nil] at hb
        have := lex_irr (lt := ltB) (cut p)
        unfold ltP at hb
        rw [this] at hb
        cases hb
      · have h1 : ltP (cut p) (cut p ++ z) = true := lex_more _ _ h0
        rw [ltP_asym _ _ h1] at hb
        cases hb
  have pw : (l.drop (place l p)).Pairwise (fun a b => runF p a = false → runF p b = false) := by
    rw [List.pairwise_iff_getElem]
    intro i j hi hj hij hn
    rw [List.length_drop] at hi hj
    rw [List.getElem_drop] at hn ⊢
    have hvi := hv _ (List.getElem_mem (show place l p + i < l.length by omega))
    have hvj := hv _ (List.getElem_mem (show place l p + j < l.length by omega))
    cases hr : runF p l[place l p + j] with
    | false => rfl
    | true =>
      obtain ⟨z, hz⟩ := (runF_iff hp hvj).1 hr
      have h1 := place_after l p hs (place l p + i) (by omega) (by omega)
      have hne : l[place l p + i].1 ≠ p := fun e => by
        have : runF p l[place l p + i] = true := by simp [runF, e]
        rw [this] at hn; cases hn
      have h2 := less_tri _ _ hne
      rw [h1, Bool.false_or] at h2
      have h3 := (List.pairwise_iff_getElem.1 hs) (place l p + i) (place l p + j) (by omega) (by omega) (by omega)
      rw [less_cut hp hvi] at h2
      rw [less_cut hvi hvj, hz] at h3
      obtain ⟨u, _, hu⟩ := lex_between ltB_asym (cut p) (cut l[place l p + i].1) z h2 h3
      rw [(runF_iff hp hvi).2 ⟨u, hu⟩] at hn
      cases hn
  obtain ⟨f1, f2⟩ := filter_while (runF p) _ pw
  have e1 : (l.take (place l p)).filter (runF p) = [] := List.filter_eq_nil_iff.2 fun x hx => by rw [below x hx]; simp
  have e2 : (l.take (place l p)).filter (fun x => !runF p x) = l.take (place l p) := List.filter_eq_self.2 fun x hx => by rw [below x hx]; rfl
  constructor
  · have : l.filter (runF p) = (l.take (place l p) ++ l.drop (place l p)).filter (runF p) := by rw [hd]
    rw [this, List.filter_append, e1, f1]
    rfl
  · have : l.filter (fun x => !runF p x) = (l.take (place l p) ++ l.drop (place l p)).filter (fun x => !runF p x) := by rw [hd]
    rw [this, List.filter_append, e2, f2, List.drop_drop]
    rfl
theorem Tree.rung_mem {l : List Nm} {p : B} (h : Tree l) (hp : valid p = true) {x : Nm} : x ∈ rung l p ↔ x ∈ l ∧ runF p x = true := by
  rw [(run_place h.srt h.val hp).1, List.mem_filter]
theorem Tree.rest_mem {l : List Nm} {p : B} (h : Tree l) (hp : valid p = true) {x : Nm} : x ∈ rest l p ↔ x ∈ l ∧ runF p x = false := by
  rw [(run_place h.srt h.val hp).2, List.mem_filter]
  simp
theorem Srt.sub {l m : List Nm} (h : Srt l) (hs : m.Sublist l) : Srt m := List.Pairwise.sublist hs h
theorem Tree.rest_srt {l : List Nm} (h : Tree l) (p : B) : Srt (rest l p) := h.srt.sub (rest_sub l p)
theorem Tree.rung_srt {l : List Nm} {p : B} (h : Tree l) (hp : valid p = true) : Srt (rung l p) := by
  rw [(run_place h.srt h.val hp).1]
  exact h.srt.sub List.filter_sublist

/-- What stands above, by the parts. -/
theorem up_cut {x : B} (hv : valid x = true) : parent x = [] ∨ ∃ u, u ≠ [] ∧ cut x = cut (parent x) ++ u := by
  by_cases h : parent x = []
  · exact Or.inl h
  · obtain ⟨n, hn⟩ := up_app hv h
    exact Or.inr ⟨cut n, cut_ne n, by rw [← cut_app, ← hn]⟩
theorem parent_cut {x : B} {ps z : List B} (hv : valid x = true) (h : cut x = ps ++ z) (hz : z ≠ []) (hp : ps ≠ []) : cut (parent x) = ps ++ z.dropLast := by
  unfold parent
  rw [if_pos hv, h, List.dropLast_append_of_ne_nil hz]
  refine cut_glue _ (by simp [hp]) fun p hpm => ?_
  refine cut_mem x p ?_
  rw [h]
  rcases List.mem_append.1 hpm with hm | hm
  · exact List.mem_append.2 (Or.inl hm)
  · exact List.mem_append.2 (Or.inr ((List.dropLast_sublist z).mem hm))
theorem cut_valid_ne {t : B} (h : valid t = true) (z : List B) : cut t ++ z ≠ cut [] := by
  intro e
  have hl := congrArg List.length e
  have h1 : (cut ([] : B)).length = 1 := rfl
  rw [List.length_append, h1] at hl
  have l0 : 0 < (cut t).length := List.length_pos_iff.2 (cut_ne t)
  have hz : z = [] := List.length_eq_zero_iff.1 (by omega)
  subst hz
  rw [List.append_nil] at e
  exact valid_ne h (cut_inj e)
/-- Where a name is not, nothing is under it. -/
theorem Tree.none_under {l : List Nm} (h : Tree l) {t : B} (ht : valid t = true) (hn : ∀ x ∈ l, x.1 ≠ t) : ∀ x ∈ l, runF t x = false := by
  have key : ∀ (n : Nat) (x : Nm), x ∈ l → ∀ z : List B, z.length = n → cut x.1 = cut t ++ z → False := by
    intro n
    induction n with
    | zero =>
      intro x hx z hz hc
      have : z = [] := List.length_eq_zero_iff.1 hz
      subst this
      rw [List.append_nil] at hc
      exact hn x hx (cut_inj hc)
    | succ n ih =>
      intro x hx z hz hc
      have hzn : z ≠ [] := fun e => by rw [e] at hz; simp at hz
      have hp := parent_cut (h.val x hx) hc hzn (cut_ne t)
      rcases h.up x hx with he | ⟨y, hy, he⟩
      · rw [he] at hp
        exact cut_valid_ne ht _ hp.symm
      · rw [← he] at hp
        exact ih y hy z.dropLast (by rw [List.length_dropLast]; omega) hp
  intro x hx
  cases hr : runF t x with
  | false => rfl
  | true =>
    obtain ⟨z, hz⟩ := (runF_iff ht (h.val x hx)).1 hr
    exact (key _ x hx z rfl hz).elim

/-- A name with another front. -/
theorem mv_cut {f t e : B} {z : List B} (h : cut e = cut f ++ z) : cut (t ++ e.drop f.length) = cut t ++ z := by
  by_cases hz : z = []
  · subst hz
    rw [List.append_nil] at h ⊢
    have := cut_inj h
    subst this
    rw [List.drop_length, List.append_nil]
  · have he : e = f ++ 47 :: glue z := by rw [← glue_cut e, h, glue_app _ _ (cut_ne f) hz, glue_cut]
    have hz2 : cut (glue z) = z := cut_glue z hz fun p hp => cut_mem e p (by rw [h]; exact List.mem_append.2 (Or.inr hp))
    rw [he, List.drop_left, cut_app, hz2]
theorem mv_long {f e : B} {z : List B} (h : cut e = cut f ++ z) : f.length ≤ e.length := by
  by_cases hz : z = []
  · subst hz
    rw [List.append_nil] at h
    rw [cut_inj h]
    exact Nat.le_refl _
  · have he : e = f ++ 47 :: glue z := by rw [← glue_cut e, h, glue_app _ _ (cut_ne f) hz, glue_cut]
    rw [he, List.length_append]
    omega
theorem mvd_mem {R : List Nm} {f t : B} {m : Nm} : m ∈ mvd R f t ↔ ∃ e ∈ R, m = (t ++ e.1.drop f.length, e.2) := by
  unfold mvd
  rw [List.mem_map]
  exact ⟨fun ⟨e, h1, h2⟩ => ⟨e, h1, h2.symm⟩, fun ⟨e, h1, h2⟩ => ⟨e, h1, h2.symm⟩⟩
theorem mvd_srt {l : List Nm} {f t : B} (h : Tree l) (hf : valid f = true) (hok : ∀ m ∈ mvd (rung l f) f t, valid m.1 = true) : Srt (mvd (rung l f) f t) := by
  have hs := h.rung_srt hf
  unfold Srt mvd
  rw [List.pairwise_map]
  refine List.Pairwise.imp_of_mem ?_ hs
  intro a b ha hb hab
  have va := hok _ (mvd_mem.2 ⟨a, ha, rfl⟩)
  have vb := hok _ (mvd_mem.2 ⟨b, hb, rfl⟩)
  obtain ⟨ha1, ha2⟩ := (h.rung_mem hf).1 ha
  obtain ⟨hb1, hb2⟩ := (h.rung_mem hf).1 hb
  obtain ⟨za, hza⟩ := (runF_iff hf (h.val a ha1)).1 ha2
  obtain ⟨zb, hzb⟩ := (runF_iff hf (h.val b hb1)).1 hb2
  rw [less_cut (h.val a ha1) (h.val b hb1), hza, hzb] at hab
  rw [less_cut va vb, mv_cut hza, mv_cut hzb]
  unfold ltP at hab ⊢
  rw [lex_app] at hab ⊢
  exact hab
theorem mvd_cut {l : List Nm} {f t : B} (h : Tree l) (hf : valid f = true) {m : Nm} (hm : m ∈ mvd (rung l f) f t) : ∃ z, cut m.1 = cut t ++ z := by
  obtain ⟨e, he, rfl⟩ := mvd_mem.1 hm
  obtain ⟨h1, h2⟩ := (h.rung_mem hf).1 he
  obtain ⟨z, hz⟩ := (runF_iff hf (h.val e h1)).1 h2
  exact ⟨z, mv_cut hz⟩
/-- A move keeps the order. -/
theorem mvl_srt {l : List Nm} {f t : B} (h : Tree l) (hf : valid f = true) (ht : valid t = true) (hok : ∀ m ∈ mvd (rung l f) f t, valid m.1 = true) (hn : ∀ x ∈ l, x.1 ≠ t)
    (m0 : Nm) (M' : List Nm) (hM : mvd (rung l f) f t = m0 :: M') : Srt (mvl l f t (place (rest l f) m0.1)) := by
  have hsM := mvd_srt h hf hok
  have hun := h.none_under ht hn
  have hsQ := h.rest_srt f
  have hQl : ∀ x ∈ rest l f, x ∈ l := fun x hx => ((h.rest_mem hf).1 hx).1
  have hcM := fun m (hm : m ∈ mvd (rung l f) f t) => mvd_cut h hf hm
  have hk := place_le (rest l f) m0.1
  have m0M : m0 ∈ mvd (rung l f) f t := by rw [hM]; simp
  have first : ∀ m ∈ mvd (rung l f) f t, m = m0 ∨ less m0.1 m.1 = true := by
    intro m hm
    rw [hM] at hm hsM
    rcases List.mem_cons.1 hm with e | hm'
    · exact Or.inl e
    · exact Or.inr ((List.pairwise_cons.1 hsM).1 m hm')
  have hQd : (rest l f).take (place (rest l f) m0.1) ++ (rest l f).drop (place (rest l f) m0.1) = rest l f := List.take_append_drop _ _
  have hsQ2 : Srt ((rest l f).take (place (rest l f) m0.1) ++ (rest l f).drop (place (rest l f) m0.1)) := by rw [hQd]; exact hsQ
  unfold Srt at hsQ2
  rw [List.pairwise_append] at hsQ2
  have below : ∀ x ∈ (rest l f).take (place (rest l f) m0.1), ∀ m ∈ mvd (rung l f) f t, less x.1 m.1 = true := by
    intro x hx m hm
    obtain ⟨j, hj, rfl⟩ := List.mem_iff_getElem.1 hx
    rw [List.getElem_take]
    rw [List.length_take] at hj
    have hb := place_before (rest l f) m0.1 j (by omega) (by omega)
    rcases first m hm with e | e
    · rw [e]; exact hb
    · exact less_trans _ _ _ hb e
  have above : ∀ y ∈ (rest l f).drop (place (rest l f) m0.1), ∀ m ∈ mvd (rung l f) f t, less m.1 y.1 = true := by
    intro y hy m hm
    have hyl := hQl y (List.mem_of_mem_drop hy)
    have hyr := hun y hyl
    have ney : ∀ m ∈ mvd (rung l f) f t, m.1 ≠ y.1 := by
      intro m hm e
      obtain ⟨z, hz⟩ := hcM m hm
      rw [e] at hz
      rw [(runF_iff ht (h.val y hyl)).2 ⟨z, hz⟩] at hyr
      cases hyr
    obtain ⟨j, hj, rfl⟩ := List.mem_iff_getElem.1 hy
    rw [List.getElem_drop] at *
    rw [List.length_drop] at hj
    have h1 := place_after (rest l f) m0.1 hsQ (place (rest l f) m0.1 + j) (by omega) (by omega)
    have h2 := less_tri _ _ (ney m0 m0M)
    rw [h1, Bool.or_false] at h2
    have h3 := less_tri _ _ (ney m hm)
    cases hl : less m.1 (rest l f)[place (rest l f) m0.1 + j].1 with
    | true => rfl
    | false =>
      rw [hl, Bool.false_or] at h3
      obtain ⟨z0, hz0⟩ := hcM m0 m0M
      obtain ⟨z, hz⟩ := hcM m hm
      rw [less_cut (hok m0 m0M) (h.val _ hyl), hz0] at h2
      rw [less_cut (h.val _ hyl) (hok m hm), hz] at h3
      have h4 : ltP (cut t) (cut (rest l f)[place (rest l f) m0.1 + j].1) = true := by
        by_cases e0 : z0 = []
        · rw [e0, List.append_nil] at h2; exact h2
        · exact ltP_trans _ _ _ (lex_more _ _ e0) h2
      obtain ⟨u, _, hu⟩ := lex_between ltB_asym (cut t) _ z h4 h3
      rw [(runF_iff ht (h.val _ hyl)).2 ⟨u, hu⟩] at hyr
      cases hyr
  unfold Srt mvl
  rw [List.pairwise_append, List.pairwise_append]
  refine ⟨⟨hsQ2.1, hsM, fun x hx m hm => below x hx m hm⟩, hsQ2.2.1, fun x hx y hy => ?_⟩
  rcases List.mem_append.1 hx with hx | hx
  · exact hsQ2.2.2 x hx y hy
  · exact above y hy x hx
theorem mvl_mem {l : List Nm} {f t : B} {k : Nat} {x : Nm} : x ∈ mvl l f t k ↔ x ∈ rest l f ∨ x ∈ mvd (rung l f) f t := by
  unfold mvl
  rw [List.mem_append, List.mem_append]
  constructor
  · rintro ((h | h) | h)
    · exact Or.inl (List.mem_of_mem_take h)
    · exact Or.inr h
    · exact Or.inl (List.mem_of_mem_drop h)
  · rintro (h | h)
    · rw [← List.take_append_drop k (rest l f)] at h
      rcases List.mem_append.1 h with h | h
      · exact Or.inl (Or.inl h)
      · exact Or.inr h
    · exact Or.inl (Or.inr h)
/-- What is left behind a removal is a tree. -/
theorem Tree.gone {l : List Nm} (h : Tree l) {f : B} (hf : valid f = true) : Tree (rest l f) := by
  refine ⟨h.rest_srt f, fun x hx => h.val x ((h.rest_mem hf).1 hx).1, fun x hx => ?_⟩
  obtain ⟨hxl, hxr⟩ := (h.rest_mem hf).1 hx
  rcases h.up x hxl with he | ⟨y, hy, he⟩
  · exact Or.inl he
  · refine Or.inr ⟨y, (h.rest_mem hf).2 ⟨hy, ?_⟩, he⟩
    cases hr : runF f y with
    | false => rfl
    | true =>
      obtain ⟨z, hz⟩ := (runF_iff hf (h.val y hy)).1 hr
      rcases up_cut (h.val x hxl) with e | ⟨u, _, hu⟩
      · have := h.val y hy
        rw [he, e, valid_nil] at this
        cases this
      · rw [← he, hz, List.append_assoc] at hu
        rw [(runF_iff hf (h.val x hxl)).2 ⟨_, hu⟩] at hxr
        cases hxr
/-- What a move leaves is a tree. -/
theorem Tree.moved {l : List Nm} {f t : B} (h : Tree l) (hf : valid f = true) (ht : valid t = true) (hok : ∀ m ∈ mvd (rung l f) f t, valid m.1 = true) (hn : ∀ x ∈ l, x.1 ≠ t)
    (htf : runF f (t, 0) = false) (hup : parent t = [] ∨ ∃ y ∈ l, y.1 = parent t) (m0 : Nm) (M' : List Nm) (hM : mvd (rung l f) f t = m0 :: M') : Tree (mvl l f t (place (rest l f) m0.1)) := by
  have hr := h.gone hf
  refine ⟨mvl_srt h hf ht hok hn m0 M' hM, fun x hx => ?_, fun x hx => ?_⟩
  · rcases mvl_mem.1 hx with hx | hx
    · exact hr.val x hx
    · exact hok x hx
  · rcases mvl_mem.1 hx with hx | hx
    · rcases hr.up x hx with e | ⟨y, hy, e⟩
      · exact Or.inl e
      · exact Or.inr ⟨y, mvl_mem.2 (Or.inl hy), e⟩
    · have vx := hok x hx
      obtain ⟨e, he, rfl⟩ := mvd_mem.1 hx
      obtain ⟨hel, her⟩ := (h.rung_mem hf).1 he
      obtain ⟨z, hz⟩ := (runF_iff hf (h.val e hel)).1 her
      have hc := mv_cut (t := t) hz
      by_cases hz0 : z = []
      · subst hz0
        rw [List.append_nil] at hc
        have ex := cut_inj hc
        simp only at ex vx ⊢
        rw [ex]
        rcases hup with e | ⟨y, hy, e⟩
        · exact Or.inl e
        · refine Or.inr ⟨y, mvl_mem.2 (Or.inl ((h.rest_mem hf).2 ⟨hy, ?_⟩)), e⟩
          cases hr : runF f y with
          | false => rfl
          | true =>
            obtain ⟨z, hz⟩ := (runF_iff hf (h.val y hy)).1 hr
            rcases up_cut ht with e' | ⟨u, _, hu⟩
            · have := h.val y hy
              rw [e, e', valid_nil] at this
              cases this
            · rw [← e, hz, List.append_assoc] at hu
              rw [(runF_iff (e := (t, 0)) hf ht).2 ⟨_, hu⟩] at htf
              cases htf
      · have hpe := parent_cut (h.val e hel) hz hz0 (cut_ne f)
        have hpm := parent_cut vx hc hz0 (cut_ne t)
        right
        rcases h.up e hel with e' | ⟨y, hy, e'⟩
        · rw [e'] at hpe
          exact (cut_valid_ne hf _ hpe.symm).elim
        · rw [← e'] at hpe
          refine ⟨(t ++ y.1.drop f.length, y.2), mvl_mem.2 (Or.inr (mvd_mem.2 ⟨y, (h.rung_mem hf).2 ⟨hy, (runF_iff hf (h.val y hy)).2 ⟨_, hpe⟩⟩, rfl⟩)), ?_⟩
          refine cut_inj ?_
          rw [hpm]
          exact mv_cut hpe
/-- What is made keeps the tree. -/
theorem Tree.made {l : List Nm} {p : B} {a : Nat} (h : Tree l) (hp : valid p = true) (hn : look l p = none) (hup : parent p = [] ∨ ∃ y ∈ l, y.1 = parent p) : Tree (insN l p a) := by
  have hin : ∀ x ∈ l, x ∈ insN l p a := by
    intro x hx
    rw [← List.take_append_drop (place l p) l] at hx
    unfold insN
    rcases List.mem_append.1 hx with hx | hx
    · exact List.mem_append.2 (Or.inl (List.mem_append.2 (Or.inl hx)))
    · exact List.mem_append.2 (Or.inr hx)
  refine ⟨h.srt.ins hn, fun x hx => ?_, fun x hx => ?_⟩
  · rcases insN_mem hx with hx | hx
    · exact h.val x hx
    · rw [hx]; exact hp
  · rcases insN_mem hx with hx | hx
    · rcases h.up x hx with e | ⟨y, hy, e⟩
      · exact Or.inl e
      · exact Or.inr ⟨y, hin y hy, e⟩
    · rw [hx]
      rcases hup with e | ⟨y, hy, e⟩
      · exact Or.inl e
      · exact Or.inr ⟨y, hin y hy, e⟩
end Go.Proofs.YtbneedmfpldpfaaGreatDoor

set_option linter.unusedSimpArgs false
set_option linter.unusedVariables false
namespace Go.Proofs.YtbneedmfpldpfaaGreatDoor
open Go.RowKit Go.Pth

/-- The first name of what is moved. -/
def mvAt (l : List Nm) (f t : B) : Nat := place (rest l f) (((mvd (rung l f) f t).head?.map (·.1)).getD [])
/-- The names behind a move. -/
def mvN (l : List Nm) (f t : B) : List Nm := mvl l f t (mvAt l f t)
/-- The state behind a move. -/
def SV.movd (S : SV) (f t : B) : SV := { S with names := mvN S.names f t, acts := S.acts ++ [⟨f, t, none⟩] }
/-- What may be moved. -/
def MayMv (S : SV) (f t : B) : Prop := valid f = true ∧ valid t = true ∧ 0 < (rung S.names f).length ∧ (t == f || under t f) = false ∧ takes S.names (kinds S) t = 0 ∧ mvOk S.names f t = true
def RenR (w : World) (b : Nat) (S : SV) (f t : B) (L : Nat → Option Role) (w' : World) : Prop := ∃ S' V' L', (S' = S.beg ∨ (MayMv S f t ∧ S' = S.beg.movd f t)) ∧ Rep w' b S' V' L' ∧ StTo w w' L L'
theorem look_none {l : List Nm} {p : B} (hs : Srt l) (h : look l p = none) : ∀ x ∈ l, x.1 ≠ p := by
  intro x hx
  obtain ⟨j, hj, rfl⟩ := List.mem_iff_getElem.1 hx
  exact look_apart hs h j hj
theorem takes_up {l : List Nm} {K : Nat → Int} {t : B} (h : takes l K t = 0) : parent t = [] ∨ ∃ y ∈ l, y.1 = parent t := by
  unfold takes at h
  split at h
  · cases h
  · split at h
    · rename_i hp; exact Or.inl hp
    · split at h
      · cases h
      · rename_i n hn
        exact Or.inr ⟨_, look_mem _ _ _ hn, rfl⟩
theorem head_cons {α : Type} {l : List α} (h : 0 < l.length) : ∃ x r, l = x :: r := by
  cases l with
  | nil => simp at h
  | cons x r => exact ⟨x, r, rfl⟩
theorem mvAt_cons {l : List Nm} {f t : B} {m0 : Nm} {M' : List Nm} (h : mvd (rung l f) f t = m0 :: M') : mvAt l f t = place (rest l f) m0.1 := by
  unfold mvAt
  rw [h]
  rfl
theorem mvOk_all {l : List Nm} {f t : B} (h : mvOk l f t = true) : ∀ m ∈ mvd (rung l f) f t, valid m.1 = true := by
  unfold mvOk at h
  exact fun m hm => List.all_eq_true.1 h m hm
/-- What may be moved leaves a tree. -/
theorem MayMv.tree {S : SV} {f t : B} (h : MayMv S f t) (ht : Tree S.names) : Tree (mvN S.names f t) := by
  obtain ⟨hf, hv, hr, htf, htk, hok⟩ := h
  obtain ⟨m0, M', hM⟩ := head_cons (l := mvd (rung S.names f) f t) (by rw [mvd_len]; exact hr)
  unfold mvN
  rw [mvAt_cons hM]
  exact ht.moved hf hv (mvOk_all hok) (look_none ht.srt (takes_none htk)) (by unfold runF; exact htf) (takes_up htk) m0 M' hM
theorem mvN_ids {l : List Nm} {f t : B} {x : Nm} (hx : x ∈ mvN l f t) : ∃ y ∈ l, y.2 = x.2 := by
  unfold mvN at hx
  rcases mvl_mem.1 hx with h | h
  · exact ⟨x, (rest_sub l f).subset h, rfl⟩
  · obtain ⟨e, he, rfl⟩ := mvd_mem.1 h
    refine ⟨e, ?_, rfl⟩
    unfold rung at he
    exact List.mem_of_mem_drop ((List.takeWhile_sublist _).subset he)
theorem ren_ok {S : SV} {f t : B} (h : renE S f t = 0) : S.begE [f, t] = 0 ∧ 0 < (rung S.names f).length ∧ (t == f || under t f) = false ∧ takes S.names (kinds S) t = 0 ∧ mvOk S.names f t = true := by
  unfold renE at h
  split at h
  · rename_i h0; exact absurd h h0
  · rename_i h0
    split at h
    · cases h
    · rename_i h1
      split at h
      · cases h
      · rename_i h2
        split at h
        · rename_i h3; exact absurd h h3
        · rename_i h3
          split at h
          · rename_i h4
            exact ⟨Classical.not_not.1 h0, by omega, by simpa using h2, Classical.not_not.1 h3, h4⟩
          · cases h
theorem begE_valid {S : SV} {f t : B} (h : S.begE [f, t] = 0) : valid f = true ∧ valid t = true := by
  unfold SV.begE at h
  split at h
  · cases h
  · split at h
    · rename_i h1
      simpa using h1
    · cases h

set_option maxRecDepth 100000 in
set_option maxHeartbeats 8000000 in
theorem rename_none (b : Nat) (S : SV) (V : SW) (L : Nat → Option Role) (f t : ByteArray) (w : World) (h : Rep w b S V L) (hf : S.Fit) (hn : S.begE [f.toList, t.toList] ≠ 0 ∨ (rung S.names f.toList).length = 0) :
    Calls Tryz.prog 39 #[ptr b, .string f, .string t] w fun e w' => (∃ n : Int, e = .returned (.int .i64 n)) ∧ RenR w b S f.toList t.toList L w' := by
  have BG := Lib.hid (begin_two b S V L f t w h hf)
  have bs := beg_same S
  have hnl := hf.names
  obtain ⟨n0, hn0⟩ : ∃ n, S.begE [f.toList, t.toList] = n := ⟨_, rfl⟩
  rw [hn0] at BG hn
  clear hn0
  by_cases hb : n0 = 0
  rotate_left
  · have tb : (n0 != 0) = true := by simpa using hb
    clear h hf hb hn bs hnl
    unfold ptr at *
    go_enter Tryz.func39, Tryz.ntmps39
    go_wp2_with fail
    refine (BG.out).mono ?_
    rintro e w1 ⟨rfl, r1, t1⟩
    have F := Lib.hid (And.intro r1 t1)
    clear r1 t1 BG
    go_wp2
    go_ret
    exact ⟨⟨_, rfl⟩, _, _, _, Or.inl rfl, F.out.1, F.out.2⟩
  subst hb
  have hr := hn.resolve_left (fun q => q rfl)
  have RU := Lib.hid (fun w' (r : Rep w' b S.beg V L) => run_row V.n S.names f w' (by have := r.nm; rw [bs.1] at this; exact this) (by have := r.sn; rw [bs.1] at this; exact this) (by omega))
  rw [hr] at RU
  clear h hf bs hnl hn hr
  unfold ptr at *
  go_enter Tryz.func39, Tryz.ntmps39
  go_wp2_with fail
  refine (BG.out).mono ?_
  rintro e w1 ⟨rfl, r1, t1⟩
  have F := Lib.hid (And.intro r1 t1)
  have c2 := r1.c 2
  simp only [scells] at c2
  clear r1 t1 BG
  go_wp2_with fail
  refine (RU.out _ F.out.1).mono ?_
  rintro e w2 ⟨ad, cap, rfl, e2⟩
  have E2 := Lib.hid e2
  clear e2 RU c2
  go_wp2
  go_ret
  exact ⟨⟨_, rfl⟩, _, _, _, Or.inl rfl, F.out.1.ext E2.out, F.out.2.trans (StTo.of_ext E2.out)⟩

set_option maxRecDepth 100000 in
set_option maxHeartbeats 4000000 in
theorem rename_all (b : Nat) (S : SV) (V : SW) (L : Nat → Option Role) (f t : ByteArray) (w : World) (h : Rep w b S V L) (hf : S.Fit) (hT : Tree S.names) (hq : t.size ≤ 1000000) :
    Calls Tryz.prog 39 #[ptr b, .string f, .string t] w fun e w' => (∃ n : Int, e = .returned (.int .i64 n)) ∧ RenR w b S f.toList t.toList L w' := by
  by_cases hn : S.begE [f.toList, t.toList] ≠ 0 ∨ (rung S.names f.toList).length = 0
  · exact rename_none b S V L f t w h hf hn
  have hb : S.begE [f.toList, t.toList] = 0 := Classical.not_not.1 fun q => hn (Or.inl q)
  have hr : 0 < (rung S.names f.toList).length := Nat.pos_of_ne_zero fun q => hn (Or.inr q)
  obtain ⟨vf, vt⟩ := begE_valid hb
  have bs := beg_same S
  have hle := rung_le S.names f.toList
  have hnl := hf.names
  have hac := hf.acts
  obtain ⟨g, cap, hv⟩ : ∃ g cap, V.n = .slice (some ⟨g, 0, none⟩) S.names.length cap := by
    rcases h.nm.2 with ⟨_, h2⟩ | ⟨g, cap, cur, hv, _⟩
    · omega
    · exact ⟨g, cap, hv⟩
  have hpre : ∀ e ∈ rung S.names f.toList, f.size ≤ e.1.length ∧ e.1.length ≤ 1000000 := by
    intro e he
    obtain ⟨h1, h2⟩ := (hT.rung_mem vf).1 he
    obtain ⟨z, hz⟩ := (runF_iff vf (hT.val e h1)).1 h2
    have h3 := mv_long hz
    have h4 := valid_len (hT.val e h1)
    have h5 : f.toList.length = f.size := by rw [ByteArray.toList_eq]; simp
    omega
  obtain ⟨m0, M', hM⟩ := head_cons (l := mvd (rung S.names f.toList) f.toList t.toList) (by rw [mvd_len]; exact hr)
  have R := rename_any b g cap S (S.beg.movd f.toList t.toList) V L f t w h hf hv hpre hq (fun h0 w' r => by
    obtain ⟨_, _, q3, q4, q5⟩ := ren_ok h0
    have may : MayMv S f.toList t.toList := ⟨vf, vt, hr, q3, q4, q5⟩
    have hms := (may.tree hT).srt
    have k0 : (f.toList == []) = false := by simpa using valid_ne vf
    have k1 : (t.toList == []) = false := by simpa using valid_ne vt
    have hT' := hT
    have hk : place (rest S.names f.toList) ((mvd (rung S.names f.toList) f.toList t.toList)[0]'(by rw [mvd_len]; exact hr)).1 = mvAt S.names f.toList t.toList := by
      rw [mvAt_cons hM]
      simp only [hM, List.getElem_cons_zero]
    have CM := change_moved b g cap (mvAt S.names f.toList t.toList) S.beg V L f t w' r (by rw [bs.2.2.2.2.1]; omega) (by rw [bs.1]; exact hv) k0 k1 (fun w2 r2 => by
      rw [bs.1]
      have hnm := r2.nm
      rw [bs.1, hv] at hnm
      have hgn : L g = some .names := r2.ln g (by rw [hv]; rfl)
      have hbs := r2.lb
      refine steps_all b 2 g cap _ (scells S.beg V) 57 S.names f t w2 r2.cell (by simp [scells, hv]) hnm (fun e => by rw [e, hgn] at hbs; cases hbs) hT.srt (by omega) hr hpre hq (hT.rest_srt _) hk) (by rw [bs.1]; exact hms) (fun x hx => by
      rw [bs.1] at hx
      rw [bs.2.2.1]
      obtain ⟨y, hy, e⟩ := mvN_ids hx
      rw [← e]
      exact h.rn y hy)
    rw [bs.1] at CM
    unfold SV.movd mvN
    rw [bs.1]
    exact CM)
  refine R.mono ?_
  rintro e w' ⟨rfl, h1, h2⟩
  refine ⟨⟨_, rfl⟩, ?_⟩
  by_cases hc : renE S f.toList t.toList = 0
  · obtain ⟨V', L', r, st⟩ := h2 hc
    obtain ⟨_, _, q3, q4, q5⟩ := ren_ok hc
    exact ⟨_, V', L', Or.inr ⟨⟨vf, vt, hr, q3, q4, q5⟩, rfl⟩, r, st⟩
  · obtain ⟨r, st⟩ := h1 hc
    exact ⟨_, V, L, Or.inl rfl, r, st⟩
end Go.Proofs.YtbneedmfpldpfaaGreatDoor
