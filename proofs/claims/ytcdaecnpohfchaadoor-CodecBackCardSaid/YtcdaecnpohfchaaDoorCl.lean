/- What items are written as; the contracts of written and made. -/
import Derived.Test.YtcdaecnpohfchaaDoorCk
namespace Go.Proofs.YtcdaecnpohfchaaDoor
open Go.RowKit Go.Sha

/-- One more item. -/
def encI (o : Option (List Int)) (x : Itm) : Option (List Int) :=
  if x.kind = 1 then wNum o x.n else if x.kind = 2 then oadd o (lf x.wd 8) else if x.kind = 3 then oadd o (encB (nums x.s)) else if x.kind = 4 then oadd o (encB (nums x.s)) else o
def encAll (l : List Itm) : Option (List Int) := l.foldl encI (some [])
theorem encAll_snoc (l : List Itm) (x : Itm) : encAll (l ++ [x]) = encI (encAll l) x := by simp [encAll]
theorem encI_none (x : Itm) : encI none x = none := by
  unfold encI wNum oadd
  repeat' split
  all_goals rfl
theorem encB_length (m : List Int) : (encB m).length = 4 + m.length := by rw [encB, List.length_append, lf_length]
theorem encI_len (o : Option (List Int)) (x : Itm) (k : Nat) (h : ∀ b, o = some b → b.length ≤ k) : ∀ b, encI o x = some b → b.length ≤ k + (x.s.size + 8) := by
  intro b hb
  have key : ∀ m, oadd o m = some b → m.length ≤ x.s.size + 8 → b.length ≤ k + (x.s.size + 8) := fun m hm hl => by
    cases o with
    | none => cases hm
    | some a =>
      have := h a rfl
      injection hm with hm
      subst hm
      rw [List.length_append]; omega
  unfold encI at hb
  split at hb
  · unfold wNum at hb
    split at hb
    · cases hb
    · exact key _ hb (by rw [lf_length]; omega)
  · split at hb
    · exact key _ hb (by rw [lf_length]; omega)
    · split at hb
      · exact key _ hb (by rw [encB_length, nums_length]; omega)
      · split at hb
        · exact key _ hb (by rw [encB_length, nums_length]; omega)
        · have := h b hb; omega
theorem encAll_len (l : List Itm) : ∀ (k : Nat) (b : List Int), k ≤ l.length → encAll (l.take k) = some b → b.length ≤ isum (l.take k) := by
  intro k
  induction k with
  | zero => intro b _ h; simp [encAll] at h; subst h; simp
  | succ k ih =>
    intro b hk h
    obtain ⟨x, _, ht⟩ := itake l k (by omega)
    rw [ht] at h ⊢
    rw [encAll_snoc] at h
    rw [isum_snoc]
    exact encI_len _ x _ (fun b hb => ih b (by omega) hb) b h
theorem encAll_dead (l : List Itm) (k : Nat) (h : encAll (l.take k) = none) : encAll l = none := by
  have h2 : encAll l = (l.drop k).foldl encI (encAll (l.take k)) := by
    unfold encAll
    rw [← List.foldl_append, List.take_append_drop]
  rw [h2, h]
  generalize l.drop k = r
  induction r with
  | nil => rfl
  | cons x r ih => rw [List.foldl_cons, encI_none]; exact ih

def InvT (w : World) (l : List Itm) (g : Nat) (i : Value) (wr : World) : Prop := ∃ k : Nat, k ≤ l.length ∧ i = .int .i64 k ∧ WSt wr g (encAll (l.take k)) ∧ Ext w wr
/-- What written and made answer. -/
def WPost (w : World) (o : Option (List Int)) (e : Ending) (w' : World) : Prop := ∃ v c, e = .returned (.tuple #[v, .bool c]) ∧ Ext w w' ∧ (∀ b, o = some b → c = true ∧ OwnB w' w.heap.size v b) ∧ (o = none → c = false ∧ v = .slice none 0 0)
theorem invT_step {w wr w' : World} {l : List Itm} {g k L : Nat} {x : Itm} {o : Option (List Int)} (hL : L = l.length) (hlt : k < L) (ht : l.take (k + 1) = l.take k ++ [x]) (he : Ext w wr) (ho : Only g wr w') (hg : w.heap.size ≤ g) (hw : WSt w' g o) (ho2 : encI (encAll (l.take k)) x = o) :
    InvT w l g (.int .i64 ((k + 1 : Nat) : Int)) w' := ⟨k + 1, by omega, rfl, by rw [ht, encAll_snoc, ho2]; exact hw, ext_only he ho hg⟩

set_option maxHeartbeats 1000000 in
set_option maxRecDepth 100000 in
theorem written_any (v : Value) (l : List Itm) (w : World) (h : IAt w v l) (hl : l.length ≤ 1000) (hs : isum l ≤ 1000) : Calls Tryd.prog 9 #[v] w (WPost w (encAll l)) := by
  have H := Lib.hid h
  obtain ⟨ad, cap, pb, po, rfl, h2, h3⟩ := h
  clear h2 h3
  obtain ⟨L, hL⟩ : ∃ L, L = l.length := ⟨_, rfl⟩
  rw [← hL] at hl ⊢
  have HL := Lib.hid hL; clear hL
  have zz := z52
  have w0 := wst_zero w _ rfl
  have E0 : Ext w (w.alloc (.cells (zeroW false).toArray 52)) := Ext.alloc w _
  go_enter Tryd.func9, Tryd.ntmps9
  go_wp2
  go_loopw [5] (fun i wr => InvT w l w.heap.size i wr) (fun i _ => L - (intOf i).toNat)
  case atStart => exact ⟨0, by omega, rfl, w0, E0⟩
  case round =>
    clear w0 E0 zz
    obtain ⟨k, hk, rfl, hw, he⟩ := hrel
    rw [← HL.out] at hk
    by_cases hlt : k < L
    · obtain ⟨x, hx, htk⟩ := itake l k (by rw [← HL.out]; exact hlt)
      have hI := H.out.ext he
      obtain ⟨ad', cap', pb', po', e', h2', h3'⟩ := hI
      have e1 := h2' (by rw [← HL.out]; omega)
      subst e1
      injection e' with e1 e2 e3
      subst e1
      obtain ⟨c0, c1, c2, c3, r0, r1, _⟩ := h3' k x hx
      have i0 : (0 : Int) ≤ (k : Int) := by omega
      have i1 : (k : Int) < (L : Int) := by omega
      have hsz : x.s.size ≤ 1000 := by
        have := isum_le l (k + 1)
        rw [htk, isum_snoc] at this
        omega
      have hfit : ∀ c : Nat, c ≤ 100000 → Fits (encAll (l.take k)) c := fun c hc b hb => by
        have h1 := encAll_len l k b (by rw [← HL.out]; omega) hb
        have h2 := isum_le l k
        omega
      have Hfit := Lib.hid hfit
      have Htk := Lib.hid htk
      have Hw := Lib.hid hw
      have Hsz := Lib.hid hsz
      have hg : w.heap.size ≤ w.heap.size := Nat.le_refl _
      clear hfit htk hw hsz h2' h3' hx e2 e3 hs
      by_cases k1 : x.kind = 1
      · have t1 : (x.kind == 1) = true := beq_iff_eq.2 k1
        go_wp2_with fail
        refine (wnum_any w.heap.size _ x.n wr Hw.out (Hfit.out 4 (by omega))).mono ?_
        rintro e w' ⟨rfl, o1, hw1⟩
        go_wp2
        exact ⟨invT_step HL.out hlt Htk.out he o1 hg hw1 (by rw [encI, if_pos k1]), by simp [intOf]; omega⟩
      · have t1 : (x.kind == 1) = false := beq_eq_false_iff_ne.2 k1
        by_cases k2 : x.kind = 2
        · have t2 : (x.kind == 2) = true := beq_iff_eq.2 k2
          go_wp2_with fail
          refine (wword_any w.heap.size _ x.wd wr Hw.out (Hfit.out 8 (by omega))).mono ?_
          rintro e w' ⟨rfl, o1, hw1⟩
          go_wp2
          exact ⟨invT_step HL.out hlt Htk.out he o1 hg hw1 (by rw [encI, if_neg k1, if_pos k2]), by simp [intOf]; omega⟩
        · have t2 : (x.kind == 2) = false := beq_eq_false_iff_ne.2 k2
          by_cases k3 : x.kind = 3
          · have t3 : (x.kind == 3) = true := beq_iff_eq.2 k3
            have hc := conv_bytes
            have eb := ext_bytes wr x.s
            have sb := src_bytes wr x.s w.heap.size Hw.out.lt
            have wb := Hw.out.below eb
            go_wp2_with fail
            refine (wbytes_any w.heap.size _ _ _ _ wb (Hfit.out _ (by rw [nums_length]; have := Hsz.out; omega)) (by rw [nums_length]; have := Hsz.out; omega) sb).mono ?_
            rintro e w' ⟨rfl, o1, hw1⟩
            go_wp2
            exact ⟨invT_step HL.out hlt Htk.out (he.trans eb) o1 hg hw1 (by rw [encI, if_neg k1, if_neg k2, if_pos k3]), by simp [intOf]; omega⟩
          · have t3 : (x.kind == 3) = false := beq_eq_false_iff_ne.2 k3
            by_cases k4 : x.kind = 4
            · have t4 : (x.kind == 4) = true := beq_iff_eq.2 k4
              go_wp2_with fail
              refine (wtext_any w.heap.size _ x.s wr Hw.out (Hfit.out _ (by have := Hsz.out; omega)) (by have := Hsz.out; omega)).mono ?_
              rintro e w' ⟨rfl, o1, hw1⟩
              go_wp2
              exact ⟨invT_step HL.out hlt Htk.out he o1 hg hw1 (by rw [encI, if_neg k1, if_neg k2, if_neg k3, if_pos k4]), by simp [intOf]; omega⟩
            · have t4 : (x.kind == 4) = false := beq_eq_false_iff_ne.2 k4
              go_wp2
              exact ⟨invT_step HL.out hlt Htk.out he (Only.refl _ wr) hg Hw.out (by rw [encI, if_neg k1, if_neg k2, if_neg k3, if_neg k4]), by simp [intOf]; omega⟩
    · obtain rfl : k = L := by omega
      rw [HL.out, List.take_length] at hw
      clear hlt
      have hlen := encAll_len l l.length
      rw [List.take_length] at hlen
      have Hlen := Lib.hid hlen; clear hlen
      cases ho : encAll l with
      | none =>
        rw [ho] at hw
        have Hw := Lib.hid hw; have Ho := Lib.hid ho; clear hw ho Hlen
        go_wp2_with fail
        refine (done_bad w.heap.size wr Hw.out).mono ?_
        rintro e w' ⟨rfl, rfl⟩
        go_wp2
        go_ret2
        exact ⟨_, _, rfl, he, fun b hb => (by have h9 := Ho.out.symm.trans hb; cases h9), fun _ => ⟨rfl, rfl⟩⟩
      | some b =>
        rw [ho] at hw
        have Hw := Lib.hid hw
        have Hb := Lib.hid (Hlen.out b (Nat.le_refl _) ho)
        have Ho := Lib.hid ho
        clear hw ho Hlen
        go_wp2_with fail
        refine (done_any w.heap.size b wr Hw.out (by have := Hb.out; omega)).mono ?_
        rintro e w' ⟨u, rfl, e1, o1⟩
        have O1 := Lib.hid (o1.less he.size); clear o1
        go_wp2
        go_ret2
        exact ⟨_, _, rfl, he.trans e1, fun b' hb => (by have h9 := Ho.out.symm.trans hb; injection h9 with h9; subst h9; exact ⟨rfl, O1.out⟩), fun h => (by have h9 := Ho.out.symm.trans h; cases h9)⟩

def InvM (w : World) (l : List Itm) (b i : Value) (wr : World) : Prop := ∃ (k : Nat) (c : List Int), k ≤ l.length ∧ i = .int .i64 k ∧ encAll (l.take k) = some c ∧ OwnB wr w.heap.size b c ∧ Ext w wr
theorem oadd_eq {o : Option (List Int)} {c m : List Int} (h : o = some c) : oadd o m = some (c ++ m) := by rw [h]; rfl
theorem invM_step {w w' : World} {l : List Itm} {k L : Nat} {x : Itm} {b : Value} {c c' : List Int} (hL : L = l.length) (hlt : k < L) (ht : l.take (k + 1) = l.take k ++ [x]) (hc : encAll (l.take k) = some c) (hc' : encI (some c) x = some c') (ho : OwnB w' w.heap.size b c') (he : Ext w w') :
    InvM w l b (.int .i64 ((k + 1 : Nat) : Int)) w' := ⟨k + 1, c', by omega, rfl, by rw [ht, encAll_snoc, hc, hc'], ho, he⟩
set_option maxHeartbeats 1000000 in
set_option maxRecDepth 100000 in
theorem made_any (v : Value) (l : List Itm) (w : World) (h : IAt w v l) (hl : l.length ≤ 1000) (hs : isum l ≤ 1000) : Calls Tryd.prog 10 #[v] w (WPost w (encAll l)) := by
  have H := Lib.hid h
  obtain ⟨ad, cap, pb, po, rfl, h2, h3⟩ := h
  clear h2 h3
  obtain ⟨L, hL⟩ : ∃ L, L = l.length := ⟨_, rfl⟩
  rw [← hL] at hl ⊢
  have HL := Lib.hid hL; clear hL
  go_enter Tryd.func10, Tryd.ntmps10
  go_wp2
  go_loopw [4, 5] (fun b i wr => InvM w l b i wr) (fun _ i _ => L - (intOf i).toNat)
  case atStart => exact ⟨0, [], by omega, rfl, rfl, OwnB.nil w _, Ext.refl w⟩
  case round =>
    obtain ⟨k, c, hk, rfl, hc, ho, he⟩ := hrel
    rw [← HL.out] at hk
    obtain ⟨adb, capb, rfl⟩ := ho.len
    by_cases hlt : k < L
    · obtain ⟨x, hx, htk⟩ := itake l k (by rw [← HL.out]; exact hlt)
      have hI := H.out.ext he
      obtain ⟨ad', cap', pb', po', e', h2', h3'⟩ := hI
      have e1 := h2' (by rw [← HL.out]; omega)
      subst e1
      injection e' with e1 e2 e3
      subst e1
      obtain ⟨c0, c1, c2, c3, r0, r1, _⟩ := h3' k x hx
      have i0 : (0 : Int) ≤ (k : Int) := by omega
      have i1 : (k : Int) < (L : Int) := by omega
      have hsz : x.s.size ≤ 1000 := by
        have := isum_le l (k + 1)
        rw [htk, isum_snoc] at this
        omega
      have hcl : c.length ≤ 1000 := by
        have h1 := encAll_len l k c (by rw [← HL.out]; omega) hc
        have h2 := isum_le l k
        omega
      obtain ⟨C, hC⟩ : ∃ C, C = c.length := ⟨_, rfl⟩
      rw [← hC] at hcl ⊢
      have HC := Lib.hid hC
      rw [← hC] at ho
      have Htk := Lib.hid htk
      have Ho := Lib.hid ho
      have Hc := Lib.hid hc
      have Hsz := Lib.hid hsz
      clear htk ho hc hsz h2' h3' hx e2 e3 hs hC
      by_cases k1 : x.kind = 1
      · have t1 : (x.kind == 1) = true := beq_iff_eq.2 k1
        by_cases n1 : x.n < 0
        · have d1 : decide (x.n < 0) = true := decide_eq_true n1
          have hdead : encAll l = none := encAll_dead l (k + 1) (by rw [Htk.out, encAll_snoc, encI, if_pos k1, wNum, if_pos (Or.inl n1)])
          have Hd := Lib.hid hdead; clear hdead
          go_wp2
          go_ret2
          exact ⟨_, _, rfl, he, fun b hb => (by have h9 := Hd.out.symm.trans hb; cases h9), fun _ => ⟨rfl, rfl⟩⟩
        · have d1 : decide (x.n < 0) = false := decide_eq_false n1
          by_cases n2 : 2147483647 < x.n
          · have d2 : decide (2147483647 < x.n) = true := decide_eq_true n2
            have hdead : encAll l = none := encAll_dead l (k + 1) (by rw [Htk.out, encAll_snoc, encI, if_pos k1, wNum, if_pos (Or.inr n2)])
            have Hd := Lib.hid hdead; clear hdead
            go_wp2
            go_ret2
            exact ⟨_, _, rfl, he, fun b hb => (by have h9 := Hd.out.symm.trans hb; cases h9), fun _ => ⟨rfl, rfl⟩⟩
          · have d2 : decide (2147483647 < x.n) = false := decide_eq_false n2
            obtain ⟨nn, hnn⟩ : ∃ nn : Nat, x.n = (nn : Int) := ⟨x.n.toNat, int_nat _ (by omega)⟩
            have hnn2 : nn ≤ 2147483647 := by omega
            have hce : encI (some c) x = some (c ++ lf (nn : Int) 4) := by rw [encI, if_pos k1, wNum, if_neg (by omega), oadd_some, hnn]
            have Hce := Lib.hid hce; clear hce
            rw [hnn] at c1 d1 d2
            clear n1 n2 hnn
            go_wp2_with fail
            refine (refnum_any nn wr hnn2).mono ?_
            rintro e w1 ⟨u1, rfl, e1, o1⟩
            have S1 := Lib.hid (o1.srcs w1.heap.size (Or.inr (Nat.le_refl _)))
            have O1 := Lib.hid (Ho.out.ext e1)
            have hB : w.heap.size ≤ w1.heap.size := (he.trans e1).size
            clear o1
            go_wp2_with (refine list_append_bytes rfl (.tmp 33) (.tmp 39) 25 rfl Tryd.underlying25 u8zero w.heap.size (.slice adb C capb) c rfl O1.out _ _ _ rfl S1.out (by rw [lf_length, ← HC.out]; omega) hB ?_; intro vx w4 ox gx; have b4 := O1.out.grown gx hB)
            exact ⟨invM_step HL.out hlt Htk.out Hc.out Hce.out ox (Below.trans (he.trans e1) b4), by simp [intOf]; omega⟩
      · have t1 : (x.kind == 1) = false := beq_eq_false_iff_ne.2 k1
        by_cases k2 : x.kind = 2
        · have t2 : (x.kind == 2) = true := beq_iff_eq.2 k2
          have hce : encI (some c) x = some (c ++ lf x.wd 8) := by rw [encI, if_neg k1, if_pos k2, oadd_some]
          have Hce := Lib.hid hce; clear hce
          go_wp2_with fail
          refine (refword_any x.wd wr).mono ?_
          rintro e w1 ⟨u1, rfl, e1, o1⟩
          have S1 := Lib.hid (o1.srcs w1.heap.size (Or.inr (Nat.le_refl _)))
          have O1 := Lib.hid (Ho.out.ext e1)
          have hB : w.heap.size ≤ w1.heap.size := (he.trans e1).size
          clear o1
          go_wp2_with (refine list_append_bytes rfl (.tmp 43) (.tmp 49) 25 rfl Tryd.underlying25 u8zero w.heap.size (.slice adb C capb) c rfl O1.out _ _ _ rfl S1.out (by rw [lf_length, ← HC.out]; omega) hB ?_; intro vx w4 ox gx; have b4 := O1.out.grown gx hB)
          exact ⟨invM_step HL.out hlt Htk.out Hc.out Hce.out ox (Below.trans (he.trans e1) b4), by simp [intOf]; omega⟩
        · have t2 : (x.kind == 2) = false := beq_eq_false_iff_ne.2 k2
          by_cases k34 : x.kind = 3 ∨ x.kind = 4
          · have hce : encI (some c) x = some (c ++ encB (nums x.s)) := by
              rw [encI, if_neg k1, if_neg k2]
              rcases k34 with k3 | k3
              · rw [if_pos k3, oadd_some]
              · rw [if_neg (by omega), if_pos k3, oadd_some]
            have Hce := Lib.hid hce; clear hce
            have hcv := conv_bytes
            have eb := ext_bytes wr x.s
            have sb := src_bytes wr x.s 0 (by have := World.block_lt_of_cell? wr _ c0; omega)
            have Sb := Lib.hid sb; clear sb
            rcases k34 with k3 | k3
            · have t3 : (x.kind == 3) = true := beq_iff_eq.2 k3
              have Hk := Lib.hid k3; clear k3
              go_wp2_with fail
              refine (refbytes_any _ _ _ _ Sb.out (by rw [nums_length]; have := Hsz.out; omega)).mono ?_
              rintro e w1 ⟨u1, rfl, e1, o1⟩
              have S1 := Lib.hid (o1.srcs w1.heap.size (Or.inr (Nat.le_refl _)))
              have O1 := Lib.hid ((Ho.out.ext eb).ext e1)
              have hB : w.heap.size ≤ w1.heap.size := ((he.trans eb).trans e1).size
              clear o1
              go_wp2_with (refine list_append_bytes rfl (.tmp 54) (.tmp 61) 25 rfl Tryd.underlying25 u8zero w.heap.size (.slice adb C capb) c rfl O1.out _ _ _ rfl S1.out (by rw [encB_length, nums_length, ← HC.out]; have := Hsz.out; omega) hB ?_; intro vx w4 ox gx; have b4 := O1.out.grown gx hB)
              exact ⟨invM_step HL.out hlt Htk.out Hc.out Hce.out ox (Below.trans ((he.trans eb).trans e1) b4), by simp [intOf]; omega⟩
            · have t3 : (x.kind == 3) = false := beq_eq_false_iff_ne.2 (by omega)
              have t4 : (x.kind == 4) = true := beq_iff_eq.2 k3
              have Hk := Lib.hid k3; clear k3
              go_wp2_with fail
              refine (refbytes_any _ _ _ _ Sb.out (by rw [nums_length]; have := Hsz.out; omega)).mono ?_
              rintro e w1 ⟨u1, rfl, e1, o1⟩
              have S1 := Lib.hid (o1.srcs w1.heap.size (Or.inr (Nat.le_refl _)))
              have O1 := Lib.hid ((Ho.out.ext eb).ext e1)
              have hB : w.heap.size ≤ w1.heap.size := ((he.trans eb).trans e1).size
              clear o1
              go_wp2_with (refine list_append_bytes rfl (.tmp 54) (.tmp 61) 25 rfl Tryd.underlying25 u8zero w.heap.size (.slice adb C capb) c rfl O1.out _ _ _ rfl S1.out (by rw [encB_length, nums_length, ← HC.out]; have := Hsz.out; omega) hB ?_; intro vx w4 ox gx; have b4 := O1.out.grown gx hB)
              exact ⟨invM_step HL.out hlt Htk.out Hc.out Hce.out ox (Below.trans ((he.trans eb).trans e1) b4), by simp [intOf]; omega⟩
          · have t3 : (x.kind == 3) = false := beq_eq_false_iff_ne.2 (by omega)
            have t4 : (x.kind == 4) = false := beq_eq_false_iff_ne.2 (by omega)
            have hce : encI (some c) x = some c := by rw [encI, if_neg k1, if_neg k2, if_neg (by omega), if_neg (by omega)]
            have Hce := Lib.hid hce; clear hce
            go_wp2
            exact ⟨invM_step HL.out hlt Htk.out Hc.out Hce.out Ho.out he, by simp [intOf]; omega⟩
    · obtain rfl : k = L := by omega
      rw [HL.out, List.take_length] at hc
      have Hc := Lib.hid hc
      have Ho := Lib.hid ho
      clear hlt hc ho
      go_wp2
      go_ret2
      exact ⟨_, _, rfl, he, fun b' hb => (by have h9 := Hc.out.symm.trans hb; injection h9 with h9; subst h9; exact ⟨rfl, Ho.out⟩), fun h => (by have h9 := Hc.out.symm.trans h; cases h9)⟩
end Go.Proofs.YtcdaecnpohfchaaDoor
