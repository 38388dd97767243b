/- What was written is read, and what is read was written: sidecars; the document's own reading is the code's. No conditions: definitions and lemmas. -/
import Derived.Test.YtfhgoedonjcekaaDoorGi
import Derived.Test.YtfhgoedonjcekaaDoorGd
import Derived.Test.YtfhgoedonjcekaaDoorCkM
namespace Go.Proofs.YtfhgoedonjcekaaDoor
open Go.RowKit Go.Sha
set_option linter.unusedSimpArgs false
set_option linter.unusedVariables false

theorem lf_byt (n : Int) (k : Nat) : Byt (lf n k) := by
  induction k with
  | zero => intro x hx; simp [lf] at hx
  | succ k ih =>
    intro x hx
    rw [lf] at hx
    rcases List.mem_append.1 hx with hx | hx
    · exact ih x hx
    · simp at hx; subst hx; omega
theorem leN_lf_mod (n : Nat) (k : Nat) : leN (lf (n : Int) k) = ((n % 256 ^ k : Nat) : Int) := by
  induction k with
  | zero => simp [lf, leN, Nat.mod_one]
  | succ k ih =>
    rw [lf, leN_snoc, ih, lf_length, pow_256, Nat.pow_succ, Nat.mod_mul]
    rw [Int.natCast_add, Int.natCast_mul, Int.natCast_pow, Int.natCast_emod (n / 256 ^ k), Int.natCast_ediv, Int.natCast_pow, Int.mul_comm]
    rfl
theorem leN_lf (n : Nat) (k : Nat) (h : n < 256 ^ k) : leN (lf (n : Int) k) = (n : Int) := by rw [leN_lf_mod, Nat.mod_eq_of_lt h]
theorem byt_app {a b : List Int} (ha : Byt a) (hb : Byt b) : Byt (a ++ b) := fun x hx => (List.mem_append.1 hx).elim (ha x) (hb x)
/-- A number that was written is read. -/
theorem rNum_lf (n : Nat) (l : List Int) (h : n ≤ 2147483647) : rNum (lf (n : Int) 4 ++ l) 0 = ((n : Int), l, 0) := by
  have h4 : (lf (n : Int) 4).length = 4 := lf_length _ _
  have ht : (lf (n : Int) 4 ++ l).take 4 = lf (n : Int) 4 := by rw [List.take_append_of_le_length (by omega), List.take_of_length_le (by omega)]
  have hd : (lf (n : Int) 4 ++ l).drop 4 = l := by rw [List.drop_append_of_le_length (by omega), List.drop_of_length_le (by omega)]; rfl
  have hN : leN (lf (n : Int) 4) = (n : Int) := leN_lf n 4 (by have : (256 : Nat) ^ 4 = 4294967296 := rfl; omega)
  rw [rNum, if_neg (by simp), if_neg (by rw [List.length_append]; omega), ht, hN, if_neg (by omega), hd]
/-- Bytes that were written are read. -/
theorem rCnt_enc (m l : List Int) (most : Nat) (h : m.length ≤ 1000000) (hm : m.length ≤ most) : rCnt (encB m ++ l) 0 most = (m, l, 0) := by
  have e : rNum (encB m ++ l) 0 = ((m.length : Int), m ++ l, 0) := by unfold encB; rw [List.append_assoc]; exact rNum_lf m.length (m ++ l) (by omega)
  unfold rCnt
  rw [e]
  simp only [Int.toNat_natCast]
  rw [if_neg (by simp), if_neg (by rw [List.length_append]; omega), if_neg (by omega)]
  rw [List.take_append_of_le_length (Nat.le_refl _), List.take_length, List.drop_append_of_le_length (Nat.le_refl _), List.drop_length]; rfl
theorem eqS_iff (m n : List Int) : eqS m n = true ↔ m.map (fun n => UInt8.ofNat n.toNat) = n.map (fun n => UInt8.ofNat n.toNat) := by
  unfold eqS
  rw [beq_iff_eq, ByteArray.toList_eq, ByteArray.toList_eq, strOfNums_data, strOfNums_data]
theorem byt_inj {a b : List Int} (ha : Byt a) (hb : Byt b) (h : a.map (fun n => UInt8.ofNat n.toNat) = b.map (fun n => UInt8.ofNat n.toNat)) : a = b := by
  induction a generalizing b with
  | nil => cases b with
    | nil => rfl
    | cons y r => simp at h
  | cons x r ih => cases b with
    | nil => simp at h
    | cons y q =>
      simp only [List.map_cons, List.cons.injEq] at h
      have hx := ha x (by simp)
      have hy := hb y (by simp)
      have e : x = y := by
        have := congrArg UInt8.toNat h.1
        simp only [UInt8.toNat_ofNat'] at this
        rw [Nat.mod_eq_of_lt (by omega), Nat.mod_eq_of_lt (by omega)] at this
        omega
      rw [e, ih (fun z hz => ha z (by simp [hz])) (fun z hz => hb z (by simp [hz])) h.2]
theorem eqS_pre (x u t : List Int) : eqS (x ++ u) (x ++ t) = eqS u t := by
  rw [Bool.eq_iff_iff, eqS_iff, eqS_iff]
  simp
/-- A number that was read was written. -/
theorem rNum_inv (l : List Int) (hb : Byt l) (n : Int) (l2 : List Int) (h : rNum l 0 = (n, l2, 0)) : ∃ k : Nat, n = k ∧ k ≤ 2147483647 ∧ l = lf (k : Int) 4 ++ l2 := by
  unfold rNum at h
  rw [if_neg (by simp)] at h
  split at h
  · simp at h
  · rename_i h4
    split at h
    · simp at h
    · rename_i hbig
      injection h with h1 h2
      injection h2 with h2 _
      have hr := leN_range (l.take 4) (hb.take 4)
      obtain ⟨k, hk⟩ := Int.eq_ofNat_of_zero_le hr.1
      refine ⟨k, by rw [← h1, hk], by omega, ?_⟩
      have e4 := leN4 l (by omega)
      have g0 := hb.get 0 (by omega)
      have g1 := hb.get 1 (by omega)
      have g2 := hb.get 2 (by omega)
      have g3 := hb.get 3 (by omega)
      rw [hk] at e4 hbig
      have e : lf (k : Int) 4 = l.take 4 := by
        rw [lf4 k (by omega), take4 l (by omega), e4]
        congr 1
        · omega
        · congr 1
          · omega
          · congr 1
            · omega
            · congr 1
              omega
      rw [e, ← h2, List.take_append_drop]
theorem rNum_err (l : List Int) (e : Int) (he : e ≠ 0) : rNum l e = (0, [], e) := by rw [rNum, if_pos he]
theorem rNum_bad (l : List Int) (n : Int) (l2 : List Int) (e : Int) (h : rNum l 0 = (n, l2, e)) (he : e ≠ 0) : n = 0 := by
  unfold rNum at h
  rw [if_neg (by simp)] at h
  split at h
  · injection h with h _; exact h.symm
  · split at h
    · injection h with h _; exact h.symm
    · injection h with _ h; injection h with _ h; exact absurd h.symm he
/-- Bytes that were read were written. -/
theorem rCnt_inv (l : List Int) (hb : Byt l) (most : Nat) (m l2 : List Int) (h : rCnt l 0 most = (m, l2, 0)) : l = encB m ++ l2 ∧ m.length ≤ most := by
  obtain ⟨n, l1, e1, h1⟩ : ∃ n l' e', rNum l 0 = (n, l', e') := ⟨_, _, _, rfl⟩
  unfold rCnt at h
  rw [h1] at h
  simp only at h
  split at h
  · rename_i h0
    injection h with _ h; injection h with _ h
    exact absurd h h0
  · rename_i h0
    have h0 : e1 = 0 := Classical.not_not.1 h0
    subst h0
    obtain ⟨k, rfl, hk, hl⟩ := rNum_inv l hb n l1 h1
    rw [Int.toNat_natCast] at h
    split at h
    · simp at h
    · split at h
      · simp at h
      · injection h with q1 q2
        injection q2 with q2 _
        have hml : m.length = k := by rw [← q1, List.length_take]; omega
        refine ⟨?_, by omega⟩
        rw [hl, encB, hml, ← q1, ← q2, List.append_assoc, List.take_append_drop]
theorem rCnt_err (l : List Int) (e : Int) (most : Nat) (he : e ≠ 0) : (rCnt l e most).1 = [] := by
  unfold rCnt
  rw [rNum_err l e he, if_pos he]
/-- So many fields that were read were written. -/
theorem rList_inv (sz : Nat) (hs : 0 < sz) : ∀ (c : Nat) (l : List Int) (hb : Byt l) (ls : List (List Int)) (l2 : List Int) (e2 : Int), rList sz c l 0 = some (ls, l2, e2) → l = encLs ls ++ l2 ∧ e2 = 0
  | 0, l, hb, ls, l2, e2, h => by
    rw [rList] at h
    injection h with h
    injection h with h1 h2
    injection h2 with h2 h3
    subst h1 h2 h3
    exact ⟨rfl, rfl⟩
  | c + 1, l, hb, ls, l2, e2, h => by
    rw [rList] at h
    split at h
    · rename_i hx
      obtain ⟨⟨ls0, l0, e0⟩, hp, hq⟩ := Option.map_eq_some_iff.1 h
      injection hq with h1 h2
      injection h2 with h2 h3
      subst h1 h2 h3
      obtain ⟨m, r, e, hc⟩ : ∃ m r e, rCnt l 0 sz = (m, r, e) := ⟨_, _, _, rfl⟩
      rw [hc] at hx hp ⊢
      simp only at hx hp ⊢
      have he : e = 0 := by
        apply Classical.byContradiction
        intro he
        have : m = [] := by
          obtain ⟨n, l1, e1, h1⟩ : ∃ n l' e', rNum l 0 = (n, l', e') := ⟨_, _, _, rfl⟩
          unfold rCnt at hc
          rw [h1] at hc
          simp only at hc
          split at hc
          · injection hc with q _; exact q.symm
          · split at hc
            · injection hc with q _; exact q.symm
            · split at hc
              · injection hc with q _; exact q.symm
              · injection hc with _ q; injection q with _ q; exact absurd q.symm he
        subst this
        simp at hx
        omega
      subst he
      obtain ⟨hl, _⟩ := rCnt_inv l hb sz m r hc
      have hbr : Byt r := by have := (rCnt_byt l 0 sz hb).2; rw [hc] at this; exact this
      obtain ⟨i1, i2⟩ := rList_inv sz hs c r hbr ls0 l0 e0 hp
      refine ⟨?_, i2⟩
      rw [hl, i1]
      simp [encLs]
    · cases h
theorem rList_enc (sz : Nat) (hs : sz ≤ 1000000) : ∀ (ls : List (List Int)) (l : List Int), (∀ m ∈ ls, m.length = sz) → rList sz ls.length (encLs ls ++ l) 0 = some (ls, l, 0)
  | [], l, _ => rfl
  | m :: r, l, h => by
    have hm := h m (by simp)
    have e : encLs (m :: r) ++ l = encB m ++ (encLs r ++ l) := by simp [encLs]
    rw [List.length_cons, rList, e, rCnt_enc m _ sz (by omega) (by omega)]
    simp only
    rw [if_pos hm, rList_enc sz hs r l (fun x hx => h x (by simp [hx]))]
    rfl
/-- The document's own: so many fields of at most 4096 bytes. -/
def rFld : Nat → List Int → Option (List (List Int) × List Int)
  | 0, l => some ([], l)
  | c + 1, l => if (rCnt l 0 4096).2.2 = 0 then (rFld c (rCnt l 0 4096).2.1).map (fun p => ((rCnt l 0 4096).1 :: p.1, p.2)) else none
theorem rFld_enc : ∀ (ls : List (List Int)) (l : List Int), (∀ m ∈ ls, m.length ≤ 4096) → rFld ls.length (encLs ls ++ l) = some (ls, l)
  | [], l, _ => rfl
  | m :: r, l, h => by
    have hm := h m (by simp)
    have e : encLs (m :: r) ++ l = encB m ++ (encLs r ++ l) := by simp [encLs]
    rw [List.length_cons, rFld, e, rCnt_enc m _ 4096 (by omega) hm]
    simp only
    rw [if_pos trivial, rFld_enc r l (fun x hx => h x (by simp [hx]))]
    rfl
theorem rFld_byt : ∀ (c : Nat) (l : List Int) (hb : Byt l) (fs : List (List Int)) (l2 : List Int), rFld c l = some (fs, l2) → fs.length = c ∧ ∀ m ∈ fs, Byt m ∧ m.length ≤ 4096
  | 0, l, hb, fs, l2, h => by
    rw [rFld] at h
    injection h with h
    injection h with h1 _
    subst h1
    exact ⟨rfl, fun m hm => by simp at hm⟩
  | c + 1, l, hb, fs, l2, h => by
    rw [rFld] at h
    split at h
    · obtain ⟨⟨ls0, l0⟩, hp, hq⟩ := Option.map_eq_some_iff.1 h
      injection hq with h1 h2
      subst h1
      obtain ⟨i1, i2⟩ := rFld_byt c _ (rCnt_byt l 0 4096 hb).2 ls0 l0 hp
      refine ⟨by simp [i1], fun m hm => ?_⟩
      rcases List.mem_cons.1 hm with rfl | hm
      · exact ⟨(rCnt_byt l 0 4096 hb).1, rCnt_short l 0 4096⟩
      · exact i2 m hm
    · cases h

/-- What is to be there of a sidecar's numbers and lists. -/
structure Fld (n b k : Nat) (ls ps : List (List Int)) : Prop where
  may : mayL n b k = true
  cl : (ls.length : Int) = cntL n b
  cp : (ps.length : Int) = grpsN n b k
  al : ∀ m ∈ ls, m.length = 32
  ap : ∀ m ∈ ps, m.length = b
theorem Fld.sound {n b k : Nat} {ls ps : List (List Int)} (h : Fld n b k ls ps) : soundL ⟨n, b, k, rootL ls, ls, ps⟩ = true := by
  unfold soundL allL allS
  simp only [h.may, eqS_self, Bool.true_and, Bool.and_true, Bool.and_eq_true, List.all_eq_true, beq_iff_eq]
  exact ⟨⟨fun m hm => by rw [h.al m hm]; rfl, h.cl⟩, fun m hm => by rw [h.ap m hm], h.cp⟩
theorem rSide_enc {n b k : Nat} {ls ps : List (List Int)} (h : Fld n b k ls ps) : rSide (encS n b k ls ps) = some (⟨n, b, k, rootL ls, ls, ps⟩, [], 0) := by
  have hm := (mayL_iff _ _ _).1 h.may
  have e0 : encS n b k ls ps = lf (n : Int) 4 ++ (lf (b : Int) 4 ++ (lf (k : Int) 4 ++ (encLs ls ++ (encLs ps ++ [])))) := by simp [encS, encH]
  have c1 : (cntL (n : Int) (b : Int)).toNat = ls.length := by rw [← h.cl]; rfl
  have c2 : (grpsN (n : Int) (b : Int) (k : Int)).toNat = ps.length := by rw [← h.cp]; rfl
  unfold rSide
  rw [e0, rNum_lf n _ (by omega)]
  simp only
  rw [rNum_lf b _ (by omega)]
  simp only
  rw [rNum_lf k _ (by omega)]
  simp only
  rw [h.may, if_pos rfl, c1, rList_enc 32 (by omega) ls _ h.al]
  simp only
  rw [c2, Int.toNat_natCast, rList_enc b (by omega) ps _ h.ap]
theorem rSide_inv (x : List Int) (hb : Byt x) (s : Sd) (l : List Int) (e : Int) (h : rSide x = some (s, l, e)) : ∃ n b k ls ps, Fld n b k ls ps ∧ s = ⟨n, b, k, rootL ls, ls, ps⟩ ∧ x = encS n b k ls ps ++ l := by
  obtain ⟨n1, l1, e1, h1⟩ : ∃ n l' e', rNum x 0 = (n, l', e') := ⟨_, _, _, rfl⟩
  obtain ⟨n2, l2, e2, h2⟩ : ∃ n l' e', rNum l1 e1 = (n, l', e') := ⟨_, _, _, rfl⟩
  obtain ⟨n3, l3, e3, h3⟩ : ∃ n l' e', rNum l2 e2 = (n, l', e') := ⟨_, _, _, rfl⟩
  unfold rSide at h
  rw [h1] at h
  simp only at h
  rw [h2] at h
  simp only at h
  rw [h3] at h
  simp only at h
  split at h
  rotate_left
  · cases h
  rename_i hmay
  have hm := (mayL_iff _ _ _).1 hmay
  have z1 : e1 = 0 := by
    apply Classical.byContradiction
    intro he
    rw [rNum_err l1 e1 he] at h2
    injection h2 with h2 _
    omega
  subst z1
  have z2 : e2 = 0 := by
    apply Classical.byContradiction
    intro he
    rw [rNum_err l2 e2 he] at h3
    injection h3 with h3 _
    omega
  subst z2
  have z3 : e3 = 0 := by
    apply Classical.byContradiction
    intro he
    have := rNum_bad l2 n3 l3 e3 h3 he
    omega
  subst z3
  have b1 : Byt l1 := by have := rNum_byt x 0 hb; rw [h1] at this; exact this
  have b2 : Byt l2 := by have := rNum_byt l1 0 b1; rw [h2] at this; exact this
  have b3 : Byt l3 := by have := rNum_byt l2 0 b2; rw [h3] at this; exact this
  obtain ⟨n, rfl, hn, q1⟩ := rNum_inv x hb n1 l1 h1
  obtain ⟨b, rfl, hbb, q2⟩ := rNum_inv l1 b1 n2 l2 h2
  obtain ⟨k, rfl, hk, q3⟩ := rNum_inv l2 b2 n3 l3 h3
  split at h
  · cases h
  · rename_i ls l4 e4 hr4
    obtain ⟨q4, rfl⟩ := rList_inv 32 (by omega) _ l3 b3 ls l4 e4 hr4
    have b4 : Byt l4 := fun y hy => b3 y (by rw [q4]; exact List.mem_append_right _ hy)
    obtain ⟨i1, i2⟩ := rList_len 32 _ l3 0 ls l4 0 hr4
    split at h
    · cases h
    · rename_i ps l5 e5 hr5
      rw [Int.toNat_natCast] at hr5
      obtain ⟨q5, rfl⟩ := rList_inv b (by omega) _ l4 b4 ps l5 e5 hr5
      obtain ⟨j1, j2⟩ := rList_len b _ l4 0 ps l5 0 hr5
      injection h with h
      injection h with g1 g2
      injection g2 with g2 _
      subst g1 g2
      have hc := cntL_nonneg (n : Int) (b : Int)
      have hg := grpsN_nonneg (n : Int) (b : Int) (k : Int)
      refine ⟨n, b, k, ls, ps, ⟨hmay, by omega, by omega, i2, j2⟩, rfl, ?_⟩
      rw [q1, q2, q3, q4, q5]
      simp [encS, encH]
theorem uns_cut {b x : List Int} (h : unsL b = some x) : ∃ t, b = x ++ t ∧ t.length = 32 ∧ eqS (shaL x) t = true := by
  unfold unsL at h
  split at h
  · cases h
  · rename_i h0
    split at h
    · rename_i h1
      injection h with h
      subst h
      exact ⟨b.drop (b.length - 32), (List.take_append_drop _ _).symm, by rw [List.length_drop]; omega, h1⟩
    · cases h
/-- The document's own reading. -/
def rdecL (b : List Int) : Option Sd :=
  match unsL b with
  | none => none
  | some x =>
    if x.length < 12 then none
    else if mayL (gNum x) (gNum (x.drop 4)) (gNum (x.drop 8)) then
      match rFld ((cntL (gNum x) (gNum (x.drop 4))).toNat + (grpsN (gNum x) (gNum (x.drop 4)) (gNum (x.drop 8))).toNat) (x.drop 12) with
      | none => none
      | some (fs, _) =>
        if soundL ⟨gNum x, gNum (x.drop 4), gNum (x.drop 8), rootL (fs.take (cntL (gNum x) (gNum (x.drop 4))).toNat), fs.take (cntL (gNum x) (gNum (x.drop 4))).toNat, fs.drop (cntL (gNum x) (gNum (x.drop 4))).toNat⟩ &&
          eqS (sealL (encS (gNum x).toNat (gNum (x.drop 4)).toNat (gNum (x.drop 8)).toNat (fs.take (cntL (gNum x) (gNum (x.drop 4))).toNat) (fs.drop (cntL (gNum x) (gNum (x.drop 4))).toNat))) b
        then some ⟨gNum x, gNum (x.drop 4), gNum (x.drop 8), rootL (fs.take (cntL (gNum x) (gNum (x.drop 4))).toNat), fs.take (cntL (gNum x) (gNum (x.drop 4))).toNat, fs.drop (cntL (gNum x) (gNum (x.drop 4))).toNat⟩ else none
    else none
theorem gNum_lf (n : Nat) (l : List Int) (h : n ≤ 2147483647) : gNum (lf (n : Int) 4 ++ l) = n := by rw [gNum, rNum_lf n l h, if_pos rfl]
theorem dec_to (b : List Int) (hb : Byt b) (s : Sd) (h : decL b = some s) : rdecL b = some s := by
  unfold decL at h
  unfold rdecL
  split at h
  · cases h
  · rename_i x hx
    rw [hx]
    simp only
    obtain ⟨t, hbt, _, ht⟩ := uns_cut hx
    have bx := uns_byt hb hx
    split at h
    · cases h
    · rename_i s' l e hr
      split at h
      rotate_left
      · cases h
      rename_i hl
      have hl : l = [] := List.length_eq_zero_iff.1 hl
      subst hl
      injection h with h
      subst h
      obtain ⟨n, b0, k, ls, ps, F, rfl, hxe⟩ := rSide_inv x bx s' [] e hr
      rw [List.append_nil] at hxe
      have hm := (mayL_iff _ _ _).1 F.may
      have d0 : x = lf (n : Int) 4 ++ (lf (b0 : Int) 4 ++ (lf (k : Int) 4 ++ (encLs (ls ++ ps) ++ []))) := by rw [hxe]; simp [encS, encH, encLs_app]
      have d4 : x.drop 4 = lf (b0 : Int) 4 ++ (lf (k : Int) 4 ++ (encLs (ls ++ ps) ++ [])) := by rw [d0, List.drop_append_of_le_length (by rw [lf_length]; omega), List.drop_of_length_le (by rw [lf_length]; omega)]; rfl
      have d8 : x.drop 8 = lf (k : Int) 4 ++ (encLs (ls ++ ps) ++ []) := by rw [show 8 = 4 + 4 from rfl, ← List.drop_drop, d4, List.drop_append_of_le_length (by rw [lf_length]; omega), List.drop_of_length_le (by rw [lf_length]; omega)]; rfl
      have d12 : x.drop 12 = encLs (ls ++ ps) ++ [] := by rw [show 12 = 8 + 4 from rfl, ← List.drop_drop, d8, List.drop_append_of_le_length (by rw [lf_length]; omega), List.drop_of_length_le (by rw [lf_length]; omega)]; rfl
      have g1 : gNum x = n := by rw [d0]; exact gNum_lf n _ (by omega)
      have g2 : gNum (x.drop 4) = b0 := by rw [d4]; exact gNum_lf b0 _ (by omega)
      have g3 : gNum (x.drop 8) = k := by rw [d8]; exact gNum_lf k _ (by omega)
      have c1 : (cntL (n : Int) (b0 : Int)).toNat = ls.length := by rw [← F.cl]; rfl
      have c2 : (grpsN (n : Int) (b0 : Int) (k : Int)).toNat = ps.length := by rw [← F.cp]; rfl
      rw [if_neg (by rw [d0]; simp [lf_length]; omega), g1, g2, g3, F.may, if_pos rfl, c1, c2, d12, ← List.length_append, rFld_enc (ls ++ ps) [] (fun m hm' => by
        rcases List.mem_append.1 hm' with h' | h'
        · rw [F.al m h']; omega
        · rw [F.ap m h']; omega)]
      simp only [List.take_left', List.drop_left', Int.toNat_natCast]
      have e1 : eqS (sealL (encS n b0 k ls ps)) b = true := by rw [← hxe, hbt, sealL, eqS_pre]; exact ht
      rw [F.sound, e1]
      rfl
theorem dec_of (b : List Int) (hb : Byt b) (s : Sd) (h : rdecL b = some s) : decL b = some s := by
  unfold rdecL at h
  unfold decL
  split at h
  · cases h
  · rename_i x hx
    rw [hx]
    simp only
    obtain ⟨t, hbt, htl, ht⟩ := uns_cut hx
    have bx := uns_byt hb hx
    split at h
    · cases h
    split at h
    rotate_left
    · cases h
    rename_i h12 hmay
    have hm := (mayL_iff _ _ _).1 hmay
    obtain ⟨n, hn⟩ := Int.eq_ofNat_of_zero_le hm.1
    obtain ⟨b0, hb0⟩ := Int.eq_ofNat_of_zero_le (show 0 ≤ gNum (x.drop 4) by omega)
    obtain ⟨k, hk⟩ := Int.eq_ofNat_of_zero_le (show 0 ≤ gNum (x.drop 8) by omega)
    rw [hn, hb0, hk] at h hmay
    split at h
    · cases h
    · rename_i fs l2 hf
      obtain ⟨i1, i2⟩ := rFld_byt _ _ (bx.drop 12) fs l2 hf
      generalize (cntL (n : Int) (b0 : Int)).toNat = C1 at *
      obtain ⟨ls, hls⟩ : ∃ l, l = fs.take C1 := ⟨_, rfl⟩
      obtain ⟨ps, hps⟩ : ∃ l, l = fs.drop C1 := ⟨_, rfl⟩
      rw [← hls, ← hps] at h
      simp only [Int.toNat_natCast] at h
      split at h
      rotate_left
      · cases h
      rename_i hse
      injection h with h
      subst h
      simp only [Bool.and_eq_true] at hse
      obtain ⟨so, he⟩ := hse
      have so' := so
      unfold soundL at so'
      simp only [Bool.and_eq_true] at so'
      obtain ⟨⟨⟨_, hal⟩, hap⟩, _⟩ := so'
      have F : Fld n b0 k ls ps := ⟨hmay, (allL_len hal).1, (allL_len hap).1, fun m hm' => by have := (allL_len hal).2 m hm'; omega, fun m hm' => by have := (allL_len hap).2 m hm'; omega⟩
      have bE : Byt (encS n b0 k ls ps) := by
        have bl : ∀ (q : List (List Int)), (∀ m ∈ q, Byt m) → Byt (encLs q) := fun q hq => by
          intro y hy
          unfold encLs at hy
          obtain ⟨u, hu, hyu⟩ := List.mem_flatten.1 hy
          obtain ⟨m, hm', rfl⟩ := List.mem_map.1 hu
          exact byt_app (lf_byt _ 4) (hq m hm') y hyu
        exact byt_app (byt_app (byt_app (byt_app (lf_byt _ 4) (lf_byt _ 4)) (lf_byt _ 4)) (bl ls fun m hm' => (i2 m (by rw [hls] at hm'; exact List.mem_of_mem_take hm')).1)) (bl ps fun m hm' => (i2 m (by rw [hps] at hm'; exact List.mem_of_mem_drop hm')).1)
      have hEx : encS n b0 k ls ps = x := by
        have h1 := (eqS_iff _ _).1 he
        rw [sealL, hbt, List.map_append, List.map_append] at h1
        have h2 : (encS n b0 k ls ps).length = x.length := by
          have := congrArg List.length h1
          simp only [List.length_append, List.length_map, shaL_length, htl] at this
          omega
        exact byt_inj bE bx (List.append_inj h1 (by simp [h2])).1
      rw [← hEx, rSide_enc F]
      simp
theorem dec_eq (b : List Int) (hb : Byt b) : decL b = rdecL b := by
  cases h : decL b with
  | some s => exact (dec_to b hb s h).symm
  | none =>
    cases h2 : rdecL b with
    | none => rfl
    | some s => rw [dec_of b hb s h2] at h; cases h
end Go.Proofs.YtfhgoedonjcekaaDoor
