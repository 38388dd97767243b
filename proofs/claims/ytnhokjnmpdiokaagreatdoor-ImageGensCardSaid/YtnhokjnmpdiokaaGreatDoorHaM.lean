/- Pages: how one is written, and read; what was written is read, and what is read was written. No conditions: definitions and lemmas. The contracts of mayBe, Same, Encode (the code's). -/
import Derived.Test.YtnhokjnmpdiokaaGreatDoorGc
import Derived.Test.YtnhokjnmpdiokaaGreatDoorCdM
import Derived.Laws.ResultCell
namespace Go.Proofs.YtnhokjnmpdiokaaGreatDoor
open Go.RowKit Go.Sha
set_option linter.unusedSimpArgs false
set_option linter.unusedVariables false

theorem lf_byt (n : Int) (k : Nat) : Byt (lf n k) := by
  induction k with
  | zero => intro x hx; simp [lf] at hx
  | succ k ih =>
    intro x hx
    rw [lf] at hx
    rcases List.mem_append.1 hx with hx | hx
    · exact ih x hx
    · simp at hx; subst hx; omega
theorem leN_lf_mod (n : Nat) (k : Nat) : leN (lf (n : Int) k) = ((n % 256 ^ k : Nat) : Int) := by
  induction k with
  | zero => simp [lf, leN, Nat.mod_one]
  | succ k ih =>
    rw [lf, leN_snoc, ih, lf_length, pow_256, Nat.pow_succ, Nat.mod_mul]
    rw [Int.natCast_add, Int.natCast_mul, Int.natCast_pow, Int.natCast_emod (n / 256 ^ k), Int.natCast_ediv, Int.natCast_pow, Int.mul_comm]
    rfl
theorem leN_lf (n : Nat) (k : Nat) (h : n < 256 ^ k) : leN (lf (n : Int) k) = (n : Int) := by rw [leN_lf_mod, Nat.mod_eq_of_lt h]
theorem byt_app {a b : List Int} (ha : Byt a) (hb : Byt b) : Byt (a ++ b) := fun x hx => (List.mem_append.1 hx).elim (ha x) (hb x)
/-- A number that was written is read. -/
theorem rNum_lf (n : Nat) (l : List Int) (h : n ≤ 2147483647) : rNum (lf (n : Int) 4 ++ l) 0 = ((n : Int), l, 0) := by
  have h4 : (lf (n : Int) 4).length = 4 := lf_length _ _
  have ht : (lf (n : Int) 4 ++ l).take 4 = lf (n : Int) 4 := by rw [List.take_append_of_le_length (by omega), List.take_of_length_le (by omega)]
  have hd : (lf (n : Int) 4 ++ l).drop 4 = l := by rw [List.drop_append_of_le_length (by omega), List.drop_of_length_le (by omega)]; rfl
  have hN : leN (lf (n : Int) 4) = (n : Int) := leN_lf n 4 (by have : (256 : Nat) ^ 4 = 4294967296 := rfl; omega)
  rw [rNum, if_neg (by simp), if_neg (by rw [List.length_append]; omega), ht, hN, if_neg (by omega), hd]
/-- Bytes that were written are read. -/
theorem rCnt_enc (m l : List Int) (most : Nat) (h : m.length ≤ 1000000) (hm : m.length ≤ most) : rCnt (encB m ++ l) 0 most = (m, l, 0) := by
  have e : rNum (encB m ++ l) 0 = ((m.length : Int), m ++ l, 0) := by unfold encB; rw [List.append_assoc]; exact rNum_lf m.length (m ++ l) (by omega)
  unfold rCnt
  rw [e]
  simp only [Int.toNat_natCast]
  rw [if_neg (by simp), if_neg (by rw [List.length_append]; omega), if_neg (by omega)]
  rw [List.take_append_of_le_length (Nat.le_refl _), List.take_length, List.drop_append_of_le_length (Nat.le_refl _), List.drop_length]; rfl
theorem eqS_iff (m n : List Int) : eqS m n = true ↔ m.map (fun n => UInt8.ofNat n.toNat) = n.map (fun n => UInt8.ofNat n.toNat) := by
  unfold eqS
  rw [beq_iff_eq, ByteArray.toList_eq, ByteArray.toList_eq, strOfNums_data, strOfNums_data]
theorem byt_inj {a b : List Int} (ha : Byt a) (hb : Byt b) (h : a.map (fun n => UInt8.ofNat n.toNat) = b.map (fun n => UInt8.ofNat n.toNat)) : a = b := by
  induction a generalizing b with
  | nil => cases b with
    | nil => rfl
    | cons y r => simp at h
  | cons x r ih => cases b with
    | nil => simp at h
    | cons y q =>
      simp only [List.map_cons, List.cons.injEq] at h
      have hx := ha x (by simp)
      have hy := hb y (by simp)
      have e : x = y := by
        have := congrArg UInt8.toNat h.1
        simp only [UInt8.toNat_ofNat'] at this
        rw [Nat.mod_eq_of_lt (by omega), Nat.mod_eq_of_lt (by omega)] at this
        omega
      rw [e, ih (fun z hz => ha z (by simp [hz])) (fun z hz => hb z (by simp [hz])) h.2]
/-- A number that was read was written. -/
theorem rNum_inv (l : List Int) (hb : Byt l) (n : Int) (l2 : List Int) (h : rNum l 0 = (n, l2, 0)) : ∃ k : Nat, n = k ∧ k ≤ 2147483647 ∧ l = lf (k : Int) 4 ++ l2 := by
  unfold rNum at h
  rw [if_neg (by simp)] at h
  split at h
  · simp at h
  · rename_i h4
    split at h
    · simp at h
    · rename_i hbig
      injection h with h1 h2
      injection h2 with h2 _
      have hr := leN_range (l.take 4) (hb.take 4)
      obtain ⟨k, hk⟩ := Int.eq_ofNat_of_zero_le hr.1
      refine ⟨k, by rw [← h1, hk], by omega, ?_⟩
      have e4 := leN4 l (by omega)
      have g0 := hb.get 0 (by omega)
      have g1 := hb.get 1 (by omega)
      have g2 := hb.get 2 (by omega)
      have g3 := hb.get 3 (by omega)
      rw [hk] at e4 hbig
      have e : lf (k : Int) 4 = l.take 4 := by
        rw [lf4 k (by omega), take4 l (by omega), e4]
        congr 1
        · omega
        · congr 1
          · omega
          · congr 1
            · omega
            · congr 1
              omega
      rw [e, ← h2, List.take_append_drop]
theorem rNum_bad (l : List Int) (n : Int) (l2 : List Int) (e : Int) (h : rNum l 0 = (n, l2, e)) (he : e ≠ 0) : n = 0 := by
  unfold rNum at h
  rw [if_neg (by simp)] at h
  split at h
  · injection h with h _; exact h.symm
  · split at h
    · injection h with h _; exact h.symm
    · injection h with _ h; injection h with _ h; exact absurd h.symm he
/-- Bytes that were read were written. -/
theorem rCnt_inv (l : List Int) (hb : Byt l) (most : Nat) (m l2 : List Int) (h : rCnt l 0 most = (m, l2, 0)) : l = encB m ++ l2 ∧ m.length ≤ most := by
  obtain ⟨n, l1, e1, h1⟩ : ∃ n l' e', rNum l 0 = (n, l', e') := ⟨_, _, _, rfl⟩
  unfold rCnt at h
  rw [h1] at h
  simp only at h
  split at h
  · rename_i h0
    injection h with _ h; injection h with _ h
    exact absurd h h0
  · rename_i h0
    have h0 : e1 = 0 := Classical.not_not.1 h0
    subst h0
    obtain ⟨k, rfl, hk, hl⟩ := rNum_inv l hb n l1 h1
    rw [Int.toNat_natCast] at h
    split at h
    · simp at h
    · split at h
      · simp at h
      · injection h with q1 q2
        injection q2 with q2 _
        have hml : m.length = k := by rw [← q1, List.length_take]; omega
        refine ⟨?_, by omega⟩
        rw [hl, encB, hml, ← q1, ← q2, List.append_assoc, List.take_append_drop]
theorem uns_cut {b x : List Int} (h : unsL b = some x) : ∃ t, b = x ++ t ∧ t.length = 32 ∧ eqS (shaL x) t = true := by
  unfold unsL at h
  split at h
  · cases h
  · rename_i h0
    split at h
    · rename_i h1
      injection h with h
      subst h
      exact ⟨b.drop (b.length - 32), (List.take_append_drop _ _).symm, by rw [List.length_drop]; omega, h1⟩
    · cases h
theorem uns_byt {b m : List Int} (hb : Byt b) (h : unsL b = some m) : Byt m := by
  unfold unsL at h
  split at h
  · cases h
  · split at h
    · injection h with h
      subst h
      exact hb.take _
    · cases h
theorem uns_len {b m : List Int} (h : unsL b = some m) : m.length ≤ b.length := by
  unfold unsL at h
  split at h
  · cases h
  · split at h
    · injection h with h
      subst h
      rw [List.length_take]
      omega
    · cases h
theorem encB_len (m : List Int) : (encB m).length = 4 + m.length := by rw [encB, List.length_append, lf_length]
theorem fits_some (l : List Int) (n : Nat) (h : l.length + n < 4611686018427387904) : Fits (some l) n := fun x hx => by injection hx with hx; subst hx; exact h
theorem wNum_some (l : List Int) (n : Nat) (h : n ≤ 2147483647) : wNum (some l) (n : Int) = some (l ++ lf (n : Int) 4) := by rw [wNum, if_neg (by omega)]; rfl
theorem wst_zero (w : World) (t : Array Value) (ht : t = (zeroW false).toArray) : WSt (w.alloc (.cells t 98)) w.heap.size (some []) := by
  subst ht
  exact ⟨[], [], .pointer none, rfl, by simp, ⟨List.length_replicate .., At.new w _ 98⟩, rfl⟩
theorem zcW0 : Tryz.zeroCells98 = (zeroW false).toArray := by kernel_rfl
theorem Only.setRow (g : Nat) (w : World) (c : Array Value) : Only g w (w.setRow g c) := ⟨rfl, rfl, rfl, by rw [size_setRow]; exact Nat.le_refl _, fun k _ hk => heap_setRow _ _ _ _ hk⟩
theorem ext_only' {w w0 w1 : World} {b : Nat} (he : Ext w w0) (ho : Only b w0 w1) (hb : w.heap.size ≤ b) : Ext w w1 := ho.below he hb he.size
theorem src_nil (w : World) (b : Nat) : Src w (.slice none 0 0) [] b := ⟨none, 0, b + 1, 0, rfl, by simp, fun h => by simp at h, by omega, fun j hj => by simp at hj, fun _ => rfl⟩
theorem results_row {P : Program} {fn : Func} {p : Tmp} {ty : TypeId} (h : fn.results = #[.cell p ty]) (tmps : Array Value) (w : World) (g : Nat) (t : TypeId) (cs : Array Value) {d : TypeDesc} (hp : tmps.getD p undef = .pointer (some ⟨g, 0, none⟩)) (hg : At w g cs t)
    (hu : P.underlying ty = some d) (hd : (match d with | .struct _ | .array _ _ => true | _ => false) = true) (hi : (P.info? ty).map (·.size) = some cs.size) :
    (results fn tmps).run P w = .ok (.agg cs) w := results_cell_row h tmps w g t cs (0, 0) d hp hg hu hd hi
theorem results_row_tmp {P : Program} {fn : Func} {p u : Tmp} {ty : TypeId} (h : fn.results = #[.cell p ty, .tmp u]) (tmps : Array Value) (w : World) (g : Nat) (t : TypeId) (cs : Array Value) {d : TypeDesc} (hp : tmps.getD p undef = .pointer (some ⟨g, 0, none⟩)) (hg : At w g cs t)
    (hu : P.underlying ty = some d) (hd : (match d with | .struct _ | .array _ _ => true | _ => false) = true) (hi : (P.info? ty).map (·.size) = some cs.size) :
    (results fn tmps).run P w = .ok (.tuple #[.agg cs, tmps.getD u undef]) w := by
  rw [results_cell_tmp h, hp]
  simp only [asAddr, Sem.run_pure, Result.andThen_ok, run_loadVar_row w g t ty cs (0, 0) d hg hu hd hi]
/-- What lies apart from all blocks below n, and from what is not there yet. -/
def Far {α : Type} (R : World → Value → α → Nat → Prop) (n : Nat) (w : World) (v : Value) (a : α) : Prop := ∀ bh, bh < n ∨ w.heap.size ≤ bh → R w v a bh
theorem Far.ext {α : Type} {R : World → Value → α → Nat → Prop} (k : Kept R) {n : Nat} {w w' : World} {v : Value} {a : α} (h : Far R n w v a) (he : Ext w w') : Far R n w' v a := fun bh hb =>
  k.ext (h bh (hb.imp_right fun hb => Nat.le_trans he.size hb)) he
theorem Far.only {α : Type} {R : World → Value → α → Nat → Prop} (k : Kept R) {n g : Nat} {w w' : World} {v : Value} {a : α} (h : Far R n w v a) (ho : Only g w w') (hg : g < n) : Far R n w' v a := fun bh hb =>
  k.keep (h g (Or.inl hg)) (h bh (hb.imp_right fun hb => Nat.le_trans ho.size hb)) ho
theorem Far.less {α : Type} {R : World → Value → α → Nat → Prop} {n n' : Nat} {w : World} {v : Value} {a : α} (h : Far R n w v a) (hn : n' ≤ n) : Far R n' w v a := fun bh hb => h bh (hb.imp_left fun h => Nat.lt_of_lt_of_le h hn)
theorem Far.now {α : Type} {R : World → Value → α → Nat → Prop} {n : Nat} {w : World} {v : Value} {a : α} (h : Far R n w v a) : R w v a w.heap.size := h _ (Or.inr (Nat.le_refl _))
theorem eqS_self' (m : List Int) : eqS m m = true := by simp [eqS]
theorem eqS_byt {m n : List Int} (hm : Byt m) (hn : Byt n) : eqS m n = true ↔ m = n := by
  rw [eqS_iff]
  exact ⟨byt_inj hm hn, fun h => by rw [h]⟩
theorem wbytes_byt (x : Int) : Byt (wbytes x) := by
  intro y hy
  unfold wbytes at hy
  simp only [List.mem_cons, List.not_mem_nil, or_false] at hy
  rcases hy with h | h | h | h <;> subst h <;> omega
theorem sha_byt (m : List Int) : Byt (shaL m) := by
  intro x hx
  unfold shaL wordsB at hx
  obtain ⟨l, hl, hx⟩ := List.mem_flatten.1 hx
  obtain ⟨y, _, rfl⟩ := List.mem_map.1 hl
  exact wbytes_byt y x hx
theorem byt_nil : Byt [] := fun x hx => by simp at hx
/-- A page: its number, and its bytes. -/
abbrev Pg := Int × List Int
/-- A page, written. -/
def encP (g : Nat) (m : List Int) : List Int := lf (g : Int) 4 ++ encB m
theorem encP_len (g : Nat) (m : List Int) : (encP g m).length = 8 + m.length := by rw [encP, List.length_append, lf_length, encB_len]; omega
theorem encP_byt (g : Nat) {m : List Int} (hm : Byt m) : Byt (encP g m) := byt_app (lf_byt _ _) (byt_app (lf_byt _ _) hm)
/-- Its limits. -/
def mayP (p : Pg) : Bool := decide (1 ≤ p.1) && decide (p.1 ≤ 2147483647) && decide (p.2.length ≤ 60000)
/-- What is read of the fields. -/
def fieldsP (x : List Int) : Option Pg :=
  if (rCnt (rNum x 0).2.1 (rNum x 0).2.2 60000).2.2 = 0 ∧ (rCnt (rNum x 0).2.1 (rNum x 0).2.2 60000).2.1.length = 0 ∧ 1 ≤ (rNum x 0).1 then some ((rNum x 0).1, (rCnt (rNum x 0).2.1 (rNum x 0).2.2 60000).1) else none
/-- A page, read. -/
def decP (b : List Int) : Option Pg :=
  match unsL b with
  | none => none
  | some x => fieldsP x
theorem fields_enc (g : Nat) (m : List Int) (h1 : 1 ≤ g) (h2 : g ≤ 2147483647) (hm : m.length ≤ 60000) : fieldsP (encP g m) = some ((g : Int), m) := by
  have e : rNum (encP g m) 0 = ((g : Int), encB m, 0) := by unfold encP; exact rNum_lf g _ h2
  have e2 : rCnt (encB m) 0 60000 = (m, [], 0) := by have := rCnt_enc m [] 60000 (by omega) hm; rwa [List.append_nil] at this
  unfold fieldsP
  rw [e]
  simp only
  rw [e2]
  rw [if_pos ⟨rfl, rfl, by omega⟩]
theorem fields_inv (x : List Int) (hb : Byt x) (p : Pg) (h : fieldsP x = some p) : ∃ g : Nat, p.1 = (g : Int) ∧ 1 ≤ g ∧ g ≤ 2147483647 ∧ p.2.length ≤ 60000 ∧ x = encP g p.2 := by
  unfold fieldsP at h
  split at h
  rotate_left
  · cases h
  rename_i hc
  obtain ⟨h1, h2, h3⟩ := hc
  injection h with h
  subst h
  obtain ⟨n, l1, e1, q1⟩ : ∃ n l' e', rNum x 0 = (n, l', e') := ⟨_, _, _, rfl⟩
  rw [q1] at h1 h2 h3 ⊢
  simp only at h1 h2 h3 ⊢
  have he : e1 = 0 := by
    refine Classical.byContradiction fun hne => ?_
    have := rNum_bad x n l1 e1 q1 hne
    omega
  subst he
  obtain ⟨k, rfl, hk, hx⟩ := rNum_inv x hb n l1 q1
  have hb1 : Byt l1 := by have := rNum_byt x 0 hb; rw [q1] at this; exact this
  obtain ⟨m, l2, e2, q2⟩ : ∃ m l' e', rCnt l1 0 60000 = (m, l', e') := ⟨_, _, _, rfl⟩
  rw [q2] at h1 h2 ⊢
  simp only at h1 h2 ⊢
  subst h1
  obtain ⟨hl, hm⟩ := rCnt_inv l1 hb1 60000 m l2 q2
  have : l2 = [] := List.length_eq_zero_iff.1 h2
  subst this
  refine ⟨k, rfl, by omega, hk, hm, ?_⟩
  rw [hx, hl, List.append_nil]
  rfl
/-- What is read was written. -/
theorem dec_inv {b : List Int} (hb : Byt b) {p : Pg} (h : decP b = some p) : ∃ g : Nat, p.1 = (g : Int) ∧ 1 ≤ g ∧ g ≤ 2147483647 ∧ p.2.length ≤ 60000 ∧ Byt p.2 ∧ b = sealL (encP g p.2) := by
  unfold decP at h
  split at h
  · cases h
  · rename_i x hx
    have bx := uns_byt hb hx
    obtain ⟨g, h1, h2, h3, h4, h5⟩ := fields_inv x bx p h
    obtain ⟨t, q1, q2, q3⟩ := uns_cut hx
    have bt : Byt t := fun y hy => hb y (by rw [q1]; simp [hy])
    have := (eqS_byt (sha_byt x) bt).1 q3
    refine ⟨g, h1, h2, h3, h4, ?_, ?_⟩
    · intro y hy
      refine bx y ?_
      rw [h5]
      unfold encP encB
      simp [hy]
    · rw [q1, ← this, h5]; rfl
theorem uns_seal (x : List Int) : unsL (sealL x) = some x := by
  unfold unsL
  have e1 : (sealL x).length - 32 = x.length := by rw [sealL_length]; omega
  have e2 : (sealL x).take x.length = x := by rw [sealL, List.take_append_of_le_length (Nat.le_refl _), List.take_length]
  have e3 : (sealL x).drop x.length = shaL x := by rw [sealL, List.drop_append_of_le_length (Nat.le_refl _), List.drop_length]; rfl
  rw [if_neg (by rw [sealL_length]; omega), e1, e2, e3, eqS_self', if_pos rfl]
/-- What was written is read. -/
theorem dec_enc (g : Nat) (m : List Int) (h1 : 1 ≤ g) (h2 : g ≤ 2147483647) (hm : m.length ≤ 60000) : decP (sealL (encP g m)) = some ((g : Int), m) := by
  unfold decP
  rw [uns_seal]
  exact fields_enc g m h1 h2 hm
theorem seal_byt {x : List Int} (h : Byt x) : Byt (sealL x) := byt_app h (sha_byt x)
/-- Are two alike? -/
def sameP (p q : Pg) : Bool := (p.1 == q.1) && eqS p.2 q.2
theorem sameP_self (p : Pg) : sameP p p = true := by simp [sameP, eqS_self']
theorem sameP_iff {p q : Pg} (hp : Byt p.2) (hq : Byt q.2) : sameP p q = true ↔ p = q := by
  unfold sameP
  rw [Bool.and_eq_true, eqS_byt hp hq, beq_iff_eq]
  exact ⟨fun h => Prod.ext h.1 h.2, fun h => by rw [h]; exact ⟨rfl, rfl⟩⟩
end Go.Proofs.YtnhokjnmpdiokaaGreatDoor

namespace Go.Proofs.YtnhokjnmpdiokaaGreatDoor
open Go.RowKit Go.Sha
set_option linter.unusedSimpArgs false
set_option linter.unusedVariables false

set_option maxHeartbeats 1000000 in
theorem mayP_any (g : Int) (ad : Option Addr) (n cap : Nat) (w : World) :
    Calls Tryz.prog 76 #[.agg #[.int .i64 g, .slice ad n cap]] w fun e w' => e = .returned (.bool (decide (1 ≤ g) && decide (g ≤ 2147483647) && decide (n ≤ 60000))) ∧ Ext w w' := by
  obtain ⟨B1, h1⟩ : ∃ B, decide (1 ≤ g) = B := ⟨_, rfl⟩
  obtain ⟨B2, h2⟩ : ∃ B, decide (g ≤ 2147483647) = B := ⟨_, rfl⟩
  obtain ⟨B3, h3⟩ : ∃ B, decide (n ≤ 60000) = B := ⟨_, rfl⟩
  have h4 : decide ((n : Int) ≤ 60000) = B3 := by rw [← h3, decide_eq_decide]; omega
  rw [h1, h2, h3]
  cases B1
  · clear h2 h3 h4
    go_enter Tryz.func76, Tryz.ntmps76
    go_wp2
    go_ret
    exact ⟨rfl, Ext.alloc w _⟩
  cases B2
  · clear h3 h4
    go_enter Tryz.func76, Tryz.ntmps76
    go_wp2
    go_ret
    exact ⟨rfl, Ext.alloc w _⟩
  cases B3
  · go_enter Tryz.func76, Tryz.ntmps76
    go_wp2
    go_ret
    exact ⟨rfl, Ext.alloc w _⟩
  · go_enter Tryz.func76, Tryz.ntmps76
    go_wp2
    go_ret
    exact ⟨rfl, Ext.alloc w _⟩

set_option maxHeartbeats 1000000 in
theorem sameP_any (g k : Int) (m l : List Int) (v u : Value) (w : World) (h : Src w v m w.heap.size) (h' : Src w u l w.heap.size) :
    Calls Tryz.prog 114 #[.agg #[.int .i64 g, v], .agg #[.int .i64 k, u]] w fun e w' => e = .returned (.bool (sameP (g, m) (k, l))) ∧ Ext w w' := by
  obtain ⟨ad, cap, ev⟩ := h.len
  subst ev
  obtain ⟨ad', cap', ev⟩ := h'.len
  subst ev
  unfold sameP
  simp only
  obtain ⟨n, hn⟩ : ∃ n, n = m.length := ⟨_, rfl⟩
  obtain ⟨n', hn'⟩ : ∃ n, n = l.length := ⟨_, rfl⟩
  rw [← hn] at h ⊢
  rw [← hn'] at h' ⊢
  clear hn hn'
  have e0 : Ext w ((w.alloc (.cells #[.int .i64 g, .slice ad n cap] 108)).alloc (.cells #[.int .i64 k, .slice ad' n' cap'] 108)) := (Ext.alloc w _).trans (Ext.alloc _ _)
  have DE := beq_any _ _ m l _ (h.now e0) (h'.now e0)
  obtain ⟨B1, d1⟩ : ∃ B, (g == k) = B := ⟨_, rfl⟩
  obtain ⟨B2, d2⟩ : ∃ B, eqS m l = B := ⟨_, rfl⟩
  rw [d1, d2]
  rw [d2] at DE
  clear h h' d2
  cases B1
  · clear DE
    go_enter Tryz.func114, Tryz.ntmps114
    go_wp2
    go_ret
    exact ⟨rfl, e0⟩
  · have a1 : At ((w.alloc (.cells #[.int .i64 g, .slice ad n cap] 108)).alloc (.cells #[.int .i64 k, .slice ad' n' cap'] 108)) w.heap.size #[.int .i64 g, .slice ad n cap] 108 := (At.new w _ _).alloc _
    have a2 := At.new1 w (.cells #[.int .i64 g, .slice ad n cap] 108) #[.int .i64 k, .slice ad' n' cap'] 108
    have f1 := a1.cell 1
    have g1 := a2.cell 1
    go_enter Tryz.func114, Tryz.ntmps114
    go_wp2_with fail
    refine DE.mono ?_
    rintro e w' ⟨rfl, rfl⟩
    clear DE
    cases B2
    · go_wp2
      go_ret
      exact ⟨rfl, e0⟩
    · go_wp2
      go_ret
      exact ⟨rfl, e0⟩

end Go.Proofs.YtnhokjnmpdiokaaGreatDoor
