/- Pages: how one is written, and read; what was written is read, and what is read was written. No conditions: definitions and lemmas. The contracts of mayBe, Same, Encode (the code's). The contract of Decode (the code's). The contract of EncodePage (the document's). Nothing of its own: what Hf imports. Pages in memory, one behind the other; the contract of read (the code's). -/
import Derived.Test.YtnhokjnmpdiokaaGreatDoorGc
import Derived.Test.YtnhokjnmpdiokaaGreatDoorCdM
import Derived.Laws.ResultCell
namespace Go.Proofs.YtnhokjnmpdiokaaGreatDoor
open Go.RowKit Go.Sha
set_option linter.unusedSimpArgs false
set_option linter.unusedVariables false

theorem lf_byt (n : Int) (k : Nat) : Byt (lf n k) := by
  induction k with
  | zero => intro x hx; simp [lf] at hx
  | succ k ih =>
    intro x hx
    rw [lf] at hx
    rcases List.mem_append.1 hx with hx | hx
    · exact ih x hx
    · simp at hx; subst hx; omega
theorem leN_lf_mod (n : Nat) (k : Nat) : leN (lf (n : Int) k) = ((n % 256 ^ k : Nat) : Int) := by
  induction k with
  | zero => simp [lf, leN, Nat.mod_one]
  | succ k ih =>
    rw [lf, leN_snoc, ih, lf_length, pow_256, Nat.pow_succ, Nat.mod_mul]
    rw [Int.natCast_add, Int.natCast_mul, Int.natCast_pow, Int.natCast_emod (n / 256 ^ k), Int.natCast_ediv, Int.natCast_pow, Int.mul_comm]
    rfl
theorem leN_lf (n : Nat) (k : Nat) (h : n < 256 ^ k) : leN (lf (n : Int) k) = (n : Int) := by rw [leN_lf_mod, Nat.mod_eq_of_lt h]
theorem byt_app {a b : List Int} (ha : Byt a) (hb : Byt b) : Byt (a ++ b) := fun x hx => (List.mem_append.1 hx).elim (ha x) (hb x)
theorem rNum_lf (n : Nat) (l : List Int) (h : n ≤ 2147483647) : rNum (lf (n : Int) 4 ++ l) 0 = ((n : Int), l, 0) := by
  have h4 : (lf (n : Int) 4).length = 4 := lf_length _ _
  have ht : (lf (n : Int) 4 ++ l).take 4 = lf (n : Int) 4 := by rw [List.take_append_of_le_length (by omega), List.take_of_length_le (by omega)]
  have hd : (lf (n : Int) 4 ++ l).drop 4 = l := by rw [List.drop_append_of_le_length (by omega), List.drop_of_length_le (by omega)]; rfl
  have hN : leN (lf (n : Int) 4) = (n : Int) := leN_lf n 4 (by have : (256 : Nat) ^ 4 = 4294967296 := rfl; omega)
  rw [rNum, if_neg (by simp), if_neg (by rw [List.length_append]; omega), ht, hN, if_neg (by omega), hd]
theorem rCnt_enc (m l : List Int) (most : Nat) (h : m.length ≤ 1000000) (hm : m.length ≤ most) : rCnt (encB m ++ l) 0 most = (m, l, 0) := by
  have e : rNum (encB m ++ l) 0 = ((m.length : Int), m ++ l, 0) := by unfold encB; rw [List.append_assoc]; exact rNum_lf m.length (m ++ l) (by omega)
  unfold rCnt
  rw [e]
  simp only [Int.toNat_natCast]
  rw [if_neg (by simp), if_neg (by rw [List.length_append]; omega), if_neg (by omega)]
  rw [List.take_append_of_le_length (Nat.le_refl _), List.take_length, List.drop_append_of_le_length (Nat.le_refl _), List.drop_length]; rfl
theorem eqS_iff (m n : List Int) : eqS m n = true ↔ m.map (fun n => UInt8.ofNat n.toNat) = n.map (fun n => UInt8.ofNat n.toNat) := by
  unfold eqS
  rw [beq_iff_eq, ByteArray.toList_eq, ByteArray.toList_eq, strOfNums_data, strOfNums_data]
theorem byt_inj {a b : List Int} (ha : Byt a) (hb : Byt b) (h : a.map (fun n => UInt8.ofNat n.toNat) = b.map (fun n => UInt8.ofNat n.toNat)) : a = b := by
  induction a generalizing b with
  | nil => cases b with
    | nil => rfl
    | cons y r => simp at h
  | cons x r ih => cases b with
    | nil => simp at h
    | cons y q =>
      simp only [List.map_cons, List.cons.injEq] at h
      have hx := ha x (by simp)
      have hy := hb y (by simp)
      have e : x = y := by
        have := congrArg UInt8.toNat h.1
        simp only [UInt8.toNat_ofNat'] at this
        rw [Nat.mod_eq_of_lt (by omega), Nat.mod_eq_of_lt (by omega)] at this
        omega
      rw [e, ih (fun z hz => ha z (by simp [hz])) (fun z hz => hb z (by simp [hz])) h.2]
theorem rNum_inv (l : List Int) (hb : Byt l) (n : Int) (l2 : List Int) (h : rNum l 0 = (n, l2, 0)) : ∃ k : Nat, n = k ∧ k ≤ 2147483647 ∧ l = lf (k : Int) 4 ++ l2 := by
  unfold rNum at h
  rw [if_neg (by simp)] at h
  split at h
  · simp at h
  · rename_i h4
    split at h
    · simp at h
    · rename_i hbig
      injection h with h1 h2
      injection h2 with h2 _
      have hr := leN_range (l.take 4) (hb.take 4)
      obtain ⟨k, hk⟩ := Int.eq_ofNat_of_zero_le hr.1
      refine ⟨k, by rw [← h1, hk], by omega, ?_⟩
      have e4 := leN4 l (by omega)
      have g0 := hb.get 0 (by omega)
      have g1 := hb.get 1 (by omega)
      have g2 := hb.get 2 (by omega)
      have g3 := hb.get 3 (by omega)
      rw [hk] at e4 hbig
      have e : lf (k : Int) 4 = l.take 4 := by
        rw [lf4 k (by omega), take4 l (by omega), e4]
        congr 1
        · omega
        · congr 1
          · omega
          · congr 1
            · omega
            · congr 1
              omega
      rw [e, ← h2, List.take_append_drop]
theorem rNum_bad (l : List Int) (n : Int) (l2 : List Int) (e : Int) (h : rNum l 0 = (n, l2, e)) (he : e ≠ 0) : n = 0 := by
  unfold rNum at h
  rw [if_neg (by simp)] at h
  split at h
  · injection h with h _; exact h.symm
  · split at h
    · injection h with h _; exact h.symm
    · injection h with _ h; injection h with _ h; exact absurd h.symm he
theorem rCnt_inv (l : List Int) (hb : Byt l) (most : Nat) (m l2 : List Int) (h : rCnt l 0 most = (m, l2, 0)) : l = encB m ++ l2 ∧ m.length ≤ most := by
  obtain ⟨n, l1, e1, h1⟩ : ∃ n l' e', rNum l 0 = (n, l', e') := ⟨_, _, _, rfl⟩
  unfold rCnt at h
  rw [h1] at h
  simp only at h
  split at h
  · rename_i h0
    injection h with _ h; injection h with _ h
    exact absurd h h0
  · rename_i h0
    have h0 : e1 = 0 := Classical.not_not.1 h0
    subst h0
    obtain ⟨k, rfl, hk, hl⟩ := rNum_inv l hb n l1 h1
    rw [Int.toNat_natCast] at h
    split at h
    · simp at h
    · split at h
      · simp at h
      · injection h with q1 q2
        injection q2 with q2 _
        have hml : m.length = k := by rw [← q1, List.length_take]; omega
        refine ⟨?_, by omega⟩
        rw [hl, encB, hml, ← q1, ← q2, List.append_assoc, List.take_append_drop]
theorem uns_cut {b x : List Int} (h : unsL b = some x) : ∃ t, b = x ++ t ∧ t.length = 32 ∧ eqS (shaL x) t = true := by
  unfold unsL at h
  split at h
  · cases h
  · rename_i h0
    split at h
    · rename_i h1
      injection h with h
      subst h
      exact ⟨b.drop (b.length - 32), (List.take_append_drop _ _).symm, by rw [List.length_drop]; omega, h1⟩
    · cases h
theorem uns_byt {b m : List Int} (hb : Byt b) (h : unsL b = some m) : Byt m := by
  unfold unsL at h
  split at h
  · cases h
  · split at h
    · injection h with h
      subst h
      exact hb.take _
    · cases h
theorem uns_len {b m : List Int} (h : unsL b = some m) : m.length ≤ b.length := by
  unfold unsL at h
  split at h
  · cases h
  · split at h
    · injection h with h
      subst h
      rw [List.length_take]
      omega
    · cases h
theorem encB_len (m : List Int) : (encB m).length = 4 + m.length := by rw [encB, List.length_append, lf_length]
theorem fits_some (l : List Int) (n : Nat) (h : l.length + n < 4611686018427387904) : Fits (some l) n := fun x hx => by injection hx with hx; subst hx; exact h
theorem wNum_some (l : List Int) (n : Nat) (h : n ≤ 2147483647) : wNum (some l) (n : Int) = some (l ++ lf (n : Int) 4) := by rw [wNum, if_neg (by omega)]; rfl
theorem wst_zero (w : World) (t : Array Value) (ht : t = (zeroW false).toArray) : WSt (w.alloc (.cells t 98)) w.heap.size (some []) := by
  subst ht
  exact ⟨[], [], .pointer none, rfl, by simp, ⟨List.length_replicate .., At.new w _ 98⟩, rfl⟩
theorem zcW0 : Tryz.zeroCells98 = (zeroW false).toArray := by kernel_rfl
theorem Only.setRow (g : Nat) (w : World) (c : Array Value) : Only g w (w.setRow g c) := ⟨rfl, rfl, rfl, by rw [size_setRow]; exact Nat.le_refl _, fun k _ hk => heap_setRow _ _ _ _ hk⟩
theorem ext_only' {w w0 w1 : World} {b : Nat} (he : Ext w w0) (ho : Only b w0 w1) (hb : w.heap.size ≤ b) : Ext w w1 := ho.below he hb he.size
theorem src_nil (w : World) (b : Nat) : Src w (.slice none 0 0) [] b := ⟨none, 0, b + 1, 0, rfl, by simp, fun h => by simp at h, by omega, fun j hj => by simp at hj, fun _ => rfl⟩
theorem results_row {P : Program} {fn : Func} {p : Tmp} {ty : TypeId} (h : fn.results = #[.cell p ty]) (tmps : Array Value) (w : World) (g : Nat) (t : TypeId) (cs : Array Value) {d : TypeDesc} (hp : tmps.getD p undef = .pointer (some ⟨g, 0, none⟩)) (hg : At w g cs t)
    (hu : P.underlying ty = some d) (hd : (match d with | .struct _ | .array _ _ => true | _ => false) = true) (hi : (P.info? ty).map (·.size) = some cs.size) :
    (results fn tmps).run P w = .ok (.agg cs) w := results_cell_row h tmps w g t cs (0, 0) d hp hg hu hd hi
theorem results_row_tmp {P : Program} {fn : Func} {p u : Tmp} {ty : TypeId} (h : fn.results = #[.cell p ty, .tmp u]) (tmps : Array Value) (w : World) (g : Nat) (t : TypeId) (cs : Array Value) {d : TypeDesc} (hp : tmps.getD p undef = .pointer (some ⟨g, 0, none⟩)) (hg : At w g cs t)
    (hu : P.underlying ty = some d) (hd : (match d with | .struct _ | .array _ _ => true | _ => false) = true) (hi : (P.info? ty).map (·.size) = some cs.size) :
    (results fn tmps).run P w = .ok (.tuple #[.agg cs, tmps.getD u undef]) w := by
  rw [results_cell_tmp h, hp]
  simp only [asAddr, Sem.run_pure, Result.andThen_ok, run_loadVar_row w g t ty cs (0, 0) d hg hu hd hi]
def Far {α : Type} (R : World → Value → α → Nat → Prop) (n : Nat) (w : World) (v : Value) (a : α) : Prop := ∀ bh, bh < n ∨ w.heap.size ≤ bh → R w v a bh
theorem Far.ext {α : Type} {R : World → Value → α → Nat → Prop} (k : Kept R) {n : Nat} {w w' : World} {v : Value} {a : α} (h : Far R n w v a) (he : Ext w w') : Far R n w' v a := fun bh hb =>
  k.ext (h bh (hb.imp_right fun hb => Nat.le_trans he.size hb)) he
theorem Far.only {α : Type} {R : World → Value → α → Nat → Prop} (k : Kept R) {n g : Nat} {w w' : World} {v : Value} {a : α} (h : Far R n w v a) (ho : Only g w w') (hg : g < n) : Far R n w' v a := fun bh hb =>
  k.keep (h g (Or.inl hg)) (h bh (hb.imp_right fun hb => Nat.le_trans ho.size hb)) ho
theorem Far.less {α : Type} {R : World → Value → α → Nat → Prop} {n n' : Nat} {w : World} {v : Value} {a : α} (h : Far R n w v a) (hn : n' ≤ n) : Far R n' w v a := fun bh hb => h bh (hb.imp_left fun h => Nat.lt_of_lt_of_le h hn)
theorem Far.now {α : Type} {R : World → Value → α → Nat → Prop} {n : Nat} {w : World} {v : Value} {a : α} (h : Far R n w v a) : R w v a w.heap.size := h _ (Or.inr (Nat.le_refl _))
theorem eqS_self' (m : List Int) : eqS m m = true := by simp [eqS]
theorem eqS_byt {m n : List Int} (hm : Byt m) (hn : Byt n) : eqS m n = true ↔ m = n := by
  rw [eqS_iff]
  exact ⟨byt_inj hm hn, fun h => by rw [h]⟩
theorem wbytes_byt (x : Int) : Byt (wbytes x) := by
  intro y hy
  unfold wbytes at hy
  simp only [List.mem_cons, List.not_mem_nil, or_false] at hy
  rcases hy with h | h | h | h <;> subst h <;> omega
theorem sha_byt (m : List Int) : Byt (shaL m) := by
  intro x hx
  unfold shaL wordsB at hx
  obtain ⟨l, hl, hx⟩ := List.mem_flatten.1 hx
  obtain ⟨y, _, rfl⟩ := List.mem_map.1 hl
  exact wbytes_byt y x hx
theorem byt_nil : Byt [] := fun x hx => by simp at hx
abbrev Pg := Int × List Int
def encP (g : Nat) (m : List Int) : List Int := lf (g : Int) 4 ++ encB m
theorem encP_len (g : Nat) (m : List Int) : (encP g m).length = 8 + m.length := by rw [encP, List.length_append, lf_length, encB_len]; omega
theorem encP_byt (g : Nat) {m : List Int} (hm : Byt m) : Byt (encP g m) := byt_app (lf_byt _ _) (byt_app (lf_byt _ _) hm)
def mayP (p : Pg) : Bool := decide (1 ≤ p.1) && decide (p.1 ≤ 2147483647) && decide (p.2.length ≤ 60000)
def fieldsP (x : List Int) : Option Pg :=
  if (rCnt (rNum x 0).2.1 (rNum x 0).2.2 60000).2.2 = 0 ∧ (rCnt (rNum x 0).2.1 (rNum x 0).2.2 60000).2.1.length = 0 ∧ 1 ≤ (rNum x 0).1 then some ((rNum x 0).1, (rCnt (rNum x 0).2.1 (rNum x 0).2.2 60000).1) else none
def decP (b : List Int) : Option Pg :=
  match unsL b with
  | none => none
  | some x => fieldsP x
theorem fields_enc (g : Nat) (m : List Int) (h1 : 1 ≤ g) (h2 : g ≤ 2147483647) (hm : m.length ≤ 60000) : fieldsP (encP g m) = some ((g : Int), m) := by
  have e : rNum (encP g m) 0 = ((g : Int), encB m, 0) := by unfold encP; exact rNum_lf g _ h2
  have e2 : rCnt (encB m) 0 60000 = (m, [], 0) := by have := rCnt_enc m [] 60000 (by omega) hm; rwa [List.append_nil] at this
  unfold fieldsP
  rw [e]
  simp only
  rw [e2]
  rw [if_pos ⟨rfl, rfl, by omega⟩]
theorem fields_inv (x : List Int) (hb : Byt x) (p : Pg) (h : fieldsP x = some p) : ∃ g : Nat, p.1 = (g : Int) ∧ 1 ≤ g ∧ g ≤ 2147483647 ∧ p.2.length ≤ 60000 ∧ x = encP g p.2 := by
  unfold fieldsP at h
  split at h
  rotate_left
  · cases h
  rename_i hc
  obtain ⟨h1, h2, h3⟩ := hc
  injection h with h
  subst h
  obtain ⟨n, l1, e1, q1⟩ : ∃ n l' e', rNum x 0 = (n, l', e') := ⟨_, _, _, rfl⟩
  rw [q1] at h1 h2 h3 ⊢
  simp only at h1 h2 h3 ⊢
  have he : e1 = 0 := by
    refine Classical.byContradiction fun hne => ?_
    have := rNum_bad x n l1 e1 q1 hne
    omega
  subst he
  obtain ⟨k, rfl, hk, hx⟩ := rNum_inv x hb n l1 q1
  have hb1 : Byt l1 := by have := rNum_byt x 0 hb; rw [q1] at this; exact this
  obtain ⟨m, l2, e2, q2⟩ : ∃ m l' e', rCnt l1 0 60000 = (m, l', e') := ⟨_, _, _, rfl⟩
  rw [q2] at h1 h2 ⊢
  simp only at h1 h2 ⊢
  subst h1
  obtain ⟨hl, hm⟩ := rCnt_inv l1 hb1 60000 m l2 q2
  have : l2 = [] := List.length_eq_zero_iff.1 h2
  subst this
  refine ⟨k, rfl, by omega, hk, hm, ?_⟩
  rw [hx, hl, List.append_nil]
  rfl
theorem dec_inv {b : List Int} (hb : Byt b) {p : Pg} (h : decP b = some p) : ∃ g : Nat, p.1 = (g : Int) ∧ 1 ≤ g ∧ g ≤ 2147483647 ∧ p.2.length ≤ 60000 ∧ Byt p.2 ∧ b = sealL (encP g p.2) := by
  unfold decP at h
  split at h
  · cases h
  · rename_i x hx
    have bx := uns_byt hb hx
    obtain ⟨g, h1, h2, h3, h4, h5⟩ := fields_inv x bx p h
    obtain ⟨t, q1, q2, q3⟩ := uns_cut hx
    have bt : Byt t := fun y hy => hb y (by rw [q1]; simp [hy])
    have := (eqS_byt (sha_byt x) bt).1 q3
    refine ⟨g, h1, h2, h3, h4, ?_, ?_⟩
    · intro y hy
      refine bx y ?_
      rw [h5]
      unfold encP encB
      simp [hy]
    · rw [q1, ← this, h5]; rfl
theorem uns_seal (x : List Int) : unsL (sealL x) = some x := by
  unfold unsL
  have e1 : (sealL x).length - 32 = x.length := by rw [sealL_length]; omega
  have e2 : (sealL x).take x.length = x := by rw [sealL, List.take_append_of_le_length (Nat.le_refl _), List.take_length]
  have e3 : (sealL x).drop x.length = shaL x := by rw [sealL, List.drop_append_of_le_length (Nat.le_refl _), List.drop_length]; rfl
  rw [if_neg (by rw [sealL_length]; omega), e1, e2, e3, eqS_self', if_pos rfl]
theorem dec_enc (g : Nat) (m : List Int) (h1 : 1 ≤ g) (h2 : g ≤ 2147483647) (hm : m.length ≤ 60000) : decP (sealL (encP g m)) = some ((g : Int), m) := by
  unfold decP
  rw [uns_seal]
  exact fields_enc g m h1 h2 hm
theorem seal_byt {x : List Int} (h : Byt x) : Byt (sealL x) := byt_app h (sha_byt x)
def sameP (p q : Pg) : Bool := (p.1 == q.1) && eqS p.2 q.2
theorem sameP_self (p : Pg) : sameP p p = true := by simp [sameP, eqS_self']
theorem sameP_iff {p q : Pg} (hp : Byt p.2) (hq : Byt q.2) : sameP p q = true ↔ p = q := by
  unfold sameP
  rw [Bool.and_eq_true, eqS_byt hp hq, beq_iff_eq]
  exact ⟨fun h => Prod.ext h.1 h.2, fun h => by rw [h]; exact ⟨rfl, rfl⟩⟩
end Go.Proofs.YtnhokjnmpdiokaaGreatDoor

namespace Go.Proofs.YtnhokjnmpdiokaaGreatDoor
open Go.RowKit Go.Sha
set_option linter.unusedSimpArgs false
set_option linter.unusedVariables false

set_option maxHeartbeats 1000000 in
theorem mayP_any (g : Int) (ad : Option Addr) (n cap : Nat) (w : World) :
    Calls Tryz.prog 76 #[.agg #[.int .i64 g, .slice ad n cap]] w fun e w' => e = .returned (.bool (decide (1 ≤ g) && decide (g ≤ 2147483647) && decide (n ≤ 60000))) ∧ Ext w w' := by
  obtain ⟨B1, h1⟩ : ∃ B, decide (1 ≤ g) = B := ⟨_, rfl⟩
  obtain ⟨B2, h2⟩ : ∃ B, decide (g ≤ 2147483647) = B := ⟨_, rfl⟩
  obtain ⟨B3, h3⟩ : ∃ B, decide (n ≤ 60000) = B := ⟨_, rfl⟩
  have h4 : decide ((n : Int) ≤ 60000) = B3 := by rw [← h3, decide_eq_decide]; omega
  rw [h1, h2, h3]
  cases B1
  · clear h2 h3 h4
    go_enter Tryz.func76, Tryz.ntmps76
    go_wp2
    go_ret
    exact ⟨rfl, Ext.alloc w _⟩
  cases B2
  · clear h3 h4
    go_enter Tryz.func76, Tryz.ntmps76
    go_wp2
    go_ret
    exact ⟨rfl, Ext.alloc w _⟩
  cases B3
  · go_enter Tryz.func76, Tryz.ntmps76
    go_wp2
    go_ret
    exact ⟨rfl, Ext.alloc w _⟩
  · go_enter Tryz.func76, Tryz.ntmps76
    go_wp2
    go_ret
    exact ⟨rfl, Ext.alloc w _⟩

set_option maxHeartbeats 1000000 in
theorem sameP_any (g k : Int) (m l : List Int) (v u : Value) (w : World) (h : Src w v m w.heap.size) (h' : Src w u l w.heap.size) :
    Calls Tryz.prog 114 #[.agg #[.int .i64 g, v], .agg #[.int .i64 k, u]] w fun e w' => e = .returned (.bool (sameP (g, m) (k, l))) ∧ Ext w w' := by
  obtain ⟨ad, cap, ev⟩ := h.len
  subst ev
  obtain ⟨ad', cap', ev⟩ := h'.len
  subst ev
  unfold sameP
  simp only
  obtain ⟨n, hn⟩ : ∃ n, n = m.length := ⟨_, rfl⟩
  obtain ⟨n', hn'⟩ : ∃ n, n = l.length := ⟨_, rfl⟩
  rw [← hn] at h ⊢
  rw [← hn'] at h' ⊢
  clear hn hn'
  have e0 : Ext w ((w.alloc (.cells #[.int .i64 g, .slice ad n cap] 108)).alloc (.cells #[.int .i64 k, .slice ad' n' cap'] 108)) := (Ext.alloc w _).trans (Ext.alloc _ _)
  have DE := beq_any _ _ m l _ (h.now e0) (h'.now e0)
  obtain ⟨B1, d1⟩ : ∃ B, (g == k) = B := ⟨_, rfl⟩
  obtain ⟨B2, d2⟩ : ∃ B, eqS m l = B := ⟨_, rfl⟩
  rw [d1, d2]
  rw [d2] at DE
  clear h h' d2
  cases B1
  · clear DE
    go_enter Tryz.func114, Tryz.ntmps114
    go_wp2
    go_ret
    exact ⟨rfl, e0⟩
  · have a1 : At ((w.alloc (.cells #[.int .i64 g, .slice ad n cap] 108)).alloc (.cells #[.int .i64 k, .slice ad' n' cap'] 108)) w.heap.size #[.int .i64 g, .slice ad n cap] 108 := (At.new w _ _).alloc _
    have a2 := At.new1 w (.cells #[.int .i64 g, .slice ad n cap] 108) #[.int .i64 k, .slice ad' n' cap'] 108
    have f1 := a1.cell 1
    have g1 := a2.cell 1
    go_enter Tryz.func114, Tryz.ntmps114
    go_wp2_with fail
    refine DE.mono ?_
    rintro e w' ⟨rfl, rfl⟩
    clear DE
    cases B2
    · go_wp2
      go_ret
      exact ⟨rfl, e0⟩
    · go_wp2
      go_ret
      exact ⟨rfl, e0⟩

end Go.Proofs.YtnhokjnmpdiokaaGreatDoor

namespace Go.Proofs.YtnhokjnmpdiokaaGreatDoor
open Go.RowKit Go.Sha
set_option linter.unusedSimpArgs false
set_option linter.unusedVariables false

theorem RSt.only {w w' : World} {b c : Nat} {l : List Int} {e : Int} (h : RSt w b l e) (ho : Only c w w') (hc : b < c) : RSt w' b l e := by
  obtain ⟨v, a, s, n⟩ := h
  exact ⟨v, ho.at a (by omega), fun bh hb => src_keep (s c (by omega)) (s bh hb) ho, n⟩
theorem szPage : (Tryz.prog.info? 108).map (·.size) = some 2 := by kernel_rfl
def pgO (o : Option Pg) : Pg := o.getD (0, [])
def DcP (w : World) (o : Option Pg) (e : Ending) (w' : World) : Prop := ∃ v, e = .returned (.tuple #[.agg #[.int .i64 (pgO o).1, v], .int .i64 (if o.isSome then 0 else 10)]) ∧ Ext w w' ∧ Far Src w.heap.size w' v (pgO o).2
set_option maxHeartbeats 4000000 in
set_option maxRecDepth 100000 in
theorem decode_any (v : Value) (b : List Int) (w : World) (hK : KAt w) (hs : Src w v b w.heap.size) (hb : Byt b) (hl : b.length ≤ 100000000) :
    Calls Tryz.prog 87 #[v] w (DcP w (decP b)) := by
  have hU := fun m (h : unsL b = some m) => uns_byt hb h
  have hUl := fun m (h : unsL b = some m) => uns_len h
  obtain ⟨O, hO⟩ : ∃ o, unsL b = o := ⟨_, rfl⟩
  obtain ⟨D, hD⟩ : ∃ o, decP b = o := ⟨_, rfl⟩
  have zone : (#[.int .i64 0, .slice none 0 0] : Array Value).all (·.oneCell') = true := by simp [Value.oneCell']
  have szz : (Tryz.prog.info? 108).map (·.size) = some (#[.int .i64 0, .slice none 0 0] : Array Value).size := szPage
  have e0 : Ext w (w.alloc (.cells #[.int .i64 0, .slice none 0 0] 108)) := Ext.alloc w _
  have a0 := At.new w #[.int .i64 0, .slice none 0 0] 108
  have UN := unseal_any v b _ (hK.below e0 hK.lt) (hs.now e0) hl
  rw [hO] at UN
  rw [hD]
  unfold decP at hD
  rw [hO] at hD
  have HU := Lib.hid hU
  have HUl := Lib.hid hUl
  have HO := Lib.hid hO
  have HD := Lib.hid hD
  obtain ⟨ad, cap, ev⟩ := hs.len
  subst ev
  obtain ⟨n, hn⟩ : ∃ n, n = b.length := ⟨_, rfl⟩
  rw [← hn] at UN ⊢
  clear hU hUl hO hD hs hn hb
  go_enter Tryz.func87, Tryz.ntmps87
  go_wp2_with fail
  refine UN.mono ?_
  rintro e w1 ⟨v1, n1, rfl, e1, q1, p1⟩
  have a1 := at_ext a0 e1
  have e01 := e0.trans e1
  clear UN a0 e0 e1
  cases O with
  | none =>
    obtain ⟨rfl, rfl⟩ := p1 rfl
    have DN : D = none := HD.out.symm
    subst DN
    clear q1 p1 HD
    go_wp2_with (refine wpList_store_row rfl 108 _ _ rfl w.heap.size _ rfl rfl 108 _ a1 szz rfl zone ?_)
    refine bodyPost_ret (results_row_tmp rfl _ _ w.heap.size 108 _ rfl (a1.row _) Tryz.underlying108 rfl szz) rfl ?_
    exact ⟨_, rfl, ext_only' e01 (Only.setRow _ _ _) (Nat.le_refl _), fun bh _ => src_nil _ bh⟩
  | some x =>
    obtain ⟨rfl, s1⟩ := q1 x rfl
    have hbx := HU.out x HO.out
    have hxl := HUl.out x HO.out
    have hD' := HD.out
    simp only at hD'
    clear q1 p1 HU HUl HO HD
    have sz1 : w.heap.size < w1.heap.size := a1.lt
    obtain ⟨g1, l1, e1, h1⟩ : ∃ n l' e', rNum x 0 = (n, l', e') := ⟨_, _, _, rfl⟩
    obtain ⟨m2, l2, e2, h2⟩ : ∃ m l' e', rCnt l1 e1 60000 = (m, l', e') := ⟨_, _, _, rfl⟩
    have hb1 : Byt l1 := by have := rNum_byt x 0 hbx; rw [h1] at this; exact this
    have hr1 : 0 ≤ g1 ∧ g1 ≤ 2147483647 := by have := rNum_range x 0 hbx; rw [h1] at this; exact this
    have hm2 : m2.length ≤ 60000 := by have := rCnt_short l1 e1 60000; rw [h2] at this; exact this
    have HD : Hid (D = (if e2 = 0 ∧ l2.length = 0 ∧ 1 ≤ g1 then some (g1, m2) else none)) := by
      refine Lib.hid ?_
      rw [← hD']
      unfold fieldsP
      rw [h1]
      simp only
      rw [h2]
    have N1 := fun (W : World) (g : Nat) (hr : RSt W g x 0) => num_any g x 0 W hr hbx
    rw [h1] at N1
    have N2 := fun (W : World) (g : Nat) (hr : RSt W g l1 e1) => rbytes_any g l1 e1 60000 W hr hb1 (by omega)
    rw [h2] at N2
    have HN1 := Lib.hid N1
    have HN2 := Lib.hid N2
    have Hr := Lib.hid (And.intro hr1 hm2)
    clear hD' h1 h2 hb1 hr1 hm2 N1 N2
    go_wp2_with fail
    refine (newr_any v1 x _ w1 s1 (by omega)).mono ?_
    rintro e w2 ⟨g, rfl, e2', r2, hg⟩
    have a2 := at_ext a1 e2'
    have e02 := e01.trans e2'
    have glt := r2.lt
    clear a1 e01 s1 e2' hxl
    have e3 : Ext w2 (w2.alloc (.cells #[.int .i64 0, .slice none 0 0] 108)) := Ext.alloc w2 _
    have p3 := At.new w2 #[.int .i64 0, .slice none 0 0] 108
    have r3 := r2.below e3
    have a3 := at_ext a2 e3
    have e03 := e02.trans e3
    obtain ⟨pb, hh⟩ : ∃ h, h = w2.heap.size := ⟨_, rfl⟩
    have hgw : w.heap.size < g := by omega
    rw [← hh] at p3 glt
    have Hh := Lib.hid hh
    clear r2 a2 e02 e3 hg sz1
    go_wp2_with fail
    rw [← Hh.out]
    generalize w2.alloc (.cells #[.int .i64 0, .slice none 0 0] 108) = w3 at *
    clear hh
    refine (HN1.out w3 g r3).mono ?_
    rintro e w4 ⟨rfl, o4, r4⟩
    have p4 := o4.at p3 (by omega)
    have a4 := o4.at a3 (by omega)
    have e04 := ext_only' e03 o4 (by omega)
    have c0 := p4.cell 0
    have z0 := p4.frozen 0
    have p5 : At (w4.setCell ⟨pb, 0, none⟩ (.int .i64 g1)) pb #[.int .i64 g1, .slice none 0 0] 108 := p4.set 0 _
    have o5 := Only.set pb 0 w4 (.int .i64 g1)
    have r5 := RSt.only r4 o5 glt
    have a5 := o5.at a4 (by omega)
    have e05 := ext_only' e04 o5 (by omega)
    clear r3 p3 a3 e03 o4 r4 p4 a4 e04 o5
    go_upto_region 7 with (fail)
    clear c0 z0
    generalize w4.setCell ⟨pb, 0, none⟩ (.int .i64 g1) = w5 at *
    go_wp2_with fail
    refine (HN2.out w5 g r5).mono ?_
    rintro e w6 ⟨v2, rfl, o6, r6, s6⟩
    have p6 := o6.at p5 (by omega)
    have a6 := o6.at a5 (by omega)
    have e06 := ext_only' e05 o6 (by omega)
    have c1 := p6.cell 1
    have z1 := p6.frozen 1
    have p7 : At (w6.setCell ⟨pb, 1, none⟩ v2) pb #[.int .i64 g1, v2] 108 := p6.set 1 _
    have o7 := Only.set pb 1 w6 v2
    have r7 := RSt.only r6 o7 glt
    have a7 := o7.at a6 (by omega)
    have e07 := ext_only' e06 o7 (by omega)
    have s7 : ∀ bh, bh < w5.heap.size ∨ (w6.setCell ⟨pb, 1, none⟩ v2).heap.size ≤ bh → Src (w6.setCell ⟨pb, 1, none⟩ v2) v2 m2 bh := fun bh hbh => src_keep (s6 pb (Or.inl p5.lt)) (s6 bh (hbh.imp_right fun q => Nat.le_trans o7.size q)) o7
    have hv1 := (s6 pb (Or.inl p5.lt)).one
    have plt := p5.lt
    obtain ⟨ad2, cap2, ev2⟩ := (s6 pb (Or.inl p5.lt)).len
    obtain ⟨M, hM⟩ : ∃ n, n = m2.length := ⟨_, rfl⟩
    rw [← hM] at ev2
    have hM6 : M ≤ 60000 := by rw [hM]; exact Hr.out.2
    clear p5 a5 e05 r5 o6 r6 s6 p6 a6 e06 o7
    subst ev2
    have S7 := Lib.hid s7
    clear hM s7
    go_upto_region 8 with (fail)
    clear c1 z1
    generalize w6.setCell ⟨pb, 1, none⟩ (.slice ad2 M cap2) = w7 at *
    by_cases h0 : e2 = 0
    · subst h0
      obtain ⟨L, hL⟩ : ∃ n, n = l2.length := ⟨_, rfl⟩
      have HE := err_any g l2 0 w7 r7
      have HLf := left_any g l2 0 w7 r7
      rw [← hL] at HLf
      have HD2 := Lib.hid (hL ▸ HD.out : D = (if (0 : Int) = 0 ∧ L = 0 ∧ 1 ≤ g1 then some (g1, m2) else none))
      clear HD hL r7
      by_cases hl0 : L = 0
      · subst hl0
        have MB := mayP_any g1 ad2 M cap2 w7
        have d2 : decide (g1 ≤ 2147483647) = true := by simpa using Hr.out.1.2
        have d3 : decide (M ≤ 60000) = true := by simpa using hM6
        rw [d2, d3] at MB
        have k0 := p7.cell 0
        have k1 := p7.cell 1
        obtain ⟨B, hB⟩ : ∃ B, decide (1 ≤ g1) = B := ⟨_, rfl⟩
        rw [hB] at MB
        clear d2 d3
        go_wp2_with fail
        refine HE.mono ?_
        rintro e w8 ⟨rfl, rfl⟩
        clear HE
        go_wp2_with fail
        refine HLf.mono ?_
        rintro e w8 ⟨rfl, rfl⟩
        clear HLf
        go_wp2_with fail
        refine MB.mono ?_
        rintro e w8 ⟨rfl, e8⟩
        have p8 := at_ext p7 e8
        have a8 := at_ext a7 e8
        have e08 := e07.trans e8
        have sz8 := e8.size
        have S8 : Far Src w5.heap.size w8 (.slice ad2 M cap2) m2 := Far.ext src_kept (S7.out : Far Src w5.heap.size w7 (.slice ad2 M cap2) m2) e8
        clear MB k0 k1 p7 a7 e07 S7
        cases B
        · have DN : D = none := by rw [HD2.out, if_neg (fun hc => by have := hc.2.2; simp at hB; omega)]
          subst DN
          clear HD2 hB S8 p8
          go_wp2_with (refine wpList_store_row rfl 108 _ _ rfl w.heap.size _ rfl rfl 108 _ a8 szz rfl zone ?_)
          refine bodyPost_ret (results_row_tmp rfl _ _ w.heap.size 108 _ rfl (a8.row _) Tryz.underlying108 rfl szz) rfl ?_
          exact ⟨_, rfl, ext_only' e08 (Only.setRow _ _ _) (Nat.le_refl _), fun bh _ => src_nil _ bh⟩
        · have DN : D = some (g1, m2) := by rw [HD2.out, if_pos (by simpa using hB)]
          subst DN
          have one : (#[.int .i64 g1, .slice ad2 M cap2] : Array Value).all (·.oneCell') = true := by simp [Value.oneCell']
          have o9 := Only.setRow w.heap.size w8 #[.int .i64 g1, .slice ad2 M cap2]
          have e09 := ext_only' e08 o9 (Nat.le_refl _)
          have S9 := (Far.only src_kept S8 o9 (by omega)).less (n' := w.heap.size) (by omega)
          have Hf := Lib.hid (And.intro e09 S9)
          clear HD2 hB S8 S9 o9 e09 e08
          go_wp2_with (first | (refine wpList_load_row rfl 108 _ rfl pb rfl 108 _ (0, 0) _ p8 Tryz.underlying108 rfl szPage ?_) | (refine wpList_store_row rfl 108 _ _ rfl w.heap.size _ rfl rfl 108 _ a8 szPage rfl one ?_))
          refine bodyPost_ret (results_row_tmp rfl _ _ w.heap.size 108 _ rfl (a8.row #[.int .i64 g1, .slice ad2 M cap2]) Tryz.underlying108 rfl szPage) rfl ?_
          exact ⟨_, rfl, Hf.out.1, Hf.out.2⟩
      · have DN : D = none := by rw [HD2.out, if_neg (fun hc => hl0 hc.2.1)]
        subst DN
        have dl : decide ((0 : Int) < (L : Int)) = true := by simp; omega
        have dl' : decide (0 < L) = true := by simp; omega
        clear HD2 hl0
        go_wp2_with fail
        refine HE.mono ?_
        rintro e w8 ⟨rfl, rfl⟩
        clear HE
        go_wp2_with fail
        refine HLf.mono ?_
        rintro e w8 ⟨rfl, rfl⟩
        clear HLf
        go_wp2_with (refine wpList_store_row rfl 108 _ _ rfl w.heap.size _ rfl rfl 108 _ a7 szz rfl zone ?_)
        refine bodyPost_ret (results_row_tmp rfl _ _ w.heap.size 108 _ rfl (a7.row _) Tryz.underlying108 rfl szz) rfl ?_
        exact ⟨_, rfl, ext_only' e07 (Only.setRow _ _ _) (Nat.le_refl _), fun bh _ => src_nil _ bh⟩
    · have HE := err_any g l2 e2 w7 r7
      have DN : D = none := by rw [HD.out, if_neg (fun hc => h0 hc.1)]
      subst DN
      have de : (e2 != (0 : Int)) = true := by simpa using h0
      clear HD h0 r7
      go_wp2_with fail
      refine HE.mono ?_
      rintro e w8 ⟨rfl, rfl⟩
      clear HE
      go_wp2_with (refine wpList_store_row rfl 108 _ _ rfl w.heap.size _ rfl rfl 108 _ a7 szz rfl zone ?_)
      refine bodyPost_ret (results_row_tmp rfl _ _ w.heap.size 108 _ rfl (a7.row _) Tryz.underlying108 rfl szz) rfl ?_
      exact ⟨_, rfl, ext_only' e07 (Only.setRow _ _ _) (Nat.le_refl _), fun bh _ => src_nil _ bh⟩
end Go.Proofs.YtnhokjnmpdiokaaGreatDoor

namespace Go.Proofs.YtnhokjnmpdiokaaGreatDoor
open Go.RowKit Go.Sha
set_option linter.unusedSimpArgs false
set_option linter.unusedVariables false

end Go.Proofs.YtnhokjnmpdiokaaGreatDoor

namespace Go.Proofs.YtnhokjnmpdiokaaGreatDoor
end Go.Proofs.YtnhokjnmpdiokaaGreatDoor

namespace Go.Proofs.YtnhokjnmpdiokaaGreatDoor
open Go.RowKit Go.Sha
set_option linter.unusedSimpArgs false
set_option linter.unusedVariables false

abbrev PV := Int × Value × List Int
def pcell : List PV → List Value
  | [] => []
  | x :: r => .int .i64 x.1 :: x.2.1 :: pcell r
theorem pcell_app : ∀ a b : List PV, pcell (a ++ b) = pcell a ++ pcell b
  | [], _ => rfl
  | x :: r, b => by simp only [List.cons_append, pcell, pcell_app r b]
theorem pcell_get : ∀ (l : List PV) (j : Nat) (x : PV), l[j]? = some x → (pcell l)[j * 2]? = some (.int .i64 x.1) ∧ (pcell l)[j * 2 + 1]? = some x.2.1
  | [], j, x, h => by simp at h
  | y :: r, 0, x, h => by simp at h; subst h; exact ⟨rfl, rfl⟩
  | y :: r, j + 1, x, h => by
    have := pcell_get r j x (by simpa using h)
    rw [show (j + 1) * 2 = j * 2 + 1 + 1 by omega]
    simpa [pcell] using this
theorem pinfo : (Tryz.prog.info? 108).map (fun i => (i.zero, i.size, i.bytes)) = some (some (.agg #[.int .i64 0, .slice none 0 0]), 2, 32) := by kernel_rfl
def OwnP (w : World) (base : Nat) (v : Value) (l : List PV) : Prop :=
  w.ownsRow base 108 2 v l.length (pcell l) ∧ ∀ x ∈ l, ∀ bh, (bh < base ∨ v.ownBlock = some bh ∨ w.heap.size ≤ bh) → Src w x.2.1 x.2.2 bh
theorem OwnP.nil (w : World) (base : Nat) : OwnP w base (.slice none 0 0) [] := ⟨World.ownsRow_nil w base _ 2, fun x hx => by simp at hx⟩
theorem OwnP.ext {w w' : World} {base : Nat} {v : Value} {l : List PV} (h : OwnP w base v l) (he : Ext w w') : OwnP w' base v l := by
  obtain ⟨⟨h1, h2⟩, h3⟩ := h
  refine ⟨⟨h1, ?_⟩, fun x hx bh hb => (h3 x hx bh (hb.imp_right (Or.imp_right fun h => Nat.le_trans he.size h))).ext he⟩
  rcases h2 with h2 | ⟨g, cap, cur, hv, hg, hw, r⟩
  · exact Or.inl h2
  · exact Or.inr ⟨g, cap, cur, hv, hg, At.below (c := cur) (t := 108) hw he (At.lt (c := cur) (t := 108) hw), r⟩
theorem OwnP.len {w : World} {base : Nat} {v : Value} {l : List PV} (h : OwnP w base v l) : ∃ ad cap, v = .slice ad l.length cap := by
  obtain ⟨⟨_, ⟨rfl, h0⟩ | ⟨g, cap, cur, rfl, _⟩⟩, _⟩ := h
  · exact ⟨none, 0, by rw [h0]⟩
  · exact ⟨_, cap, rfl⟩
theorem OwnP.block {w : World} {base : Nat} {v : Value} {l : List PV} (h : OwnP w base v l) : ∀ g, v.ownBlock = some g → base ≤ g ∧ g < w.heap.size := h.1.lt
theorem run_append_p (w : World) (t ty : TypeId) (ht : Tryz.prog.underlying t = some (.slice 108)) (base : Nat) (v : Value) (l : List PV) (hown : OwnP w base v l) (g c : Nat) (x : PV)
    (h0 : w.cell? ⟨g, 0, none⟩ = some (.int .i64 x.1)) (h1 : w.cell? ⟨g, 1, none⟩ = some x.2.1) (ho : x.2.1.oneCell' = true)
    (hs : ∀ bh, (bh < base ∨ v.ownBlock = some bh ∨ w.heap.size ≤ bh) → Src w x.2.1 x.2.2 bh) (hl : l.length < 1099511627776) (hbase : base ≤ w.heap.size) :
    ∃ v' w', (Builtin.append_ #[t, t] ty #[v, .slice (some ⟨g, 0, none⟩) 1 c]).run Tryz.prog w = .ok v' w' ∧ OwnP w' base v' (l ++ [x]) ∧ Below base w w' := by
  obtain ⟨i, hi', hzz⟩ := Option.map_eq_some_iff.1 pinfo
  simp only [Prod.mk.injEq] at hzz
  obtain ⟨hz1, hz2, hz3⟩ := hzz
  obtain ⟨v', w', hr, ho', hgr, _, hat⟩ := run_append_own_at (P := Tryz.prog) w base t ty 108 i (.agg #[.int .i64 0, .slice none 0 0]) 2 32 ht hi' hz1 hz2 hz3 rfl (by omega) v l.length (pcell l) hown.1 ⟨g, 0, none⟩ 1 c [.int .i64 x.1, x.2.1] rfl
    (fun j u hj => by
      match j, hj with
      | 0, hj => simp at hj; subst hj; exact h0
      | 1, hj => simp at hj; subst hj; exact h1) (by intro u hu; simp at hu; rcases hu with h | h <;> (subst h; first | rfl | exact ho)) (by unfold maxLen; omega) (by omega) hbase
  refine ⟨v', w', hr, ⟨?_, ?_⟩, ?_⟩
  · rw [List.length_append, pcell_app]
    exact ho'
  · have key : ∀ (y : Value) (q : List Int), (∀ bh, (bh < base ∨ v.ownBlock = some bh ∨ w.heap.size ≤ bh) → Src w y q bh) → ∀ bh, (bh < base ∨ v'.ownBlock = some bh ∨ w'.heap.size ≤ bh) → Src w' y q bh := by
      intro y q hq bh hbh
      have hw : bh < base ∨ v.ownBlock = some bh ∨ w.heap.size ≤ bh := by
        rcases hbh with h | h | h
        · exact Or.inl h
        · rcases hat with h' | h'
          · exact Or.inr (Or.inl (h' ▸ h))
          · rw [h'] at h; injection h with h; exact Or.inr (Or.inr (by omega))
        · exact Or.inr (Or.inr (Nat.le_trans hgr.size h))
      cases hv : v.ownBlock with
      | none => exact src_keep (hq bh hw) (hq bh hw) ⟨hgr.os, hgr.tape, hgr.output, hgr.size, fun k hk _ => hgr.block k hk (by rw [hv]; simp)⟩
      | some r => exact src_keep (hq r (Or.inr (Or.inl hv))) (hq bh hw) ⟨hgr.os, hgr.tape, hgr.output, hgr.size, fun k hk hne => hgr.block k hk (by rw [hv]; simpa using hne)⟩
    intro y hy bh hbh
    rcases List.mem_append.1 hy with hy | hy
    · exact key y.2.1 y.2.2 (hown.2 y hy) bh hbh
    · simp at hy; subst hy; exact key y.2.1 y.2.2 hs bh hbh
  · refine ⟨hgr.os, hgr.tape, hgr.output, hgr.size, fun k hk => hgr.block k (by omega) fun e => ?_⟩
    have := (hown.1.lt k e.symm).1
    omega
theorem list_append_p {w : World} {ops : Array Oper} {rest : List Oper} {o : Oper} {a : Act} {Q : Exit → Act → World → Prop} (hgd : o.guard = none) (s x : Operand) (t : TypeId)
    (ho : o.op = .call { callee := .builtin .append, args := #[s, x], argTypes := #[t, t] }) (ht : Tryz.prog.underlying t = some (.slice 108))
    (base : Nat) (v : Value) (l : List PV) (hsv : a.eval s = v) (hown : OwnP w base v l) (g c : Nat) (p : PV) (hx : a.eval x = .slice (some ⟨g, 0, none⟩) 1 c)
    (h0 : w.cell? ⟨g, 0, none⟩ = some (.int .i64 p.1)) (h1 : w.cell? ⟨g, 1, none⟩ = some p.2.1) (hone : p.2.1.oneCell' = true)
    (hs : ∀ bh, (bh < base ∨ v.ownBlock = some bh ∨ w.heap.size ≤ bh) → Src w p.2.1 p.2.2 bh) (hl : l.length < 1099511627776) (hbase : base ≤ w.heap.size)
    (h : ∀ v' w', OwnP w' base v' (l ++ [p]) → Below base w w' → wpList Tryz.prog ops Q rest (a.put o.dst v') w') : wpList Tryz.prog ops Q (o :: rest) a w :=
  wpList_plain hgd fun _ hK => by
    obtain ⟨v', w', hr, h2, h3⟩ := run_append_p w t o.type ht base v l hown g c p h0 h1 hone hs hl hbase
    unfold Oper.wp execOp
    simp only [ho, resolve, invoke, builtin, Sem.run_bind, Sem.run_pure, Result.andThen_ok, List.map_toArray, List.map_cons, List.map_nil, hsv, hx, hr]
    exact hK _ _ (h v' w' h2 h3)
def PR (w : World) (v : Value) (l : List PV) : Prop := ∃ ad cap pb po, v = .slice ad l.length cap ∧ l.length ≤ cap ∧ (0 < l.length → ad = some ⟨pb, po, none⟩) ∧
  ∀ j x, l[j]? = some x → w.cell? ⟨pb, po + j * 2, none⟩ = some (.int .i64 x.1) ∧ w.cell? ⟨pb, po + j * 2 + 1, none⟩ = some x.2.1 ∧ Src w x.2.1 x.2.2 w.heap.size
theorem PR.len {w : World} {v : Value} {l : List PV} (h : PR w v l) : ∃ ad cap, v = .slice ad l.length cap := by
  obtain ⟨ad, cap, _, _, h, _⟩ := h
  exact ⟨ad, cap, h⟩
theorem PR.ext {w w' : World} {v : Value} {l : List PV} (h : PR w v l) (he : Ext w w') : PR w' v l := by
  obtain ⟨ad, cap, pb, po, h1, h2, h3, h4⟩ := h
  refine ⟨ad, cap, pb, po, h1, h2, h3, fun j x hj => ?_⟩
  obtain ⟨c0, c1, s⟩ := h4 j x hj
  exact ⟨by rw [Below.cell (p := ⟨pb, po + j * 2, none⟩) he (World.block_lt_of_cell? w _ c0)]; exact c0, by rw [Below.cell (p := ⟨pb, po + j * 2 + 1, none⟩) he (World.block_lt_of_cell? w _ c1)]; exact c1, s.now he⟩
theorem OwnP.pr {w : World} {base : Nat} {v : Value} {l : List PV} (h : OwnP w base v l) : PR w v l := by
  have h2 : ∀ x ∈ l, Src w x.2.1 x.2.2 w.heap.size := fun x hx => h.2 x hx _ (Or.inr (Or.inr (Nat.le_refl _)))
  obtain ⟨⟨_, ⟨rfl, h0⟩ | ⟨g, cap, cur, rfl, hg, hw, hn, _, _, hx⟩⟩, _⟩ := h
  · have : l = [] := List.length_eq_zero_iff.1 h0
    subst this
    exact ⟨none, 0, 0, 0, rfl, Nat.le_refl _, fun h => by simp at h, fun j m h => by simp at h⟩
  · refine ⟨_, cap, g, 0, rfl, hn, fun _ => rfl, fun j x hj => ?_⟩
    have hjl : j < l.length := (List.getElem?_eq_some_iff.1 hj).1
    have hw' : w.heap[g]? = some (.cells cur 108 (0, 0)) := hw
    have key : ∀ q, q < l.length * 2 → w.cell? ⟨g, q, none⟩ = (pcell l)[q]? := fun q hq => by
      have e : cur.toList[q]? = (pcell l)[q]? := by rw [← hx, List.getElem?_take_of_lt (by omega)]
      simp only [World.cell?, hw']
      rw [← Array.getElem?_toList, e]
      rfl
    obtain ⟨p0, p1⟩ := pcell_get l j x hj
    rw [Nat.zero_add]
    exact ⟨(key _ (by omega)).trans p0, (key _ (by omega)).trans p1, h2 x (List.mem_of_getElem? hj)⟩
theorem OwnP.pr_only {w W : World} {base g : Nat} {v : Value} {l : List PV} (h : OwnP w base v l) (hg : g < base) (ho : Only g w W) : PR W v l := by
  have h3 : ∀ x ∈ l, Src W x.2.1 x.2.2 W.heap.size := fun x hx => src_keep (h.2 x hx g (Or.inl hg)) (h.2 x hx _ (Or.inr (Or.inr ho.size))) ho
  have hb := h.block
  obtain ⟨ad, cap, pb, po, rfl, h1, h2, h4⟩ := h.pr
  refine ⟨ad, cap, pb, po, rfl, h1, h2, fun j x hj => ?_⟩
  have hl : j < l.length := (List.getElem?_eq_some_iff.1 hj).1
  obtain rfl := h2 (by omega)
  have hne := hb pb rfl
  obtain ⟨c0, c1, _⟩ := h4 j x hj
  have key : ∀ q u, w.cell? ⟨pb, q, none⟩ = some u → W.cell? ⟨pb, q, none⟩ = some u := fun q u hc => (World.cell?_of_block (ho.block pb hne.2 (by omega))).trans hc
  exact ⟨key _ _ c0, key _ _ c1, h3 x (List.mem_of_getElem? hj)⟩
def InL (l : List PV) (v : Value) (m : List Int) : Prop := (v = .slice none 0 0 ∧ m = []) ∨ ∃ x ∈ l, x.2.1 = v ∧ x.2.2 = m
theorem PR.src {w : World} {u v : Value} {l : List PV} {m : List Int} (h : PR w u l) (i : InL l v m) : Src w v m w.heap.size := by
  rcases i with ⟨rfl, rfl⟩ | ⟨x, hx, rfl, rfl⟩
  · exact src_nil _ _
  · obtain ⟨_, _, _, _, _, _, _, h4⟩ := h
    obtain ⟨j, hj, rfl⟩ := List.mem_iff_getElem.1 hx
    exact (h4 j _ (List.getElem?_eq_getElem hj)).2.2
def pgs (ls : List (List Int)) : List Pg := ls.map fun b => pgO (decP b)
def vals (l : List PV) : List Pg := l.map fun x => (x.1, x.2.2)
def InvRd (w : World) (ls : List (List Int)) (v i : Value) (wr : World) : Prop :=
  ∃ (k : Nat) (l : List PV), k ≤ ls.length ∧ i = .int .i64 k ∧ OwnP wr w.heap.size v l ∧ vals l = pgs (ls.take k) ∧ Ext w wr
def RdPost (w : World) (ls : List (List Int)) (e : Ending) (w' : World) : Prop := ∃ v l, e = .returned v ∧ Ext w w' ∧ PR w' v l ∧ vals l = pgs ls ∧ ∀ g W, g < w.heap.size → Only g w' W → PR W v l
theorem pgs_step (ls : List (List Int)) (k : Nat) (m : List Int) (h : ls[k]? = some m) : pgs (ls.take (k + 1)) = pgs (ls.take k) ++ [pgO (decP m)] := by
  unfold pgs
  rw [List.take_add_one, h]
  simp
theorem vals_len {l : List PV} {q : List Pg} (h : vals l = q) : l.length = q.length := by rw [← h, vals, List.length_map]

set_option maxHeartbeats 2000000 in
set_option maxRecDepth 100000 in
theorem read_any (v : Value) (ls : List (List Int)) (w : World) (hK : KAt w) (h : LR w v ls w.heap.size) (hb : ∀ m ∈ ls, Byt m ∧ m.length ≤ 100000000) (hl : ls.length ≤ 1000000) :
    Calls Tryz.prog 88 #[v] w (RdPost w ls) := by
  obtain ⟨ad, cap, ev⟩ := h.len
  subst ev
  obtain ⟨N, hN⟩ : ∃ N, N = ls.length := ⟨_, rfl⟩
  have HV := Lib.hid h; clear h
  have Hb := Lib.hid hb; clear hb
  rw [← hN] at HV hl ⊢
  have HN := Lib.hid hN; clear hN
  have zone : (#[.int .i64 0, .slice none 0 0] : Array Value).all (·.oneCell') = true := by simp [Value.oneCell']
  have szz : (Tryz.prog.info? 108).map (·.size) = some (#[.int .i64 0, .slice none 0 0] : Array Value).size := szPage
  go_enter Tryz.func88, Tryz.ntmps88
  go_wp2
  go_loopw [3, 10] (fun v i wr => InvRd w ls v i wr) (fun _ i _ => N - (intOf i).toNat)
  case atStart => exact ⟨0, [], by omega, rfl, OwnP.nil w _, rfl, Ext.refl w⟩
  case round =>
    obtain ⟨k, l, hk, rfl, op, hv, ex⟩ := hrel
    rw [← HN.out] at hk
    have hll : l.length ≤ 1000000 := by have := vals_len hv; unfold pgs at this; rw [List.length_map, List.length_take] at this; omega
    by_cases hlt : k < N
    · have i0 : (k : Int) < (N : Int) := by omega
      have i1 : (0 : Int) ≤ (k : Int) := by omega
      obtain ⟨m1, hm1⟩ : ∃ m, ls[k]? = some m := ⟨_, List.getElem?_eq_getElem (by rw [← HN.out]; exact hlt)⟩
      have hvv := HV.out
      rw [HN.out] at hvv
      obtain ⟨cap1, pb, po, ev1, _, hc1⟩ := lr_at hvv (by rw [← HN.out]; omega)
      injection ev1 with a1 _ a2
      subst a1 a2
      obtain ⟨x1, c1, s1⟩ := hc1 k m1 hm1
      have c1' : wr.cell? ⟨pb, po + k, none⟩ = some x1 := by rw [Below.cell (p := ⟨pb, po + k, none⟩) ex (World.block_lt_of_cell? w _ c1)]; exact c1
      have D := decode_any x1 m1 wr (hK.below ex hK.lt) (s1.now ex) (Hb.out m1 (List.mem_of_getElem? hm1)).1 (Hb.out m1 (List.mem_of_getElem? hm1)).2
      have hst := pgs_step ls k m1 hm1
      obtain ⟨O, hO⟩ : ∃ O, pgO (decP m1) = O := ⟨_, rfl⟩
      rw [hO] at hst
      have HO := Lib.hid hO
      rw [← hv] at hst
      have Hst := Lib.hid hst
      obtain ⟨adl, capl, el⟩ := op.len
      subst el
      obtain ⟨LL, hLL⟩ : ∃ n, n = l.length := ⟨_, rfl⟩
      rw [← hLL] at op hll ⊢
      have HLL := Lib.hid hLL
      clear hLL
      clear hvv hc1 c1 s1 hm1 hst hO hv
      go_wp2_with fail
      refine D.mono ?_
      rintro e w1 ⟨vi, rfl, e1, F1⟩
      rw [HO.out] at F1 ⊢
      obtain ⟨g1, q1⟩ := O
      simp only at F1 ⊢
      obtain ⟨adi, capi, ei⟩ := (F1 _ (Or.inr (Nat.le_refl _))).len
      obtain ⟨M, hM⟩ : ∃ M, M = q1.length := ⟨_, rfl⟩
      rw [← hM] at ei
      have HM := Lib.hid hM
      subst ei
      have one : (#[.int .i64 g1, .slice adi M capi] : Array Value).all (·.oneCell') = true := by simp [Value.oneCell']
      have e2 : Ext w1 (w1.alloc (.cells #[.int .i64 0, .slice none 0 0] 108)) := Ext.alloc w1 _
      have a2 := At.new w1 #[.int .i64 0, .slice none 0 0] 108
      have e3 := ext_only' e2 (Only.setRow w1.heap.size _ #[.int .i64 g1, .slice adi M capi]) (Nat.le_refl _)
      have a3 : At ((w1.alloc (.cells #[.int .i64 0, .slice none 0 0] 108)).setRow w1.heap.size #[.int .i64 g1, .slice adi M capi]) w1.heap.size #[.int .i64 g1, .slice adi M capi] 108 := a2.row _
      have sz2 : (Tryz.prog.info? 108).map (·.size) = some (#[.int .i64 g1, .slice adi M capi] : Array Value).size := szPage
      clear D c1' hM
      go_upto_region 6 with (refine wpList_store_row rfl 108 _ _ rfl w1.heap.size _ rfl rfl 108 _ a2 sz2 rfl one ?_)
      generalize (w1.alloc (.cells #[.int .i64 0, .slice none 0 0] 108)).setRow w1.heap.size #[.int .i64 g1, .slice adi M capi] = w3 at *
      clear e2 a2
      have e4 : Ext w3 (w3.alloc (.cells #[.int .i64 g1, .slice adi M capi] 108)) := Ext.alloc w3 _
      have a4 := At.new w3 #[.int .i64 g1, .slice adi M capi] 108
      have e14 := e1.trans (e3.trans e4)
      have op4 := op.ext e14
      have k0 := a4.cell 0
      have k1 := a4.cell 1
      have S4 : ∀ bh, (bh < w.heap.size ∨ (.slice adl LL capl : Value).ownBlock = some bh ∨ (w3.alloc (.cells #[.int .i64 g1, .slice adi M capi] 108)).heap.size ≤ bh) → Src (w3.alloc (.cells #[.int .i64 g1, .slice adi M capi] 108)) (.slice adi M capi) q1 bh := fun bh hbh => by
        refine Src.ext (F1 bh ?_) (e3.trans e4)
        rcases hbh with h | h | h
        · exact Or.inl (Nat.lt_of_lt_of_le h ex.size)
        · exact Or.inl (op.block bh h).2
        · exact Or.inr (Nat.le_trans (e3.trans e4).size h)
      clear k0 k1
      have HS := Lib.hid S4
      have HC := Lib.hid (And.intro (a4.cell 0) (a4.cell 1))
      go_wp2_with (first | (refine wpList_load_row rfl 108 _ rfl w1.heap.size rfl 108 _ (0, 0) _ a3 Tryz.underlying108 rfl szPage ?_) | (refine list_append_p rfl (.tmp 19) (.tmp 21) 140 rfl Tryz.underlying140 w.heap.size (.slice adl LL capl) l rfl op4 w3.heap.size 1 (g1, .slice adi M capi, q1) rfl HC.out.1 HC.out.2 rfl HS.out (by rw [← HLL.out]; omega) (ex.trans e14).size ?_; intro v6 w6 op6 b6))
      exact ⟨⟨k + 1, l ++ [(g1, .slice adi M capi, q1)], by rw [← HN.out]; omega, by go_num, op6, by rw [Hst.out]; simp [vals], Below.trans (ex.trans e14) b6⟩, by simp [intOf]; omega⟩
    · have i0 : ¬ ((k : Int) < (N : Int)) := by omega
      have d0 : decide ((k : Int) < (N : Int)) = false := by simp; omega
      obtain rfl : k = N := by omega
      rw [List.take_of_length_le (by rw [← HN.out]; exact Nat.le_refl _)] at hv
      have F := Lib.hid (And.intro ex (And.intro op.pr (And.intro hv (fun (g : Nat) (W : World) (hg : g < w.heap.size) (ho : Only g wr W) => op.pr_only hg ho))))
      clear hlt hv op ex
      go_wp2
      go_ret
      exact ⟨_, l, rfl, F.out.1, F.out.2.1, F.out.2.2⟩
end Go.Proofs.YtnhokjnmpdiokaaGreatDoor
