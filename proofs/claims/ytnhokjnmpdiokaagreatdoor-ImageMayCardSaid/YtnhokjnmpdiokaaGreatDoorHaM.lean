/- Pages: how one is written, and read; what was written is read, and what is read was written. No conditions: definitions and lemmas. The contracts of mayBe, Same, Encode (the code's). -/
import Derived.Test.YtnhokjnmpdiokaaGreatDoorGc
import Derived.Test.YtnhokjnmpdiokaaGreatDoorCdM
import Derived.Laws.ResultCell
namespace Go.Proofs.YtnhokjnmpdiokaaGreatDoor
open Go.RowKit Go.Sha
set_option linter.unusedSimpArgs false
set_option linter.unusedVariables false

theorem lf_byt (n : Int) (k : Nat) : Byt (lf n k) := by
  induction k with
  | zero => intro x hx; simp [lf] at hx
  | succ k ih =>
    intro x hx
    rw [lf] at hx
    rcases List.mem_append.1 hx with hx | hx
    · exact ih x hx
    · simp at hx; subst hx; omega
theorem byt_app {a b : List Int} (ha : Byt a) (hb : Byt b) : Byt (a ++ b) := fun x hx => (List.mem_append.1 hx).elim (ha x) (hb x)
theorem eqS_iff (m n : List Int) : eqS m n = true ↔ m.map (fun n => UInt8.ofNat n.toNat) = n.map (fun n => UInt8.ofNat n.toNat) := by
  unfold eqS
  rw [beq_iff_eq, ByteArray.toList_eq, ByteArray.toList_eq, strOfNums_data, strOfNums_data]
theorem byt_inj {a b : List Int} (ha : Byt a) (hb : Byt b) (h : a.map (fun n => UInt8.ofNat n.toNat) = b.map (fun n => UInt8.ofNat n.toNat)) : a = b := by
  induction a generalizing b with
  | nil => cases b with
    | nil => rfl
    | cons y r => simp at h
  | cons x r ih => cases b with
    | nil => simp at h
    | cons y q =>
      simp only [List.map_cons, List.cons.injEq] at h
      have hx := ha x (by simp)
      have hy := hb y (by simp)
      have e : x = y := by
        have := congrArg UInt8.toNat h.1
        simp only [UInt8.toNat_ofNat'] at this
        rw [Nat.mod_eq_of_lt (by omega), Nat.mod_eq_of_lt (by omega)] at this
        omega
      rw [e, ih (fun z hz => ha z (by simp [hz])) (fun z hz => hb z (by simp [hz])) h.2]
theorem uns_byt {b m : List Int} (hb : Byt b) (h : unsL b = some m) : Byt m := by
  unfold unsL at h
  split at h
  · cases h
  · split at h
    · injection h with h
      subst h
      exact hb.take _
    · cases h
theorem uns_len {b m : List Int} (h : unsL b = some m) : m.length ≤ b.length := by
  unfold unsL at h
  split at h
  · cases h
  · split at h
    · injection h with h
      subst h
      rw [List.length_take]
      omega
    · cases h
theorem encB_len (m : List Int) : (encB m).length = 4 + m.length := by rw [encB, List.length_append, lf_length]
theorem fits_some (l : List Int) (n : Nat) (h : l.length + n < 4611686018427387904) : Fits (some l) n := fun x hx => by injection hx with hx; subst hx; exact h
theorem wNum_some (l : List Int) (n : Nat) (h : n ≤ 2147483647) : wNum (some l) (n : Int) = some (l ++ lf (n : Int) 4) := by rw [wNum, if_neg (by omega)]; rfl
theorem wst_zero (w : World) (t : Array Value) (ht : t = (zeroW false).toArray) : WSt (w.alloc (.cells t 98)) w.heap.size (some []) := by
  subst ht
  exact ⟨[], [], .pointer none, rfl, by simp, ⟨List.length_replicate .., At.new w _ 98⟩, rfl⟩
theorem zcW0 : Tryz.zeroCells98 = (zeroW false).toArray := by kernel_rfl
theorem Only.setRow (g : Nat) (w : World) (c : Array Value) : Only g w (w.setRow g c) := ⟨rfl, rfl, rfl, by rw [size_setRow]; exact Nat.le_refl _, fun k _ hk => heap_setRow _ _ _ _ hk⟩
theorem ext_only' {w w0 w1 : World} {b : Nat} (he : Ext w w0) (ho : Only b w0 w1) (hb : w.heap.size ≤ b) : Ext w w1 := ho.below he hb he.size
theorem src_nil (w : World) (b : Nat) : Src w (.slice none 0 0) [] b := ⟨none, 0, b + 1, 0, rfl, by simp, fun h => by simp at h, by omega, fun j hj => by simp at hj, fun _ => rfl⟩
theorem results_row {P : Program} {fn : Func} {p : Tmp} {ty : TypeId} (h : fn.results = #[.cell p ty]) (tmps : Array Value) (w : World) (g : Nat) (t : TypeId) (cs : Array Value) {d : TypeDesc} (hp : tmps.getD p undef = .pointer (some ⟨g, 0, none⟩)) (hg : At w g cs t)
    (hu : P.underlying ty = some d) (hd : (match d with | .struct _ | .array _ _ => true | _ => false) = true) (hi : (P.info? ty).map (·.size) = some cs.size) :
    (results fn tmps).run P w = .ok (.agg cs) w := results_cell_row h tmps w g t cs (0, 0) d hp hg hu hd hi
theorem results_row_tmp {P : Program} {fn : Func} {p u : Tmp} {ty : TypeId} (h : fn.results = #[.cell p ty, .tmp u]) (tmps : Array Value) (w : World) (g : Nat) (t : TypeId) (cs : Array Value) {d : TypeDesc} (hp : tmps.getD p undef = .pointer (some ⟨g, 0, none⟩)) (hg : At w g cs t)
    (hu : P.underlying ty = some d) (hd : (match d with | .struct _ | .array _ _ => true | _ => false) = true) (hi : (P.info? ty).map (·.size) = some cs.size) :
    (results fn tmps).run P w = .ok (.tuple #[.agg cs, tmps.getD u undef]) w := by
  rw [results_cell_tmp h, hp]
  simp only [asAddr, Sem.run_pure, Result.andThen_ok, run_loadVar_row w g t ty cs (0, 0) d hg hu hd hi]
/-- What lies apart from all blocks below n, and from what is not there yet. -/
def Far {α : Type} (R : World → Value → α → Nat → Prop) (n : Nat) (w : World) (v : Value) (a : α) : Prop := ∀ bh, bh < n ∨ w.heap.size ≤ bh → R w v a bh
theorem Far.ext {α : Type} {R : World → Value → α → Nat → Prop} (k : Kept R) {n : Nat} {w w' : World} {v : Value} {a : α} (h : Far R n w v a) (he : Ext w w') : Far R n w' v a := fun bh hb =>
  k.ext (h bh (hb.imp_right fun hb => Nat.le_trans he.size hb)) he
theorem Far.only {α : Type} {R : World → Value → α → Nat → Prop} (k : Kept R) {n g : Nat} {w w' : World} {v : Value} {a : α} (h : Far R n w v a) (ho : Only g w w') (hg : g < n) : Far R n w' v a := fun bh hb =>
  k.keep (h g (Or.inl hg)) (h bh (hb.imp_right fun hb => Nat.le_trans ho.size hb)) ho
theorem Far.less {α : Type} {R : World → Value → α → Nat → Prop} {n n' : Nat} {w : World} {v : Value} {a : α} (h : Far R n w v a) (hn : n' ≤ n) : Far R n' w v a := fun bh hb => h bh (hb.imp_left fun h => Nat.lt_of_lt_of_le h hn)
theorem Far.now {α : Type} {R : World → Value → α → Nat → Prop} {n : Nat} {w : World} {v : Value} {a : α} (h : Far R n w v a) : R w v a w.heap.size := h _ (Or.inr (Nat.le_refl _))
theorem eqS_self' (m : List Int) : eqS m m = true := by simp [eqS]
theorem eqS_byt {m n : List Int} (hm : Byt m) (hn : Byt n) : eqS m n = true ↔ m = n := by
  rw [eqS_iff]
  exact ⟨byt_inj hm hn, fun h => by rw [h]⟩
theorem wbytes_byt (x : Int) : Byt (wbytes x) := by
  intro y hy
  unfold wbytes at hy
  simp only [List.mem_cons, List.not_mem_nil, or_false] at hy
  rcases hy with h | h | h | h <;> subst h <;> omega
theorem sha_byt (m : List Int) : Byt (shaL m) := by
  intro x hx
  unfold shaL wordsB at hx
  obtain ⟨l, hl, hx⟩ := List.mem_flatten.1 hx
  obtain ⟨y, _, rfl⟩ := List.mem_map.1 hl
  exact wbytes_byt y x hx
theorem byt_nil : Byt [] := fun x hx => by simp at hx
/-- A page: its number, and its bytes. -/
abbrev Pg := Int × List Int
/-- A page, written. -/
def encP (g : Nat) (m : List Int) : List Int := lf (g : Int) 4 ++ encB m
theorem encP_len (g : Nat) (m : List Int) : (encP g m).length = 8 + m.length := by rw [encP, List.length_append, lf_length, encB_len]; omega
theorem encP_byt (g : Nat) {m : List Int} (hm : Byt m) : Byt (encP g m) := byt_app (lf_byt _ _) (byt_app (lf_byt _ _) hm)
/-- Its limits. -/
def mayP (p : Pg) : Bool := decide (1 ≤ p.1) && decide (p.1 ≤ 2147483647) && decide (p.2.length ≤ 60000)
/-- What is read of the fields. -/
def fieldsP (x : List Int) : Option Pg :=
  if (rCnt (rNum x 0).2.1 (rNum x 0).2.2 60000).2.2 = 0 ∧ (rCnt (rNum x 0).2.1 (rNum x 0).2.2 60000).2.1.length = 0 ∧ 1 ≤ (rNum x 0).1 then some ((rNum x 0).1, (rCnt (rNum x 0).2.1 (rNum x 0).2.2 60000).1) else none
/-- A page, read. -/
def decP (b : List Int) : Option Pg :=
  match unsL b with
  | none => none
  | some x => fieldsP x
theorem seal_byt {x : List Int} (h : Byt x) : Byt (sealL x) := byt_app h (sha_byt x)
/-- Are two alike? -/
def sameP (p q : Pg) : Bool := (p.1 == q.1) && eqS p.2 q.2
end Go.Proofs.YtnhokjnmpdiokaaGreatDoor

namespace Go.Proofs.YtnhokjnmpdiokaaGreatDoor
open Go.RowKit Go.Sha
set_option linter.unusedSimpArgs false
set_option linter.unusedVariables false

set_option maxHeartbeats 1000000 in
theorem mayP_any (g : Int) (ad : Option Addr) (n cap : Nat) (w : World) :
    Calls Tryz.prog 76 #[.agg #[.int .i64 g, .slice ad n cap]] w fun e w' => e = .returned (.bool (decide (1 ≤ g) && decide (g ≤ 2147483647) && decide (n ≤ 60000))) ∧ Ext w w' := by
  obtain ⟨B1, h1⟩ : ∃ B, decide (1 ≤ g) = B := ⟨_, rfl⟩
  obtain ⟨B2, h2⟩ : ∃ B, decide (g ≤ 2147483647) = B := ⟨_, rfl⟩
  obtain ⟨B3, h3⟩ : ∃ B, decide (n ≤ 60000) = B := ⟨_, rfl⟩
  have h4 : decide ((n : Int) ≤ 60000) = B3 := by rw [← h3, decide_eq_decide]; omega
  rw [h1, h2, h3]
  cases B1
  · clear h2 h3 h4
    go_enter Tryz.func76, Tryz.ntmps76
    go_wp2
    go_ret
    exact ⟨rfl, Ext.alloc w _⟩
  cases B2
  · clear h3 h4
    go_enter Tryz.func76, Tryz.ntmps76
    go_wp2
    go_ret
    exact ⟨rfl, Ext.alloc w _⟩
  cases B3
  · go_enter Tryz.func76, Tryz.ntmps76
    go_wp2
    go_ret
    exact ⟨rfl, Ext.alloc w _⟩
  · go_enter Tryz.func76, Tryz.ntmps76
    go_wp2
    go_ret
    exact ⟨rfl, Ext.alloc w _⟩

set_option maxHeartbeats 1000000 in
theorem sameP_any (g k : Int) (m l : List Int) (v u : Value) (w : World) (h : Src w v m w.heap.size) (h' : Src w u l w.heap.size) :
    Calls Tryz.prog 114 #[.agg #[.int .i64 g, v], .agg #[.int .i64 k, u]] w fun e w' => e = .returned (.bool (sameP (g, m) (k, l))) ∧ Ext w w' := by
  obtain ⟨ad, cap, ev⟩ := h.len
  subst ev
  obtain ⟨ad', cap', ev⟩ := h'.len
  subst ev
  unfold sameP
  simp only
  obtain ⟨n, hn⟩ : ∃ n, n = m.length := ⟨_, rfl⟩
  obtain ⟨n', hn'⟩ : ∃ n, n = l.length := ⟨_, rfl⟩
  rw [← hn] at h ⊢
  rw [← hn'] at h' ⊢
  clear hn hn'
  have e0 : Ext w ((w.alloc (.cells #[.int .i64 g, .slice ad n cap] 108)).alloc (.cells #[.int .i64 k, .slice ad' n' cap'] 108)) := (Ext.alloc w _).trans (Ext.alloc _ _)
  have DE := beq_any _ _ m l _ (h.now e0) (h'.now e0)
  obtain ⟨B1, d1⟩ : ∃ B, (g == k) = B := ⟨_, rfl⟩
  obtain ⟨B2, d2⟩ : ∃ B, eqS m l = B := ⟨_, rfl⟩
  rw [d1, d2]
  rw [d2] at DE
  clear h h' d2
  cases B1
  · clear DE
    go_enter Tryz.func114, Tryz.ntmps114
    go_wp2
    go_ret
    exact ⟨rfl, e0⟩
  · have a1 : At ((w.alloc (.cells #[.int .i64 g, .slice ad n cap] 108)).alloc (.cells #[.int .i64 k, .slice ad' n' cap'] 108)) w.heap.size #[.int .i64 g, .slice ad n cap] 108 := (At.new w _ _).alloc _
    have a2 := At.new1 w (.cells #[.int .i64 g, .slice ad n cap] 108) #[.int .i64 k, .slice ad' n' cap'] 108
    have f1 := a1.cell 1
    have g1 := a2.cell 1
    go_enter Tryz.func114, Tryz.ntmps114
    go_wp2_with fail
    refine DE.mono ?_
    rintro e w' ⟨rfl, rfl⟩
    clear DE
    cases B2
    · go_wp2
      go_ret
      exact ⟨rfl, e0⟩
    · go_wp2
      go_ret
      exact ⟨rfl, e0⟩

end Go.Proofs.YtnhokjnmpdiokaaGreatDoor
