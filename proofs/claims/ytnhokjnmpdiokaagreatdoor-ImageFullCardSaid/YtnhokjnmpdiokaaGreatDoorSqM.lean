/- What a Hasher in memory has had: plain facts on lists of bytes, blocks and chains. No conditions: definitions and lemmas. The contract of '(*Hasher).Add'. The contracts of Len, padding and asBytes. The contracts of '(*Hasher).Sum' and 'Sum'. -/
import Derived.Test.YtnhokjnmpdiokaaGreatDoorSpec
import Derived.Laws.AppendOwnNone
import Derived.OwnWalk
import Derived.Test.YtnhokjnmpdiokaaGreatDoorWaM
import Derived.Deep.OwnRows
namespace Go.Sha
open Go.RowKit

def chainB (bks : List (List Int)) : List Int := bks.foldl mixL iv
theorem chainB_length (bks : List (List Int)) : (chainB bks).length = 8 := by
  unfold chainB
  have : ∀ (l : List (List Int)) (c : List Int), c.length = 8 → (l.foldl mixL c).length = 8 := by
    intro l
    induction l with
    | nil => intro c h; exact h
    | cons x r ih => intro c _; exact ih _ (mixL_length _ _)
  exact this bks iv iv_length
theorem chainB_snoc (bks : List (List Int)) (x : List Int) : chainB (bks ++ [x]) = mixL (chainB bks) x := by simp [chainB]

def pad64 (t : List Int) : List Int := t ++ List.replicate (64 - t.length) 0
structure RepB (w : World) (b : Nat) (l : List Int) (bks : List (List Int)) (t ch : List Int) : Prop where
  h64 : ∀ x ∈ bks, x.length = 64
  hl : l = bks.flatten ++ t
  ht : t.length < 64
  hc : bks = [] ∨ ch = chainB bks
  hat : Hat w b ch bks.length (pad64 t) t.length
def Rep (w : World) (b : Nat) (l : List Int) : Prop := ∃ bks t ch, RepB w b l bks t ch

theorem flat_length (bks : List (List Int)) (h : ∀ x ∈ bks, x.length = 64) : bks.flatten.length = 64 * bks.length := by
  induction bks with
  | nil => rfl
  | cons x r ih =>
    have h1 := h x (by simp)
    have h2 := ih (fun y hy => h y (by simp [hy]))
    simp only [List.flatten_cons, List.length_append, List.length_cons, h1, h2]; omega
theorem RepB.len {w : World} {b : Nat} {l : List Int} {bks : List (List Int)} {t ch : List Int} (h : RepB w b l bks t ch) : l.length = 64 * bks.length + t.length := by
  rw [h.hl, List.length_append, flat_length _ h.h64]
theorem Rep.only {w w' : World} {b c : Nat} {l : List Int} (h : Rep w b l) (ho : Only c w w') (hb : b ≠ c) : Rep w' b l := by
  obtain ⟨bks, t, ch, h⟩ := h
  exact ⟨bks, t, ch, h.h64, h.hl, h.ht, h.hc, h.hat.only ho hb⟩
theorem Rep.below {w w' : World} {b : Nat} {l : List Int} (h : Rep w b l) (ho : Below w.heap.size w w') : Rep w' b l := by
  obtain ⟨bks, t, ch, h⟩ := h
  exact ⟨bks, t, ch, h.h64, h.hl, h.ht, h.hc, h.hat.below ho⟩
theorem Rep.lt {w : World} {b : Nat} {l : List Int} (h : Rep w b l) : b < w.heap.size := by
  obtain ⟨bks, t, ch, h⟩ := h
  exact h.hat.at_.lt

theorem splice_mid (ch : List Int) (n : Nat) (wt : List Int) (k o : Nat) (x : List Int) (h8 : ch.length = 8) (h64 : wt.length = 64) (ho : o + x.length ≤ 64) :
    splice (hcl ch n wt k) (9 + o) (x.map (Value.int .u8)) = hcl ch n (wt.take o ++ x ++ wt.drop (o + x.length)) k := by
  unfold splice hcl
  rw [List.take_append, List.drop_append, List.take_of_length_le (by simp [h8]; omega), List.drop_of_length_le (by simp [h8]; omega)]
  simp only [List.length_map, h8]
  rw [show 9 + o - 8 = o + 1 by omega, show 9 + o + x.length - 8 = (o + x.length) + 1 by omega, List.take_succ_cons, List.drop_succ_cons]
  rw [List.take_append_of_le_length (by simp [h64]; omega), List.drop_append_of_le_length (by simp [h64]; omega)]
  simp [List.map_take, List.map_drop]
theorem Hat.set_mid {w : World} {b : Nat} {ch : List Int} {n : Nat} {wt : List Int} {k : Nat} (h : Hat w b ch n wt k) (o : Nat) (x : List Int) (ho : o + x.length ≤ 64) :
    Hat (w.setCells b (9 + o) (x.map (Value.int .u8))) b ch n (wt.take o ++ x ++ wt.drop (o + x.length)) k := by
  refine ⟨h.h8, by simp [h.h64]; omega, ?_⟩
  have := At.cells (t := 175) (x.map (Value.int .u8)) (hcl ch n wt k) (9 + o) w h.at_ (by rw [hcl_length ch n wt k h.h8 h.h64]; simp; omega)
  rwa [splice_mid ch n wt k o x h.h8 h.h64 ho] at this
theorem pad64_put (t x : List Int) : (pad64 t).take t.length ++ x ++ (pad64 t).drop (t.length + x.length) = pad64 (t ++ x) := by
  unfold pad64
  rw [List.take_append_of_le_length (by omega), List.take_of_length_le (by omega), List.drop_append]
  rw [List.drop_of_length_le (by omega)]
  simp; omega
theorem pad64_full (t : List Int) (h : t.length = 64) : pad64 t = t := by simp [pad64, h]
theorem pad64_nil : pad64 [] = List.replicate 64 0 := by simp [pad64]

theorem RepB.more {w w' : World} {b : Nat} {l : List Int} {bks : List (List Int)} {t ch : List Int} (h : RepB w b l bks t ch) (x : List Int) (hx : t.length + x.length < 64)
    (hat : Hat w' b ch bks.length (pad64 (t ++ x)) (t.length + x.length)) : RepB w' b (l ++ x) bks (t ++ x) ch :=
  ⟨h.h64, by rw [h.hl, List.append_assoc], by simp; omega, h.hc, by simpa using hat⟩
theorem RepB.full {w w' : World} {b : Nat} {l : List Int} {bks : List (List Int)} {t ch : List Int} (h : RepB w b l bks t ch) (x : List Int) (hx : t.length + x.length = 64)
    (hat : Hat w' b (mixL (if bks.length = 0 then iv else ch) (pad64 (t ++ x))) (bks.length + 1) (List.replicate 64 0) 0) : Rep w' b (l ++ x) := by
  have e : pad64 (t ++ x) = t ++ x := pad64_full _ (by simp; omega)
  have ec : mixL (if bks.length = 0 then iv else ch) (t ++ x) = chainB (bks ++ [t ++ x]) := by
    rw [chainB_snoc]
    rcases h.hc with h0 | h0
    · subst h0; rfl
    · by_cases hz : bks.length = 0
      · have : bks = [] := List.length_eq_zero_iff.1 hz
        subst this; rfl
      · rw [if_neg hz, h0]
  refine ⟨bks ++ [t ++ x], [], chainB (bks ++ [t ++ x]), ?_, ?_, by simp, Or.inr rfl, ?_⟩
  · intro y hy
    rcases List.mem_append.1 hy with hy | hy
    · exact h.h64 y hy
    · simp at hy; subst hy; simp; omega
  · rw [h.hl]; simp
  · rw [pad64_nil, ← ec]
    rw [e] at hat
    simpa using hat

def chunks : Nat → List Int → List (List Int)
  | 0, _ => []
  | n + 1, p => p.take 64 :: chunks n (p.drop 64)
theorem chunks_flatten (bks : List (List Int)) (h : ∀ x ∈ bks, x.length = 64) : chunks bks.length bks.flatten = bks := by
  induction bks with
  | nil => rfl
  | cons x r ih =>
    have h1 := h x (by simp)
    have h2 := ih (fun y hy => h y (by simp [hy]))
    simp only [List.length_cons, List.flatten_cons, chunks]
    rw [List.take_append_of_le_length (by omega), List.take_of_length_le (by omega), List.drop_append, List.drop_of_length_le (by omega), h1]
    simp [h2]
def chainOf (p : List Int) : List Int := chainB (chunks (p.length / 64) p)
theorem Rep.chain {w : World} {b : Nat} {p : List Int} (h : Rep w b p) (h0 : 0 < p.length) (hp : p.length % 64 = 0) : ∃ n wt k, Hat w b (chainOf p) n wt k := by
  obtain ⟨bks, t, ch, h⟩ := h
  have hl := h.len
  have ht := h.ht
  have e : t = [] := List.length_eq_zero_iff.1 (by omega)
  subst e
  have hl' : p.length = 64 * bks.length := by rw [hl]; simp
  have hn : bks ≠ [] := fun e => by (have : bks.length = 0 := by rw [e]; rfl); omega
  have hc : ch = chainB bks := h.hc.resolve_left hn
  have e2 : chainOf p = chainB bks := by
    unfold chainOf
    have hd : p.length / 64 = bks.length := by omega
    rw [hd, show p = bks.flatten by simpa using h.hl, chunks_flatten _ h.h64]
  rw [e2, ← hc]
  exact ⟨_, _, _, h.hat⟩
theorem chainOf_length (p : List Int) : (chainOf p).length = 8 := chainB_length _

def Src (w : World) (v : Value) (m : List Int) (bh : Nat) : Prop :=
  ∃ ad cap sb so, v = .slice ad m.length cap ∧ m.length ≤ cap ∧ (0 < m.length → ad = some ⟨sb, so, none⟩) ∧ sb ≠ bh ∧ (∀ j, j < m.length → w.cell? ⟨sb, so + j, none⟩ = some (.int .u8 (m[j]?.getD 0))) ∧ (ad = none → cap = 0)
theorem Src.only {w w' : World} {v : Value} {m : List Int} {bh : Nat} (h : Src w v m bh) (ho : Only bh w w') : Src w' v m bh := by
  obtain ⟨ad, cap, sb, so, h1, h2, h3, h4, h5, h6⟩ := h
  exact ⟨ad, cap, sb, so, h1, h2, h3, h4, fun j hj => by rw [← h5 j hj]; exact World.cell?_of_block (ho.block sb (World.block_lt_of_cell? w _ (h5 j hj)) h4), h6⟩
theorem Src.below {w w' : World} {v : Value} {m : List Int} {bh : Nat} (h : Src w v m bh) (ho : Below w.heap.size w w') : Src w' v m bh := h.only (Only.of_below ho)
theorem Src.other {w : World} {v : Value} {m : List Int} {bh c : Nat} (h : Src w v m bh) (hc : w.heap.size ≤ c) : Src w v m c := by
  obtain ⟨ad, cap, sb, so, h1, h2, h3, h4, h5, h6⟩ := h
  by_cases hm : 0 < m.length
  · have := World.block_lt_of_cell? w _ (h5 0 hm)
    exact ⟨ad, cap, sb, so, h1, h2, h3, by simp at this; omega, h5, h6⟩
  · exact ⟨ad, cap, c + 1, so, h1, h2, fun h => absurd h hm, by omega, fun j hj => by omega, h6⟩
theorem Src.of_below {w w' : World} {v : Value} {m : List Int} {bh c : Nat} (h : Src w v m bh) (hb : Below w.heap.size w w') (hc : w.heap.size ≤ c) : Src w' v m c := (h.other hc).only (Only.of_below hb)
theorem Src.of_at {w : World} {g : Nat} {m : List Int} {t : TypeId} {bh : Nat} (h : At w g (bs m) t) (hb : g ≠ bh) (cap : Nat) (hc : m.length ≤ cap) : Src w (.slice (some ⟨g, 0, none⟩) m.length cap) m bh :=
  ⟨_, cap, g, 0, rfl, hc, fun _ => rfl, hb, fun j hj => by rw [Nat.zero_add]; exact h.get_bs j hj, fun h => by cases h⟩
def OwnB (w : World) (base : Nat) (v : Value) (m : List Int) : Prop := w.ownsRow base 5 1 v m.length (m.map (Value.int .u8))
theorem OwnB.src {w : World} {base : Nat} {v : Value} {m : List Int} (h : OwnB w base v m) (bh : Nat) (hb : bh < base) : Src w v m bh := by
  obtain ⟨_, ⟨rfl, h0⟩ | ⟨g, cap, cur, rfl, hg, hw, hn, _, _, hx⟩⟩ := h
  · have : m = [] := List.length_eq_zero_iff.1 h0
    subst this
    exact ⟨none, 0, bh + 1, 0, rfl, by simp, fun h => by simp at h, by omega, fun j hj => by simp at hj, fun _ => rfl⟩
  · refine ⟨_, cap, g, 0, rfl, hn, fun _ => rfl, by omega, fun j hj => ?_, fun h => by cases h⟩
    have hw' : w.heap[g]? = some (.cells cur 5 (0, 0)) := hw
    have e : cur.toList[j]? = (m.map (Value.int .u8))[j]? := by rw [← hx, List.getElem?_take_of_lt (by omega)]
    rw [Nat.zero_add]
    simp only [World.cell?, hw']
    rw [← Array.getElem?_toList, e, List.getElem?_map, List.getElem?_eq_getElem hj]; rfl
theorem list_append_bytes {P : Program} {w : World} {ops : Array Oper} {rest : List Oper} {o : Oper} {a : Act} {Q : Exit → Act → World → Prop} (hgd : o.guard = none) (s x : Operand) (t : TypeId)
    (ho : o.op = .call { callee := .builtin .append, args := #[s, x], argTypes := #[t, t] }) (ht : P.underlying t = some (.slice 5)) (hi : (P.info? 5).map (fun i => (i.zero, i.size, i.bytes)) = some (some (.int .u8 0), 1, 1))
    (base : Nat) (v : Value) (m : List Int) (hs : a.eval s = v) (hown : OwnB w base v m) (vx : Value) (z : List Int) (bh : Nat) (hx : a.eval x = vx) (hz : Src w vx z bh) (hl : m.length + z.length ≤ 70368744177664) (hbase : base ≤ w.heap.size)
    (h : ∀ v' w', OwnB w' base v' (m ++ z) → w.grownBy w' v.ownBlock → wpList P ops Q rest (a.put o.dst v') w') : wpList P ops Q (o :: rest) a w := by
  obtain ⟨i, hi', hzz⟩ := Option.map_eq_some_iff.1 hi
  simp only [Prod.mk.injEq] at hzz
  obtain ⟨hz1, hz2, hz3⟩ := hzz
  obtain ⟨ad, cap, sb, so, rfl, h2, h3, h4, h5, h6⟩ := hz
  cases ad with
  | none =>
    have h0 : z = [] := List.length_eq_zero_iff.1 (Nat.eq_zero_of_not_pos fun hp => by cases h3 hp)
    subst h0
    obtain rfl := h6 rfl
    refine wpList_append_own_none hgd s x t ho base 5 i 1 ht hi' v m.length (m.map (Value.int .u8)) hs hown hx ?_
    exact h v w (by simpa using hown) (World.grownBy.refl _ _)
  | some A =>
    refine wpList_append_own w hgd s x t ho base 5 i (.int .u8 0) 1 1 ht hi' hz1 hz2 hz3 rfl (by omega) v m.length (m.map (Value.int .u8)) hs hown A z.length cap (z.map (Value.int .u8)) hx (by simp) ?_ (by simp [Value.oneCell']) (by unfold maxLen; omega) (by omega) hbase ?_
    · intro j u hu
      have hj : j < z.length := by simpa using (List.getElem?_eq_some_iff.1 hu).1
      obtain rfl : A = ⟨sb, so, none⟩ := by have := h3 (by omega); injection this
      rw [Addr.add_mid, h5 j hj, ← hu, List.getElem?_map, List.getElem?_eq_getElem hj]; rfl
    · intro v' w' h7 h8 _
      refine h v' w' ?_ h8
      unfold OwnB
      simpa using h7

def sliceLen : Value → Nat | .slice _ n _ => n | _ => 0

theorem list_copy {P : Program} {w : World} {ops : Array Oper} {rest : List Oper} {o : Oper} {a : Act} {Q : Exit → Act → World → Prop} (hgd : o.guard = none) (d s : Operand) (dT sT : TypeId)
    (ho : o.op = .call { callee := .builtin .copy, args := #[d, s], argTypes := #[dT, sT] }) (elem : TypeId) (hu : P.underlying dT = some (.slice elem)) (hsz : (P.info? elem).map (·.size) = some 1)
    (b off dLen dCap : Nat) (ad : Addr) (sLen sCap : Nat) (hd : a.eval d = .slice (some ⟨b, off, none⟩) dLen dCap) (hs : a.eval s = .slice (some ad) sLen sCap)
    (cs : List Value) (q : Nat) (hq : cs.length = q) (hn : q = Nat.min sLen dLen) (hsrc : ∀ j v, cs[j]? = some v → w.cell? (ad.add j) = some v) (ht : w.there b off q) (h1 : ∀ v ∈ cs, v.oneCell' = true)
    (h : wpList P ops Q rest (a.put o.dst (.int .i64 q)) (w.setCells b off cs)) : wpList P ops Q (o :: rest) a w := by
  subst hq
  refine wpList_plain hgd fun K hK => ?_
  have hrun := run_copy_cells (P := P) w dT sT o.type elem b off dLen dCap ad sLen sCap cs hu hsz hn hsrc (fun j hj => (ht j hj).1) (fun j hj => (ht j hj).2) h1
  unfold Oper.wp
  simp [execOp, ho, resolve, invoke, builtin, hd, hs, hrun, Result.andThen]
  exact hK _ _ h

theorem list_append_room {P : Program} {ops : Array Oper} {rest : List Oper} {o : Oper} {a : Act} {w : World} {Q : Exit → Act → World → Prop}
    (hg : o.guard = none) (s x : Operand) (t : TypeId) (hop : o.op = Op.call { callee := Callee.builtin Builtin.append, args := #[s, x], argTypes := #[t, t] })
    (e : TypeId) (h1 : P.underlying t = some (.slice e)) (h2 : (P.info? e).map (·.size) = some 1)
    (b off n cap : Nat) (hs : a.eval s = .slice (some ⟨b, off, none⟩) n cap)
    (ad : Addr) (m c : Nat) (news : List Value) (hx : a.eval x = .slice (some ad) m c) (hn : news.length = m) (hc : ∀ j u, news[j]? = some u → w.cell? (ad.add j) = some u) (h1c : ∀ u ∈ news, u.oneCell' = true)
    (hroom : n + m ≤ cap) (hspare : w.there b (off + n) m)
    (h : wpList P ops Q rest (a.put o.dst (.slice (some ⟨b, off, none⟩) (n + m) cap)) (w.setCells b (off + n) news)) : wpList P ops Q (o :: rest) a w := by
  refine wpList_plain hg fun K hK => ?_
  obtain ⟨i, hi, hz⟩ := Option.map_eq_some_iff.1 h2
  subst hn
  have hrun := run_append_room_cells (P := P) w t o.type e i h1 hi b off n cap ad news.length c news (by rw [hz]; simp) hc h1c hroom (fun j hj => by rw [hz, Nat.mul_one]; exact (hspare j hj).1) (fun j hj => by rw [hz, Nat.mul_one]; exact (hspare j hj).2)
  rw [hz, Nat.mul_one] at hrun
  unfold Oper.wp
  simp [execOp, hop, resolve, invoke, builtin, hs, hx, hrun, Result.andThen]
  exact hK _ _ h

theorem run_index_ws {P : Program} (t e : TypeId) (n : Nat) (l : List Int) (i : Nat) (w : World) (hl : l.length = n) (h : P.underlying t = some (.array n e)) (he : P.underlying e = some (.int .u32)) (hz : (P.info? e).map (·.size) = some 1) (hi : i < n) :
    (Instr.index t (.agg (ws l)) (.int .i64 (i : Int))).run P w = .ok (.int .u32 (l[i]?.getD 0)) w := by
  obtain ⟨j, hj, hz⟩ := Option.map_eq_some_iff.1 hz
  have hg' : l[i]? = some (l[i]'(by omega)) := List.getElem?_eq_getElem (by omega)
  simp [Instr.index, run_underlying h, asIntOf, part, isAgg, run_underlying he, sizeOf, typeInfo, hj, hz, hg', ws]
  omega

def padSize (n : Nat) : Nat := if 64 - n % 64 < 9 then 128 - n % 64 else 64 - n % 64
def cntByte (n i : Nat) : Int := IntKind.u64.wrap ((n : Int) * 8) / 2 ^ (8 * i) % 256
def padAt (n : Nat) : Nat → List Int
  | 0 => (List.replicate (padSize n) 0).set 0 128
  | i + 1 => (padAt n i).set (padSize n - 1 - i) (cntByte n i)
theorem padAt_length (n i : Nat) : (padAt n i).length = padSize n := by
  induction i with
  | zero => simp [padAt]
  | succ i ih => simp [padAt, ih]
def padL (n : Nat) : List Int := padAt n 8
theorem padL_length (n : Nat) : (padL n).length = padSize n := padAt_length n 8
theorem padSize_pos (n : Nat) : 9 ≤ padSize n ∧ padSize n ≤ 72 := by unfold padSize; split <;> omega
theorem padSize_whole (n : Nat) : (n + padSize n) % 64 = 0 := by unfold padSize; split <;> omega
theorem bs_set (l : List Int) (k : Nat) (v : Int) : (bs l).setIfInBounds k (.int .u8 v) = bs (l.set k v) := by
  unfold bs; apply Array.ext'; simp [List.map_set]
theorem made_bs (n : Nat) : madeCells #[Value.int .u8 0] n = bs (List.replicate n 0) := by
  apply Array.ext'; rw [toList_madeCells_one]; simp [bs]

def wbytes (x : Int) : List Int := [x / 16777216 % 256, x / 65536 % 256, x / 256 % 256, x % 256]
def wordsB (l : List Int) : List Int := (l.map wbytes).flatten
theorem wordsB_length (l : List Int) : (wordsB l).length = 4 * l.length := by
  unfold wordsB
  induction l with
  | nil => rfl
  | cons x r ih => simp only [List.map_cons, List.flatten_cons, List.length_append, ih, List.length_cons, wbytes, List.length_nil]; omega
theorem wordsB_snoc (l : List Int) (x : Int) : wordsB (l ++ [x]) = wordsB l ++ wbytes x := by simp [wordsB]

theorem At.put_bs {w : World} {b : Nat} {t : TypeId} {l : List Int} (h : At w b (bs l) t) (o : Nat) (x : List Int) (ho : o + x.length ≤ l.length) :
    At (w.setCells b o (x.map (Value.int .u8))) b (bs (l.take o ++ x ++ l.drop (o + x.length))) t := by
  have := At.cells (t := t) (b := b) (x.map (Value.int .u8)) (l.map (Value.int .u8)) o w h (by simpa using ho)
  have e : splice (l.map (Value.int .u8)) o (x.map (Value.int .u8)) = (l.take o ++ x ++ l.drop (o + x.length)).map (Value.int .u8) := by
    simp [splice, List.map_take, List.map_drop]
  rwa [e] at this
theorem At.there_bs {w : World} {b : Nat} {t : TypeId} {l : List Int} (h : At w b (bs l) t) (o n : Nat) (ho : o + n ≤ l.length) : w.there b o n := fun j hj => by
  refine ⟨?_, h.frozen _⟩
  rw [h.cell, bs_get l (o + j) (by omega)]; rfl
theorem At.range_bs {w : World} {b : Nat} {t : TypeId} {l : List Int} (h : At w b (bs l) t) : ∀ j u, (l.map (Value.int .u8))[j]? = some u → w.cell? ((⟨b, 0, none⟩ : Addr).add j) = some u := fun j u hu => by
  rw [Addr.add_mid, Nat.zero_add, h.cell, ← hu]; simp [bs]
theorem below_setCells {B b : Nat} {a : World} : ∀ (vs : List Value) (o : Nat) (w : World), Below B a w → B ≤ b → Below B a (w.setCells b o vs)
  | [], _, _, h, _ => h
  | v :: r, o, _, h, hb => below_setCells r (o + 1) _ (h.setCell (p := ⟨b, o, none⟩) hb v) hb
theorem size_setCells (b : Nat) : ∀ (vs : List Value) (o : Nat) (w : World), (w.setCells b o vs).heap.size = w.heap.size
  | [], _, _ => rfl
  | v :: r, o, w => by rw [World.setCells, size_setCells b r]; simp [World.setCell]

def shaL (l : List Int) : List Int := wordsB (chainOf (l ++ padL l.length))

theorem shaL_length (l : List Int) : (shaL l).length = 32 := by rw [shaL, wordsB_length, chainOf_length]
def SumPost (w : World) (l : List Int) (e : Ending) (w' : World) : Prop :=
  ∃ g, e = .returned (.slice (some ⟨g, 0, none⟩) 32 32) ∧ w.heap.size ≤ g ∧ Below w.heap.size w w' ∧ At w' g (bs (shaL l)) 5

end Go.Sha

namespace Go.Proofs.YtnhokjnmpdiokaaGreatDoor
open Go.RowKit Go.Sha

theorem sz5 : (Tryz.prog.info? 5).map (·.size) = some 1 := by kernel_rfl

def InvA (w : World) (bh : Nat) (l m : List Int) (sb so : Nat) (v : Value) (wr : World) : Prop :=
  ∃ j ad c, j ≤ m.length ∧ v = .slice ad (m.length - j) c ∧ m.length - j ≤ c ∧ (j < m.length → ad = some ⟨sb, so + j, none⟩) ∧ Only bh w wr ∧ Rep wr bh (l ++ m.take j)

theorem inv_close (w w' : World) (bh : Nat) (l m x : List Int) (sb so j q r c2 : Nat) (ad ad0 : Option Addr) (c : Nat) (hj : j < m.length) (hr : r = m.length - j) (hq0 : 0 < q) (hqr : q ≤ r) (hc : r - q ≤ c2) (hxs : m.take j ++ x = m.take (j + q))
    (had : q < r → ad = some ⟨sb, so + j + q, none⟩) (ho : Only bh w w') (hrep : Rep w' bh ((l ++ m.take j) ++ x)) :
    InvA w bh l m sb so (.slice ad (r - q) c2) w' ∧ sliceLen (.slice ad (r - q) c2) < sliceLen (.slice ad0 r c) := by
  refine ⟨⟨j + q, _, c2, by omega, by rw [show m.length - (j + q) = r - q by omega], by omega, fun h => ?_, ho, ?_⟩, ?_⟩
  · rw [had (by omega), Nat.add_assoc]
  · rw [List.append_assoc, hxs] at hrep; exact hrep
  · show r - q < r; omega

set_option maxHeartbeats 1000000 in
set_option maxRecDepth 100000 in
theorem add_any (bh : Nat) (l m : List Int) (v : Value) (ad : Option Addr) (cap sb so : Nat) (w : World) (hK : KAt w) (hb0 : bh ≠ 3) (hr : Rep w bh l) (hlen : l.length + m.length < 4611686018427387904)
    (hv : v = .slice ad m.length cap) (hcap : m.length ≤ cap) (had : 0 < m.length → ad = some ⟨sb, so, none⟩) (hsb : sb ≠ bh) (hm : ∀ j, j < m.length → w.cell? ⟨sb, so + j, none⟩ = some (.int .u8 (m[j]?.getD 0))) :
    Calls Tryz.prog 126 #[.pointer (some ⟨bh, 0, none⟩), v] w fun e w' => e = .returned (.pointer (some ⟨bh, 0, none⟩)) ∧ Only bh w w' ∧ Rep w' bh (l ++ m) := by
  subst hv
  have HK := Lib.hid hK; clear hK
  have Hr := Lib.hid hr; clear hr
  have Hm := Lib.hid hm; clear hm
  have Ha := Lib.hid had; clear had
  go_enter Tryz.func126, Tryz.ntmps126
  go_wp2
  go_loopw [1] (fun v wr => InvA w bh l m sb so v wr) (fun v _ => sliceLen v)
  case atStart => exact ⟨0, ad, cap, by omega, by simp, by simpa using hcap, fun h => by simpa using Ha.out h, Only.refl _ _, by simpa using Hr.out⟩
  case round =>
    obtain ⟨j, ad', c, hj, rfl, hc, had', ho, hrep⟩ := hrel
    by_cases hlt : j < m.length
    · have e := had' hlt
      subst e
      clear had'
      obtain ⟨bks, t, ch, hR⟩ := hrep
      have hat := hR.hat
      have ck := hat.cell_k
      have ht := hR.ht
      obtain ⟨k, hk⟩ : ∃ k, k = t.length := ⟨_, rfl⟩
      obtain ⟨r, hrr⟩ : ∃ r, r = m.length - j := ⟨_, rfl⟩
      rw [← hk] at ck ht
      rw [← hrr] at hc ⊢
      have hr0 : 0 < r := by omega
      have Hk := Lib.hid hk; clear hk
      have Hrr := Lib.hid hrr; clear hrr
      have hl1 : (0 : Int) ≤ (k : Int) := by omega
      have hl2 : (k : Int) ≤ 64 := by omega
      have hrB : (decide (0 < r)) = true := by simpa using hr0
      have hne : ¬ (64 = k) := by omega
      obtain ⟨x, hx⟩ : ∃ x, x = (m.drop j).take (min r (64 - k)) := ⟨_, rfl⟩
      obtain ⟨q, hq⟩ : ∃ q, q = min r (64 - k) := ⟨_, rfl⟩
      have hxl : x.length = q := by rw [hx, hq, List.length_take, List.length_drop, ← Hrr.out]; omega
      have hxg : ∀ i, i < q → x[i]?.getD 0 = m[j + i]?.getD 0 := fun i hi => by rw [hx, List.getElem?_take_of_lt (by omega), List.getElem?_drop]
      have hxs : m.take j ++ x = m.take (j + q) := by rw [hx, hq, List.take_add]
      have hq0 : 0 < q := by omega
      have hqr : q ≤ r := by omega
      have hq64 : k + q ≤ 64 := by omega
      have hjq : r - q = m.length - (j + q) := by have := Hrr.out; omega
      have Hq := Lib.hid hq; clear hq
      have hsrc : ∀ i v, (x.map (Value.int .u8))[i]? = some v → wr.drew.cell? ((⟨sb, so + j, none⟩ : Addr).add i) = some v := fun i v hv => by
        have hi : i < q := by rw [← hxl]; simpa using (List.getElem?_eq_some_iff.1 hv).1
        rw [Addr.add_mid]
        have h1 := Hm.out (j + i) (by have := Hrr.out; omega)
        have h2 : wr.cell? ⟨sb, so + j + i, none⟩ = w.cell? ⟨sb, so + j + i, none⟩ := World.cell?_of_block (ho.block sb (World.block_lt_of_cell? w _ h1) hsb)
        show wr.cell? _ = _
        rw [h2, Nat.add_assoc, h1, ← hxg i hi, ← hv, List.getElem?_map]
        rw [List.getElem?_eq_getElem (by omega)]; rfl
      have hthere : wr.drew.there bh (9 + k) q := hat.drew.there (9 + k) q (by omega)
      have hmid := hat.drew.set_mid k x (by omega)
      rw [Hk.out, pad64_put, ← Hk.out] at hmid
      have hon := ho.drew.trans (Only.cells bh (x.map (Value.int .u8)) (9 + k) wr.drew)
      have Hsrc := Lib.hid hsrc; clear hsrc
      have Hxl := Lib.hid hxl; clear hxl
      have Hxs := Lib.hid hxs; clear hxs hxg hx
      have Hjq := Lib.hid hjq; clear hjq
      go_wp2
      go_still_tail 9, (by kernel_rfl)
      change wpList _ _ _ _ _ wr.drew
      refine list_copy rfl (.tmp 18) (.tmp 19) 50 50 rfl 5 Tryz.underlying50 sz5 bh (9 + k) (64 - k) (64 - k) ⟨sb, so + j, none⟩ r c rfl rfl (x.map (Value.int .u8)) q (by rw [List.length_map]; exact Hxl.out) Hq.out Hsrc.out hthere (by simp [Value.oneCell']) ?_
      generalize wr.drew.setCells bh (9 + k) (x.map (Value.int .u8)) = w2 at *
      simp only [Act.put, List.setIfInBounds_toArray, List.set_cons_zero, List.set_cons_succ]
      clear ck hat hthere Hsrc ho
      have ck := hmid.cell_k
      have fk := hmid.frozen 73
      have b1 : (0 : Int) ≤ (q : Int) := by omega
      have b2 : (q : Int) ≤ (r : Int) := by omega
      have h3 : Hat (w2.setCell ⟨bh, 73, none⟩ (.int .i64 ((k : Int) + (q : Int)))) bh ch bks.length (pad64 (t ++ x)) (k + q) := hmid.set_k (k + q)
      have o3 := hon.trans (Only.set bh 73 w2 (.int .i64 ((k : Int) + (q : Int))))
      have hbk : bks.length < 4611686018427387904 := by have := hR.len; simp at this; omega
      by_cases hfull : k + q = 64
      · have tB : ((k : Int) + (q : Int) == 64) = true := beq_iff_eq.2 (by omega)
        have Hf := Lib.hid hfull; clear hfull hmid hon
        go_wp2_with fail
        all_goals
          refine (take_any bh bks.length (k + q) ch (pad64 (t ++ x)) _ (o3.k HK.out hb0) hb0 hbk h3).mono ?_
          rintro e w4 ⟨rfl, o4, h4⟩
          go_wp2
          exact inv_close w w4 bh l m x sb so j q r _ _ _ _ hlt Hrr.out hq0 hqr (by omega) Hxs.out (fun h => by first | rfl | (exfalso; omega) | exact if_neg (by omega)) (o3.trans o4) (hR.full x (by rw [← Hk.out, Hxl.out]; exact Hf.out) h4)
      · have tB : ((k : Int) + (q : Int) == 64) = false := beq_eq_false_iff_ne.2 (by omega)
        have Hf := Lib.hid hfull; clear hfull hmid hon
        go_wp2
        all_goals exact inv_close w _ bh l m x sb so j q r _ _ _ _ hlt Hrr.out hq0 hqr (by omega) Hxs.out (fun h => by first | rfl | (exfalso; omega) | exact if_neg (by omega)) o3 ⟨bks, t ++ x, ch, hR.more x (by rw [← Hk.out, Hxl.out]; have := Hf.out; omega) (by rw [← Hk.out, Hxl.out]; exact h3)⟩
    · obtain rfl : j = m.length := by omega
      have hz : m.length - m.length = 0 := by omega
      rw [hz]
      rw [List.take_length] at hrep
      have Hrep := Lib.hid hrep; clear hrep hz had'
      go_wp2
      go_ret
      exact ⟨rfl, ho, Hrep.out⟩
end Go.Proofs.YtnhokjnmpdiokaaGreatDoor

namespace Go.Proofs.YtnhokjnmpdiokaaGreatDoor
open Go.RowKit Go.Sha

set_option maxHeartbeats 400000 in
theorem len_any (bh : Nat) (l : List Int) (w : World) (hr : Rep w bh l) (hlen : l.length < 4611686018427387904) :
    Calls Tryz.prog 146 #[.pointer (some ⟨bh, 0, none⟩)] w fun e w' => e = .returned (.int .i64 l.length) ∧ ∃ n, w' = w.drewN n := by
  obtain ⟨bks, t, ch, h⟩ := hr
  have hl := h.len
  have cn := h.hat.cell_n
  have ck := h.hat.cell_k
  have ht := h.ht
  clear h
  generalize bks.length = n at *
  generalize t.length = k at *
  have w1 : IntKind.i64.wrap ((n : Int) * 64) = (n : Int) * 64 := IntWalk.i64_in _ (by omega)
  have w2 : IntKind.i64.wrap ((n : Int) * 64 + (k : Int)) = (n : Int) * 64 + (k : Int) := IntWalk.i64_in _ (by omega)
  have Hl := Lib.hid hl; clear hl
  go_enter Tryz.func146, Tryz.ntmps146
  go_wp2
  go_quiet (fail)
  go_wp2
  go_ret
  refine ⟨?_, _, rfl⟩
  rw [show (l.length : Int) = (n : Int) * 64 + (k : Int) by have := Hl.out; omega]
  rfl

theorem sz32 : (Tryz.prog.info? 175).map (·.size) = some 74 := by kernel_rfl

def zeroH : List Value := hcl (List.replicate 8 0) 0 (List.replicate 64 0) 0
theorem z32 : ∀ w, (zeroValue 175).run Tryz.prog w = .ok (.agg zeroH.toArray) w := (zero_of_info (n := 74) (by kernel_rfl)).1
theorem hcl_one (ch : List Int) (n : Nat) (wt : List Int) (k : Nat) : (hcl ch n wt k).toArray.all (·.oneCell') = true := by
  simp [hcl, Value.oneCell']
theorem rep_zero (w : World) : Rep (w.alloc (.cells zeroH.toArray 175)) w.heap.size [] :=
  ⟨[], [], List.replicate 8 0, by simp, rfl, by simp, Or.inl rfl, ⟨by simp, by simp [pad64], At.new w _ 175⟩⟩
theorem Hat.sized {w : World} {b : Nat} {ch : List Int} {n : Nat} {wt : List Int} {k : Nat} (h : Hat w b ch n wt k) : (Tryz.prog.info? 175).map (·.size) = some (hcl ch n wt k).toArray.size := by
  rw [List.size_toArray, hcl_length ch n wt k h.h8 h.h64]; exact sz32

theorem u8zero : (Tryz.prog.info? 5).map (fun i => (i.zero, i.size, i.bytes)) = some (some (.int .u8 0), 1, 1) := by kernel_rfl

def InvP (w : World) (n : Nat) (i : Value) (wr : World) : Prop := ∃ k : Nat, k ≤ 8 ∧ i = .int .i64 k ∧ Below w.heap.size w wr ∧ wr.heap.size = w.heap.size + 1 ∧ At wr w.heap.size (bs (padAt n k)) 5

theorem invP_start (w : World) (n S : Nat) (hS : S = padSize n) : InvP w n (.int .i64 0) (w.alloc (.cells ((madeCells #[Value.int .u8 0] S).setIfInBounds 0 (.int .u8 128)) 5)) := by
  refine ⟨0, by omega, rfl, (Below.refl _ _).alloc (Nat.le_refl _) _, by simp, ?_⟩
  rw [made_bs, bs_set, hS]
  exact At.new w _ 5
theorem invP_step (w wr : World) (n S k : Nat) (v : Int) (hk : k < 8) (hS : S = padSize n) (hv : v = cntByte n k) (hB : Below w.heap.size w wr) (hz : wr.heap.size = w.heap.size + 1) (h0 : At wr w.heap.size (bs (padAt n k)) 5) :
    InvP w n (.int .i64 ((k + 1 : Nat) : Int)) (wr.setCell ⟨w.heap.size, S - 1 - k, none⟩ (.int .u8 v)) := by
  subst hv hS
  refine ⟨k + 1, by omega, rfl, hB.setCell (Nat.le_refl _) _, by simpa using hz, ?_⟩
  have := h0.set (padSize n - 1 - k) (.int .u8 (cntByte n k))
  rwa [bs_set] at this

set_option maxHeartbeats 1000000 in
theorem pad_any (n : Nat) (w : World) (hn : n < 4611686018427387904) :
    Calls Tryz.prog 145 #[.int .i64 n] w fun e w' => e = .returned (.slice (some ⟨w.heap.size, 0, none⟩) (padSize n) (padSize n)) ∧ Below w.heap.size w w' ∧ w'.heap.size = w.heap.size + 1 ∧ At w' w.heap.size (bs (padL n)) 5 := by
  have hp := padSize_pos n
  have hmk := fun w => run_make_row' (P := Tryz.prog) 50 5 (.int .u8 0) 1 Tryz.underlying50 u8zero rfl .i64 .i64 (padSize n) (by omega) (by omega) w
  have n0 : (0 : Int) ≤ (n : Int) := by omega
  obtain ⟨r, hr⟩ : ∃ r, r = n % 64 := ⟨_, rfl⟩
  have hm : (n : Int) % 64 = (r : Int) := by omega
  have hr2 : r < 64 := by omega
  obtain ⟨S, hS⟩ : ∃ S, S = padSize n := ⟨_, rfl⟩
  rw [← hS] at hmk hp ⊢
  have m0 : (madeCells #[Value.int .u8 0] S)[0]? = some (.int .u8 0) := by rw [made_bs, bs_get _ _ (by simp; omega), show (List.replicate S (0 : Int)).getD 0 0 = 0 by simp [List.getElem?_replicate]; split <;> rfl]
  by_cases hs : 64 - r < 9
  · have e1 : (64 : Int) - (r : Int) + 64 = (S : Int) := by rw [hS]; unfold padSize; rw [← hr, if_pos hs]; omega
    have d1 : decide ((64 : Int) - (r : Int) < 9) = true := by simp; omega
    have HS := Lib.hid hS; clear hS
    have Hr := Lib.hid hr; clear hr
    go_enter Tryz.func145, Tryz.ntmps145
    go_wp2
    go_loopw [21] (fun i wr => InvP w n i wr) (fun i _ => 8 - (intOf i).toNat)
    case atStart => exact invP_start w n S HS.out
    case round =>
      obtain ⟨k, hk, rfl, hB, hz, h0⟩ := hrel
      have Hz := Lib.hid hz; clear hz
      by_cases hlt : k < 8
      · have q1 : (0 : Int) ≤ (k : Int) := by omega
        have q2 : (0 : Int) ≤ 8 * (k : Int) := by omega
        have q3 : ((8 : Int) * (k : Int)).toNat = 8 * k := by omega
        have q4 : min (8 * k) 64 = 8 * k := by omega
        have p1 : (0 : Int) ≤ (S : Int) - 1 - (k : Int) := by omega
        have p2 : (S : Int) - 1 - (k : Int) < (S : Int) := by omega
        have p3 : ((S : Int) - 1 - (k : Int)).toNat = S - 1 - k := by omega
        have c0 : wr.cell? ⟨w.heap.size, S - 1 - k, none⟩ = some (.int .u8 ((padAt n k)[S - 1 - k]?.getD 0)) := h0.get_bs _ (by rw [padAt_length, ← HS.out]; omega)
        have f0 := h0.frozen (S - 1 - k)
        go_wp2
        exact ⟨invP_step w wr n S k _ hlt HS.out rfl hB Hz.out h0, by simp [intOf]; omega⟩
      · obtain rfl : k = 8 := by omega
        go_wp2
        go_ret
        exact ⟨rfl, hB, Hz.out, h0⟩
  · have e1 : (64 : Int) - (r : Int) = (S : Int) := by rw [hS]; unfold padSize; rw [← hr, if_neg hs]; omega
    have HS := Lib.hid hS; clear hS
    have Hr := Lib.hid hr; clear hr
    have d1 : decide ((S : Int) < 9) = false := by simp; omega
    go_enter Tryz.func145, Tryz.ntmps145
    go_wp2
    go_loopw [21] (fun i wr => InvP w n i wr) (fun i _ => 8 - (intOf i).toNat)
    case atStart => exact invP_start w n S HS.out
    case round =>
      obtain ⟨k, hk, rfl, hB, hz, h0⟩ := hrel
      have Hz := Lib.hid hz; clear hz
      by_cases hlt : k < 8
      · have q1 : (0 : Int) ≤ (k : Int) := by omega
        have q2 : (0 : Int) ≤ 8 * (k : Int) := by omega
        have q3 : ((8 : Int) * (k : Int)).toNat = 8 * k := by omega
        have q4 : min (8 * k) 64 = 8 * k := by omega
        have p1 : (0 : Int) ≤ (S : Int) - 1 - (k : Int) := by omega
        have p2 : (S : Int) - 1 - (k : Int) < (S : Int) := by omega
        have p3 : ((S : Int) - 1 - (k : Int)).toNat = S - 1 - k := by omega
        have c0 : wr.cell? ⟨w.heap.size, S - 1 - k, none⟩ = some (.int .u8 ((padAt n k)[S - 1 - k]?.getD 0)) := h0.get_bs _ (by rw [padAt_length, ← HS.out]; omega)
        have f0 := h0.frozen (S - 1 - k)
        go_wp2
        exact ⟨invP_step w wr n S k _ hlt HS.out rfl hB Hz.out h0, by simp [intOf]; omega⟩
      · obtain rfl : k = 8 := by omega
        go_wp2
        go_ret
        exact ⟨rfl, hB, Hz.out, h0⟩

def bytesA (ch : List Int) (k : Nat) : List Int := wordsB (ch.take k) ++ List.replicate (32 - 4 * k) 0
def InvB (w : World) (ch : List Int) (o i : Value) (wr : World) : Prop :=
  ∃ k : Nat, k ≤ 8 ∧ i = .int .i64 k ∧ o = .slice (some ⟨w.heap.size + 1, 0, none⟩) (4 * k) 32 ∧ Below w.heap.size w wr ∧ w.heap.size + 2 ≤ wr.heap.size ∧ At wr (w.heap.size + 1) (bs (bytesA ch k)) 5

theorem u32one : Tryz.prog.underlying 120 = some (.int .u32) := by kernel_rfl
theorem sz26 : (Tryz.prog.info? 120).map (·.size) = some 1 := by kernel_rfl

theorem bytesA_step (ch : List Int) (k : Nat) (h8 : ch.length = 8) (hk : k < 8) : (bytesA ch k).take (4 * k) ++ wbytes (ch[k]?.getD 0) ++ (bytesA ch k).drop (4 * k + 4) = bytesA ch (k + 1) := by
  have hl : (wordsB (ch.take k)).length = 4 * k := by rw [wordsB_length, List.length_take]; omega
  have ht : ch.take (k + 1) = ch.take k ++ [ch[k]?.getD 0] := by
    rw [List.take_succ_eq_append_getElem (by omega), List.getElem?_eq_getElem (by omega)]; rfl
  unfold bytesA
  rw [List.take_append_of_le_length (by omega), List.take_of_length_le (by omega), List.drop_append, List.drop_of_length_le (by omega), ht, wordsB_snoc, hl]
  simp; omega
theorem invB_step (w wr : World) (ch : List Int) (k : Nat) (x : Int) (hx : x = ch[k]?.getD 0) (h8 : ch.length = 8) (hk : k < 8) (hB : Below w.heap.size w wr) (hz : w.heap.size + 2 ≤ wr.heap.size) (h0 : At wr (w.heap.size + 1) (bs (bytesA ch k)) 5) :
    InvB w ch (.slice (some ⟨w.heap.size + 1, 0, none⟩) (4 * k + 4) 32) (.int .i64 ((k + 1 : Nat) : Int)) ((wr.alloc (.cells (bs (wbytes x)) 5)).setCells (w.heap.size + 1) (4 * k) ((wbytes x).map (Value.int .u8))) := by
  subst hx
  refine ⟨k + 1, by omega, rfl, by rw [show 4 * (k + 1) = 4 * k + 4 by omega], below_setCells _ _ _ (hB.alloc (by omega) _) (by omega), by rw [size_setCells]; simp; omega, ?_⟩
  have := (h0.alloc (.cells (bs (wbytes (ch[k]?.getD 0))) 5)).put_bs (4 * k) (wbytes (ch[k]?.getD 0)) (by simp [bytesA, wordsB_length, wbytes]; omega)
  rw [← bytesA_step ch k h8 hk]
  exact this

set_option maxHeartbeats 1000000 in
theorem bytes_any (ch : List Int) (w : World) (h8 : ch.length = 8) :
    Calls Tryz.prog 147 #[.agg (ws ch)] w fun e w' => e = .returned (.slice (some ⟨w.heap.size + 1, 0, none⟩) 32 32) ∧ Below w.heap.size w w' ∧ At w' (w.heap.size + 1) (bs (wordsB ch)) 5 := by
  have H8 := Lib.hid h8; clear h8
  have a0 := (At.new w (ws ch) 171).alloc (.cells (bs (List.replicate 32 0)) 5)
  have hmk : ∀ w, (Instr.makeSlice 50 (.int .i64 0) (.int .i64 32)).run Tryz.prog w = .ok (.slice (some ⟨w.heap.size, 0, none⟩) 0 32) (w.alloc (.cells (bs (List.replicate 32 0)) 5)) := fun _ => by kernel_rfl
  go_enter Tryz.func147, Tryz.ntmps147
  go_wp2_with (refine wpList_load_row rfl 171 _ rfl w.heap.size rfl 171 (ws ch) (0, 0) _ a0 Tryz.underlying171 rfl (by rw [ws_size, H8.out]; exact sz28) ?_)
  go_loopw [3, 8] (fun o i wr => InvB w ch o i wr) (fun _ i _ => 8 - (intOf i).toNat)
  case atStart => exact ⟨0, by omega, rfl, rfl, ((Below.refl _ _).alloc (Nat.le_refl _) _).alloc (by simp) _, by simp, At.new1 w _ _ 5⟩
  case round =>
    clear a0
    obtain ⟨k, hk, rfl, rfl, hB, hz, h0⟩ := hrel
    by_cases hlt : k < 8
    · have hix : ∀ w, (Instr.index 171 (.agg (ws ch)) (.int .i64 (k : Int))).run Tryz.prog w = .ok (.int .u32 (ch[k]?.getD 0)) w := fun w => run_index_ws 171 120 8 ch k w H8.out Tryz.underlying171 u32one sz26 hlt
      obtain ⟨x, hx⟩ : ∃ x, x = ch[k]?.getD 0 := ⟨_, rfl⟩
      rw [← hx] at hix
      have Hx := Lib.hid hx; clear hx
      have k8 : (k : Int) < 8 := by omega
      have h1 := h0.alloc (.cells (bs (wbytes x)) 5)
      have h2 := At.new wr (bs (wbytes x)) 5
      have hth := h1.there_bs (4 * k) 4 (by simp [bytesA, wordsB_length, H8.out]; omega)
      have hsrc := h2.range_bs
      have Hs := Lib.hid hsrc; clear hsrc
      have Hh := Lib.hid hth; clear hth
      go_wp2_with (refine list_append_room rfl (.tmp 11) (.tmp 23) 50 rfl 5 Tryz.underlying50 sz5 (w.heap.size + 1) 0 (4 * k) 32 rfl ⟨wr.heap.size, 0, none⟩ 4 4 ((wbytes x).map (Value.int .u8)) rfl rfl Hs.out (by simp [Value.oneCell']) (by omega) (by rw [Nat.zero_add]; exact Hh.out) ?_; rw [Nat.zero_add])
      exact ⟨invB_step w wr ch k x Hx.out H8.out hlt hB hz h0, by simp [intOf]; omega⟩
    · obtain rfl : k = 8 := by omega
      go_wp2
      go_ret
      refine ⟨rfl, hB, ?_⟩
      have e : bytesA ch 8 = wordsB ch := by
        unfold bytesA
        rw [List.take_of_length_le (by rw [H8.out]; omega)]; simp
      rw [← e]; exact h0

end Go.Proofs.YtnhokjnmpdiokaaGreatDoor

namespace Go.Proofs.YtnhokjnmpdiokaaGreatDoor
open Go.RowKit Go.Sha

theorem add_src (bh : Nat) (l m : List Int) (v : Value) (w : World) (hK : KAt w) (hb0 : bh ≠ 3) (hr : Rep w bh l) (hlen : l.length + m.length < 4611686018427387904) (hs : Src w v m bh) :
    Calls Tryz.prog 126 #[.pointer (some ⟨bh, 0, none⟩), v] w fun e w' => e = .returned (.pointer (some ⟨bh, 0, none⟩)) ∧ Only bh w w' ∧ Rep w' bh (l ++ m) := by
  obtain ⟨ad, cap, sb, so, h1, h2, h3, h4, h5, _⟩ := hs
  exact add_any bh l m v ad cap sb so w hK hb0 hr hlen h1 h2 h3 h4 h5

set_option maxHeartbeats 1000000 in
set_option maxRecDepth 100000 in
theorem hsum_any (bh : Nat) (l : List Int) (w : World) (hK : KAt w) (hr : Rep w bh l) (hlen : l.length < 2305843009213693952) :
    Calls Tryz.prog 127 #[.pointer (some ⟨bh, 0, none⟩)] w (SumPost w l) := by
  have hr' := hr
  obtain ⟨bks, t, ch, h⟩ := hr
  have hz := z32
  have a0 := h.hat.at_
  have s0 := Hat.sized h.hat
  have a1 := At.new w zeroH.toArray 175
  have ho : zeroH.toArray.size = (hcl ch bks.length (pad64 t) t.length).toArray.size := by rw [List.size_toArray, List.size_toArray, hcl_length _ _ _ _ h.hat.h8 h.hat.h64]; rfl
  have Ho := Lib.hid ho; clear ho
  go_enter Tryz.func127, Tryz.ntmps127
  go_wp2_with (first | (refine wpList_load_row rfl 175 _ rfl bh rfl 175 _ (0, 0) _ a0 Tryz.underlying175 rfl s0 ?_) | (refine wpList_store_row rfl 175 _ _ rfl w.heap.size _ rfl rfl 175 _ a1 s0 Ho.out (hcl_one _ _ _ _) ?_))
  rw [World.setRow_alloc_new]
  have r1 : Rep (w.alloc (.cells (hcl ch bks.length (pad64 t) t.length).toArray 175)) w.heap.size l := ⟨bks, t, ch, h.h64, h.hl, h.ht, h.hc, h.hat.h8, h.hat.h64, At.new w _ 175⟩
  have b1 : Below w.heap.size w (w.alloc (.cells (hcl ch bks.length (pad64 t) t.length).toArray 175)) := (Below.refl _ _).alloc (Nat.le_refl _) _
  have z1 : w.heap.size + 1 ≤ (w.alloc (.cells (hcl ch bks.length (pad64 t) t.length).toArray 175)).heap.size := by simp
  have r0 := hr'.below b1
  have k1 := hK.below b1 hK.lt
  have hE : w.heap.size ≠ 3 := by have := hK.lt; omega
  clear a0 a1 s0 Ho hz hr' h hK
  generalize w.alloc (.cells (hcl ch bks.length (pad64 t) t.length).toArray 175) = w1 at *
  obtain ⟨E, hEq⟩ : ∃ E, E = w.heap.size := ⟨_, rfl⟩
  rw [← hEq] at r1 hE z1 ⊢
  have HE := Lib.hid hEq; clear hEq
  refine (len_any bh l w1 r0 (by omega)).mono ?_
  rintro e w2 ⟨rfl, n, rfl⟩
  have r2 : Rep (w1.drewN n) E l := r1.below (below_drewN (Below.refl _ _) n)
  have k2 : KAt (w1.drewN n) := k1
  have b2 := below_drewN b1 n
  replace z1 : E + 1 ≤ (w1.drewN n).heap.size := z1
  clear r1 k1 b1 r0
  generalize w1.drewN n = w2 at *
  go_wp2_with fail
  refine (pad_any l.length w2 (by omega)).mono ?_
  rintro e w3 ⟨rfl, b3, z3, a3⟩
  have r3 := r2.below b3
  have k3 := k2.below b3 k2.lt
  have hs : Src w3 (.slice (some ⟨w2.heap.size, 0, none⟩) (padSize l.length) (padSize l.length)) (padL l.length) E := by
    have := Src.of_at (bh := E) a3 (by omega) (padSize l.length) (by rw [padL_length]; omega)
    rwa [padL_length] at this
  have B3 : Below w.heap.size w w3 := b2.trans (b3.mono (by rw [← HE.out]; omega))
  have hps := padSize_pos l.length
  have hpl := padL_length l.length
  have Hpl := Lib.hid hpl; clear hpl
  have zz : E + 1 ≤ w3.heap.size := by omega
  have Z3 := Lib.hid z3; clear z3
  go_wp2_with fail
  refine (add_src E l (padL l.length) _ w3 k3 hE r3 (by rw [Hpl.out]; omega) hs).mono ?_
  rintro e w4 ⟨rfl, o4, r4⟩
  have B4 : Below w.heap.size w w4 := o4.below B3 (by rw [HE.out]; omega) (by rw [← HE.out]; omega)
  have k4 := o4.k k3 hE
  obtain ⟨n4, wt4, q4, h4⟩ := r4.chain (by rw [List.length_append, Hpl.out]; omega) (by rw [List.length_append, Hpl.out]; exact padSize_whole _)
  have c4 := h4.range_ch
  have l4 := chainOf_length (l ++ padL l.length)
  have s4 : (Tryz.prog.info? 171).map (·.size) = some ((chainOf (l ++ padL l.length)).map (Value.int .u32)).length := by rw [List.length_map, l4]; exact sz28
  have L4 := Lib.hid l4; clear l4
  have z4 : E + 1 ≤ w4.heap.size := by have := o4.size; omega
  go_wp2_with (refine wpList_load_mid rfl 171 _ rfl E 0 rfl _ _ c4 Tryz.underlying171 rfl s4 ?_)
  refine (bytes_any (chainOf (l ++ padL l.length)) w4 L4.out).mono ?_
  rintro e w5 ⟨rfl, b5, a5⟩
  have B5 : Below w.heap.size w w5 := B4.trans (b5.mono (by rw [← HE.out]; omega))
  go_wp2
  go_ret
  exact ⟨w4.heap.size + 1, rfl, by rw [← HE.out]; omega, B5, a5⟩

def flat (ps : List (Value × List Int)) : List Int := (ps.map (·.2)).flatten
theorem flat_snoc (ps : List (Value × List Int)) (x : Value × List Int) : flat (ps ++ [x]) = flat ps ++ x.2 := by simp [flat]
theorem flat_le (ps : List (Value × List Int)) (k : Nat) (x : Value × List Int) (hx : ps[k]? = some x) : (flat (ps.take k)).length + x.2.length ≤ (flat ps).length := by
  have hk : k < ps.length := (List.getElem?_eq_some_iff.1 hx).1
  have e : ps = ps.take k ++ (x :: ps.drop (k + 1)) := by
    have := (List.getElem?_eq_some_iff.1 hx).2
    rw [← this, List.getElem_cons_drop, List.take_append_drop]
  have : flat ps = flat (ps.take k) ++ (x.2 ++ flat (ps.drop (k + 1))) := by
    conv => lhs; rw [e]
    simp [flat]
  rw [this]; simp only [List.length_append]; omega
def Srcs (w : World) (v : Value) (ps : List (Value × List Int)) : Prop :=
  ∃ ad cap pb po, v = .slice ad ps.length cap ∧ (0 < ps.length → ad = some ⟨pb, po, none⟩) ∧ ∀ j x, ps[j]? = some x → w.cell? ⟨pb, po + j, none⟩ = some x.1 ∧ Src w x.1 x.2 w.heap.size

def InvS (w w1 : World) (bh : Nat) (ps : List (Value × List Int)) (i : Value) (wr : World) : Prop :=
  ∃ k : Nat, k ≤ ps.length ∧ i = .int .i64 k ∧ Only bh w1 wr ∧ Below bh w wr ∧ Rep wr bh (flat (ps.take k)) ∧ KAt wr

set_option maxHeartbeats 1000000 in
set_option maxRecDepth 100000 in
theorem dsum_any (v : Value) (ps : List (Value × List Int)) (w : World) (hK : KAt w) (hs : Srcs w v ps) (hlen : (flat ps).length < 2305843009213693952) (hpl : ps.length < 9223372036854775807) :
    Calls Tryz.prog 104 #[v] w (SumPost w (flat ps)) := by
  obtain ⟨ad, cap, pb, po, rfl, had, hp⟩ := hs
  have hz := z32
  have r1 := rep_zero w
  have b1 : Below w.heap.size w (w.alloc (.cells zeroH.toArray 175)) := (Below.refl _ _).alloc (Nat.le_refl _) _
  have k1 := hK.below b1 hK.lt
  have Hp := Lib.hid hp; clear hp
  have Ha := Lib.hid had; clear had
  have hb0 : w.heap.size ≠ 3 := by have := hK.lt; omega
  go_enter Tryz.func104, Tryz.ntmps104
  go_wp2
  obtain ⟨w1, hw1⟩ : ∃ w1, w1 = w.alloc (.cells zeroH.toArray 175) := ⟨_, rfl⟩
  rw [← hw1] at r1 b1 k1 ⊢
  have z1 : w.heap.size + 1 ≤ w1.heap.size := by rw [hw1]; simp
  clear hw1
  go_loopw [8] (fun i wr => InvS w w1 w.heap.size ps i wr) (fun i _ => ps.length - (intOf i).toNat)
  case atStart => exact ⟨0, by omega, rfl, Only.refl _ _, b1, r1, k1⟩
  case round =>
    obtain ⟨k, hk, rfl, ho, hB, hr, kr⟩ := hrel
    by_cases hlt : k < ps.length
    · obtain ⟨x, hx⟩ : ∃ x, ps[k]? = some x := ⟨ps[k], List.getElem?_eq_getElem hlt⟩
      obtain ⟨hc, hsx⟩ := Hp.out k x hx
      have e := Ha.out (by omega)
      subst e
      have hpb : pb < w.heap.size := World.block_lt_of_cell? w _ hc
      have hc' : wr.cell? ⟨pb, po + k, none⟩ = some x.1 := by rw [hB.cell (p := ⟨pb, po + k, none⟩) hpb]; exact hc
      have hsx' : Src wr x.1 x.2 w.heap.size := (hsx.below b1).only ho
      have hle := flat_le ps k x hx
      have htk : flat (ps.take (k + 1)) = flat (ps.take k) ++ x.2 := by
        rw [List.take_succ_eq_append_getElem hlt, flat_snoc, (List.getElem?_eq_some_iff.1 hx).2]
      have Htk := Lib.hid htk; clear htk
      have Hx := Lib.hid hx; clear hx
      have Hc := Lib.hid hc; clear hc
      have i0 : (k : Int) < (ps.length : Int) := by omega
      have i1 : (0 : Int) ≤ (k : Int) := by omega
      go_wp2_with fail
      refine (add_src w.heap.size (flat (ps.take k)) x.2 x.1 wr kr hb0 hr (by omega) hsx').mono ?_
      rintro e w2 ⟨rfl, o2, r2⟩
      go_wp2
      have zz := ho.size
      exact ⟨⟨k + 1, by omega, by go_num, ho.trans o2, o2.below hB (Nat.le_refl _) (by omega), by rw [Htk.out]; exact r2, o2.k kr hb0⟩, by simp [intOf]; omega⟩
    · obtain rfl : k = ps.length := by omega
      rw [List.take_length] at hr
      go_wp2_with fail
      refine (hsum_any w.heap.size (flat ps) wr kr hr hlen).mono ?_
      rintro e w2 ⟨g, rfl, hg, b2, a2⟩
      go_wp2
      go_ret
      have zz := ho.size
      exact ⟨g, rfl, by omega, hB.trans (b2.mono (by omega)), a2⟩

end Go.Proofs.YtnhokjnmpdiokaaGreatDoor
