/- What a Hasher in memory has had: plain facts on lists of bytes, blocks and chains. No conditions: definitions and lemmas. -/
import Derived.Test.YtblhipdcgdhmiaaDoorSpec
import Derived.Laws.AppendOwnNone
import Derived.OwnWalk
namespace Go.Sha
open Go.RowKit

/-- The chain behind so many blocks. -/
def chainB (bks : List (List Int)) : List Int := bks.foldl mixL iv
theorem chainB_length (bks : List (List Int)) : (chainB bks).length = 8 := by
  unfold chainB
  have : ∀ (l : List (List Int)) (c : List Int), c.length = 8 → (l.foldl mixL c).length = 8 := by
    intro l
    induction l with
    | nil => intro c h; exact h
    | cons x r ih => intro c _; exact ih _ (mixL_length _ _)
  exact this bks iv iv_length
theorem chainB_snoc (bks : List (List Int)) (x : List Int) : chainB (bks ++ [x]) = mixL (chainB bks) x := by simp [chainB]

/-- What waits, with noughts behind it. -/
def pad64 (t : List Int) : List Int := t ++ List.replicate (64 - t.length) 0
theorem pad64_length (t : List Int) (h : t.length ≤ 64) : (pad64 t).length = 64 := by simp [pad64]; omega

/-- The Hasher at block b has had the bytes l: 'bks' went into the chain, 't' waits. -/
structure RepB (w : World) (b : Nat) (l : List Int) (bks : List (List Int)) (t ch : List Int) : Prop where
  h64 : ∀ x ∈ bks, x.length = 64
  hl : l = bks.flatten ++ t
  ht : t.length < 64
  hc : bks = [] ∨ ch = chainB bks
  hat : Hat w b ch bks.length (pad64 t) t.length
def Rep (w : World) (b : Nat) (l : List Int) : Prop := ∃ bks t ch, RepB w b l bks t ch

theorem flat_length (bks : List (List Int)) (h : ∀ x ∈ bks, x.length = 64) : bks.flatten.length = 64 * bks.length := by
  induction bks with
  | nil => rfl
  | cons x r ih =>
    have h1 := h x (by simp)
    have h2 := ih (fun y hy => h y (by simp [hy]))
    simp only [List.flatten_cons, List.length_append, List.length_cons, h1, h2]; omega
theorem RepB.len {w : World} {b : Nat} {l : List Int} {bks : List (List Int)} {t ch : List Int} (h : RepB w b l bks t ch) : l.length = 64 * bks.length + t.length := by
  rw [h.hl, List.length_append, flat_length _ h.h64]
theorem Rep.only {w w' : World} {b c : Nat} {l : List Int} (h : Rep w b l) (ho : Only c w w') (hb : b ≠ c) : Rep w' b l := by
  obtain ⟨bks, t, ch, h⟩ := h
  exact ⟨bks, t, ch, h.h64, h.hl, h.ht, h.hc, h.hat.only ho hb⟩
theorem Rep.below {w w' : World} {b : Nat} {l : List Int} (h : Rep w b l) (ho : Below w.heap.size w w') : Rep w' b l := by
  obtain ⟨bks, t, ch, h⟩ := h
  exact ⟨bks, t, ch, h.h64, h.hl, h.ht, h.hc, h.hat.below ho⟩
theorem Rep.lt {w : World} {b : Nat} {l : List Int} (h : Rep w b l) : b < w.heap.size := by
  obtain ⟨bks, t, ch, h⟩ := h
  exact h.hat.at_.lt

theorem splice_mid (ch : List Int) (n : Nat) (wt : List Int) (k o : Nat) (x : List Int) (h8 : ch.length = 8) (h64 : wt.length = 64) (ho : o + x.length ≤ 64) :
    splice (hcl ch n wt k) (9 + o) (x.map (Value.int .u8)) = hcl ch n (wt.take o ++ x ++ wt.drop (o + x.length)) k := by
  unfold splice hcl
  rw [List.take_append, List.drop_append, List.take_of_length_le (by simp [h8]; omega), List.drop_of_length_le (by simp [h8]; omega)]
  simp only [List.length_map, h8]
  rw [show 9 + o - 8 = o + 1 by omega, show 9 + o + x.length - 8 = (o + x.length) + 1 by omega, List.take_succ_cons, List.drop_succ_cons]
  rw [List.take_append_of_le_length (by simp [h64]; omega), List.drop_append_of_le_length (by simp [h64]; omega)]
  simp [List.map_take, List.map_drop]
theorem Hat.set_mid {w : World} {b : Nat} {ch : List Int} {n : Nat} {wt : List Int} {k : Nat} (h : Hat w b ch n wt k) (o : Nat) (x : List Int) (ho : o + x.length ≤ 64) :
    Hat (w.setCells b (9 + o) (x.map (Value.int .u8))) b ch n (wt.take o ++ x ++ wt.drop (o + x.length)) k := by
  refine ⟨h.h8, by simp [h.h64]; omega, ?_⟩
  have := At.cells (t := 96) (x.map (Value.int .u8)) (hcl ch n wt k) (9 + o) w h.at_ (by rw [hcl_length ch n wt k h.h8 h.h64]; simp; omega)
  rwa [splice_mid ch n wt k o x h.h8 h.h64 ho] at this
theorem pad64_put (t x : List Int) : (pad64 t).take t.length ++ x ++ (pad64 t).drop (t.length + x.length) = pad64 (t ++ x) := by
  unfold pad64
  rw [List.take_append_of_le_length (by omega), List.take_of_length_le (by omega), List.drop_append]
  rw [List.drop_of_length_le (by omega)]
  simp; omega
theorem pad64_full (t : List Int) (h : t.length = 64) : pad64 t = t := by simp [pad64, h]
theorem pad64_nil : pad64 [] = List.replicate 64 0 := by simp [pad64]

/-- Some more bytes wait: the block is not full yet. -/
theorem RepB.more {w w' : World} {b : Nat} {l : List Int} {bks : List (List Int)} {t ch : List Int} (h : RepB w b l bks t ch) (x : List Int) (hx : t.length + x.length < 64)
    (hat : Hat w' b ch bks.length (pad64 (t ++ x)) (t.length + x.length)) : RepB w' b (l ++ x) bks (t ++ x) ch :=
  ⟨h.h64, by rw [h.hl, List.append_assoc], by simp; omega, h.hc, by simpa using hat⟩
/-- The block is full, and goes into the chain. -/
theorem RepB.full {w w' : World} {b : Nat} {l : List Int} {bks : List (List Int)} {t ch : List Int} (h : RepB w b l bks t ch) (x : List Int) (hx : t.length + x.length = 64)
    (hat : Hat w' b (mixL (if bks.length = 0 then iv else ch) (pad64 (t ++ x))) (bks.length + 1) (List.replicate 64 0) 0) : Rep w' b (l ++ x) := by
  have e : pad64 (t ++ x) = t ++ x := pad64_full _ (by simp; omega)
  have ec : mixL (if bks.length = 0 then iv else ch) (t ++ x) = chainB (bks ++ [t ++ x]) := by
    rw [chainB_snoc]
    rcases h.hc with h0 | h0
    · subst h0; rfl
    · by_cases hz : bks.length = 0
      · have : bks = [] := List.length_eq_zero_iff.1 hz
        subst this; rfl
      · rw [if_neg hz, h0]
  refine ⟨bks ++ [t ++ x], [], chainB (bks ++ [t ++ x]), ?_, ?_, by simp, Or.inr rfl, ?_⟩
  · intro y hy
    rcases List.mem_append.1 hy with hy | hy
    · exact h.h64 y hy
    · simp at hy; subst hy; simp; omega
  · rw [h.hl]; simp
  · rw [pad64_nil, ← ec]
    rw [e] at hat
    simpa using hat

/-- The bytes cut into blocks. -/
def chunks : Nat → List Int → List (List Int)
  | 0, _ => []
  | n + 1, p => p.take 64 :: chunks n (p.drop 64)
theorem chunks_flatten (bks : List (List Int)) (h : ∀ x ∈ bks, x.length = 64) : chunks bks.length bks.flatten = bks := by
  induction bks with
  | nil => rfl
  | cons x r ih =>
    have h1 := h x (by simp)
    have h2 := ih (fun y hy => h y (by simp [hy]))
    simp only [List.length_cons, List.flatten_cons, chunks]
    rw [List.take_append_of_le_length (by omega), List.take_of_length_le (by omega), List.drop_append, List.drop_of_length_le (by omega), h1]
    simp [h2]
/-- The chain of whole blocks. -/
def chainOf (p : List Int) : List Int := chainB (chunks (p.length / 64) p)
theorem Rep.chain {w : World} {b : Nat} {p : List Int} (h : Rep w b p) (h0 : 0 < p.length) (hp : p.length % 64 = 0) : ∃ n wt k, Hat w b (chainOf p) n wt k := by
  obtain ⟨bks, t, ch, h⟩ := h
  have hl := h.len
  have ht := h.ht
  have e : t = [] := List.length_eq_zero_iff.1 (by omega)
  subst e
  have hl' : p.length = 64 * bks.length := by rw [hl]; simp
  have hn : bks ≠ [] := fun e => by (have : bks.length = 0 := by rw [e]; rfl); omega
  have hc : ch = chainB bks := h.hc.resolve_left hn
  have e2 : chainOf p = chainB bks := by
    unfold chainOf
    have hd : p.length / 64 = bks.length := by omega
    rw [hd, show p = bks.flatten by simpa using h.hl, chunks_flatten _ h.h64]
  rw [e2, ← hc]
  exact ⟨_, _, _, h.hat⟩
theorem chainOf_length (p : List Int) : (chainOf p).length = 8 := chainB_length _

/-- A slice of bytes that reads as m, and does not lie in block bh. -/
def Src (w : World) (v : Value) (m : List Int) (bh : Nat) : Prop :=
  ∃ ad cap sb so, v = .slice ad m.length cap ∧ m.length ≤ cap ∧ (0 < m.length → ad = some ⟨sb, so, none⟩) ∧ sb ≠ bh ∧ (∀ j, j < m.length → w.cell? ⟨sb, so + j, none⟩ = some (.int .u8 (m[j]?.getD 0))) ∧ (ad = none → cap = 0)
theorem Src.only {w w' : World} {v : Value} {m : List Int} {bh : Nat} (h : Src w v m bh) (ho : Only bh w w') : Src w' v m bh := by
  obtain ⟨ad, cap, sb, so, h1, h2, h3, h4, h5, h6⟩ := h
  exact ⟨ad, cap, sb, so, h1, h2, h3, h4, fun j hj => by rw [← h5 j hj]; exact World.cell?_of_block (ho.block sb (World.block_lt_of_cell? w _ (h5 j hj)) h4), h6⟩
theorem Src.below {w w' : World} {v : Value} {m : List Int} {bh : Nat} (h : Src w v m bh) (ho : Below w.heap.size w w') : Src w' v m bh := h.only (Only.of_below ho)
/-- What lies in older blocks. -/
theorem Src.other {w : World} {v : Value} {m : List Int} {bh c : Nat} (h : Src w v m bh) (hc : w.heap.size ≤ c) : Src w v m c := by
  obtain ⟨ad, cap, sb, so, h1, h2, h3, h4, h5, h6⟩ := h
  by_cases hm : 0 < m.length
  · have := World.block_lt_of_cell? w _ (h5 0 hm)
    exact ⟨ad, cap, sb, so, h1, h2, h3, by simp at this; omega, h5, h6⟩
  · exact ⟨ad, cap, c + 1, so, h1, h2, fun h => absurd h hm, by omega, fun j hj => by omega, h6⟩
/-- What lies below B, when nothing below B is otherwise. -/
theorem Src.of_below {w w' : World} {v : Value} {m : List Int} {bh c : Nat} (h : Src w v m bh) (hb : Below w.heap.size w w') (hc : w.heap.size ≤ c) : Src w' v m c := (h.other hc).only (Only.of_below hb)
theorem Src.of_at {w : World} {g : Nat} {m : List Int} {t : TypeId} {bh : Nat} (h : At w g (bs m) t) (hb : g ≠ bh) (cap : Nat) (hc : m.length ≤ cap) : Src w (.slice (some ⟨g, 0, none⟩) m.length cap) m bh :=
  ⟨_, cap, g, 0, rfl, hc, fun _ => rfl, hb, fun j hj => by rw [Nat.zero_add]; exact h.get_bs j hj, fun h => by cases h⟩
/-- A row of the call's own. -/
def OwnB (w : World) (base : Nat) (v : Value) (m : List Int) : Prop := w.ownsRow base 5 1 v m.length (m.map (Value.int .u8))
theorem OwnB.src {w : World} {base : Nat} {v : Value} {m : List Int} (h : OwnB w base v m) (bh : Nat) (hb : bh < base) : Src w v m bh := by
  obtain ⟨_, ⟨rfl, h0⟩ | ⟨g, cap, cur, rfl, hg, hw, hn, _, _, hx⟩⟩ := h
  · have : m = [] := List.length_eq_zero_iff.1 h0
    subst this
    exact ⟨none, 0, bh + 1, 0, rfl, by simp, fun h => by simp at h, by omega, fun j hj => by simp at hj, fun _ => rfl⟩
  · refine ⟨_, cap, g, 0, rfl, hn, fun _ => rfl, by omega, fun j hj => ?_, fun h => by cases h⟩
    have hw' : w.heap[g]? = some (.cells cur 5 (0, 0)) := hw
    have e : cur.toList[j]? = (m.map (Value.int .u8))[j]? := by rw [← hx, List.getElem?_take_of_lt (by omega)]
    rw [Nat.zero_add]
    simp only [World.cell?, hw']
    rw [← Array.getElem?_toList, e, List.getElem?_map, List.getElem?_eq_getElem hj]; rfl
/-- append to a row of the call's own, from whatever source. -/
theorem list_append_bytes {P : Program} {w : World} {ops : Array Oper} {rest : List Oper} {o : Oper} {a : Act} {Q : Exit → Act → World → Prop} (hgd : o.guard = none) (s x : Operand) (t : TypeId)
    (ho : o.op = .call { callee := .builtin .append, args := #[s, x], argTypes := #[t, t] }) (ht : P.underlying t = some (.slice 5)) (hi : (P.info? 5).map (fun i => (i.zero, i.size, i.bytes)) = some (some (.int .u8 0), 1, 1))
    (base : Nat) (v : Value) (m : List Int) (hs : a.eval s = v) (hown : OwnB w base v m) (vx : Value) (z : List Int) (bh : Nat) (hx : a.eval x = vx) (hz : Src w vx z bh) (hl : m.length + z.length ≤ 70368744177664) (hbase : base ≤ w.heap.size)
    (h : ∀ v' w', OwnB w' base v' (m ++ z) → w.grownBy w' v.ownBlock → wpList P ops Q rest (a.put o.dst v') w') : wpList P ops Q (o :: rest) a w := by
  obtain ⟨i, hi', hzz⟩ := Option.map_eq_some_iff.1 hi
  simp only [Prod.mk.injEq] at hzz
  obtain ⟨hz1, hz2, hz3⟩ := hzz
  obtain ⟨ad, cap, sb, so, rfl, h2, h3, h4, h5, h6⟩ := hz
  cases ad with
  | none =>
    have h0 : z = [] := List.length_eq_zero_iff.1 (Nat.eq_zero_of_not_pos fun hp => by cases h3 hp)
    subst h0
    obtain rfl := h6 rfl
    refine wpList_append_own_none hgd s x t ho base 5 i 1 ht hi' v m.length (m.map (Value.int .u8)) hs hown hx ?_
    exact h v w (by simpa using hown) (World.grownBy.refl _ _)
  | some A =>
    refine wpList_append_own w hgd s x t ho base 5 i (.int .u8 0) 1 1 ht hi' hz1 hz2 hz3 rfl (by omega) v m.length (m.map (Value.int .u8)) hs hown A z.length cap (z.map (Value.int .u8)) hx (by simp) ?_ (by simp [Value.oneCell']) (by unfold maxLen; omega) (by omega) hbase ?_
    · intro j u hu
      have hj : j < z.length := by simpa using (List.getElem?_eq_some_iff.1 hu).1
      obtain rfl : A = ⟨sb, so, none⟩ := by have := h3 (by omega); injection this
      rw [Addr.add_mid, h5 j hj, ← hu, List.getElem?_map, List.getElem?_eq_getElem hj]; rfl
    · intro v' w' h7 h8 _
      refine h v' w' ?_ h8
      unfold OwnB
      simpa using h7

def sliceLen : Value → Nat | .slice _ n _ => n | _ => 0

/-- copy into the middle of a block. -/
theorem list_copy {P : Program} {w : World} {ops : Array Oper} {rest : List Oper} {o : Oper} {a : Act} {Q : Exit → Act → World → Prop} (hgd : o.guard = none) (d s : Operand) (dT sT : TypeId)
    (ho : o.op = .call { callee := .builtin .copy, args := #[d, s], argTypes := #[dT, sT] }) (elem : TypeId) (hu : P.underlying dT = some (.slice elem)) (hsz : (P.info? elem).map (·.size) = some 1)
    (b off dLen dCap : Nat) (ad : Addr) (sLen sCap : Nat) (hd : a.eval d = .slice (some ⟨b, off, none⟩) dLen dCap) (hs : a.eval s = .slice (some ad) sLen sCap)
    (cs : List Value) (q : Nat) (hq : cs.length = q) (hn : q = Nat.min sLen dLen) (hsrc : ∀ j v, cs[j]? = some v → w.cell? (ad.add j) = some v) (ht : w.there b off q) (h1 : ∀ v ∈ cs, v.oneCell' = true)
    (h : wpList P ops Q rest (a.put o.dst (.int .i64 q)) (w.setCells b off cs)) : wpList P ops Q (o :: rest) a w := by
  subst hq
  refine wpList_plain hgd fun K hK => ?_
  have hrun := run_copy_cells (P := P) w dT sT o.type elem b off dLen dCap ad sLen sCap cs hu hsz hn hsrc (fun j hj => (ht j hj).1) (fun j hj => (ht j hj).2) h1
  unfold Oper.wp
  simp [execOp, ho, resolve, invoke, builtin, hd, hs, hrun, Result.andThen]
  exact hK _ _ h

/-- append where there is room. -/
theorem list_append_room {P : Program} {ops : Array Oper} {rest : List Oper} {o : Oper} {a : Act} {w : World} {Q : Exit → Act → World → Prop}
    (hg : o.guard = none) (s x : Operand) (t : TypeId) (hop : o.op = Op.call { callee := Callee.builtin Builtin.append, args := #[s, x], argTypes := #[t, t] })
    (e : TypeId) (h1 : P.underlying t = some (.slice e)) (h2 : (P.info? e).map (·.size) = some 1)
    (b off n cap : Nat) (hs : a.eval s = .slice (some ⟨b, off, none⟩) n cap)
    (ad : Addr) (m c : Nat) (news : List Value) (hx : a.eval x = .slice (some ad) m c) (hn : news.length = m) (hc : ∀ j u, news[j]? = some u → w.cell? (ad.add j) = some u) (h1c : ∀ u ∈ news, u.oneCell' = true)
    (hroom : n + m ≤ cap) (hspare : w.there b (off + n) m)
    (h : wpList P ops Q rest (a.put o.dst (.slice (some ⟨b, off, none⟩) (n + m) cap)) (w.setCells b (off + n) news)) : wpList P ops Q (o :: rest) a w := by
  refine wpList_plain hg fun K hK => ?_
  obtain ⟨i, hi, hz⟩ := Option.map_eq_some_iff.1 h2
  subst hn
  have hrun := run_append_room_cells (P := P) w t o.type e i h1 hi b off n cap ad news.length c news (by rw [hz]; simp) hc h1c hroom (fun j hj => by rw [hz, Nat.mul_one]; exact (hspare j hj).1) (fun j hj => by rw [hz, Nat.mul_one]; exact (hspare j hj).2)
  rw [hz, Nat.mul_one] at hrun
  unfold Oper.wp
  simp [execOp, hop, resolve, invoke, builtin, hs, hx, hrun, Result.andThen]
  exact hK _ _ h

/-- An element of an array by value. -/
theorem run_index_ws {P : Program} (t e : TypeId) (n : Nat) (l : List Int) (i : Nat) (w : World) (hl : l.length = n) (h : P.underlying t = some (.array n e)) (he : P.underlying e = some (.int .u32)) (hz : (P.info? e).map (·.size) = some 1) (hi : i < n) :
    (Instr.index t (.agg (ws l)) (.int .i64 (i : Int))).run P w = .ok (.int .u32 (l[i]?.getD 0)) w := by
  obtain ⟨j, hj, hz⟩ := Option.map_eq_some_iff.1 hz
  have hg' : l[i]? = some (l[i]'(by omega)) := List.getElem?_eq_getElem (by omega)
  simp [Instr.index, run_underlying h, asIntOf, part, isAgg, run_underlying he, sizeOf, typeInfo, hj, hz, hg', ws]
  omega

/-- How long what stands behind a text is. -/
def padSize (n : Nat) : Nat := if 64 - n % 64 < 9 then 128 - n % 64 else 64 - n % 64
/-- A byte of the count of bits. -/
def cntByte (n i : Nat) : Int := IntKind.u64.wrap ((n : Int) * 8) / 2 ^ (8 * i) % 256
/-- What stands behind a text of n bytes, when i bytes of the count are laid. -/
def padAt (n : Nat) : Nat → List Int
  | 0 => (List.replicate (padSize n) 0).set 0 128
  | i + 1 => (padAt n i).set (padSize n - 1 - i) (cntByte n i)
theorem padAt_length (n i : Nat) : (padAt n i).length = padSize n := by
  induction i with
  | zero => simp [padAt]
  | succ i ih => simp [padAt, ih]
def padL (n : Nat) : List Int := padAt n 8
theorem padL_length (n : Nat) : (padL n).length = padSize n := padAt_length n 8
theorem padSize_pos (n : Nat) : 9 ≤ padSize n ∧ padSize n ≤ 72 := by unfold padSize; split <;> omega
theorem padSize_whole (n : Nat) : (n + padSize n) % 64 = 0 := by unfold padSize; split <;> omega
theorem bs_set (l : List Int) (k : Nat) (v : Int) : (bs l).setIfInBounds k (.int .u8 v) = bs (l.set k v) := by
  unfold bs; apply Array.ext'; simp [List.map_set]
theorem made_bs (n : Nat) : madeCells #[Value.int .u8 0] n = bs (List.replicate n 0) := by
  apply Array.ext'; rw [toList_madeCells_one]; simp [bs]

/-- The four bytes of a word, the high one first. -/
def wbytes (x : Int) : List Int := [x / 16777216 % 256, x / 65536 % 256, x / 256 % 256, x % 256]
/-- The bytes of a list of words. -/
def wordsB (l : List Int) : List Int := (l.map wbytes).flatten
theorem wordsB_length (l : List Int) : (wordsB l).length = 4 * l.length := by
  unfold wordsB
  induction l with
  | nil => rfl
  | cons x r ih => simp only [List.map_cons, List.flatten_cons, List.length_append, ih, List.length_cons, wbytes, List.length_nil]; omega
theorem wordsB_snoc (l : List Int) (x : Int) : wordsB (l ++ [x]) = wordsB l ++ wbytes x := by simp [wordsB]

theorem At.put_bs {w : World} {b : Nat} {t : TypeId} {l : List Int} (h : At w b (bs l) t) (o : Nat) (x : List Int) (ho : o + x.length ≤ l.length) :
    At (w.setCells b o (x.map (Value.int .u8))) b (bs (l.take o ++ x ++ l.drop (o + x.length))) t := by
  have := At.cells (t := t) (b := b) (x.map (Value.int .u8)) (l.map (Value.int .u8)) o w h (by simpa using ho)
  have e : splice (l.map (Value.int .u8)) o (x.map (Value.int .u8)) = (l.take o ++ x ++ l.drop (o + x.length)).map (Value.int .u8) := by
    simp [splice, List.map_take, List.map_drop]
  rwa [e] at this
theorem At.there_bs {w : World} {b : Nat} {t : TypeId} {l : List Int} (h : At w b (bs l) t) (o n : Nat) (ho : o + n ≤ l.length) : w.there b o n := fun j hj => by
  refine ⟨?_, h.frozen _⟩
  rw [h.cell, bs_get l (o + j) (by omega)]; rfl
theorem At.range_bs {w : World} {b : Nat} {t : TypeId} {l : List Int} (h : At w b (bs l) t) : ∀ j u, (l.map (Value.int .u8))[j]? = some u → w.cell? ((⟨b, 0, none⟩ : Addr).add j) = some u := fun j u hu => by
  rw [Addr.add_mid, Nat.zero_add, h.cell, ← hu]; simp [bs]
theorem below_setCells {B b : Nat} {a : World} : ∀ (vs : List Value) (o : Nat) (w : World), Below B a w → B ≤ b → Below B a (w.setCells b o vs)
  | [], _, _, h, _ => h
  | v :: r, o, _, h, hb => below_setCells r (o + 1) _ (h.setCell (p := ⟨b, o, none⟩) hb v) hb
theorem size_setCells (b : Nat) : ∀ (vs : List Value) (o : Nat) (w : World), (w.setCells b o vs).heap.size = w.heap.size
  | [], _, _ => rfl
  | v :: r, o, w => by rw [World.setCells, size_setCells b r]; simp [World.setCell]

/-- The sum: the chain of the text with what stands behind it, as bytes. -/
def shaL (l : List Int) : List Int := wordsB (chainOf (l ++ padL l.length))

theorem shaL_length (l : List Int) : (shaL l).length = 32 := by rw [shaL, wordsB_length, chainOf_length]
/-- What a sum answers. -/
def SumPost (w : World) (l : List Int) (e : Ending) (w' : World) : Prop :=
  ∃ g, e = .returned (.slice (some ⟨g, 0, none⟩) 32 32) ∧ w.heap.size ≤ g ∧ Below w.heap.size w w' ∧ At w' g (bs (shaL l)) 5

end Go.Sha
