/- Small facts on bytes in memory that several layers share. No conditions: lemmas. What a Writer and a Reader hold in memory, and the bytes of numbers: definitions and small facts. No conditions: lemmas. The contracts of the Reader's small functions: Err, Left, fail, take, Clone. The contracts of asNumber, and of the Reader's Num, Word, counted, Bytes, Text, NewReader. -/
import Derived.Test.YtfhgoedonjcekaaDoorPu
import Derived.Laws.BitsAllLaws
import Derived.Test.YtfhgoedonjcekaaDoorRows
import Derived.Laws.Cover3
namespace Go.Sha
open Go.RowKit
/-- s[:n] -/
theorem src_front {w : World} {ad : Option Addr} {l : List Int} {cap b n : Nat} (h : Src w (.slice ad l.length cap) l b) (hn : n ≤ l.length) : Src w (.slice ad n cap) (l.take n) b := by
  obtain ⟨ad', cap', sb, so, e, x2, x3, x4, x5, x6⟩ := h
  injection e with e1 _ e3
  subst e1 e3
  have hl : (l.take n).length = n := by rw [List.length_take]; omega
  exact ⟨ad, cap, sb, so, by rw [hl], by omega, fun h => x3 (by omega), x4, fun j hj => by rw [x5 j (by omega), List.getElem?_take_of_lt (by omega)], x6⟩
end Go.Sha
namespace Go.Proofs.YtfhgoedonjcekaaDoor
open Go.RowKit Go.Sha
theorem put_zero (E : Nat) (t suf : List Int) : (List.replicate (E + t.length) (0 : Int) ++ suf).take E ++ t ++ (List.replicate (E + t.length) (0 : Int) ++ suf).drop (E + t.length) = List.replicate E 0 ++ (t ++ suf) := by
  rw [List.drop_append_of_le_length (by simp), List.drop_of_length_le (by simp), List.take_append_of_le_length (by simp), List.take_replicate]
  simp
theorem At.put_new {w : World} {g E : Nat} {t suf : List Int} (h : At w g (bs (List.replicate (E + t.length) 0 ++ suf)) 5) : At (w.setCells g E (t.map (Value.int .u8))) g (bs (List.replicate E 0 ++ (t ++ suf))) 5 := by
  have := h.put_bs E t (by simp)
  rwa [put_zero] at this
theorem ext_cells {w w' : World} (h : Ext w w') {g : Nat} (hg : w.heap.size ≤ g) (vs : List Value) (o : Nat) : Ext w (w'.setCells g o vs) := below_setCells vs o w' h hg
theorem ext_drew {w w' : World} (h : Ext w w') : Ext w w'.drew := Below.drew h
end Go.Proofs.YtfhgoedonjcekaaDoor

namespace Go.Sha
open Go.RowKit

/-- A number in so many bytes, the least first. -/
def lf (n : Int) : Nat → List Int
  | 0 => []
  | k + 1 => lf n k ++ [n / 2 ^ (8 * k) % 256]
theorem lf_length (n : Int) (k : Nat) : (lf n k).length = k := by
  induction k with
  | zero => rfl
  | succ k ih => simp [lf, ih]
/-- While they are laid. -/
def lfA (n : Int) (s k : Nat) : List Int := lf n k ++ List.replicate (s - k) 0
theorem lfA_length (n : Int) (s k : Nat) (h : k ≤ s) : (lfA n s k).length = s := by simp [lfA, lf_length]; omega
theorem lfA_set (n : Int) (s k : Nat) (h : k < s) : (lfA n s k).set k (n / 2 ^ (8 * k) % 256) = lfA n s (k + 1) := by
  unfold lfA
  rw [List.set_append_right _ _ (by rw [lf_length]; omega), lf_length, Nat.sub_self]
  have : s - k = (s - (k + 1)) + 1 := by omega
  rw [this, List.replicate_succ, List.set_cons_zero, lf]
  simp
theorem lfA_zero (n : Int) (s : Nat) : lfA n s 0 = List.replicate s 0 := by simp [lfA, lf]
theorem lfA_full (n : Int) (s : Nat) : lfA n s s = lf n s := by simp [lfA]

/-- A Writer's cells: the last chunk, how many, what waits, how many wait, bad. -/
def wcl (p : Value) (n : Nat) (wt : List Int) (k : Nat) (bad : Bool) : List Value := p :: .int .i64 n :: (wt.map (Value.int .u8) ++ [.int .i64 k, .bool bad])
theorem wcl_length (p : Value) (n : Nat) (wt : List Int) (k : Nat) (bad : Bool) (h : wt.length = 256) : (wcl p n wt k bad).length = 260 := by simp [wcl, h]
/-- A Writer at block b. -/
structure Wat (w : World) (b : Nat) (p : Value) (n : Nat) (wt : List Int) (k : Nat) (bad : Bool) : Prop where
  h256 : wt.length = 256
  at_ : At w b (wcl p n wt k bad).toArray 68
section
variable {w w' : World} {b c n k : Nat} {p : Value} {wt : List Int} {bad : Bool}
theorem Wat.cell_p (h : Wat w b p n wt k bad) : w.cell? ⟨b, 0, none⟩ = some p := by rw [h.at_.cell]; simp [wcl]
theorem Wat.cell_n (h : Wat w b p n wt k bad) : w.cell? ⟨b, 1, none⟩ = some (.int .i64 n) := by rw [h.at_.cell]; simp [wcl]
theorem wcl_k (h : wt.length = 256) : (wcl p n wt k bad)[258]? = some (.int .i64 k) := by
  unfold wcl; rw [show 258 = 256 + 1 + 1 from rfl, List.getElem?_cons_succ, List.getElem?_cons_succ, List.getElem?_append_right (by simp [h])]; simp [h]
theorem wcl_bad (h : wt.length = 256) : (wcl p n wt k bad)[259]? = some (.bool bad) := by
  unfold wcl; rw [show 259 = 257 + 1 + 1 from rfl, List.getElem?_cons_succ, List.getElem?_cons_succ, List.getElem?_append_right (by simp [h])]; simp [h]
theorem wcl_wt (j : Nat) (h : j < wt.length) : (wcl p n wt k bad)[2 + j]? = (wt.map (Value.int .u8))[j]? := by
  unfold wcl; rw [show 2 + j = j + 1 + 1 by omega, List.getElem?_cons_succ, List.getElem?_cons_succ, List.getElem?_append_left (by simpa using h)]
theorem Wat.cell_k (h : Wat w b p n wt k bad) : w.cell? ⟨b, 258, none⟩ = some (.int .i64 k) := by rw [h.at_.cell]; simpa using wcl_k h.h256
theorem Wat.cell_bad (h : Wat w b p n wt k bad) : w.cell? ⟨b, 259, none⟩ = some (.bool bad) := by rw [h.at_.cell]; simpa using wcl_bad h.h256
theorem Wat.range_wt (h : Wat w b p n wt k bad) : w.rangeAt b 2 (wt.map (Value.int .u8)) := fun j v hv => by
  have hj : j < wt.length := by simpa using (List.getElem?_eq_some_iff.1 hv).1
  rw [h.at_.cell, ← hv, ← wcl_wt (p := p) (n := n) (k := k) (bad := bad) j hj]; simp
theorem Wat.there (h : Wat w b p n wt k bad) (o m : Nat) (ho : o + m ≤ 260) : w.there b o m := fun j hj => by
  refine ⟨?_, h.at_.frozen _⟩
  rw [h.at_.cell]
  have hl := wcl_length p n wt k bad h.h256
  simp; omega
theorem Wat.frozen (h : Wat w b p n wt k bad) (j : Nat) : w.frozen? ⟨b, j, none⟩ = false := h.at_.frozen j
theorem Wat.set_p (h : Wat w b p n wt k bad) (q : Value) : Wat (w.setCell ⟨b, 0, none⟩ q) b q n wt k bad := by
  refine ⟨h.h256, ?_⟩
  have := h.at_.set 0 q
  simpa [wcl] using this
theorem Wat.set_n (h : Wat w b p n wt k bad) (m : Nat) : Wat (w.setCell ⟨b, 1, none⟩ (.int .i64 m)) b p m wt k bad := by
  refine ⟨h.h256, ?_⟩
  have := h.at_.set 1 (.int .i64 m)
  simpa [wcl] using this
theorem Wat.set_k (h : Wat w b p n wt k bad) (m : Nat) : Wat (w.setCell ⟨b, 258, none⟩ (.int .i64 m)) b p n wt m bad := by
  refine ⟨h.h256, ?_⟩
  have := h.at_.set 258 (.int .i64 m)
  have e : (wcl p n wt k bad).set 258 (.int .i64 m) = wcl p n wt m bad := by
    unfold wcl; rw [show 258 = 256 + 1 + 1 from rfl, List.set_cons_succ, List.set_cons_succ, List.set_append_right _ _ (by simp [h.h256])]; simp [h.h256]
  simpa [e] using this
theorem splice_w (o : Nat) (x : List Int) (h : wt.length = 256) (ho : o + x.length ≤ 256) :
    splice (wcl p n wt k bad) (2 + o) (x.map (Value.int .u8)) = wcl p n (wt.take o ++ x ++ wt.drop (o + x.length)) k bad := by
  unfold splice wcl
  simp only [List.length_map]
  rw [show 2 + o = o + 1 + 1 by omega, show o + 1 + 1 + x.length = (o + x.length) + 1 + 1 by omega, List.take_succ_cons, List.take_succ_cons, List.drop_succ_cons, List.drop_succ_cons]
  rw [List.take_append_of_le_length (by simp [h]; omega), List.drop_append_of_le_length (by simp [h]; omega)]
  simp [List.map_take, List.map_drop]
theorem Wat.set_mid (h : Wat w b p n wt k bad) (o : Nat) (x : List Int) (ho : o + x.length ≤ 256) :
    Wat (w.setCells b (2 + o) (x.map (Value.int .u8))) b p n (wt.take o ++ x ++ wt.drop (o + x.length)) k bad := by
  refine ⟨by simp [h.h256]; omega, ?_⟩
  have := At.cells (t := 68) (x.map (Value.int .u8)) (wcl p n wt k bad) (2 + o) w h.at_ (by rw [wcl_length p n wt k bad h.h256]; simp; omega)
  rwa [splice_w o x h.h256 ho] at this
theorem Wat.set_wt (h : Wat w b p n wt k bad) (x : List Int) (hx : x.length = 256) : Wat (w.setCells b 2 (x.map (Value.int .u8))) b p n x k bad := by
  have := h.set_mid 0 x (by omega)
  have e : wt.drop 256 = [] := List.drop_of_length_le (by rw [h.h256]; omega)
  simpa [hx, e] using this
theorem Wat.only (h : Wat w b p n wt k bad) (ho : Only c w w') (hb : b ≠ c) : Wat w' b p n wt k bad := ⟨h.h256, ho.at h.at_ hb⟩
theorem Wat.below (h : Wat w b p n wt k bad) (hb : Below w.heap.size w w') : Wat w' b p n wt k bad := ⟨h.h256, h.at_.below hb h.at_.lt⟩
theorem Wat.drew (h : Wat w b p n wt k bad) : Wat w.drew b p n wt k bad := ⟨h.h256, h.at_⟩
theorem Wat.drewN (h : Wat w b p n wt k bad) (m : Nat) : Wat (w.drewN m) b p n wt k bad := ⟨h.h256, h.at_⟩
end

/-- Chunks, the last one first; none of them lies in block b. -/
def Chain (w : World) (b : Nat) : Value → List (List Int) → Prop
  | p, [] => p = .pointer none
  | p, c :: r => ∃ g q, p = .pointer (some ⟨g, 0, none⟩) ∧ g ≠ b ∧ c.length = 256 ∧ At w g (q :: c.map (Value.int .u8)).toArray 99 ∧ Chain w b q r
theorem Chain.only {w w' : World} {b : Nat} (ho : Only b w w') : ∀ {cs : List (List Int)} {p : Value}, Chain w b p cs → Chain w' b p cs
  | [], _, h => h
  | _ :: _, _, ⟨g, q, h1, h2, h3, h4, h5⟩ => ⟨g, q, h1, h2, h3, ho.at h4 h2, h5.only ho⟩
theorem Chain.below {w w' : World} {b : Nat} (hb : Below w.heap.size w w') {cs : List (List Int)} {p : Value} (h : Chain w b p cs) : Chain w' b p cs := h.only (Only.of_below hb)
theorem Chain.one {w : World} {b : Nat} {cs : List (List Int)} {p : Value} (h : Chain w b p cs) : p.oneCell' = true := by
  cases cs with
  | nil => rw [show p = .pointer none from h]; rfl
  | cons c r => obtain ⟨g, q, rfl, _⟩ := h; rfl
theorem Chain.flat {w : World} {b : Nat} : ∀ {cs : List (List Int)} {p : Value}, Chain w b p cs → cs.reverse.flatten.length = 256 * cs.length
  | [], _, _ => rfl
  | c :: r, _, ⟨_, _, _, _, h3, _, h5⟩ => by
    have := h5.flat
    simp only [List.reverse_cons, List.flatten_append, List.length_append, List.flatten_cons, List.flatten_nil, List.length_nil, List.length_cons, this, h3]
    omega

/-- What waits, with noughts behind it. -/
def pad256 (t : List Int) : List Int := t ++ List.replicate (256 - t.length) 0
theorem pad256_length (t : List Int) (h : t.length ≤ 256) : (pad256 t).length = 256 := by simp [pad256]; omega
theorem pad256_put (t x : List Int) : (pad256 t).take t.length ++ x ++ (pad256 t).drop (t.length + x.length) = pad256 (t ++ x) := by
  unfold pad256
  rw [List.take_append_of_le_length (by omega), List.take_of_length_le (by omega), List.drop_append]
  rw [List.drop_of_length_le (by omega)]
  simp; omega
theorem pad256_full (t : List Int) (h : t.length = 256) : pad256 t = t := by simp [pad256, h]
theorem pad256_nil : pad256 [] = List.replicate 256 0 := rfl

/-- The Writer at block b has the bytes l: 'cs' lie in chunks, 't' waits. -/
structure WRep (w : World) (b : Nat) (l : List Int) (cs : List (List Int)) (t : List Int) (p : Value) : Prop where
  hl : l = cs.reverse.flatten ++ t
  ht : t.length < 256
  hat : Wat w b p cs.length (pad256 t) t.length false
  hc : Chain w b p cs
theorem WRep.len {w : World} {b : Nat} {l : List Int} {cs : List (List Int)} {t : List Int} {p : Value} (h : WRep w b l cs t p) : l.length = 256 * cs.length + t.length := by
  rw [h.hl, List.length_append, h.hc.flat]
/-- What a Writer has: bytes, or it is bad. -/
def WSt (w : World) (b : Nat) : Option (List Int) → Prop
  | some l => ∃ cs t p, WRep w b l cs t p
  | none => Wat w b (.pointer none) 0 (List.replicate 256 0) 0 true
theorem WSt.below {w w' : World} {b : Nat} (hb : Below w.heap.size w w') {o : Option (List Int)} (h : WSt w b o) : WSt w' b o := by
  cases o with
  | none => exact Wat.below (p := .pointer none) h hb
  | some l =>
    obtain ⟨cs, t, p, h⟩ := h
    exact ⟨cs, t, p, h.hl, h.ht, h.hat.below hb, h.hc.below hb⟩
theorem WSt.lt {w : World} {b : Nat} {o : Option (List Int)} (h : WSt w b o) : b < w.heap.size := by
  cases o with
  | none => exact h.at_.lt
  | some l =>
    obtain ⟨cs, t, p, h⟩ := h
    exact h.hat.at_.lt
/-- Some more bytes wait: the chunk is not full yet. -/
theorem WRep.more {w w' : World} {b : Nat} {l : List Int} {cs : List (List Int)} {t : List Int} {p : Value} (h : WRep w b l cs t p) (x : List Int) (hx : t.length + x.length < 256) (ho : Only b w w')
    (hat : Wat w' b p cs.length (pad256 (t ++ x)) (t.length + x.length) false) : WRep w' b (l ++ x) cs (t ++ x) p :=
  ⟨by rw [h.hl, List.append_assoc], by simp; omega, by simpa using hat, h.hc.only ho⟩
/-- The chunk is full. -/
theorem WRep.full {w w' : World} {b g : Nat} {l : List Int} {cs : List (List Int)} {t : List Int} {p : Value} (h : WRep w b l cs t p) (x : List Int) (hx : t.length + x.length = 256) (ho : Only b w w') (hg : g ≠ b)
    (hat : Wat w' b (.pointer (some ⟨g, 0, none⟩)) (cs.length + 1) (List.replicate 256 0) 0 false) (hch : At w' g (p :: (pad256 (t ++ x)).map (Value.int .u8)).toArray 99) : WSt w' b (some (l ++ x)) := by
  have e : pad256 (t ++ x) = t ++ x := pad256_full _ (by simp; omega)
  rw [e] at hch
  refine ⟨(t ++ x) :: cs, [], _, by rw [h.hl]; simp, by simp, by rw [pad256_nil]; exact hat, g, p, rfl, hg, by simp; omega, hch, h.hc.only ho⟩

/-- Bytes in a block below b. -/
def SrcU (w : World) (v : Value) (l : List Int) (b : Nat) : Prop := ∀ bh, b ≤ bh → Src w v l bh
/-- A Reader at block b: what is left (in a block below its own), the error. -/
def RSt (w : World) (b : Nat) (l : List Int) (e : Int) : Prop := ∃ v, At w b #[v, .int .i64 e] 102 ∧ SrcU w v l b ∧ (e ≠ 0 → l = [])
theorem RSt.below {w w' : World} {b : Nat} (hb : Below w.heap.size w w') {l : List Int} {e : Int} (h : RSt w b l e) : RSt w' b l e := by
  obtain ⟨v, h1, h2, h3⟩ := h
  exact ⟨v, h1.below hb h1.lt, fun bh hbh => (h2 bh hbh).below hb, h3⟩
theorem RSt.drewN {w : World} {b : Nat} {l : List Int} {e : Int} (h : RSt w b l e) (n : Nat) : RSt (w.drewN n) b l e := h.below ⟨rfl, rfl, rfl, Nat.le_refl _, fun _ _ => rfl⟩
theorem RSt.lt {w : World} {b : Nat} {l : List Int} {e : Int} (h : RSt w b l e) : b < w.heap.size := by
  obtain ⟨v, h1, h2, h3⟩ := h
  exact h1.lt
/-- s[n:] -/
theorem src_back {w : World} {ad : Option Addr} {l : List Int} {cap b n : Nat} (h : Src w (.slice ad l.length cap) l b) (_hn : n ≤ l.length) : Src w (.slice (Option.map (fun x => x.add n) ad) (l.length - n) (cap - n)) (l.drop n) b := by
  obtain ⟨ad', cap', sb, so, e, x2, x3, x4, x5, x6⟩ := h
  injection e with e1 _ e3
  subst e1 e3
  have hl : (l.drop n).length = l.length - n := by rw [List.length_drop]
  refine ⟨_, cap - n, sb, so + n, by rw [hl], by omega, fun h => by rw [x3 (by omega)]; simp [Addr.add_mid], x4, fun j hj => ?_, fun h => ?_⟩
  · rw [Nat.add_assoc, x5 (n + j) (by omega), List.getElem?_drop]
  · cases ad with
    | none => have := x6 rfl; omega
    | some _ => cases h
theorem src_back0 {w : World} {ad : Option Addr} {l : List Int} {cap b n : Nat} (h : Src w (.slice ad l.length cap) l b) (hc : cap = n) : Src w (.slice ad (l.length - n) 0) (l.drop n) b := by
  obtain ⟨ad', cap', sb, so, e, x2, x3, x4, x5, x6⟩ := h
  injection e with e1 _ e3
  subst e1 e3
  have hl : (l.drop n).length = 0 := by rw [List.length_drop]; omega
  exact ⟨ad, 0, b + 1, so, by rw [hl, show l.length - n = 0 by omega], by omega, fun h => by omega, by omega, fun j hj => by omega, fun _ => rfl⟩
theorem Src.nil (w : World) (b : Nat) : Src w (.slice none 0 0) [] b := ⟨none, 0, b + 1, 0, rfl, by simp, fun h => by simp at h, by omega, fun j hj => by simp at hj, fun _ => rfl⟩
/-- What is left of a Reader is set anew. -/
theorem RSt.set {w : World} {b : Nat} {v u : Value} {m : List Int} (h : At w b #[v, .int .i64 0] 102) (hs : SrcU w u m b) : RSt (w.setCell ⟨b, 0, none⟩ u) b m 0 := by
  refine ⟨u, ?_, fun bh hbh => src_keep (hs b (Nat.le_refl _)) (hs bh hbh) (Only.set b 0 w u), fun h => absurd rfl h⟩
  have := h.set 0 u
  simpa using this
/-- The number of bytes, the least first. -/
def leN : List Int → Int
  | [] => 0
  | x :: r => x + 256 * leN r
theorem leN_snoc (l : List Int) (x : Int) : leN (l ++ [x]) = leN l + x * 256 ^ l.length := by
  induction l with
  | nil => simp [leN]
  | cons y r ih => simp only [List.cons_append, leN, ih, List.length_cons, Int.pow_succ]; rw [Int.mul_add, ← Int.add_assoc]; congr 1; rw [Int.mul_left_comm, Int.mul_comm 256 (256 ^ r.length)]
theorem leN_range (l : List Int) (h : Byt l) : 0 ≤ leN l ∧ leN l < 256 ^ l.length := by
  induction l with
  | nil => simp [leN]
  | cons y r ih =>
    have h1 := h y (by simp)
    have h2 := ih (fun x hx => h x (by simp [hx]))
    simp only [leN, List.length_cons, Int.pow_succ]
    omega
theorem Byt.take {l : List Int} (h : Byt l) (n : Nat) : Byt (l.take n) := fun x hx => h x (List.mem_of_mem_take hx)
theorem Byt.drop {l : List Int} (h : Byt l) (n : Nat) : Byt (l.drop n) := fun x hx => h x (List.mem_of_mem_drop hx)
theorem Byt.get {l : List Int} (h : Byt l) (k : Nat) (hk : k < l.length) : 0 ≤ l[k]?.getD 0 ∧ l[k]?.getD 0 < 256 := by
  rw [List.getElem?_eq_getElem hk]; exact h _ (List.getElem_mem hk)
theorem take_snoc {l : List Int} (k : Nat) (hk : k < l.length) : l.take (k + 1) = l.take k ++ [l[k]?.getD 0] := by
  rw [List.take_succ_eq_append_getElem hk, List.getElem?_eq_getElem hk]; rfl
/-- Bits that are apart are added. -/
theorem or_apart (a x : Int) (k : Nat) (ha : 0 ≤ a ∧ a < 2 ^ k) (hx : 0 ≤ x) (hb : a + x * 2 ^ k < 18446744073709551616) : bits .or .u64 a (x * 2 ^ k) = a + x * 2 ^ k := by
  obtain ⟨a, rfl⟩ := Int.eq_ofNat_of_zero_le ha.1
  obtain ⟨x, rfl⟩ := Int.eq_ofNat_of_zero_le hx
  have e0 : ((2 : Int) ^ k) = ((2 ^ k : Nat) : Int) := by rw [Int.natCast_pow]; rfl
  rw [e0] at ha hb ⊢
  rw [← Int.natCast_mul] at hb ⊢
  generalize hy : x * 2 ^ k = y at *
  have ha2 : a < 2 ^ k := by omega
  have e2 : (a ||| y) = a + y := by
    have := Nat.two_pow_add_eq_or_of_lt ha2 x
    rw [← hy, Nat.or_comm, Nat.mul_comm x, ← this, Nat.add_comm]
  rw [u64_or_nat a y (by omega) (by omega), e2, Int.natCast_add]
end Go.Sha

namespace Go.Proofs.YtfhgoedonjcekaaDoor
open Go.RowKit Go.Sha

theorem err_nil (w : World) : Calls Tryd.prog 99 #[.pointer none] w fun e w' => e = .returned (.int .i64 2) ∧ w = w' := by
  go_enter Tryd.func99, Tryd.ntmps99
  go_wp2
  go_ret
  exact ⟨rfl, rfl⟩
theorem left_nil (w : World) : Calls Tryd.prog 49 #[.pointer none] w fun e w' => e = .returned (.int .i64 0) ∧ w = w' := by
  go_enter Tryd.func49, Tryd.ntmps49
  go_wp2
  go_ret
  exact ⟨rfl, rfl⟩
theorem err_any (b : Nat) (l : List Int) (er : Int) (w : World) (h : RSt w b l er) : Calls Tryd.prog 99 #[.pointer (some ⟨b, 0, none⟩)] w fun e w' => e = .returned (.int .i64 er) ∧ w = w' := by
  obtain ⟨v, h1, h2, h3⟩ := h
  have c1 : w.cell? ⟨b, 1, none⟩ = some (.int .i64 er) := by rw [h1.cell]; rfl
  clear h1 h2 h3
  go_enter Tryd.func99, Tryd.ntmps99
  go_wp2
  go_ret
  exact ⟨rfl, rfl⟩
theorem left_any (b : Nat) (l : List Int) (er : Int) (w : World) (h : RSt w b l er) : Calls Tryd.prog 49 #[.pointer (some ⟨b, 0, none⟩)] w fun e w' => e = .returned (.int .i64 (l.length : Int)) ∧ w = w' := by
  obtain ⟨v, h1, h2, h3⟩ := h
  obtain ⟨ad, cap, rfl⟩ := (h2 b (Nat.le_refl _)).len
  have c1 : w.cell? ⟨b, 0, none⟩ = some (.slice ad l.length cap) := by rw [h1.cell]; rfl
  clear h1 h2 h3
  go_enter Tryd.func49, Tryd.ntmps49
  go_wp2
  go_ret
  exact ⟨rfl, rfl⟩
theorem fail_nil (y : Int) (w : World) : Calls Tryd.prog 93 #[.pointer none, .int .i64 y] w fun e w' => e = .returned (.tuple #[]) ∧ w = w' := by
  go_enter Tryd.func93, Tryd.ntmps93
  go_wp2_with fail
  refine (err_nil w).mono ?_
  rintro e w' ⟨rfl, rfl⟩
  go_wp2
  go_end0
  exact ⟨rfl, rfl⟩
theorem fail_err (b : Nat) (l : List Int) (er y : Int) (w : World) (h : RSt w b l er) (he : er ≠ 0) : Calls Tryd.prog 93 #[.pointer (some ⟨b, 0, none⟩), .int .i64 y] w fun e w' => e = .returned (.tuple #[]) ∧ w = w' := by
  have t1 : (er == 0) = false := beq_eq_false_iff_ne.2 he
  clear he
  go_enter Tryd.func93, Tryd.ntmps93
  go_wp2_with fail
  refine (err_any b l er w h).mono ?_
  rintro e w' ⟨rfl, rfl⟩
  clear h
  go_wp2
  go_end0
  exact ⟨rfl, rfl⟩
theorem sz67 : (Tryd.prog.info? 102).map (·.size) = some 2 := by kernel_rfl
theorem fail_ok (b : Nat) (l : List Int) (y : Int) (w : World) (h : RSt w b l 0) : Calls Tryd.prog 93 #[.pointer (some ⟨b, 0, none⟩), .int .i64 y] w fun e w' => e = .returned (.tuple #[]) ∧ Only b w w' ∧ RSt w' b [] y := by
  go_enter Tryd.func93, Tryd.ntmps93
  go_wp2_with fail
  refine (err_any b l 0 w h).mono ?_
  rintro e w' ⟨rfl, rfl⟩
  obtain ⟨v, h1, h2, h3⟩ := h
  have h4 : At w b [v, .int .i64 0].toArray 102 := h1
  have t1 : w.there b 0 2 := fun j hj => ⟨by rw [h1.cell]; simp; omega, h1.frozen _⟩
  clear h2 h3
  go_wp2_with (refine wpList_store_mid rfl 102 _ _ rfl b 0 #[.slice none 0 0, .int .i64 y] rfl rfl t1 sz67 (by simp [Value.oneCell']) ?_)
  go_end0
  refine ⟨rfl, Only.cells b _ 0 w, .slice none 0 0, ?_, fun bh _ => Src.nil _ bh, fun _ => rfl⟩
  exact At.cells (t := 102) [.slice none 0 0, .int .i64 y] [v, .int .i64 0] 0 w h4 (by simp)

theorem clone_at (v : Value) (m : List Int) (b : Nat) (w : World) (hs : Src w v m b) (hl : m.length ≤ 70368744177664) : Calls Tryd.prog 67 #[v] w (BPost w m) := by
  have hs' := hs
  obtain ⟨ad, cap, xb, xo, rfl, x2, x3, x4, x5, x6⟩ := hs
  cases ad with
  | none =>
    have h0 : m = [] := List.length_eq_zero_iff.1 (Nat.eq_zero_of_not_pos fun hp => by cases x3 hp)
    subst h0
    obtain rfl := x6 rfl
    clear x2 x3 x4 x5 x6 hs'
    have hq := eql_nil
    go_enter Tryd.func67, Tryd.ntmps67
    go_wp2
    go_ret
    exact ⟨_, rfl, Ext.refl w, OwnB.nil w _⟩
  | some A =>
    have hown := OwnB.made w
    have e1 : Ext w (w.alloc (.cells #[] 5)) := Ext.alloc w _
    have s1 := hs'.now e1
    have hB0 : w.heap.size ≤ (w.alloc (.cells #[] 5)).heap.size := by simp
    clear x2 x3 x4 x5 x6 hs'
    have hq := eql_nil
    go_enter Tryd.func67, Tryd.ntmps67
    go_wp2_with (refine list_append_bytes rfl (.tmp 5) (.tmp 6) 22 rfl Tryd.underlying22 u8zero w.heap.size (.slice (some ⟨w.heap.size, 0, none⟩) 0 0) [] rfl hown _ m _ rfl s1 (by rw [List.length_nil]; omega) hB0 ?_; intro vx w4 ox gx; have b4 := hown.grown gx hB0; rw [List.nil_append] at ox)
    go_ret
    exact ⟨_, rfl, Below.trans e1 b4, ox⟩

theorem take_nil (n : Nat) (w : World) : Calls Tryd.prog 92 #[.pointer none, .int .i64 (n : Int)] w fun e w' => e = .returned (.slice none 0 0) ∧ w = w' := by
  by_cases h : 0 < n
  · have t1 : decide (0 < n) = true := by simp; omega
    clear h
    go_enter Tryd.func92, Tryd.ntmps92
    go_wp2_with fail
    refine (left_nil w).mono ?_
    rintro e w' ⟨rfl, rfl⟩
    go_wp2_with fail
    refine (fail_nil 2 w).mono ?_
    rintro e w' ⟨rfl, rfl⟩
    go_wp2_with fail
    refine (err_nil w).mono ?_
    rintro e w' ⟨rfl, rfl⟩
    go_wp2
    go_ret
    exact ⟨rfl, rfl⟩
  · have t1 : decide (0 < n) = false := by simp; omega
    clear h
    go_enter Tryd.func92, Tryd.ntmps92
    go_wp2_with fail
    refine (left_nil w).mono ?_
    rintro e w' ⟨rfl, rfl⟩
    go_wp2_with fail
    refine (err_nil w).mono ?_
    rintro e w' ⟨rfl, rfl⟩
    go_wp2
    go_ret
    exact ⟨rfl, rfl⟩
theorem take_err (b : Nat) (er : Int) (n : Nat) (w : World) (h : RSt w b [] er) (he : er ≠ 0) : Calls Tryd.prog 92 #[.pointer (some ⟨b, 0, none⟩), .int .i64 (n : Int)] w fun e w' => e = .returned (.slice none 0 0) ∧ w = w' := by
  have t2 : (er == 0) = false := beq_eq_false_iff_ne.2 he
  have H := Lib.hid h; clear h
  have He := Lib.hid he; clear he
  by_cases h : 0 < n
  · have t1 : decide (0 < n) = true := by simp; omega
    clear h
    go_enter Tryd.func92, Tryd.ntmps92
    go_wp2_with fail
    refine (left_any b _ _ w H.out).mono ?_
    rintro e w' ⟨rfl, rfl⟩
    go_wp2_with fail
    refine (fail_err b _ _ 2 w H.out He.out).mono ?_
    rintro e w' ⟨rfl, rfl⟩
    go_wp2_with fail
    refine (err_any b _ _ w H.out).mono ?_
    rintro e w' ⟨rfl, rfl⟩
    go_wp2
    go_ret
    exact ⟨rfl, rfl⟩
  · have t1 : decide (0 < n) = false := by simp; omega
    clear h
    go_enter Tryd.func92, Tryd.ntmps92
    go_wp2_with fail
    refine (left_any b _ _ w H.out).mono ?_
    rintro e w' ⟨rfl, rfl⟩
    go_wp2_with fail
    refine (err_any b _ _ w H.out).mono ?_
    rintro e w' ⟨rfl, rfl⟩
    go_wp2
    go_ret
    exact ⟨rfl, rfl⟩
theorem take_short (b : Nat) (l : List Int) (n : Nat) (w : World) (h : RSt w b l 0) (hn : l.length < n) : Calls Tryd.prog 92 #[.pointer (some ⟨b, 0, none⟩), .int .i64 (n : Int)] w fun e w' => e = .returned (.slice none 0 0) ∧ Only b w w' ∧ RSt w' b [] 2 := by
  have H := Lib.hid h; clear h
  have t1 : decide (l.length < n) = true := by simp; omega
  clear hn
  go_enter Tryd.func92, Tryd.ntmps92
  go_wp2_with fail
  refine (left_any b _ _ w H.out).mono ?_
  rintro e w' ⟨rfl, rfl⟩
  go_wp2_with fail
  refine (fail_ok b _ 2 w H.out).mono ?_
  rintro e w' ⟨rfl, ho, hr⟩
  have Hr := Lib.hid hr; clear hr
  go_wp2_with fail
  refine (err_any b _ _ w' Hr.out).mono ?_
  rintro e w' ⟨rfl, rfl⟩
  go_wp2
  go_ret
  exact ⟨rfl, ho, Hr.out⟩
set_option maxHeartbeats 400000 in
theorem take_ok (b : Nat) (l : List Int) (n : Nat) (w : World) (h : RSt w b l 0) (hn : n ≤ l.length) : Calls Tryd.prog 92 #[.pointer (some ⟨b, 0, none⟩), .int .i64 (n : Int)] w fun e w' => ∃ v, e = .returned v ∧ Only b w w' ∧ RSt w' b (l.drop n) 0 ∧ Src w' v (l.take n) b := by
  have H := Lib.hid h; clear h
  have t1 : decide (l.length < n) = false := by simp; omega
  have Hn := Lib.hid hn; clear hn
  go_enter Tryd.func92, Tryd.ntmps92
  go_wp2_with fail
  refine (left_any b _ _ w H.out).mono ?_
  rintro e w' ⟨rfl, rfl⟩
  go_wp2_with fail
  refine (err_any b _ _ w H.out).mono ?_
  rintro e w' ⟨rfl, rfl⟩
  obtain ⟨v, h1, h2, h3⟩ := H.out
  have SU := Lib.hid h2
  replace h2 := h2 b (Nat.le_refl _)
  have S2 := Lib.hid h2
  obtain ⟨ad, cap, sb, so, rfl, x2, x3, x4, x5, x6⟩ := h2
  clear H
  have hn := Hn.out
  have c0 : w.cell? ⟨b, 0, none⟩ = some (.slice ad l.length cap) := by rw [h1.cell]; rfl
  have f0 := h1.frozen 0
  have n0 : (0 : Int) ≤ (n : Int) := by omega
  have n1 : (n : Int) ≤ (l.length : Int) := by omega
  have n2 : (n : Int) ≤ (cap : Int) := by omega
  have H1 := Lib.hid h1; clear h1
  clear h3 hn x3 x4 x5 x6
  go_wp2
  all_goals go_ret
  · subst h
    exact ⟨_, rfl, Only.set b 0 w _, RSt.set H1.out (fun bh hbh => src_back0 (SU.out bh hbh) rfl), (src_front S2.out Hn.out).only (Only.set b 0 w _)⟩
  · exact ⟨_, rfl, Only.set b 0 w _, RSt.set H1.out (fun bh hbh => src_back (SU.out bh hbh) Hn.out), (src_front S2.out Hn.out).only (Only.set b 0 w _)⟩
end Go.Proofs.YtfhgoedonjcekaaDoor

namespace Go.Proofs.YtfhgoedonjcekaaDoor
open Go.RowKit Go.Sha

theorem pow_256 (k : Nat) : (2 : Int) ^ (8 * k) = 256 ^ k := by rw [Int.pow_mul]; rfl
theorem asn_step (m : List Int) (k : Nat) (hk : k < m.length) (h8 : m.length ≤ 8) (hb : Byt m) (x : Int) (hx : x = m[k]?.getD 0) : bits .or .u64 (leN (m.take k)) (IntKind.u64.wrap (IntKind.u64.wrap x * 2 ^ (8 * k))) = leN (m.take (k + 1)) := by
  have h1 := hb.get k hk
  have h2 := leN_range (m.take k) (hb.take k)
  rw [List.length_take, Nat.min_eq_left (by omega)] at h2
  rw [take_snoc k hk, leN_snoc, List.length_take, Nat.min_eq_left (by omega), ← hx]
  rw [← hx] at h1
  have h3 : (2 : Int) ^ (8 * k) * 256 ≤ 18446744073709551616 := by
    have : k = 0 ∨ k = 1 ∨ k = 2 ∨ k = 3 ∨ k = 4 ∨ k = 5 ∨ k = 6 ∨ k = 7 := by omega
    rcases this with h | h | h | h | h | h | h | h <;> rw [h] <;> decide
  have h4 : (0 : Int) < 2 ^ (8 * k) := by rw [pow_256]; exact Int.pow_pos (by omega)
  have h5 : (x + 1) * 2 ^ (8 * k) ≤ 256 * 2 ^ (8 * k) := Int.mul_le_mul_of_nonneg_right (by omega) (by omega)
  have h6 : 0 ≤ x * 2 ^ (8 * k) := Int.mul_nonneg h1.1 (by omega)
  rw [Int.add_mul] at h5
  rw [← pow_256] at h2 ⊢
  rw [IntWalk.u64_in x (by omega), IntWalk.u64_in _ (by omega)]
  exact or_apart _ x (8 * k) h2 h1.1 (by omega)
def InvN (w : World) (m : List Int) (n i : Value) (wr : World) : Prop := ∃ k : Nat, k ≤ m.length ∧ i = .int .i64 k ∧ n = .int .u64 (leN (m.take k)) ∧ wr = w
set_option maxHeartbeats 400000 in
theorem asn_any (v : Value) (m : List Int) (b : Nat) (w : World) (hs : Src w v m b) (hb : Byt m) (h8 : m.length ≤ 8) : Calls Tryd.prog 91 #[v] w fun e w' => e = .returned (.int .u64 (leN m)) ∧ w = w' := by
  obtain ⟨ad, cap, sb, so, rfl, x2, x3, x4, x5, x6⟩ := hs
  have X3 := Lib.hid x3; clear x3
  have X5 := Lib.hid x5; clear x5
  have Hb := Lib.hid hb; clear hb
  clear x2 x4 x6
  go_enter Tryd.func91, Tryd.ntmps91
  go_wp2
  go_loopw [3, 8] (fun n i wr => InvN w m n i wr) (fun _ i _ => m.length - (intOf i).toNat)
  case atStart => exact ⟨0, by omega, rfl, rfl, rfl⟩
  case round =>
    obtain ⟨k, hk, rfl, rfl, rfl⟩ := hrel
    by_cases hlt : k < m.length
    · have e := X3.out (by omega)
      subst e
      have c0 := X5.out k hlt
      have q1 : (0 : Int) ≤ (k : Int) := by omega
      have q2 : (0 : Int) ≤ 8 * (k : Int) := by omega
      have q3 : ((8 : Int) * (k : Int)).toNat = 8 * k := by omega
      have q4 : min (8 * k) 64 = 8 * k := by omega
      have q5 : (k : Int) < (m.length : Int) := by omega
      go_wp2
      exact ⟨⟨k + 1, by omega, rfl, by rw [asn_step m k hlt h8 Hb.out _ (by rw [List.getElem?_eq_getElem hlt]; rfl)], rfl⟩, by simp [intOf]; omega⟩
    · obtain rfl : k = m.length := by omega
      rw [List.take_length]
      go_wp2
      go_ret
      exact ⟨rfl, rfl⟩

/-- What Num answers, and leaves. -/
def rNum (l : List Int) (e : Int) : Int × List Int × Int :=
  if e ≠ 0 then (0, [], e) else if l.length < 4 then (0, [], 2) else if 2147483647 < leN (l.take 4) then (0, [], 2) else (leN (l.take 4), l.drop 4, 0)
def rWord (l : List Int) (e : Int) : Int × List Int × Int :=
  if e ≠ 0 then (0, [], e) else if l.length < 8 then (0, [], 2) else (leN (l.take 8), l.drop 8, 0)
def rCnt (l : List Int) (e : Int) (most : Nat) : List Int × List Int × Int :=
  if (rNum l e).2.2 ≠ 0 then ([], [], (rNum l e).2.2) else if (rNum l e).2.1.length < (rNum l e).1.toNat then ([], [], 2) else if most < (rNum l e).1.toNat then ([], [], 3)
  else ((rNum l e).2.1.take (rNum l e).1.toNat, (rNum l e).2.1.drop (rNum l e).1.toNat, 0)
theorem rst_nil {w : World} {b : Nat} {l : List Int} {e : Int} (h : RSt w b l e) (he : e ≠ 0) : l = [] := by
  obtain ⟨v, _, _, h3⟩ := h
  exact h3 he
theorem rNum_range (l : List Int) (e : Int) (hb : Byt l) : 0 ≤ (rNum l e).1 ∧ (rNum l e).1 ≤ 2147483647 := by
  unfold rNum
  split
  · simp
  · split
    · simp
    · split
      · simp
      · exact ⟨(leN_range _ (hb.take 4)).1, by simp only; omega⟩
theorem rNum_byt (l : List Int) (e : Int) (hb : Byt l) : Byt (rNum l e).2.1 := by
  unfold rNum
  split
  · intro x hx; simp at hx
  · split
    · intro x hx; simp at hx
    · split
      · intro x hx; simp at hx
      · exact hb.drop 4

theorem num_nil (w : World) : Calls Tryd.prog 78 #[.pointer none] w fun e w' => e = .returned (.int .i64 0) ∧ w = w' := by
  go_enter Tryd.func78, Tryd.ntmps78
  go_wp2_with fail
  refine (take_nil 4 w).mono ?_
  rintro e w' ⟨rfl, rfl⟩
  go_wp2_with fail
  refine (asn_any _ [] 0 w (Src.nil w 0) (fun x hx => by simp at hx) (by simp)).mono ?_
  rintro e w' ⟨rfl, rfl⟩
  rw [leN]
  go_wp2
  go_ret
  exact ⟨rfl, rfl⟩
theorem cnt_nil (most : Nat) (w : World) : Calls Tryd.prog 100 #[.pointer none, .int .i64 (most : Int)] w fun e w' => e = .returned (.slice none 0 0) ∧ w = w' := by
  have t1 : decide ((most : Int) < 0) = false := by simp
  go_enter Tryd.func100, Tryd.ntmps100
  go_wp2_with fail
  refine (num_nil w).mono ?_
  rintro e w' ⟨rfl, rfl⟩
  go_wp2_with fail
  refine (take_nil 0 w).mono ?_
  rintro e w' ⟨rfl, rfl⟩
  go_wp2
  go_ret
  exact ⟨rfl, rfl⟩
theorem rbytes_nil (most : Nat) (w : World) : Calls Tryd.prog 94 #[.pointer none, .int .i64 (most : Int)] w (BPost w []) := by
  go_enter Tryd.func94, Tryd.ntmps94
  go_wp2_with fail
  refine (cnt_nil most w).mono ?_
  rintro e w' ⟨rfl, rfl⟩
  go_wp2_with fail
  refine (clone_at _ [] 0 w (Src.nil w 0) (by simp)).mono ?_
  rintro e w' ⟨v, rfl, h1, h2⟩
  go_wp2
  go_ret
  exact ⟨v, rfl, h1, h2⟩

set_option maxHeartbeats 400000 in
theorem num_any (b : Nat) (l : List Int) (er : Int) (w : World) (h : RSt w b l er) (hb : Byt l) :
    Calls Tryd.prog 78 #[.pointer (some ⟨b, 0, none⟩)] w fun e w' => e = .returned (.int .i64 (rNum l er).1) ∧ Only b w w' ∧ RSt w' b (rNum l er).2.1 (rNum l er).2.2 := by
  by_cases he : er ≠ 0
  · have hl := rst_nil h he
    subst hl
    rw [rNum, if_pos he]
    have H := Lib.hid h; clear h
    have He := Lib.hid he; clear he hb
    go_enter Tryd.func78, Tryd.ntmps78
    go_wp2_with fail
    refine (take_err b er 4 w H.out He.out).mono ?_
    rintro e w' ⟨rfl, rfl⟩
    go_wp2_with fail
    refine (asn_any _ [] 0 w (Src.nil w 0) (fun x hx => by simp at hx) (by simp)).mono ?_
    rintro e w' ⟨rfl, rfl⟩
    rw [leN]
    go_wp2
    go_ret
    exact ⟨rfl, Only.refl b w, H.out⟩
  · rw [rNum, if_neg he]
    obtain rfl : er = 0 := Classical.not_not.1 he
    clear he
    by_cases h4 : l.length < 4
    · rw [if_pos h4]
      have H := Lib.hid h; clear h
      have Hb := Lib.hid hb; clear hb
      have H4 := Lib.hid h4; clear h4
      go_enter Tryd.func78, Tryd.ntmps78
      go_wp2_with fail
      refine (take_short b l 4 w H.out H4.out).mono ?_
      rintro e w' ⟨rfl, ho, hr⟩
      have Hr := Lib.hid hr; clear hr
      go_wp2_with fail
      refine (asn_any _ [] 0 w' (Src.nil w' 0) (fun x hx => by simp at hx) (by simp)).mono ?_
      rintro e w' ⟨rfl, rfl⟩
      rw [leN]
      go_wp2
      go_ret
      exact ⟨rfl, ho, Hr.out⟩
    · rw [if_neg h4]
      have hl : (l.take 4).length = 4 := by rw [List.length_take]; omega
      have hR := leN_range (l.take 4) (hb.take 4)
      rw [hl] at hR
      have hR2 : leN (l.take 4) < 4294967296 := hR.2
      have hw : IntKind.i64.wrap (leN (l.take 4)) = leN (l.take 4) := IntWalk.i64_in _ (by omega)
      by_cases hg : 2147483647 < leN (l.take 4)
      · rw [if_pos hg]
        have t1 : decide (2147483647 < leN (l.take 4)) = true := decide_eq_true hg
        have H := Lib.hid h; clear h
        have Hb := Lib.hid hb; clear hb
        have H4 := Lib.hid h4; clear h4
        have Hl := Lib.hid hl; clear hl hR hR2 hg
        go_enter Tryd.func78, Tryd.ntmps78
        go_wp2_with fail
        refine (take_ok b l 4 w H.out (by have := H4.out; omega)).mono ?_
        rintro e w' ⟨v, rfl, ho, hr, hs⟩
        have Hr := Lib.hid hr; clear hr
        have Hs := Lib.hid hs; clear hs
        go_wp2_with fail
        refine (asn_any v _ b w' Hs.out (Hb.out.take 4) (by rw [Hl.out]; omega)).mono ?_
        rintro e w' ⟨rfl, rfl⟩
        go_wp2_with fail
        refine (fail_ok b _ 2 _ Hr.out).mono ?_
        rintro e w2 ⟨rfl, ho2, hr2⟩
        go_wp2
        go_ret
        exact ⟨rfl, ho.trans ho2, hr2⟩
      · rw [if_neg hg]
        have t1 : decide (2147483647 < leN (l.take 4)) = false := decide_eq_false hg
        have H := Lib.hid h; clear h
        have Hb := Lib.hid hb; clear hb
        have H4 := Lib.hid h4; clear h4
        have Hl := Lib.hid hl; clear hl hR hR2 hg
        go_enter Tryd.func78, Tryd.ntmps78
        go_wp2_with fail
        refine (take_ok b l 4 w H.out (by have := H4.out; omega)).mono ?_
        rintro e w' ⟨v, rfl, ho, hr, hs⟩
        have Hr := Lib.hid hr; clear hr
        have Hs := Lib.hid hs; clear hs
        go_wp2_with fail
        refine (asn_any v _ b w' Hs.out (Hb.out.take 4) (by rw [Hl.out]; omega)).mono ?_
        rintro e w' ⟨rfl, rfl⟩
        go_wp2
        go_ret
        exact ⟨rfl, ho, Hr.out⟩
theorem int_nat (x : Int) (h : 0 ≤ x) : x = (x.toNat : Int) := by omega
set_option maxHeartbeats 400000 in
theorem cnt_any (b : Nat) (l : List Int) (er : Int) (most : Nat) (w : World) (h : RSt w b l er) (hb : Byt l) :
    Calls Tryd.prog 100 #[.pointer (some ⟨b, 0, none⟩), .int .i64 (most : Int)] w fun e w' => ∃ v, e = .returned v ∧ Only b w w' ∧ RSt w' b (rCnt l er most).2.1 (rCnt l er most).2.2 ∧ Src w' v (rCnt l er most).1 b := by
  have hR := rNum_range l er hb
  have hB := rNum_byt l er hb
  have hN := num_any b l er w h hb
  clear h hb
  unfold rCnt
  generalize rNum l er = R at *
  obtain ⟨N, l', e'⟩ := R
  simp only at hR hB hN ⊢
  obtain ⟨n, rfl⟩ : ∃ n : Nat, N = (n : Int) := ⟨N.toNat, int_nat N hR.1⟩
  rw [Int.toNat_natCast]
  have HN := Lib.hid hN; clear hN hB
  by_cases he : e' ≠ 0
  · rw [if_pos he]
    have He := Lib.hid he; clear he hR
    have t1 : decide ((most : Int) < 0) = false := by simp
    go_enter Tryd.func100, Tryd.ntmps100
    go_wp2_with fail
    refine HN.out.mono ?_
    rintro e w' ⟨rfl, ho, hr⟩
    have hl := rst_nil hr He.out
    subst hl
    have Hr := Lib.hid hr; clear hr
    go_wp2_with fail
    refine (take_err b e' n w' Hr.out He.out).mono ?_
    rintro e w2 ⟨rfl, rfl⟩
    go_wp2
    go_ret
    exact ⟨_, rfl, ho, Hr.out, Src.nil _ _⟩
  · rw [if_neg he]
    obtain rfl : e' = 0 := Classical.not_not.1 he
    clear he
    by_cases h2 : l'.length < n
    · rw [if_pos h2]
      have H2 := Lib.hid h2; clear h2 hR
      have t1 : decide ((most : Int) < 0) = false := by simp
      go_enter Tryd.func100, Tryd.ntmps100
      go_wp2_with fail
      refine HN.out.mono ?_
      rintro e w' ⟨rfl, ho, hr⟩
      have Hr := Lib.hid hr; clear hr
      go_wp2_with fail
      refine (take_short b l' n w' Hr.out H2.out).mono ?_
      rintro e w2 ⟨rfl, ho2, hr2⟩
      have Hr2 := Lib.hid hr2; clear hr2
      go_wp2
      go_ret
      exact ⟨_, rfl, ho.trans ho2, Hr2.out, Src.nil _ _⟩
    · rw [if_neg h2]
      have hl : (l'.take n).length = n := by rw [List.length_take]; omega
      by_cases h3 : most < n
      · rw [if_pos h3]
        have H2 := Lib.hid h2; clear h2 hR
        have Hl := Lib.hid hl; clear hl
        have t1 : decide (most < n) = true := decide_eq_true h3
        clear h3
        go_enter Tryd.func100, Tryd.ntmps100
        go_wp2_with fail
        refine HN.out.mono ?_
        rintro e w' ⟨rfl, ho, hr⟩
        have Hr := Lib.hid hr; clear hr
        go_wp2_with fail
        refine (take_ok b l' n w' Hr.out (by have := H2.out; omega)).mono ?_
        rintro e w2 ⟨v, rfl, ho2, hr2, hs2⟩
        obtain ⟨ad, cap, rfl⟩ := hs2.len
        have Hr2 := Lib.hid hr2; clear hr2 hs2
        rw [Hl.out]
        go_wp2_with fail
        refine (fail_ok b _ 3 _ Hr2.out).mono ?_
        rintro e w3 ⟨rfl, ho3, hr3⟩
        have Hr3 := Lib.hid hr3; clear hr3
        go_wp2
        go_ret
        exact ⟨_, rfl, (ho.trans ho2).trans ho3, Hr3.out, Src.nil _ _⟩
      · rw [if_neg h3]
        have H2 := Lib.hid h2; clear h2 hR
        have Hl := Lib.hid hl; clear hl
        have t1 : decide (most < n) = false := decide_eq_false h3
        clear h3
        go_enter Tryd.func100, Tryd.ntmps100
        go_wp2_with fail
        refine HN.out.mono ?_
        rintro e w' ⟨rfl, ho, hr⟩
        have Hr := Lib.hid hr; clear hr
        go_wp2_with fail
        refine (take_ok b l' n w' Hr.out (by have := H2.out; omega)).mono ?_
        rintro e w2 ⟨v, rfl, ho2, hr2, hs2⟩
        obtain ⟨ad, cap, rfl⟩ := hs2.len
        have Hr2 := Lib.hid hr2; clear hr2
        have Hs2 := Lib.hid hs2; clear hs2
        rw [Hl.out]
        go_wp2
        go_ret
        refine ⟨_, rfl, ho.trans ho2, Hr2.out, ?_⟩
        have := Hs2.out
        rwa [Hl.out] at this
theorem rCnt_short (l : List Int) (e : Int) (most : Nat) : (rCnt l e most).1.length ≤ most := by
  unfold rCnt
  split
  · simp
  · split
    · simp
    · split
      · simp
      · simp only [List.length_take]; omega
theorem rbytes_any (b : Nat) (l : List Int) (er : Int) (most : Nat) (w : World) (h : RSt w b l er) (hb : Byt l) (hm : most ≤ 1000000000) :
    Calls Tryd.prog 94 #[.pointer (some ⟨b, 0, none⟩), .int .i64 (most : Int)] w fun e w' => ∃ v, e = .returned v ∧ Only b w w' ∧ RSt w' b (rCnt l er most).2.1 (rCnt l er most).2.2 ∧ (∀ bh, bh < w.heap.size ∨ w'.heap.size ≤ bh → Src w' v (rCnt l er most).1 bh) := by
  have H := Lib.hid h; clear h
  have Hb := Lib.hid hb; clear hb
  go_enter Tryd.func94, Tryd.ntmps94
  go_wp2_with fail
  refine (cnt_any b l er most w H.out Hb.out).mono ?_
  rintro e w1 ⟨v, rfl, ho, hr, hs⟩
  have Hr := Lib.hid hr; clear hr
  have Hs := Lib.hid hs; clear hs
  go_wp2_with fail
  refine (clone_at _ _ b w1 Hs.out (by have := rCnt_short l er most; omega)).mono ?_
  rintro e w2 ⟨u, rfl, h1, h2⟩
  have Hr2 := Lib.hid (Hr.out.below h1)
  have S2 := Lib.hid (fun (bh : Nat) (hbh : bh < w.heap.size ∨ w2.heap.size ≤ bh) => h2.srcs bh (hbh.imp_left fun h => Nat.lt_of_lt_of_le h ho.size))
  clear h2
  go_wp2
  go_ret
  exact ⟨u, rfl, ho.trans (Only.of_below h1), Hr2.out, S2.out⟩
theorem newr_any (v : Value) (m : List Int) (b : Nat) (w : World) (hs : Src w v m b) (hl : m.length ≤ 1000000000) : Calls Tryd.prog 47 #[v] w fun e w' => ∃ g, e = .returned (.pointer (some ⟨g, 0, none⟩)) ∧ Ext w w' ∧ RSt w' g m 0 ∧ w.heap.size ≤ g := by
  have Hs := Lib.hid hs; clear hs
  go_enter Tryd.func47, Tryd.ntmps47
  go_wp2_with fail
  refine (clone_at v m b w Hs.out (by omega)).mono ?_
  rintro e w1 ⟨u, rfl, h1, h2⟩
  have S2 := Lib.hid (fun (bh : Nat) (hbh : w1.heap.size ≤ bh) => h2.srcs bh (Or.inr hbh))
  obtain ⟨ad, cap, rfl⟩ := h2.len
  clear h2
  go_wp2
  go_ret
  refine ⟨w1.heap.size, rfl, h1.trans (Ext.alloc w1 _), ⟨_, At.new w1 _ 102, fun bh hbh => (S2.out bh hbh).ext (Ext.alloc w1 _), fun h => absurd rfl h⟩, h1.size⟩
end Go.Proofs.YtfhgoedonjcekaaDoor
