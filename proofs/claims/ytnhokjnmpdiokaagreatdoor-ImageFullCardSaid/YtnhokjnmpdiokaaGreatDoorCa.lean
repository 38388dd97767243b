/- What a Writer and a Reader hold in memory, and the bytes of numbers: definitions and small facts. No conditions: lemmas. -/
import Derived.Test.YtnhokjnmpdiokaaGreatDoorSpM
import Derived.Laws.BitsAllLaws
namespace Go.Sha
open Go.RowKit

def lf (n : Int) : Nat → List Int
  | 0 => []
  | k + 1 => lf n k ++ [n / 2 ^ (8 * k) % 256]
theorem lf_length (n : Int) (k : Nat) : (lf n k).length = k := by
  induction k with
  | zero => rfl
  | succ k ih => simp [lf, ih]
def lfA (n : Int) (s k : Nat) : List Int := lf n k ++ List.replicate (s - k) 0
theorem lfA_length (n : Int) (s k : Nat) (h : k ≤ s) : (lfA n s k).length = s := by simp [lfA, lf_length]; omega
theorem lfA_set (n : Int) (s k : Nat) (h : k < s) : (lfA n s k).set k (n / 2 ^ (8 * k) % 256) = lfA n s (k + 1) := by
  unfold lfA
  rw [List.set_append_right _ _ (by rw [lf_length]; omega), lf_length, Nat.sub_self]
  have : s - k = (s - (k + 1)) + 1 := by omega
  rw [this, List.replicate_succ, List.set_cons_zero, lf]
  simp
theorem lfA_zero (n : Int) (s : Nat) : lfA n s 0 = List.replicate s 0 := by simp [lfA, lf]
theorem lfA_full (n : Int) (s : Nat) : lfA n s s = lf n s := by simp [lfA]

def wcl (p : Value) (n : Nat) (wt : List Int) (k : Nat) (bad : Bool) : List Value := p :: .int .i64 n :: (wt.map (Value.int .u8) ++ [.int .i64 k, .bool bad])
theorem wcl_length (p : Value) (n : Nat) (wt : List Int) (k : Nat) (bad : Bool) (h : wt.length = 256) : (wcl p n wt k bad).length = 260 := by simp [wcl, h]
structure Wat (w : World) (b : Nat) (p : Value) (n : Nat) (wt : List Int) (k : Nat) (bad : Bool) : Prop where
  h256 : wt.length = 256
  at_ : At w b (wcl p n wt k bad).toArray 98
section
variable {w w' : World} {b c n k : Nat} {p : Value} {wt : List Int} {bad : Bool}
theorem Wat.cell_p (h : Wat w b p n wt k bad) : w.cell? ⟨b, 0, none⟩ = some p := by rw [h.at_.cell]; simp [wcl]
theorem Wat.cell_n (h : Wat w b p n wt k bad) : w.cell? ⟨b, 1, none⟩ = some (.int .i64 n) := by rw [h.at_.cell]; simp [wcl]
theorem wcl_k (h : wt.length = 256) : (wcl p n wt k bad)[258]? = some (.int .i64 k) := by
  unfold wcl; rw [show 258 = 256 + 1 + 1 from rfl, List.getElem?_cons_succ, List.getElem?_cons_succ, List.getElem?_append_right (by simp [h])]; simp [h]
theorem wcl_bad (h : wt.length = 256) : (wcl p n wt k bad)[259]? = some (.bool bad) := by
  unfold wcl; rw [show 259 = 257 + 1 + 1 from rfl, List.getElem?_cons_succ, List.getElem?_cons_succ, List.getElem?_append_right (by simp [h])]; simp [h]
theorem wcl_wt (j : Nat) (h : j < wt.length) : (wcl p n wt k bad)[2 + j]? = (wt.map (Value.int .u8))[j]? := by
  unfold wcl; rw [show 2 + j = j + 1 + 1 by omega, List.getElem?_cons_succ, List.getElem?_cons_succ, List.getElem?_append_left (by simpa using h)]
theorem Wat.cell_k (h : Wat w b p n wt k bad) : w.cell? ⟨b, 258, none⟩ = some (.int .i64 k) := by rw [h.at_.cell]; simpa using wcl_k h.h256
theorem Wat.cell_bad (h : Wat w b p n wt k bad) : w.cell? ⟨b, 259, none⟩ = some (.bool bad) := by rw [h.at_.cell]; simpa using wcl_bad h.h256
theorem Wat.range_wt (h : Wat w b p n wt k bad) : w.rangeAt b 2 (wt.map (Value.int .u8)) := fun j v hv => by
  have hj : j < wt.length := by simpa using (List.getElem?_eq_some_iff.1 hv).1
  rw [h.at_.cell, ← hv, ← wcl_wt (p := p) (n := n) (k := k) (bad := bad) j hj]; simp
theorem Wat.there (h : Wat w b p n wt k bad) (o m : Nat) (ho : o + m ≤ 260) : w.there b o m := fun j hj => by
  refine ⟨?_, h.at_.frozen _⟩
  rw [h.at_.cell]
  have hl := wcl_length p n wt k bad h.h256
  simp; omega
theorem Wat.frozen (h : Wat w b p n wt k bad) (j : Nat) : w.frozen? ⟨b, j, none⟩ = false := h.at_.frozen j
theorem Wat.set_p (h : Wat w b p n wt k bad) (q : Value) : Wat (w.setCell ⟨b, 0, none⟩ q) b q n wt k bad := by
  refine ⟨h.h256, ?_⟩
  have := h.at_.set 0 q
  simpa [wcl] using this
theorem Wat.set_n (h : Wat w b p n wt k bad) (m : Nat) : Wat (w.setCell ⟨b, 1, none⟩ (.int .i64 m)) b p m wt k bad := by
  refine ⟨h.h256, ?_⟩
  have := h.at_.set 1 (.int .i64 m)
  simpa [wcl] using this
theorem Wat.set_k (h : Wat w b p n wt k bad) (m : Nat) : Wat (w.setCell ⟨b, 258, none⟩ (.int .i64 m)) b p n wt m bad := by
  refine ⟨h.h256, ?_⟩
  have := h.at_.set 258 (.int .i64 m)
  have e : (wcl p n wt k bad).set 258 (.int .i64 m) = wcl p n wt m bad := by
    unfold wcl; rw [show 258 = 256 + 1 + 1 from rfl, List.set_cons_succ, List.set_cons_succ, List.set_append_right _ _ (by simp [h.h256])]; simp [h.h256]
  simpa [e] using this
theorem splice_w (o : Nat) (x : List Int) (h : wt.length = 256) (ho : o + x.length ≤ 256) :
    splice (wcl p n wt k bad) (2 + o) (x.map (Value.int .u8)) = wcl p n (wt.take o ++ x ++ wt.drop (o + x.length)) k bad := by
  unfold splice wcl
  simp only [List.length_map]
  rw [show 2 + o = o + 1 + 1 by omega, show o + 1 + 1 + x.length = (o + x.length) + 1 + 1 by omega, List.take_succ_cons, List.take_succ_cons, List.drop_succ_cons, List.drop_succ_cons]
  rw [List.take_append_of_le_length (by simp [h]; omega), List.drop_append_of_le_length (by simp [h]; omega)]
  simp [List.map_take, List.map_drop]
theorem Wat.set_mid (h : Wat w b p n wt k bad) (o : Nat) (x : List Int) (ho : o + x.length ≤ 256) :
    Wat (w.setCells b (2 + o) (x.map (Value.int .u8))) b p n (wt.take o ++ x ++ wt.drop (o + x.length)) k bad := by
  refine ⟨by simp [h.h256]; omega, ?_⟩
  have := At.cells (t := 98) (x.map (Value.int .u8)) (wcl p n wt k bad) (2 + o) w h.at_ (by rw [wcl_length p n wt k bad h.h256]; simp; omega)
  rwa [splice_w o x h.h256 ho] at this
theorem Wat.set_wt (h : Wat w b p n wt k bad) (x : List Int) (hx : x.length = 256) : Wat (w.setCells b 2 (x.map (Value.int .u8))) b p n x k bad := by
  have := h.set_mid 0 x (by omega)
  have e : wt.drop 256 = [] := List.drop_of_length_le (by rw [h.h256]; omega)
  simpa [hx, e] using this
theorem Wat.only (h : Wat w b p n wt k bad) (ho : Only c w w') (hb : b ≠ c) : Wat w' b p n wt k bad := ⟨h.h256, ho.at h.at_ hb⟩
theorem Wat.below (h : Wat w b p n wt k bad) (hb : Below w.heap.size w w') : Wat w' b p n wt k bad := ⟨h.h256, h.at_.below hb h.at_.lt⟩
theorem Wat.drew (h : Wat w b p n wt k bad) : Wat w.drew b p n wt k bad := ⟨h.h256, h.at_⟩
theorem Wat.drewN (h : Wat w b p n wt k bad) (m : Nat) : Wat (w.drewN m) b p n wt k bad := ⟨h.h256, h.at_⟩
end

def Chain (w : World) (b : Nat) : Value → List (List Int) → Prop
  | p, [] => p = .pointer none
  | p, c :: r => ∃ g q, p = .pointer (some ⟨g, 0, none⟩) ∧ g ≠ b ∧ c.length = 256 ∧ At w g (q :: c.map (Value.int .u8)).toArray 131 ∧ Chain w b q r
theorem Chain.only {w w' : World} {b : Nat} (ho : Only b w w') : ∀ {cs : List (List Int)} {p : Value}, Chain w b p cs → Chain w' b p cs
  | [], _, h => h
  | _ :: _, _, ⟨g, q, h1, h2, h3, h4, h5⟩ => ⟨g, q, h1, h2, h3, ho.at h4 h2, h5.only ho⟩
theorem Chain.below {w w' : World} {b : Nat} (hb : Below w.heap.size w w') {cs : List (List Int)} {p : Value} (h : Chain w b p cs) : Chain w' b p cs := h.only (Only.of_below hb)
theorem Chain.one {w : World} {b : Nat} {cs : List (List Int)} {p : Value} (h : Chain w b p cs) : p.oneCell' = true := by
  cases cs with
  | nil => rw [show p = .pointer none from h]; rfl
  | cons c r => obtain ⟨g, q, rfl, _⟩ := h; rfl
theorem Chain.flat {w : World} {b : Nat} : ∀ {cs : List (List Int)} {p : Value}, Chain w b p cs → cs.reverse.flatten.length = 256 * cs.length
  | [], _, _ => rfl
  | c :: r, _, ⟨_, _, _, _, h3, _, h5⟩ => by
    have := h5.flat
    simp only [List.reverse_cons, List.flatten_append, List.length_append, List.flatten_cons, List.flatten_nil, List.length_nil, List.length_cons, this, h3]
    omega

def pad256 (t : List Int) : List Int := t ++ List.replicate (256 - t.length) 0
theorem pad256_put (t x : List Int) : (pad256 t).take t.length ++ x ++ (pad256 t).drop (t.length + x.length) = pad256 (t ++ x) := by
  unfold pad256
  rw [List.take_append_of_le_length (by omega), List.take_of_length_le (by omega), List.drop_append]
  rw [List.drop_of_length_le (by omega)]
  simp; omega
theorem pad256_full (t : List Int) (h : t.length = 256) : pad256 t = t := by simp [pad256, h]
theorem pad256_nil : pad256 [] = List.replicate 256 0 := rfl

structure WRep (w : World) (b : Nat) (l : List Int) (cs : List (List Int)) (t : List Int) (p : Value) : Prop where
  hl : l = cs.reverse.flatten ++ t
  ht : t.length < 256
  hat : Wat w b p cs.length (pad256 t) t.length false
  hc : Chain w b p cs
theorem WRep.len {w : World} {b : Nat} {l : List Int} {cs : List (List Int)} {t : List Int} {p : Value} (h : WRep w b l cs t p) : l.length = 256 * cs.length + t.length := by
  rw [h.hl, List.length_append, h.hc.flat]
def WSt (w : World) (b : Nat) : Option (List Int) → Prop
  | some l => ∃ cs t p, WRep w b l cs t p
  | none => Wat w b (.pointer none) 0 (List.replicate 256 0) 0 true
theorem WSt.below {w w' : World} {b : Nat} (hb : Below w.heap.size w w') {o : Option (List Int)} (h : WSt w b o) : WSt w' b o := by
  cases o with
  | none => exact Wat.below (p := .pointer none) h hb
  | some l =>
    obtain ⟨cs, t, p, h⟩ := h
    exact ⟨cs, t, p, h.hl, h.ht, h.hat.below hb, h.hc.below hb⟩
theorem WSt.lt {w : World} {b : Nat} {o : Option (List Int)} (h : WSt w b o) : b < w.heap.size := by
  cases o with
  | none => exact h.at_.lt
  | some l =>
    obtain ⟨cs, t, p, h⟩ := h
    exact h.hat.at_.lt
theorem WRep.more {w w' : World} {b : Nat} {l : List Int} {cs : List (List Int)} {t : List Int} {p : Value} (h : WRep w b l cs t p) (x : List Int) (hx : t.length + x.length < 256) (ho : Only b w w')
    (hat : Wat w' b p cs.length (pad256 (t ++ x)) (t.length + x.length) false) : WRep w' b (l ++ x) cs (t ++ x) p :=
  ⟨by rw [h.hl, List.append_assoc], by simp; omega, by simpa using hat, h.hc.only ho⟩
theorem WRep.full {w w' : World} {b g : Nat} {l : List Int} {cs : List (List Int)} {t : List Int} {p : Value} (h : WRep w b l cs t p) (x : List Int) (hx : t.length + x.length = 256) (ho : Only b w w') (hg : g ≠ b)
    (hat : Wat w' b (.pointer (some ⟨g, 0, none⟩)) (cs.length + 1) (List.replicate 256 0) 0 false) (hch : At w' g (p :: (pad256 (t ++ x)).map (Value.int .u8)).toArray 131) : WSt w' b (some (l ++ x)) := by
  have e : pad256 (t ++ x) = t ++ x := pad256_full _ (by simp; omega)
  rw [e] at hch
  refine ⟨(t ++ x) :: cs, [], _, by rw [h.hl]; simp, by simp, by rw [pad256_nil]; exact hat, g, p, rfl, hg, by simp; omega, hch, h.hc.only ho⟩

def SrcU (w : World) (v : Value) (l : List Int) (b : Nat) : Prop := ∀ bh, b ≤ bh → Src w v l bh
def RSt (w : World) (b : Nat) (l : List Int) (e : Int) : Prop := ∃ v, At w b #[v, .int .i64 e] 161 ∧ SrcU w v l b ∧ (e ≠ 0 → l = [])
theorem RSt.below {w w' : World} {b : Nat} (hb : Below w.heap.size w w') {l : List Int} {e : Int} (h : RSt w b l e) : RSt w' b l e := by
  obtain ⟨v, h1, h2, h3⟩ := h
  exact ⟨v, h1.below hb h1.lt, fun bh hbh => (h2 bh hbh).below hb, h3⟩
theorem RSt.drewN {w : World} {b : Nat} {l : List Int} {e : Int} (h : RSt w b l e) (n : Nat) : RSt (w.drewN n) b l e := h.below ⟨rfl, rfl, rfl, Nat.le_refl _, fun _ _ => rfl⟩
theorem RSt.lt {w : World} {b : Nat} {l : List Int} {e : Int} (h : RSt w b l e) : b < w.heap.size := by
  obtain ⟨v, h1, h2, h3⟩ := h
  exact h1.lt
theorem src_back {w : World} {ad : Option Addr} {l : List Int} {cap b n : Nat} (h : Src w (.slice ad l.length cap) l b) (_hn : n ≤ l.length) : Src w (.slice (Option.map (fun x => x.add n) ad) (l.length - n) (cap - n)) (l.drop n) b := by
  obtain ⟨ad', cap', sb, so, e, x2, x3, x4, x5, x6⟩ := h
  injection e with e1 _ e3
  subst e1 e3
  have hl : (l.drop n).length = l.length - n := by rw [List.length_drop]
  refine ⟨_, cap - n, sb, so + n, by rw [hl], by omega, fun h => by rw [x3 (by omega)]; simp [Addr.add_mid], x4, fun j hj => ?_, fun h => ?_⟩
  · rw [Nat.add_assoc, x5 (n + j) (by omega), List.getElem?_drop]
  · cases ad with
    | none => have := x6 rfl; omega
    | some _ => cases h
theorem src_back0 {w : World} {ad : Option Addr} {l : List Int} {cap b n : Nat} (h : Src w (.slice ad l.length cap) l b) (hc : cap = n) : Src w (.slice ad (l.length - n) 0) (l.drop n) b := by
  obtain ⟨ad', cap', sb, so, e, x2, x3, x4, x5, x6⟩ := h
  injection e with e1 _ e3
  subst e1 e3
  have hl : (l.drop n).length = 0 := by rw [List.length_drop]; omega
  exact ⟨ad, 0, b + 1, so, by rw [hl, show l.length - n = 0 by omega], by omega, fun h => by omega, by omega, fun j hj => by omega, fun _ => rfl⟩
theorem Src.nil (w : World) (b : Nat) : Src w (.slice none 0 0) [] b := ⟨none, 0, b + 1, 0, rfl, by simp, fun h => by simp at h, by omega, fun j hj => by simp at hj, fun _ => rfl⟩
theorem RSt.set {w : World} {b : Nat} {v u : Value} {m : List Int} (h : At w b #[v, .int .i64 0] 161) (hs : SrcU w u m b) : RSt (w.setCell ⟨b, 0, none⟩ u) b m 0 := by
  refine ⟨u, ?_, fun bh hbh => src_keep (hs b (Nat.le_refl _)) (hs bh hbh) (Only.set b 0 w u), fun h => absurd rfl h⟩
  have := h.set 0 u
  simpa using this
def leN : List Int → Int
  | [] => 0
  | x :: r => x + 256 * leN r
theorem leN_snoc (l : List Int) (x : Int) : leN (l ++ [x]) = leN l + x * 256 ^ l.length := by
  induction l with
  | nil => simp [leN]
  | cons y r ih => simp only [List.cons_append, leN, ih, List.length_cons, Int.pow_succ]; rw [Int.mul_add, ← Int.add_assoc]; congr 1; rw [Int.mul_left_comm, Int.mul_comm 256 (256 ^ r.length)]
theorem leN_range (l : List Int) (h : Byt l) : 0 ≤ leN l ∧ leN l < 256 ^ l.length := by
  induction l with
  | nil => simp [leN]
  | cons y r ih =>
    have h1 := h y (by simp)
    have h2 := ih (fun x hx => h x (by simp [hx]))
    simp only [leN, List.length_cons, Int.pow_succ]
    omega
theorem Byt.take {l : List Int} (h : Byt l) (n : Nat) : Byt (l.take n) := fun x hx => h x (List.mem_of_mem_take hx)
theorem Byt.drop {l : List Int} (h : Byt l) (n : Nat) : Byt (l.drop n) := fun x hx => h x (List.mem_of_mem_drop hx)
theorem Byt.get {l : List Int} (h : Byt l) (k : Nat) (hk : k < l.length) : 0 ≤ l[k]?.getD 0 ∧ l[k]?.getD 0 < 256 := by
  rw [List.getElem?_eq_getElem hk]; exact h _ (List.getElem_mem hk)
theorem take_snoc {l : List Int} (k : Nat) (hk : k < l.length) : l.take (k + 1) = l.take k ++ [l[k]?.getD 0] := by
  rw [List.take_succ_eq_append_getElem hk, List.getElem?_eq_getElem hk]; rfl
theorem or_apart (a x : Int) (k : Nat) (ha : 0 ≤ a ∧ a < 2 ^ k) (hx : 0 ≤ x) (hb : a + x * 2 ^ k < 18446744073709551616) : bits .or .u64 a (x * 2 ^ k) = a + x * 2 ^ k := by
  obtain ⟨a, rfl⟩ := Int.eq_ofNat_of_zero_le ha.1
  obtain ⟨x, rfl⟩ := Int.eq_ofNat_of_zero_le hx
  have e0 : ((2 : Int) ^ k) = ((2 ^ k : Nat) : Int) := by rw [Int.natCast_pow]; rfl
  rw [e0] at ha hb ⊢
  rw [← Int.natCast_mul] at hb ⊢
  generalize hy : x * 2 ^ k = y at *
  have ha2 : a < 2 ^ k := by omega
  have e2 : (a ||| y) = a + y := by
    have := Nat.two_pow_add_eq_or_of_lt ha2 x
    rw [← hy, Nat.or_comm, Nat.mul_comm x, ← this, Nat.add_comm]
  rw [u64_or_nat a y (by omega) (by omega), e2, Int.natCast_add]
end Go.Sha
