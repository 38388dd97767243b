/- The plain functions that the walks of this seat compute: SHA-256 over lists of numbers, in the spelling of the walk; and small facts on lists and blocks. No conditions: definitions and lemmas. -/
import Derived.WalkKit
import Derived.WalkSpells
import Derived.Deep.WholeRow
import Derived.Deep.MidRow
import Derived.Deep.QuietTactic
import Derived.BigQuiet
import Derived.StillTailTactics
import Derived.Lib.Hide
namespace Go.Sha
open Go.RowKit

def rotr (x : Int) (n : Nat) : Int := bits .or .u32 (x / 2 ^ n) (x * 2 ^ (32 - n) % 4294967296)

theorem bits_or_comm (k : IntKind) (a b : Int) : bits .or k a b = bits .or k b a := by
  unfold bits; simp only; rw [BitVec.or_comm]

theorem rotr_left (x : Int) (n : Nat) : bits .or .u32 (x * 2 ^ (32 - n) % 4294967296) (x / 2 ^ n) = rotr x n := by
  rw [bits_or_comm]; rfl

def ws (l : List Int) : Array Value := (l.map (Value.int .u32)).toArray
def bs (l : List Int) : Array Value := (l.map (Value.int .u8)).toArray

theorem ws_size (l : List Int) : (ws l).size = l.length := by simp [ws]
theorem bs_size (l : List Int) : (bs l).size = l.length := by simp [bs]
theorem ws_get (l : List Int) (j : Nat) (h : j < l.length) : (ws l)[j]? = some (.int .u32 (l.getD j 0)) := by
  simp [ws, h]
theorem bs_get (l : List Int) (j : Nat) (h : j < l.length) : (bs l)[j]? = some (.int .u8 (l.getD j 0)) := by
  simp [bs, h]
theorem ws_one (l : List Int) : (ws l).all (·.oneCell') = true := by
  simp [ws, Value.oneCell']
theorem bs_one (l : List Int) : (bs l).all (·.oneCell') = true := by
  simp [bs, Value.oneCell']

def At (w : World) (b : Nat) (c : Array Value) (t : TypeId) : Prop := w.heap[b]? = some (.cells c t (0, 0))

theorem At.lt {w : World} {b : Nat} {c : Array Value} {t : TypeId} (h : At w b c t) : b < w.heap.size := by
  unfold At at h; exact (Array.getElem?_eq_some_iff.1 h).1
theorem At.cell {w : World} {b : Nat} {c : Array Value} {t : TypeId} (h : At w b c t) (j : Nat) : w.cell? ⟨b, j, none⟩ = c[j]? := by
  unfold At at h; simp [World.cell?, h]
theorem At.frozen {w : World} {b : Nat} {c : Array Value} {t : TypeId} (h : At w b c t) (j : Nat) : w.frozen? ⟨b, j, none⟩ = false := by
  unfold At at h; simp [World.frozen?, h]
theorem At.below {w w' : World} {B b : Nat} {c : Array Value} {t : TypeId} (h : At w b c t) (hb : Below B w w') (hB : b < B) : At w' b c t := by
  unfold At at *; rw [hb.block b hB]; exact h
theorem At.new (w : World) (c : Array Value) (t : TypeId) : At (w.alloc (.cells c t)) w.heap.size c t := by
  unfold At; exact heap_alloc_last w _
theorem At.alloc {w : World} {b : Nat} {c : Array Value} {t : TypeId} (h : At w b c t) (o : Obj) : At (w.alloc o) b c t :=
  h.below (Below.alloc (Below.refl w.heap.size w) (Nat.le_refl _) o) h.lt
theorem At.drew {w : World} {b : Nat} {c : Array Value} {t : TypeId} (h : At w b c t) : At w.drew b c t := h
theorem At.drewN {w : World} {b : Nat} {c : Array Value} {t : TypeId} (h : At w b c t) (n : Nat) : At (w.drewN n) b c t := h
theorem At.set {w : World} {b : Nat} {c : Array Value} {t : TypeId} (h : At w b c t) (j : Nat) (v : Value) : At (w.setCell ⟨b, j, none⟩ v) b (c.setIfInBounds j v) t := by
  unfold At at *; simp [World.setCell, Array.getElem?_modify, h]
theorem At.set_other {w : World} {b : Nat} {c : Array Value} {t : TypeId} (h : At w b c t) (b' j : Nat) (v : Value) (hb : b ≠ b') : At (w.setCell ⟨b', j, none⟩ v) b c t := by
  unfold At at *; rw [Below.heap_setCell _ _ _ _ (by simpa using hb)]; exact h

theorem size_alloc (w : World) (o : Obj) : (w.alloc o).heap.size = w.heap.size + 1 := by simp
theorem At.new1 (w : World) (o : Obj) (c : Array Value) (t : TypeId) : At ((w.alloc o).alloc (.cells c t)) (w.heap.size + 1) c t := by
  have := At.new (w.alloc o) c t; rwa [size_alloc] at this
theorem At.new2 (w : World) (o o' : Obj) (c : Array Value) (t : TypeId) : At (((w.alloc o).alloc o').alloc (.cells c t)) (w.heap.size + 1 + 1) c t := by
  have := At.new ((w.alloc o).alloc o') c t; rwa [size_alloc, size_alloc] at this
theorem At.row {w : World} {b : Nat} {c : Array Value} {t : TypeId} (h : At w b c t) (c' : Array Value) : At (w.setRow b c') b c' t := by
  unfold At at *; simp [World.setRow, Array.getElem?_modify, h]
theorem heap_setRow (w : World) (b : Nat) (c : Array Value) (k : Nat) (h : k ≠ b) : (w.setRow b c).heap[k]? = w.heap[k]? := by
  simp only [World.setRow, Array.getElem?_modify]; rw [if_neg (by omega)]
theorem At.row_other {w : World} {b : Nat} {c : Array Value} {t : TypeId} (h : At w b c t) (b' : Nat) (c' : Array Value) (hb : b ≠ b') : At (w.setRow b' c') b c t := by
  unfold At at *; rw [heap_setRow _ _ _ _ hb]; exact h
theorem size_setRow (w : World) (b : Nat) (c : Array Value) : (w.setRow b c).heap.size = w.heap.size := by simp [World.setRow]
theorem below_setRow {B : Nat} {a w : World} (h : Below B a w) {b : Nat} (hp : B ≤ b) (c : Array Value) : Below B a (w.setRow b c) :=
  h.trans ⟨rfl, rfl, rfl, by rw [size_setRow]; omega, fun k hk => heap_setRow _ _ _ _ (by omega)⟩
theorem At.size {w : World} {b : Nat} {c : Array Value} {t : TypeId} (h : At w b c t) {c' : Array Value} (e : c = c') : At w b c' t := e ▸ h

def word0 (blk : List Int) (k : Nat) : Int :=
  bits .or .u32 (bits .or .u32 (bits .or .u32 (blk[k * 4]?.getD 0 % 4294967296 * 16777216 % 4294967296) (blk[k * 4 + 1]?.getD 0 % 4294967296 * 65536 % 4294967296)) (blk[k * 4 + 2]?.getD 0 % 4294967296 * 256 % 4294967296)) (blk[k * 4 + 3]?.getD 0 % 4294967296)
def sig0 (x : Int) : Int := bits .xor .u32 (bits .xor .u32 (rotr x 7) (rotr x 18)) (x / 8)
def sig1 (x : Int) : Int := bits .xor .u32 (bits .xor .u32 (rotr x 17) (rotr x 19)) (x / 1024)
def wordN (l : List Int) (i : Nat) : Int :=
  (l[i - 16]?.getD 0 + sig0 (l[i - 15]?.getD 0) + l[i - 7]?.getD 0 + sig1 (l[i - 2]?.getD 0)) % 4294967296
def sch (blk : List Int) : Nat → List Int
  | 0 => []
  | k + 1 => sch blk k ++ [if k < 16 then word0 blk k else wordN (sch blk k) k]
theorem sch_length (blk : List Int) (k : Nat) : (sch blk k).length = k := by
  induction k with
  | zero => rfl
  | succ k ih => simp [sch, ih]
def schA (blk : List Int) (k : Nat) : List Int := sch blk k ++ List.replicate (64 - k) 0
theorem schA_length (blk : List Int) (k : Nat) (h : k ≤ 64) : (schA blk k).length = 64 := by simp [schA, sch_length]; omega
theorem schA_get (blk : List Int) (k j : Nat) (h : j < k) : (schA blk k)[j]?.getD 0 = (sch blk k)[j]?.getD 0 := by
  unfold schA; rw [List.getElem?_append_left (by rw [sch_length]; exact h)]
theorem ws_set (l : List Int) (k : Nat) (v : Int) : (ws l).setIfInBounds k (.int .u32 v) = ws (l.set k v) := by
  unfold ws; apply Array.ext'; simp [List.map_set]
theorem schA_set (blk : List Int) (k : Nat) (h : k < 64) (v : Int) (hv : v = if k < 16 then word0 blk k else wordN (sch blk k) k) : (schA blk k).set k v = schA blk (k + 1) := by
  subst hv
  unfold schA
  rw [List.set_append_right _ _ (by rw [sch_length]; omega), sch_length, Nat.sub_self]
  have : 64 - k = (64 - (k + 1)) + 1 := by omega
  rw [this, List.replicate_succ, List.set_cons_zero, sch]
  simp
theorem schA_zero (blk : List Int) : schA blk 0 = List.replicate 64 0 := by simp [schA, sch]
theorem schA_full (blk : List Int) : schA blk 64 = sch blk 64 := by simp [schA]

def K : List Int := [1116352408, 1899447441, 3049323471, 3921009573, 961987163, 1508970993, 2453635748, 2870763221, 3624381080, 310598401, 607225278, 1426881987, 1925078388, 2162078206, 2614888103, 3248222580, 3835390401, 4022224774, 264347078, 604807628, 770255983, 1249150122, 1555081692, 1996064986, 2554220882, 2821834349, 2952996808, 3210313671, 3336571891, 3584528711, 113926993, 338241895, 666307205, 773529912, 1294757372, 1396182291, 1695183700, 1986661051, 2177026350, 2456956037, 2730485921, 2820302411, 3259730800, 3345764771, 3516065817, 3600352804, 4094571909, 275423344, 430227734, 506948616, 659060556, 883997877, 958139571, 1322822218, 1537002063, 1747873779, 1955562222, 2024104815, 2227730452, 2361852424, 2428436474, 2756734187, 3204031479, 3329325298]
theorem K_length : K.length = 64 := rfl
def KAt (w : World) : Prop := ∀ j, j < 64 → w.cell? ⟨3, j, none⟩ = some (.int .u32 (K[j]?.getD 0))
theorem KAt.lt {w : World} (h : KAt w) : 3 < w.heap.size := by
  have h := h 0 (by omega)
  unfold World.cell? at h
  apply Nat.lt_of_not_le
  intro hn
  rw [Array.getElem?_eq_none (by simpa using hn)] at h
  cases h
theorem KAt.below {w w' : World} {B : Nat} (h : KAt w) (hb : Below B w w') (hB : 3 < B) : KAt w' := fun j hj => by
  rw [hb.cell (p := ⟨3, j, none⟩) hB]; exact h j hj

theorem At.get_ws {w : World} {b : Nat} {l : List Int} {t : TypeId} (h : At w b (ws l) t) (j : Nat) (hj : j < l.length) : w.cell? ⟨b, j, none⟩ = some (.int .u32 (l[j]?.getD 0)) := by
  rw [h.cell, ws_get l j hj]; rfl
theorem At.get_bs {w : World} {b : Nat} {l : List Int} {t : TypeId} (h : At w b (bs l) t) (j : Nat) (hj : j < l.length) : w.cell? ⟨b, j, none⟩ = some (.int .u8 (l[j]?.getD 0)) := by
  rw [h.cell, bs_get l j hj]; rfl

structure St where
  a : Int
  b : Int
  c : Int
  d : Int
  e : Int
  f : Int
  g : Int
  h : Int
def St.of (l : List Int) : St := ⟨l[0]?.getD 0, l[1]?.getD 0, l[2]?.getD 0, l[3]?.getD 0, l[4]?.getD 0, l[5]?.getD 0, l[6]?.getD 0, l[7]?.getD 0⟩
def St.t1 (s : St) (k x : Int) : Int :=
  (s.h + bits .xor .u32 (bits .xor .u32 (rotr s.e 6) (rotr s.e 11)) (rotr s.e 25) + bits .xor .u32 (bits .and .u32 s.e s.f) (bits .and .u32 (bits .xor .u32 IntKind.u32.max s.e) s.g) + k + x) % 4294967296
def St.t2 (s : St) : Int :=
  (bits .xor .u32 (bits .xor .u32 (rotr s.a 2) (rotr s.a 13)) (rotr s.a 22) + bits .xor .u32 (bits .xor .u32 (bits .and .u32 s.a s.b) (bits .and .u32 s.a s.c)) (bits .and .u32 s.b s.c)) % 4294967296
def St.step (s : St) (k x : Int) : St := ⟨(s.t1 k x + s.t2) % 4294967296, s.a, s.b, s.c, (s.d + s.t1 k x) % 4294967296, s.e, s.f, s.g⟩
def rnds (ch blk : List Int) : Nat → St
  | 0 => St.of ch
  | k + 1 => (rnds ch blk k).step (K[k]?.getD 0) ((sch blk 64)[k]?.getD 0)
def mixL (ch blk : List Int) : List Int :=
  [(ch[0]?.getD 0 + (rnds ch blk 64).a) % 4294967296, (ch[1]?.getD 0 + (rnds ch blk 64).b) % 4294967296, (ch[2]?.getD 0 + (rnds ch blk 64).c) % 4294967296, (ch[3]?.getD 0 + (rnds ch blk 64).d) % 4294967296,
   (ch[4]?.getD 0 + (rnds ch blk 64).e) % 4294967296, (ch[5]?.getD 0 + (rnds ch blk 64).f) % 4294967296, (ch[6]?.getD 0 + (rnds ch blk 64).g) % 4294967296, (ch[7]?.getD 0 + (rnds ch blk 64).h) % 4294967296]
theorem mixL_length (ch blk : List Int) : (mixL ch blk).length = 8 := rfl
def iv : List Int := [1779033703, 3144134277, 1013904242, 2773480762, 1359893119, 2600822924, 528734635, 1541459225]
theorem iv_length : iv.length = 8 := rfl

structure Only (b : Nat) (w w' : World) : Prop where
  os : w'.os = w.os
  tape : w'.tape = w.tape
  output : w'.output = w.output
  size : w.heap.size ≤ w'.heap.size
  block : ∀ k, k < w.heap.size → k ≠ b → w'.heap[k]? = w.heap[k]?
theorem Only.refl (b : Nat) (w : World) : Only b w w := ⟨rfl, rfl, rfl, Nat.le_refl _, fun _ _ _ => rfl⟩
theorem Only.trans {b : Nat} {w w1 w2 : World} (h : Only b w w1) (k : Only b w1 w2) : Only b w w2 :=
  ⟨k.os.trans h.os, k.tape.trans h.tape, k.output.trans h.output, Nat.le_trans h.size k.size, fun i hi hb => (k.block i (Nat.lt_of_lt_of_le hi h.size) hb).trans (h.block i hi hb)⟩
theorem Only.of_below {b : Nat} {w w' : World} (h : Below w.heap.size w w') : Only b w w' := ⟨h.os, h.tape, h.output, h.size, fun k hk _ => h.block k hk⟩
theorem Only.drew {b : Nat} {w w1 : World} (h : Only b w w1) : Only b w w1.drew := ⟨h.os, h.tape, h.output, h.size, h.block⟩
theorem Only.drewN {b : Nat} {w w1 : World} (h : Only b w w1) (n : Nat) : Only b w (w1.drewN n) := ⟨h.os, h.tape, h.output, h.size, h.block⟩
theorem Only.set (b j : Nat) (w : World) (v : Value) : Only b w (w.setCell ⟨b, j, none⟩ v) := ⟨rfl, rfl, rfl, by simp [World.setCell], fun k _ hk => Below.heap_setCell _ _ _ _ hk⟩
theorem Only.cells (b : Nat) : ∀ (vs : List Value) (o : Nat) (w : World), Only b w (w.setCells b o vs)
  | [], _, w => Only.refl b w
  | v :: r, o, w => (Only.set b o w v).trans (Only.cells b r (o + 1) _)
theorem Only.at {b c : Nat} {w w' : World} {x : Array Value} {t : TypeId} (h : Only b w w') (ha : At w c x t) (hc : c ≠ b) : At w' c x t := by
  have hl := ha.lt
  unfold At at *; rw [h.block c hl hc]; exact ha
theorem Only.k {b : Nat} {w w' : World} (h : Only b w w') (hk : KAt w) (hb : b ≠ 3) : KAt w' := fun j hj => by
  have := hk j hj
  rw [← this]; exact World.cell?_of_block (h.block 3 hk.lt (by omega))
theorem Only.below {b B : Nat} {a w w' : World} (h : Only b w w') (ha : Below B a w) (hb : B ≤ b) (hB : B ≤ w.heap.size) : Below B a w' :=
  ha.trans ⟨h.os, h.tape, h.output, h.size, fun k hk => h.block k (by omega) (by omega)⟩

def splice (l : List Value) (o : Nat) (vs : List Value) : List Value := l.take o ++ vs ++ l.drop (o + vs.length)
theorem splice_cons (l : List Value) (o : Nat) (v : Value) (r : List Value) (h : o + (r.length + 1) ≤ l.length) : splice (l.set o v) (o + 1) r = splice l o (v :: r) := by
  unfold splice
  have ho : o < l.length := by omega
  have e1 : (l.set o v).take (o + 1) = l.take o ++ [v] := by
    rw [List.take_succ_eq_append_getElem (by simpa using ho)]
    simp [List.take_set_of_le]
  have e2 : (l.set o v).drop (o + 1 + r.length) = l.drop (o + (v :: r).length) := by
    rw [List.drop_set_of_lt (by omega)]; congr 1; simp; omega
  rw [e1, e2]; simp
theorem At.cells {b : Nat} {t : TypeId} : ∀ (vs : List Value) (l : List Value) (o : Nat) (w : World), At w b l.toArray t → o + vs.length ≤ l.length → At (w.setCells b o vs) b (splice l o vs).toArray t
  | [], l, o, w, h, _ => by simpa [splice, World.setCells] using h
  | v :: r, l, o, w, h, ho => by
    rw [World.setCells, ← splice_cons l o v r (by simpa using ho)]
    refine At.cells r (l.set o v) (o + 1) _ ?_ (by simp at ho ⊢; omega)
    have := h.set o v
    simpa using this

def hcl (ch : List Int) (n : Nat) (wt : List Int) (k : Nat) : List Value := ch.map (Value.int .u32) ++ (.int .i64 n :: (wt.map (Value.int .u8) ++ [.int .i64 k]))
theorem hcl_length (ch : List Int) (n : Nat) (wt : List Int) (k : Nat) (h8 : ch.length = 8) (h64 : wt.length = 64) : (hcl ch n wt k).length = 74 := by simp [hcl, h8, h64]
structure Hat (w : World) (b : Nat) (ch : List Int) (n : Nat) (wt : List Int) (k : Nat) : Prop where
  h8 : ch.length = 8
  h64 : wt.length = 64
  at_ : At w b (hcl ch n wt k).toArray 175

theorem hcl_n (ch : List Int) (n : Nat) (wt : List Int) (k : Nat) (h8 : ch.length = 8) : (hcl ch n wt k)[8]? = some (.int .i64 n) := by
  unfold hcl; rw [List.getElem?_append_right (by simp [h8])]; simp [h8]
theorem hcl_k (ch : List Int) (n : Nat) (wt : List Int) (k : Nat) (h8 : ch.length = 8) (h64 : wt.length = 64) : (hcl ch n wt k)[73]? = some (.int .i64 k) := by
  unfold hcl; rw [List.getElem?_append_right (by simp [h8])]; simp only [List.length_map, h8]
  rw [show 73 - 8 = 64 + 1 from rfl, List.getElem?_cons_succ, List.getElem?_append_right (by simp [h64])]; simp [h64]
theorem hcl_ch (ch : List Int) (n : Nat) (wt : List Int) (k j : Nat) (h : j < ch.length) : (hcl ch n wt k)[j]? = (ch.map (Value.int .u32))[j]? := by
  unfold hcl; rw [List.getElem?_append_left (by simpa using h)]
theorem hcl_wt (ch : List Int) (n : Nat) (wt : List Int) (k j : Nat) (h8 : ch.length = 8) (h : j < wt.length) : (hcl ch n wt k)[9 + j]? = (wt.map (Value.int .u8))[j]? := by
  unfold hcl; rw [List.getElem?_append_right (by simp [h8]; omega)]; simp only [List.length_map, h8]
  rw [show 9 + j - 8 = j + 1 by omega, List.getElem?_cons_succ, List.getElem?_append_left (by simpa using h)]

theorem Hat.cell_n {w : World} {b : Nat} {ch : List Int} {n : Nat} {wt : List Int} {k : Nat} (h : Hat w b ch n wt k) : w.cell? ⟨b, 8, none⟩ = some (.int .i64 n) := by
  rw [h.at_.cell]; simpa using hcl_n ch n wt k h.h8
theorem Hat.cell_k {w : World} {b : Nat} {ch : List Int} {n : Nat} {wt : List Int} {k : Nat} (h : Hat w b ch n wt k) : w.cell? ⟨b, 73, none⟩ = some (.int .i64 k) := by
  rw [h.at_.cell]; simpa using hcl_k ch n wt k h.h8 h.h64
theorem Hat.range_ch {w : World} {b : Nat} {ch : List Int} {n : Nat} {wt : List Int} {k : Nat} (h : Hat w b ch n wt k) : w.rangeAt b 0 (ch.map (Value.int .u32)) := fun j v hv => by
  have hj : j < ch.length := by simpa using (List.getElem?_eq_some_iff.1 hv).1
  rw [h.at_.cell, ← hv, ← hcl_ch ch n wt k j hj]; simp
theorem Hat.range_wt {w : World} {b : Nat} {ch : List Int} {n : Nat} {wt : List Int} {k : Nat} (h : Hat w b ch n wt k) : w.rangeAt b 9 (wt.map (Value.int .u8)) := fun j v hv => by
  have hj : j < wt.length := by simpa using (List.getElem?_eq_some_iff.1 hv).1
  rw [h.at_.cell, ← hv, ← hcl_wt ch n wt k j h.h8 hj]; simp
theorem Hat.there {w : World} {b : Nat} {ch : List Int} {n : Nat} {wt : List Int} {k : Nat} (h : Hat w b ch n wt k) (o m : Nat) (ho : o + m ≤ 74) : w.there b o m := fun j hj => by
  refine ⟨?_, h.at_.frozen _⟩
  rw [h.at_.cell]
  have hl := hcl_length ch n wt k h.h8 h.h64
  simp; omega
theorem splice_ch (ch ch' : List Int) (n : Nat) (wt : List Int) (k : Nat) (h8 : ch.length = 8) (h8' : ch'.length = 8) : splice (hcl ch n wt k) 0 (ch'.map (Value.int .u32)) = hcl ch' n wt k := by
  unfold splice hcl; rw [List.take_zero, List.nil_append, List.drop_append_of_le_length (by simp [h8, h8'])]
  rw [List.drop_of_length_le (by simp [h8, h8']), List.nil_append]
theorem splice_wt (ch : List Int) (n : Nat) (wt wt' : List Int) (k : Nat) (h8 : ch.length = 8) (h64 : wt.length = 64) (h64' : wt'.length = 64) : splice (hcl ch n wt k) 9 (wt'.map (Value.int .u8)) = hcl ch n wt' k := by
  unfold splice hcl
  rw [List.take_append, List.drop_append, List.take_of_length_le (by simp [h8]), List.drop_of_length_le (by simp [h8, h64'])]
  simp only [List.length_map, h8, h64', show 9 - 8 = 0 + 1 from rfl, show 9 + 64 - 8 = 64 + 1 from rfl, List.take_succ_cons, List.take_zero, List.drop_succ_cons, List.nil_append]
  rw [List.drop_append, List.drop_of_length_le (by simp [h64])]
  simp [h64]
theorem Hat.set_ch {w : World} {b : Nat} {ch : List Int} {n : Nat} {wt : List Int} {k : Nat} (h : Hat w b ch n wt k) (ch' : List Int) (h8 : ch'.length = 8) : Hat (w.setCells b 0 (ch'.map (Value.int .u32))) b ch' n wt k := by
  refine ⟨h8, h.h64, ?_⟩
  have := At.cells (t := 175) (ch'.map (Value.int .u32)) (hcl ch n wt k) 0 w h.at_ (by rw [hcl_length ch n wt k h.h8 h.h64]; simp [h8])
  rwa [splice_ch ch ch' n wt k h.h8 h8] at this
theorem Hat.set_wt {w : World} {b : Nat} {ch : List Int} {n : Nat} {wt : List Int} {k : Nat} (h : Hat w b ch n wt k) (wt' : List Int) (h64 : wt'.length = 64) : Hat (w.setCells b 9 (wt'.map (Value.int .u8))) b ch n wt' k := by
  refine ⟨h.h8, h64, ?_⟩
  have := At.cells (t := 175) (wt'.map (Value.int .u8)) (hcl ch n wt k) 9 w h.at_ (by rw [hcl_length ch n wt k h.h8 h.h64]; simp [h64])
  rwa [splice_wt ch n wt wt' k h.h8 h.h64 h64] at this
theorem Hat.set_n {w : World} {b : Nat} {ch : List Int} {n : Nat} {wt : List Int} {k : Nat} (h : Hat w b ch n wt k) (m : Nat) : Hat (w.setCell ⟨b, 8, none⟩ (.int .i64 m)) b ch m wt k := by
  refine ⟨h.h8, h.h64, ?_⟩
  have := h.at_.set 8 (.int .i64 m)
  have e : (hcl ch n wt k).set 8 (.int .i64 m) = hcl ch m wt k := by
    unfold hcl; rw [List.set_append_right _ _ (by simp [h.h8])]; simp [h.h8]
  simpa [e] using this
theorem Hat.set_k {w : World} {b : Nat} {ch : List Int} {n : Nat} {wt : List Int} {k : Nat} (h : Hat w b ch n wt k) (m : Nat) : Hat (w.setCell ⟨b, 73, none⟩ (.int .i64 m)) b ch n wt m := by
  refine ⟨h.h8, h.h64, ?_⟩
  have := h.at_.set 73 (.int .i64 m)
  have e : (hcl ch n wt k).set 73 (.int .i64 m) = hcl ch n wt m := by
    unfold hcl; rw [List.set_append_right _ _ (by simp [h.h8])]; simp only [List.length_map, h.h8]
    rw [show 73 - 8 = 64 + 1 from rfl, List.set_cons_succ, List.set_append_right _ _ (by simp [h.h64])]; simp [h.h64]
  simpa [e] using this
theorem Hat.only {w w' : World} {b c : Nat} {ch : List Int} {n : Nat} {wt : List Int} {k : Nat} (h : Hat w b ch n wt k) (ho : Only c w w') (hb : b ≠ c) : Hat w' b ch n wt k := ⟨h.h8, h.h64, ho.at h.at_ hb⟩
theorem Hat.below {w w' : World} {b : Nat} {ch : List Int} {n : Nat} {wt : List Int} {k : Nat} (h : Hat w b ch n wt k) (hb : Below w.heap.size w w') : Hat w' b ch n wt k := ⟨h.h8, h.h64, h.at_.below hb h.at_.lt⟩
theorem Hat.drew {w : World} {b : Nat} {ch : List Int} {n : Nat} {wt : List Int} {k : Nat} (h : Hat w b ch n wt k) : Hat w.drew b ch n wt k := ⟨h.h8, h.h64, h.at_⟩
theorem Hat.drewN {w : World} {b : Nat} {ch : List Int} {n : Nat} {wt : List Int} {k : Nat} (h : Hat w b ch n wt k) (m : Nat) : Hat (w.drewN m) b ch n wt k := ⟨h.h8, h.h64, h.at_⟩
theorem Hat.frozen {w : World} {b : Nat} {ch : List Int} {n : Nat} {wt : List Int} {k : Nat} (h : Hat w b ch n wt k) (j : Nat) : w.frozen? ⟨b, j, none⟩ = false := h.at_.frozen j

theorem take_at {P : Program} {ops : Array Oper} {Q : Exit → Act → World → Prop} {md : Region.Mode} (i : Nat) (d : Option Tmp) (v : Value) {oi : Oper} {fuel : Nat} {listed : Array Bool} {a : Act} {w : World} (hi : ops[i]? = some oi) (hd : oi.dst = d)
    (hs : Region.noSelect ops = true) (hf : Region.free md ops listed i = true) (hr : (Region.ready md ops listed).contains i = true)
    (hQ : ∀ c a w, Q (.panic c) (a.put d v) w → Q (.panic c) a w) (hg : oi.guard = none) (hy : ∀ w, (execOp a.eval oi).run P w = .ok (.value v) w)
    (h : wpAny P md ops Q fuel (listed.setIfInBounds i true) (a.put d v) w) : wpAny P md ops Q (fuel + 1) listed a w := by
  subst hd
  exact wpAny_take hi hs hf hr hQ (Or.inl ⟨by simp [Region.wanted, hg], hy⟩) h
theorem next_one {P : Program} {ops : Array Oper} {Q : Exit → Act → World → Prop} {md : Region.Mode} (i : Nat) {oi : Oper} {fuel : Nat} {listed : Array Bool} {a : Act} {w : World} (hi : ops[i]? = some oi)
    (hr : Region.ready md ops listed = [i]) (hg : oi.guard = none)
    (h : ∀ K : Act → World → Prop, (∀ a w, wpAny P md ops Q fuel (listed.setIfInBounds i true) a w → K a w) → oi.wp P a w K Q) : wpAny P md ops Q (fuel + 1) listed a w := by
  refine wpAny_ready hr (by simp) (AllReady.cons hi (fun K hK => ?_) AllReady.nil)
  rw [if_pos (by simp [Region.wanted, hg])]
  exact h K hK
theorem next_two {P : Program} {ops : Array Oper} {Q : Exit → Act → World → Prop} {md : Region.Mode} (i j : Nat) {oi oj : Oper} {fuel : Nat} {listed : Array Bool} {a : Act} {w : World} (hi : ops[i]? = some oi) (hj : ops[j]? = some oj)
    (hr : Region.ready md ops listed = [i, j]) (hgi : oi.guard = none) (hgj : oj.guard = none)
    (h1 : ∀ K : Act → World → Prop, (∀ a w, wpAny P md ops Q fuel (listed.setIfInBounds i true) a w → K a w) → oi.wp P a w K Q)
    (h2 : ∀ K : Act → World → Prop, (∀ a w, wpAny P md ops Q fuel (listed.setIfInBounds j true) a w → K a w) → oj.wp P a w K Q) : wpAny P md ops Q (fuel + 1) listed a w := by
  refine wpAny_ready hr (by simp) (AllReady.cons hi (fun K hK => ?_) (AllReady.cons hj (fun K hK => ?_) AllReady.nil))
  · rw [if_pos (by simp [Region.wanted, hgi])]
    exact h1 K hK
  · rw [if_pos (by simp [Region.wanted, hgj])]
    exact h2 K hK
theorem at_load_mid {P : Program} {op : Oper} {a : Act} {w : World} {K : Act → World → Prop} {Q : Exit → Act → World → Prop} (d : Option Tmp) (hd : op.dst = d) (ty : TypeId) (x : Operand) (ho : op.op = .load ty x)
    (b o : Nat) (hx : a.eval x = .pointer (some ⟨b, o, none⟩)) (cs : List Value) (D : TypeDesc) (hc : w.rangeAt b o cs)
    (hu : P.underlying ty = some D) (hD : D.isRow = true) (hi : (P.info? ty).map (·.size) = some cs.length)
    (h : K (a.put d (.agg cs.toArray)) w) : op.wp P a w K Q := by
  subst hd; exact wp_load_mid ty x ho b o hx cs D hc hu hD hi h
theorem at_store_mid {P : Program} {op : Oper} {a : Act} {w : World} {K : Act → World → Prop} {Q : Exit → Act → World → Prop} (hd : op.dst = none) (ty : TypeId) (x y : Operand) (ho : op.op = .store ty x y)
    (b o : Nat) (cells : Array Value) (hx : a.eval x = .pointer (some ⟨b, o, none⟩)) (hy : a.eval y = .agg cells)
    (ht : w.there b o cells.size) (hi : (P.info? ty).map (·.size) = some cells.size) (h1 : cells.all (·.oneCell') = true)
    (h : K a (w.setCells b o cells.toList)) : op.wp P a w K Q := by
  refine wp_store_mid ty x y ho b o cells hx hy ht hi h1 ?_
  rw [hd]; exact h
theorem at_call {P : Program} {op : Oper} {a : Act} {w : World} {K : Act → World → Prop} {Q : Exit → Act → World → Prop} (d : Option Tmp) (hd : op.dst = d) (f : FuncId) (args : Array Value)
    (hx : ∀ w, (execOp a.eval op).run P w = .ok (.enter f args) w) (R : Value → World → Prop) (hc : Calls P f args w fun e w' => ∃ v, e = .returned v ∧ R v w')
    (h : ∀ v w', R v w' → K (a.put d v) w') : op.wp P a w K Q := by
  subst hd
  unfold Oper.wp
  rw [hx w]
  exact hc.mono fun e w' he => by obtain ⟨v, rfl, hr⟩ := he; exact h v w' hr

end Go.Sha
