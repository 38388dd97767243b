/- One lane is SHA-256's mixing of one block, as the walks have it. No conditions: lemmas. -/
import Derived.Test.YtmplnlcmdcogmaaDoorKb
import Derived.Test.YtmplnlcmdcogmaaDoorSpec6
import Derived.Laws.BitsAllLaws
namespace Go.Lane
open Go.Sha

def S8.st (s : S8) : St := ⟨s.a, s.b, s.c, s.d, s.e, s.f, s.g, s.h⟩
def S8.li (s : S8) : List Int := [s.a, s.b, s.c, s.d, s.e, s.f, s.g, s.h]
/-- Words of 32 bits. -/
structure Ok (s : S8) : Prop where
  a : s.a < 4294967296
  b : s.b < 4294967296
  c : s.c < 4294967296
  d : s.d < 4294967296
  e : s.e < 4294967296
  f : s.f < 4294967296
  g : s.g < 4294967296
  h : s.h < 4294967296

theorem rot_eq (x n : Nat) (hx : x < 4294967296) (hn : n ≤ 32) : rotr (x : Int) n = ((rotP 4294967295 x n : Nat) : Int) := by
  have hx' : x < 2 ^ 32 := hx
  have e32 : (2 : Nat) ^ 32 = 2 ^ n * 2 ^ (32 - n) := by rw [← Nat.pow_add]; congr 1; omega
  have hp : 0 < 2 ^ n := Nat.two_pow_pos _
  have hq : 0 < 2 ^ (32 - n) := Nat.two_pow_pos _
  have h1 : x / 2 ^ n < 2 ^ (32 - n) := Nat.div_lt_of_lt_mul (by rw [← e32]; exact hx')
  have h2 : x * 2 ^ (32 - n) % 2 ^ 32 = 2 ^ (32 - n) * (x % 2 ^ n) := by
    rw [e32, Nat.mul_mod_mul_right, Nat.mul_comm]
  have h3 : 2 ^ (32 - n) * (x % 2 ^ n) + x / 2 ^ n < 2 ^ 32 := by
    have : x % 2 ^ n < 2 ^ n := Nat.mod_lt _ hp
    have : 2 ^ (32 - n) * (x % 2 ^ n) ≤ 2 ^ (32 - n) * (2 ^ n - 1) := Nat.mul_le_mul_left _ (by omega)
    have e : 2 ^ (32 - n) * (2 ^ n - 1) + 2 ^ (32 - n) = 2 ^ 32 := by
      rw [e32, Nat.mul_comm (2 ^ n)]
      have : 2 ^ n = (2 ^ n - 1) + 1 := by omega
      conv => rhs; rw [this, Nat.mul_add, Nat.mul_one]
    omega
  have hr : rotP 4294967295 x n = 2 ^ (32 - n) * (x % 2 ^ n) + x / 2 ^ n := by
    unfold rotP
    rw [land_mask]
    show ((x * 4294967297) >>> n) % 2 ^ 32 = _
    rw [Nat.shiftRight_eq_div_pow, show x * 4294967297 = 2 ^ n * (x * 2 ^ (32 - n)) + x by rw [Nat.mul_left_comm, ← e32]; omega, Nat.mul_add_div hp, Nat.add_mod, h2, Nat.mod_eq_of_lt (show x / 2 ^ n < 2 ^ 32 by omega)]
    exact Nat.mod_eq_of_lt h3
  rw [hr, Nat.two_pow_add_eq_or_of_lt h1, Nat.or_comm, ← h2]
  unfold rotr
  have c1 : (x : Int) / 2 ^ n = ((x / 2 ^ n : Nat) : Int) := by rw [Int.natCast_ediv, Int.natCast_pow]; rfl
  have c2 : (x : Int) * 2 ^ (32 - n) % 4294967296 = ((x * 2 ^ (32 - n) % 2 ^ 32 : Nat) : Int) := by rw [Int.natCast_emod, Int.natCast_mul, Int.natCast_pow]; rfl
  rw [c1, c2]
  exact u32_or_nat _ _ (by show x / 2 ^ n < 2 ^ 32; omega) (Nat.mod_lt _ (by decide))
theorem rot_lt (x n : Nat) : rotP 4294967295 x n < 4294967296 := and_lt _ _ (by omega)
theorem xor_eq (a b : Nat) (ha : a < 4294967296) (hb : b < 4294967296) : bits .xor .u32 (a : Int) (b : Int) = ((Nat.xor a b : Nat) : Int) := u32_xor_nat a b ha hb
theorem and_eq (a b : Nat) (ha : a < 4294967296) (hb : b < 4294967296) : bits .and .u32 (a : Int) (b : Int) = ((Nat.land a b : Nat) : Int) := u32_and_nat a b ha hb
theorem rot3_eq (x i j k : Nat) (hx : x < 4294967296) (hi : i ≤ 32) (hj : j ≤ 32) (hk : k ≤ 32) : bits .xor .u32 (bits .xor .u32 (rotr (x : Int) i) (rotr (x : Int) j)) (rotr (x : Int) k) = ((Nat.xor (Nat.xor (rotP 4294967295 x i) (rotP 4294967295 x j)) (rotP 4294967295 x k) : Nat) : Int) := by
  rw [rot_eq x i hx hi, rot_eq x j hx hj, rot_eq x k hx hk, xor_eq _ _ (rot_lt _ _) (rot_lt _ _), xor_eq _ _ (xor_lt _ _ (rot_lt _ _) (rot_lt _ _)) (rot_lt _ _)]
theorem umax : IntKind.u32.max = ((4294967295 : Nat) : Int) := by decide
theorem t1_eq (s : S8) (k w : Nat) (O : Ok s) : s.st.t1 k w = (t1P 4294967295 (Nat.mul 1 k) s w : Nat) % 4294967296 := by
  unfold St.t1 t1P S8.st
  simp only
  rw [rot3_eq s.e 6 11 25 O.e (by omega) (by omega) (by omega), umax, xor_eq _ _ (by omega) O.e, and_eq _ _ O.e O.f, and_eq _ _ (xor_lt _ _ (by omega) O.e) O.g, xor_eq _ _ (and_lt _ _ O.f) (and_lt _ _ O.g)]
  generalize Nat.xor (Nat.xor (rotP 4294967295 s.e 6) (rotP 4294967295 s.e 11)) (rotP 4294967295 s.e 25) = A
  generalize Nat.xor (Nat.land s.e s.f) (Nat.land (Nat.xor 4294967295 s.e) s.g) = B
  show _ = ((((s.h + A + B + 1 * k + w : Nat)) : Int)) % 4294967296
  omega
theorem t2_eq (s : S8) (O : Ok s) : s.st.t2 = (t2P 4294967295 s : Nat) % 4294967296 := by
  unfold St.t2 t2P S8.st
  simp only
  rw [rot3_eq s.a 2 13 22 O.a (by omega) (by omega) (by omega), and_eq _ _ O.a O.b, and_eq _ _ O.a O.c, and_eq _ _ O.b O.c, xor_eq _ _ (and_lt _ _ O.b) (and_lt _ _ O.c), xor_eq _ _ (xor_lt _ _ (and_lt _ _ O.b) (and_lt _ _ O.c)) (and_lt _ _ O.c)]
  rfl
theorem step_eq (s : S8) (k w : Nat) (O : Ok s) : s.st.step k w = (stepP 4294967295 (Nat.mul 1 k) s w).st := by
  unfold St.step
  rw [t1_eq s k w O, t2_eq s O]
  unfold stepP S8.st
  simp only [land_mask]
  generalize t1P 4294967295 (Nat.mul 1 k) s w = T1
  generalize t2P 4294967295 s = T2
  have e1 : ((T1 : Int) % 4294967296 + (T2 : Int) % 4294967296) % 4294967296 = ((Nat.add T1 T2 % 4294967296 : Nat) : Int) := by
    show _ = (((T1 + T2) % 4294967296 : Nat) : Int)
    omega
  have e2 : ((s.d : Int) + (T1 : Int) % 4294967296) % 4294967296 = ((Nat.add s.d T1 % 4294967296 : Nat) : Int) := by
    show _ = (((s.d + T1) % 4294967296 : Nat) : Int)
    omega
  rw [e1, e2]
theorem step_ok (s : S8) (k w : Nat) (O : Ok s) : Ok (stepP 4294967295 k s w) := ⟨and_lt _ _ (by omega), O.a, O.b, O.c, and_lt _ _ (by omega), O.e, O.f, O.g⟩

/-- The k-th word of the schedule. -/
def sw (blk : List Int) (k : Nat) : Int := (sch blk (k + 1))[k]?.getD 0
theorem sch_get (blk : List Int) (k : Nat) : ∀ n, k < n → (sch blk n)[k]?.getD 0 = sw blk k
  | n + 1, h => by
    by_cases e : k = n
    · subst e; rfl
    · have ih := sch_get blk k n (by omega)
      rw [← ih]
      conv => lhs; rw [sch]
      rw [List.getElem?_append_left (by rw [sch_length]; omega)]
theorem sw_first (blk : List Int) (k : Nat) (h : k < 16) : sw blk k = word0 blk k := by
  unfold sw
  rw [sch, List.getElem?_append_right (by rw [sch_length]; omega), sch_length, Nat.sub_self, if_pos h]; rfl
theorem sw_next (blk : List Int) (k : Nat) (h : 16 ≤ k) : sw blk k = (sw blk (k - 16) + sig0 (sw blk (k - 15)) + sw blk (k - 7) + sig1 (sw blk (k - 2))) % 4294967296 := by
  conv => lhs; unfold sw
  rw [sch, List.getElem?_append_right (by rw [sch_length]; omega), sch_length, Nat.sub_self, if_neg (by omega)]
  show wordN (sch blk k) k = _
  unfold wordN
  rw [sch_get blk (k - 16) k (by omega), sch_get blk (k - 15) k (by omega), sch_get blk (k - 7) k (by omega), sch_get blk (k - 2) k (by omega)]
theorem sig0_eq (x : Nat) (hx : x < 4294967296) : sig0 (x : Int) = (sg0 4294967295 x : Nat) := by
  unfold sig0 sg0
  have e : (x : Int) / 8 = ((shrP 4294967295 x 3 : Nat) : Int) := by
    unfold shrP
    rw [land_mask]
    show _ = ((x >>> 3 % 4294967296 : Nat) : Int)
    rw [Nat.shiftRight_eq_div_pow]
    omega
  rw [e, rot_eq x 7 hx (by omega), rot_eq x 18 hx (by omega), xor_eq _ _ (rot_lt _ _) (rot_lt _ _), xor_eq _ _ (xor_lt _ _ (rot_lt _ _) (rot_lt _ _)) (show shrP 4294967295 x 3 < 4294967296 from and_lt _ _ (by omega))]
theorem sig1_eq (x : Nat) (hx : x < 4294967296) : sig1 (x : Int) = (sg1 4294967295 x : Nat) := by
  unfold sig1 sg1
  have e : (x : Int) / 1024 = ((shrP 4294967295 x 10 : Nat) : Int) := by
    unfold shrP
    rw [land_mask]
    show _ = ((x >>> 10 % 4294967296 : Nat) : Int)
    rw [Nat.shiftRight_eq_div_pow]
    omega
  rw [e, rot_eq x 17 hx (by omega), rot_eq x 19 hx (by omega), xor_eq _ _ (rot_lt _ _) (rot_lt _ _), xor_eq _ _ (xor_lt _ _ (rot_lt _ _) (rot_lt _ _)) (show shrP 4294967295 x 10 < 4294967296 from and_lt _ _ (by omega))]
theorem next_eq (a b c d : Nat) (hb : b < 4294967296) (hd : d < 4294967296) : ((a : Int) + sig0 (b : Int) + (c : Int) + sig1 (d : Int)) % 4294967296 = (nextW 4294967295 a b c d : Nat) := by
  unfold nextW
  rw [land_mask, sig0_eq b hb, sig1_eq d hd]
  generalize sg0 4294967295 b = A
  generalize sg1 4294967295 d = B
  show _ = (((a + A + c + B : Nat) % 4294967296 : Nat) : Int)
  omega

/-- The sixteen words at hand, from the i-th on. -/
structure Win (blk : List Int) (i : Nat) (w0 w1 w2 w3 w4 w5 w6 w7 w8 w9 w10 w11 w12 w13 w14 w15 : Nat) : Prop where
  e0 : sw blk (i + 0) = (w0 : Int)
  e1 : sw blk (i + 1) = (w1 : Int)
  e2 : sw blk (i + 2) = (w2 : Int)
  e3 : sw blk (i + 3) = (w3 : Int)
  e4 : sw blk (i + 4) = (w4 : Int)
  e5 : sw blk (i + 5) = (w5 : Int)
  e6 : sw blk (i + 6) = (w6 : Int)
  e7 : sw blk (i + 7) = (w7 : Int)
  e8 : sw blk (i + 8) = (w8 : Int)
  e9 : sw blk (i + 9) = (w9 : Int)
  e10 : sw blk (i + 10) = (w10 : Int)
  e11 : sw blk (i + 11) = (w11 : Int)
  e12 : sw blk (i + 12) = (w12 : Int)
  e13 : sw blk (i + 13) = (w13 : Int)
  e14 : sw blk (i + 14) = (w14 : Int)
  e15 : sw blk (i + 15) = (w15 : Int)
  l0 : w0 < 4294967296
  l1 : w1 < 4294967296
  l2 : w2 < 4294967296
  l3 : w3 < 4294967296
  l4 : w4 < 4294967296
  l5 : w5 < 4294967296
  l6 : w6 < 4294967296
  l7 : w7 < 4294967296
  l8 : w8 < 4294967296
  l9 : w9 < 4294967296
  l10 : w10 < 4294967296
  l11 : w11 < 4294967296
  l12 : w12 < 4294967296
  l13 : w13 < 4294967296
  l14 : w14 < 4294967296
  l15 : w15 < 4294967296
theorem win_next (blk : List Int) (i : Nat) (w0 w1 w2 w3 w4 w5 w6 w7 w8 w9 w10 w11 w12 w13 w14 w15 : Nat) (h : Win blk i w0 w1 w2 w3 w4 w5 w6 w7 w8 w9 w10 w11 w12 w13 w14 w15) :
    Win blk (i + 1) w1 w2 w3 w4 w5 w6 w7 w8 w9 w10 w11 w12 w13 w14 w15 (nextW 4294967295 w0 w1 w9 w14) := by
  have hl : sw blk (i + 16) = ((nextW 4294967295 w0 w1 w9 w14 : Nat) : Int) := by
    rw [sw_next blk (i + 16) (by omega), show i + 16 - 16 = i + 0 by omega, show i + 16 - 15 = i + 1 by omega, show i + 16 - 7 = i + 9 by omega, show i + 16 - 2 = i + 14 by omega, h.e0, h.e1, h.e9, h.e14]
    exact next_eq w0 w1 w9 w14 h.l1 h.l14
  have hN : nextW 4294967295 w0 w1 w9 w14 < 4294967296 := and_lt _ _ (by omega)
  have sh : ∀ k, sw blk (i + 1 + k) = sw blk (i + (k + 1)) := fun k => by rw [Nat.add_assoc, Nat.add_comm 1 k]
  generalize nextW 4294967295 w0 w1 w9 w14 = N at hl hN ⊢
  exact ⟨(sh 0).trans h.e1, (sh 1).trans h.e2, (sh 2).trans h.e3, (sh 3).trans h.e4, (sh 4).trans h.e5, (sh 5).trans h.e6, (sh 6).trans h.e7, (sh 7).trans h.e8, (sh 8).trans h.e9, (sh 9).trans h.e10, (sh 10).trans h.e11, (sh 11).trans h.e12, (sh 12).trans h.e13, (sh 13).trans h.e14, (sh 14).trans h.e15, (sh 15).trans hl, h.l1, h.l2, h.l3, h.l4, h.l5, h.l6, h.l7, h.l8, h.l9, h.l10, h.l11, h.l12, h.l13, h.l14, h.l15, hN⟩
theorem K_KK : K = KK.map (fun n : Nat => (n : Int)) := by decide
theorem K_get (i : Nat) (h : i < 64) : K[i]?.getD 0 = ((KK.getD i 0 : Nat) : Int) := by
  rw [K_KK, List.getElem?_map]
  have hl : i < KK.length := h
  simp [List.getElem?_eq_getElem hl]
theorem KK_drop (i : Nat) (h : i < 64) : KK.drop i = KK.getD i 0 :: KK.drop (i + 1) := by
  have hl : i < KK.length := h
  rw [List.drop_eq_getElem_cons hl]
  simp [List.getElem?_eq_getElem hl]
theorem run_eq (ch blk : List Int) : ∀ (n i : Nat) (s : S8) (w0 w1 w2 w3 w4 w5 w6 w7 w8 w9 w10 w11 w12 w13 w14 w15 : Nat), i + n = 64 → Ok s → s.st = rnds ch blk i → Win blk i w0 w1 w2 w3 w4 w5 w6 w7 w8 w9 w10 w11 w12 w13 w14 w15 → (runP 4294967295 1 (KK.drop i) s [w0, w1, w2, w3, w4, w5, w6, w7, w8, w9, w10, w11, w12, w13, w14, w15]).st = rnds ch blk 64 ∧ Ok (runP 4294967295 1 (KK.drop i) s [w0, w1, w2, w3, w4, w5, w6, w7, w8, w9, w10, w11, w12, w13, w14, w15])
  | 0, i, s, w0, w1, w2, w3, w4, w5, w6, w7, w8, w9, w10, w11, w12, w13, w14, w15, hi, O, hs, _ => by
    have : i = 64 := by omega
    subst this
    rw [show KK.drop 64 = [] from rfl]
    exact ⟨hs, O⟩
  | n + 1, i, s, w0, w1, w2, w3, w4, w5, w6, w7, w8, w9, w10, w11, w12, w13, w14, w15, hi, O, hs, W => by
    rw [KK_drop i (by omega)]
    exact run_eq ch blk n (i + 1) (stepP 4294967295 (Nat.mul 1 (KK.getD i 0)) s w0) w1 w2 w3 w4 w5 w6 w7 w8 w9 w10 w11 w12 w13 w14 w15 (nextW 4294967295 w0 w1 w9 w14) (by omega) (step_ok s _ _ O) (by
        rw [← step_eq s _ w0 O, rnds, hs, K_get i (by omega), sch_get blk i 64 (by omega)]
        have := W.e0
        rw [Nat.add_zero] at this
        rw [this]) (win_next blk i w0 w1 w2 w3 w4 w5 w6 w7 w8 w9 w10 w11 w12 w13 w14 w15 W)
/-- One lane's mixing is the document's. -/
theorem mix_eq (s : S8) (blk : List Int) (w0 w1 w2 w3 w4 w5 w6 w7 w8 w9 w10 w11 w12 w13 w14 w15 : Nat) (O : Ok s) (h0 : word0 blk 0 = (w0 : Int)) (h1 : word0 blk 1 = (w1 : Int)) (h2 : word0 blk 2 = (w2 : Int)) (h3 : word0 blk 3 = (w3 : Int)) (h4 : word0 blk 4 = (w4 : Int)) (h5 : word0 blk 5 = (w5 : Int)) (h6 : word0 blk 6 = (w6 : Int)) (h7 : word0 blk 7 = (w7 : Int)) (h8 : word0 blk 8 = (w8 : Int)) (h9 : word0 blk 9 = (w9 : Int)) (h10 : word0 blk 10 = (w10 : Int)) (h11 : word0 blk 11 = (w11 : Int)) (h12 : word0 blk 12 = (w12 : Int)) (h13 : word0 blk 13 = (w13 : Int)) (h14 : word0 blk 14 = (w14 : Int)) (h15 : word0 blk 15 = (w15 : Int)) (l0 : w0 < 4294967296) (l1 : w1 < 4294967296) (l2 : w2 < 4294967296) (l3 : w3 < 4294967296) (l4 : w4 < 4294967296) (l5 : w5 < 4294967296) (l6 : w6 < 4294967296) (l7 : w7 < 4294967296) (l8 : w8 < 4294967296) (l9 : w9 < 4294967296) (l10 : w10 < 4294967296) (l11 : w11 < 4294967296) (l12 : w12 < 4294967296) (l13 : w13 < 4294967296) (l14 : w14 < 4294967296) (l15 : w15 < 4294967296) : mixL s.li blk = (mixP 4294967295 1 s [w0, w1, w2, w3, w4, w5, w6, w7, w8, w9, w10, w11, w12, w13, w14, w15]).li ∧ Ok (mixP 4294967295 1 s [w0, w1, w2, w3, w4, w5, w6, w7, w8, w9, w10, w11, w12, w13, w14, w15]) := by
  obtain ⟨e, O2⟩ := run_eq s.li blk 64 0 s w0 w1 w2 w3 w4 w5 w6 w7 w8 w9 w10 w11 w12 w13 w14 w15 rfl O rfl ⟨(by rw [Nat.zero_add, sw_first blk 0 (by omega)]; exact h0), (by rw [Nat.zero_add, sw_first blk 1 (by omega)]; exact h1), (by rw [Nat.zero_add, sw_first blk 2 (by omega)]; exact h2), (by rw [Nat.zero_add, sw_first blk 3 (by omega)]; exact h3), (by rw [Nat.zero_add, sw_first blk 4 (by omega)]; exact h4), (by rw [Nat.zero_add, sw_first blk 5 (by omega)]; exact h5), (by rw [Nat.zero_add, sw_first blk 6 (by omega)]; exact h6), (by rw [Nat.zero_add, sw_first blk 7 (by omega)]; exact h7), (by rw [Nat.zero_add, sw_first blk 8 (by omega)]; exact h8), (by rw [Nat.zero_add, sw_first blk 9 (by omega)]; exact h9), (by rw [Nat.zero_add, sw_first blk 10 (by omega)]; exact h10), (by rw [Nat.zero_add, sw_first blk 11 (by omega)]; exact h11), (by rw [Nat.zero_add, sw_first blk 12 (by omega)]; exact h12), (by rw [Nat.zero_add, sw_first blk 13 (by omega)]; exact h13), (by rw [Nat.zero_add, sw_first blk 14 (by omega)]; exact h14), (by rw [Nat.zero_add, sw_first blk 15 (by omega)]; exact h15), l0, l1, l2, l3, l4, l5, l6, l7, l8, l9, l10, l11, l12, l13, l14, l15⟩
  rw [show KK.drop 0 = KK from rfl] at e O2
  unfold mixL mixP
  rw [← e]
  generalize runP 4294967295 1 KK s [w0, w1, w2, w3, w4, w5, w6, w7, w8, w9, w10, w11, w12, w13, w14, w15] = r at *
  refine ⟨?_, and_lt _ _ (by omega), and_lt _ _ (by omega), and_lt _ _ (by omega), and_lt _ _ (by omega), and_lt _ _ (by omega), and_lt _ _ (by omega), and_lt _ _ (by omega), and_lt _ _ (by omega)⟩
  unfold addP S8.li S8.st
  simp only [land_mask]
  have key : ∀ x y : Nat, ((Nat.add x y % 4294967296 : Nat) : Int) = ((x : Int) + y) % 4294967296 := fun x y => by
    show (((x + y) % 4294967296 : Nat) : Int) = _
    omega
  simp only [key]
  rfl
end Go.Lane
