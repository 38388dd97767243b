/- SHA-256's mixing of one block, for many lanes at once; and that each lane goes by itself. No conditions: definitions and lemmas. -/
import Derived.Test.YtmplnlcmdcogmaaDoorKa
namespace Go.Lane

structure S8 where
  a : Nat
  b : Nat
  c : Nat
  d : Nat
  e : Nat
  f : Nat
  g : Nat
  h : Nat
/-- Turned to the right. -/
def rotP (m x n : Nat) : Nat := Nat.land (Nat.shiftRight (Nat.mul x 4294967297) n) m
def shrP (m x n : Nat) : Nat := Nat.land (Nat.shiftRight x n) m
def t1P (m kw : Nat) (s : S8) (w : Nat) : Nat :=
  Nat.add (Nat.add (Nat.add (Nat.add s.h (Nat.xor (Nat.xor (rotP m s.e 6) (rotP m s.e 11)) (rotP m s.e 25))) (Nat.xor (Nat.land s.e s.f) (Nat.land (Nat.xor m s.e) s.g))) kw) w
def t2P (m : Nat) (s : S8) : Nat :=
  Nat.add (Nat.xor (Nat.xor (rotP m s.a 2) (rotP m s.a 13)) (rotP m s.a 22)) (Nat.xor (Nat.xor (Nat.land s.a s.b) (Nat.land s.a s.c)) (Nat.land s.b s.c))
def stepP (m kw : Nat) (s : S8) (w : Nat) : S8 := ⟨Nat.land (Nat.add (t1P m kw s w) (t2P m s)) m, s.a, s.b, s.c, Nat.land (Nat.add s.d (t1P m kw s w)) m, s.e, s.f, s.g⟩
def sg0 (m x : Nat) : Nat := Nat.xor (Nat.xor (rotP m x 7) (rotP m x 18)) (shrP m x 3)
def sg1 (m x : Nat) : Nat := Nat.xor (Nat.xor (rotP m x 17) (rotP m x 19)) (shrP m x 10)
def nextW (m w0 w1 w9 w14 : Nat) : Nat := Nat.land (Nat.add (Nat.add (Nat.add w0 (sg0 m w1)) w9) (sg1 m w14)) m
/-- The rounds, with the sixteen words at hand. -/
def runP (m one : Nat) : List Nat → S8 → List Nat → S8
  | k :: ks, s, [w0, w1, w2, w3, w4, w5, w6, w7, w8, w9, w10, w11, w12, w13, w14, w15] =>
    runP m one ks (stepP m (Nat.mul one k) s w0) [w1, w2, w3, w4, w5, w6, w7, w8, w9, w10, w11, w12, w13, w14, w15, nextW m w0 w1 w9 w14]
  | _, s, _ => s
def addP (m : Nat) (x y : S8) : S8 :=
  ⟨Nat.land (Nat.add x.a y.a) m, Nat.land (Nat.add x.b y.b) m, Nat.land (Nat.add x.c y.c) m, Nat.land (Nat.add x.d y.d) m, Nat.land (Nat.add x.e y.e) m, Nat.land (Nat.add x.f y.f) m, Nat.land (Nat.add x.g y.g) m, Nat.land (Nat.add x.h y.h) m⟩
def KK : List Nat := [1116352408, 1899447441, 3049323471, 3921009573, 961987163, 1508970993, 2453635748, 2870763221, 3624381080, 310598401, 607225278, 1426881987, 1925078388, 2162078206, 2614888103, 3248222580, 3835390401, 4022224774, 264347078, 604807628, 770255983, 1249150122, 1555081692, 1996064986, 2554220882, 2821834349, 2952996808, 3210313671, 3336571891, 3584528711, 113926993, 338241895, 666307205, 773529912, 1294757372, 1396182291, 1695183700, 1986661051, 2177026350, 2456956037, 2730485921, 2820302411, 3259730800, 3345764771, 3516065817, 3600352804, 4094571909, 275423344, 430227734, 506948616, 659060556, 883997877, 958139571, 1322822218, 1537002063, 1747873779, 1955562222, 2024104815, 2227730452, 2361852424, 2428436474, 2756734187, 3204031479, 3329325298]
def mixP (m one : Nat) (s : S8) (w : List Nat) : S8 := addP m s (runP m one KK s w)

/-- A lane of each. -/
def S8.lane (s : S8) (t : Nat) : S8 := ⟨ln s.a t, ln s.b t, ln s.c t, ln s.d t, ln s.e t, ln s.f t, ln s.g t, ln s.h t⟩
/-- Words that fit. -/
structure Fit (s : S8) : Prop where
  a : Sm 4294967296 s.a
  b : Sm 4294967296 s.b
  c : Sm 4294967296 s.c
  d : Sm 4294967296 s.d
  e : Sm 4294967296 s.e
  f : Sm 4294967296 s.f
  g : Sm 4294967296 s.g
  h : Sm 4294967296 s.h
/-- The mask: the low half of a lane, or nothing. -/
structure Msk (m one : Nat) : Prop where
  m : ∀ t, ln m t = 4294967295 ∧ ln one t = 1 ∨ ln m t = 0 ∧ ln one t = 0
theorem Msk.sm {m one : Nat} (h : Msk m one) : Sm 4294967296 m := fun t => by rcases h.m t with h | h <;> omega
theorem Msk.so {m one : Nat} (h : Msk m one) : Sm 2 one := fun t => by rcases h.m t with h | h <;> omega
theorem and_lt (x y : Nat) (h : y < 4294967296) : Nat.land x y < 4294967296 := Nat.lt_of_le_of_lt (Nat.and_le_right (n := x) (m := y)) h
theorem xor_lt (x y : Nat) (h1 : x < 4294967296) (h2 : y < 4294967296) : Nat.xor x y < 4294967296 := Nat.xor_lt_two_pow (n := 32) h1 h2
theorem sm_and {m : Nat} (hm : Sm 4294967296 m) (X : Nat) : Sm 4294967296 (Nat.land X m) := fun t => by rw [ln_and]; exact and_lt _ _ (hm t)
theorem sm_xor {X Y : Nat} (hx : Sm 4294967296 X) (hy : Sm 4294967296 Y) : Sm 4294967296 (Nat.xor X Y) := fun t => by rw [ln_xor]; exact xor_lt _ _ (hx t) (hy t)
theorem sm_rot {m : Nat} (hm : Sm 4294967296 m) (x n : Nat) : Sm 4294967296 (rotP m x n) := sm_and hm _
theorem sm_shr {m : Nat} (hm : Sm 4294967296 m) (x n : Nat) : Sm 4294967296 (shrP m x n) := sm_and hm _
theorem sm_add {B C X Y : Nat} (hx : Sm B X) (hy : Sm C Y) (h : B + C ≤ 18446744073709551616) : Sm (B + C) (Nat.add X Y) := fun t => by
  rw [ln_add X Y (fun t => by have := hx t; have := hy t; omega)]
  have := hx t
  have := hy t
  show ln X t + ln Y t < _
  omega
theorem sm_le {B C X : Nat} (h : Sm B X) (hb : B ≤ C) : Sm C X := fun t => Nat.lt_of_lt_of_le (h t) hb
theorem ln_add' {B C X Y : Nat} (hx : Sm B X) (hy : Sm C Y) (h : B + C ≤ 18446744073709551616) (t : Nat) : ln (Nat.add X Y) t = Nat.add (ln X t) (ln Y t) :=
  ln_add X Y (fun t => by have := hx t; have := hy t; omega) t
theorem ln_rot {m x : Nat} (hx : Sm 4294967296 x) (n t : Nat) (hn : n ≤ 32) (hm : ln m t = 4294967295) : ln (rotP m x n) t = rotP 4294967295 (ln x t) n := by
  unfold rotP
  rw [ln_shr _ _ _ _ hn hm, ln_mul x 4294967297 (fun t => by have := hx t; omega)]
theorem ln_shrP {m x : Nat} (n t : Nat) (hn : n ≤ 32) (hm : ln m t = 4294967295) : ln (shrP m x n) t = shrP 4294967295 (ln x t) n := by
  unfold shrP
  exact ln_shr _ _ _ _ hn hm
theorem sm_kw {m one : Nat} (M : Msk m one) (k : Nat) (hk : k < 4294967296) : Sm 4294967296 (Nat.mul one k) := fun t => by
  have h1 : ∀ t, ln one t * k < 18446744073709551616 := fun t => by
    rcases M.m t with h | h
    · rw [h.2]; omega
    · rw [h.2]; omega
  rw [ln_mul one k h1]
  show ln one t * k < _
  rcases M.m t with h | h
  · rw [h.2]; omega
  · rw [h.2]; omega
theorem ln_kw {m one : Nat} (M : Msk m one) (k t : Nat) (hk : k < 4294967296) (ho : ln one t = 1) : ln (Nat.mul one k) t = Nat.mul 1 k := by
  have h1 : ∀ t, ln one t * k < 18446744073709551616 := fun t => by
    rcases M.m t with h | h
    · rw [h.2]; omega
    · rw [h.2]; omega
  rw [ln_mul one k h1, ho]
theorem sm_s3 {m : Nat} (hm : Sm 4294967296 m) (x : Nat) (i j k : Nat) : Sm 4294967296 (Nat.xor (Nat.xor (rotP m x i) (rotP m x j)) (rotP m x k)) := sm_xor (sm_xor (sm_rot hm _ _) (sm_rot hm _ _)) (sm_rot hm _ _)
theorem sm_sg0 {m : Nat} (hm : Sm 4294967296 m) (x : Nat) : Sm 4294967296 (sg0 m x) := sm_xor (sm_xor (sm_rot hm _ _) (sm_rot hm _ _)) (sm_shr hm _ _)
theorem sm_sg1 {m : Nat} (hm : Sm 4294967296 m) (x : Nat) : Sm 4294967296 (sg1 m x) := sm_xor (sm_xor (sm_rot hm _ _) (sm_rot hm _ _)) (sm_shr hm _ _)
theorem sm_land {X Y : Nat} (hy : Sm 4294967296 Y) : Sm 4294967296 (Nat.land X Y) := sm_and hy X

theorem sm_t1 {m one kw w : Nat} {s : S8} (M : Msk m one) (F : Fit s) (hk : Sm 4294967296 kw) (hw : Sm 4294967296 w) : Sm 21474836480 (t1P m kw s w) := by
  unfold t1P
  exact sm_add (B := 17179869184) (sm_add (B := 12884901888) (sm_add (B := 8589934592) (sm_add F.h (sm_s3 M.sm _ _ _ _) (by omega)) (sm_xor (sm_land F.f) (sm_land F.g)) (by omega)) hk (by omega)) hw (by omega)
theorem ln_t1 {m one kw w : Nat} {s : S8} (M : Msk m one) (F : Fit s) (hk : Sm 4294967296 kw) (hw : Sm 4294967296 w) (t : Nat) (hm : ln m t = 4294967295) : ln (t1P m kw s w) t = t1P 4294967295 (ln kw t) (s.lane t) (ln w t) := by
  unfold t1P
  rw [ln_add' (B := 17179869184) (sm_add (B := 12884901888) (sm_add (B := 8589934592) (sm_add F.h (sm_s3 M.sm _ _ _ _) (by omega)) (sm_xor (sm_land F.f) (sm_land F.g)) (by omega)) hk (by omega)) hw (by omega),
    ln_add' (B := 12884901888) (sm_add (B := 8589934592) (sm_add F.h (sm_s3 M.sm _ _ _ _) (by omega)) (sm_xor (sm_land F.f) (sm_land F.g)) (by omega)) hk (by omega),
    ln_add' (B := 8589934592) (sm_add F.h (sm_s3 M.sm _ _ _ _) (by omega)) (sm_xor (sm_land F.f) (sm_land F.g)) (by omega),
    ln_add' F.h (sm_s3 M.sm _ _ _ _) (by omega)]
  simp only [ln_xor, ln_and, ln_rot F.e _ t (show 6 ≤ 32 by omega) hm, ln_rot F.e _ t (show 11 ≤ 32 by omega) hm, ln_rot F.e _ t (show 25 ≤ 32 by omega) hm, hm, S8.lane]
theorem sm_t2 {m one : Nat} {s : S8} (M : Msk m one) (F : Fit s) : Sm 8589934592 (t2P m s) := by
  unfold t2P
  exact sm_add (sm_s3 M.sm _ _ _ _) (sm_xor (sm_xor (sm_land F.b) (sm_land F.c)) (sm_land F.c)) (by omega)
theorem ln_t2 {m one : Nat} {s : S8} (M : Msk m one) (F : Fit s) (t : Nat) (hm : ln m t = 4294967295) : ln (t2P m s) t = t2P 4294967295 (s.lane t) := by
  unfold t2P
  rw [ln_add' (sm_s3 M.sm _ _ _ _) (sm_xor (sm_xor (sm_land F.b) (sm_land F.c)) (sm_land F.c)) (by omega)]
  simp only [ln_xor, ln_and, ln_rot F.a _ t (show 2 ≤ 32 by omega) hm, ln_rot F.a _ t (show 13 ≤ 32 by omega) hm, ln_rot F.a _ t (show 22 ≤ 32 by omega) hm, S8.lane]
theorem fit_step {m one kw w : Nat} {s : S8} (M : Msk m one) (F : Fit s) : Fit (stepP m kw s w) := ⟨sm_and M.sm _, F.a, F.b, F.c, sm_and M.sm _, F.e, F.f, F.g⟩
theorem ln_step {m one kw w : Nat} {s : S8} (M : Msk m one) (F : Fit s) (hk : Sm 4294967296 kw) (hw : Sm 4294967296 w) (t : Nat) (hm : ln m t = 4294967295) : (stepP m kw s w).lane t = stepP 4294967295 (ln kw t) (s.lane t) (ln w t) := by
  unfold stepP S8.lane
  simp only
  rw [ln_mask _ _ _ hm, ln_mask _ _ _ hm, ln_add' (sm_t1 M F hk hw) (sm_t2 M F) (by omega), ln_add' F.d (sm_t1 M F hk hw) (by omega), ln_t1 M F hk hw t hm, ln_t2 M F t hm]
  rfl
theorem ln_next {m one w0 w1 w9 w14 : Nat} (M : Msk m one) (h0 : Sm 4294967296 w0) (h1 : Sm 4294967296 w1) (h9 : Sm 4294967296 w9) (h14 : Sm 4294967296 w14) (t : Nat) (hm : ln m t = 4294967295) : ln (nextW m w0 w1 w9 w14) t = nextW 4294967295 (ln w0 t) (ln w1 t) (ln w9 t) (ln w14 t) := by
  unfold nextW
  rw [ln_mask _ _ _ hm, ln_add' (B := 12884901888) (sm_add (B := 8589934592) (sm_add h0 (sm_sg0 M.sm _) (by omega)) h9 (by omega)) (sm_sg1 M.sm _) (by omega),
    ln_add' (B := 8589934592) (sm_add h0 (sm_sg0 M.sm _) (by omega)) h9 (by omega), ln_add' h0 (sm_sg0 M.sm _) (by omega)]
  unfold sg0 sg1
  simp only [ln_xor, ln_rot h1 _ t (show 7 ≤ 32 by omega) hm, ln_rot h1 _ t (show 18 ≤ 32 by omega) hm, ln_shrP 3 t (by omega) hm, ln_rot h14 _ t (show 17 ≤ 32 by omega) hm, ln_rot h14 _ t (show 19 ≤ 32 by omega) hm, ln_shrP 10 t (by omega) hm]
theorem ln_run {m one : Nat} (M : Msk m one) (t : Nat) (hm : ln m t = 4294967295) (ho : ln one t = 1) : ∀ (ks : List Nat) (s : S8) (w : List Nat), (∀ k ∈ ks, k < 4294967296) → Fit s → (∀ x ∈ w, Sm 4294967296 x) → w.length = 16 →
    Fit (runP m one ks s w) ∧ (runP m one ks s w).lane t = runP 4294967295 1 ks (s.lane t) (w.map (ln · t))
  | [], s, w, _, F, _, _ => by
    cases w <;> exact ⟨F, rfl⟩
  | k :: ks, s, [w0, w1, w2, w3, w4, w5, w6, w7, w8, w9, w10, w11, w12, w13, w14, w15], hk, F, hw, _ => by
    have k0 := sm_kw M k (hk k (by simp))
    have h0 := hw w0 (by simp)
    have ih := ln_run M t hm ho ks (stepP m (Nat.mul one k) s w0) [w1, w2, w3, w4, w5, w6, w7, w8, w9, w10, w11, w12, w13, w14, w15, nextW m w0 w1 w9 w14] (fun x hx => hk x (by simp [hx])) (fit_step M F) (by
      intro x hx
      by_cases hl : x = nextW m w0 w1 w9 w14
      · subst hl; exact sm_and M.sm _
      · refine hw x ?_
        simp only [List.mem_cons, List.not_mem_nil, or_false] at hx ⊢
        rcases hx with h | h | h | h | h | h | h | h | h | h | h | h | h | h | h | h <;> first | exact absurd h hl | (subst h; simp)) rfl
    refine ⟨ih.1, ?_⟩
    show (runP m one ks (stepP m (Nat.mul one k) s w0) _).lane t = _
    rw [ih.2, ln_step M F k0 h0 t hm, ln_kw M k t (hk k (by simp)) ho]
    simp only [List.map_cons, List.map_nil]
    rw [ln_next M h0 (hw w1 (by simp)) (hw w9 (by simp)) (hw w14 (by simp)) t hm]
    rfl
theorem KK_lt : ∀ k ∈ KK, k < 4294967296 := by decide
theorem fit_add {m one : Nat} (M : Msk m one) (x y : S8) : Fit (addP m x y) := ⟨sm_and M.sm _, sm_and M.sm _, sm_and M.sm _, sm_and M.sm _, sm_and M.sm _, sm_and M.sm _, sm_and M.sm _, sm_and M.sm _⟩
/-- Each lane goes by itself. -/
theorem ln_mix {m one : Nat} (M : Msk m one) (t : Nat) (hm : ln m t = 4294967295) (ho : ln one t = 1) (s : S8) (w : List Nat) (F : Fit s) (hw : ∀ x ∈ w, Sm 4294967296 x) (h16 : w.length = 16) :
    Fit (mixP m one s w) ∧ (mixP m one s w).lane t = mixP 4294967295 1 (s.lane t) (w.map (ln · t)) := by
  obtain ⟨F2, e⟩ := ln_run M t hm ho KK s w KK_lt F hw h16
  refine ⟨fit_add M _ _, ?_⟩
  unfold mixP
  rw [← e]
  generalize runP m one KK s w = r at *
  unfold addP S8.lane
  simp only
  rw [ln_mask _ _ _ hm, ln_mask _ _ _ hm, ln_mask _ _ _ hm, ln_mask _ _ _ hm, ln_mask _ _ _ hm, ln_mask _ _ _ hm, ln_mask _ _ _ hm, ln_mask _ _ _ hm,
    ln_add' F.a F2.a (by omega), ln_add' F.b F2.b (by omega), ln_add' F.c F2.c (by omega), ln_add' F.d F2.d (by omega), ln_add' F.e F2.e (by omega), ln_add' F.f F2.f (by omega), ln_add' F.g F2.g (by omega), ln_add' F.h F2.h (by omega)]
end Go.Lane
