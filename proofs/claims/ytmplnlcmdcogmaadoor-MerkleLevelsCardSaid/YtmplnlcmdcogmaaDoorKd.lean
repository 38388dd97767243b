/- The sum of two neighbours and of a leaf, in lanes; one lane is the document's. No conditions: definitions and lemmas. -/
import Derived.Test.YtmplnlcmdcogmaaDoorKc
namespace Go.Lane
open Go.Sha

def cat24 (m x y : Nat) : Nat := Nat.land (Nat.add (Nat.mul x 16777216) (shrP m y 8)) m
def ivP (one : Nat) : S8 := ⟨Nat.mul one 1779033703, Nat.mul one 3144134277, Nat.mul one 1013904242, Nat.mul one 2773480762, Nat.mul one 1359893119, Nat.mul one 2600822924, Nat.mul one 528734635, Nat.mul one 1541459225⟩
def blkA (m one : Nat) (x y : S8) : List Nat := [Nat.land (Nat.add (Nat.mul one 16777216) (shrP m x.a 8)) m, cat24 m x.a x.b, cat24 m x.b x.c, cat24 m x.c x.d, cat24 m x.d x.e, cat24 m x.e x.f, cat24 m x.f x.g, cat24 m x.g x.h, cat24 m x.h y.a, cat24 m y.a y.b, cat24 m y.b y.c, cat24 m y.c y.d, cat24 m y.d y.e, cat24 m y.e y.f, cat24 m y.f y.g, cat24 m y.g y.h]
def blkB (m one : Nat) (y : S8) : List Nat := [Nat.land (Nat.add (Nat.mul y.h 16777216) (Nat.mul one 8388608)) m, Nat.mul one 0, Nat.mul one 0, Nat.mul one 0, Nat.mul one 0, Nat.mul one 0, Nat.mul one 0, Nat.mul one 0, Nat.mul one 0, Nat.mul one 0, Nat.mul one 0, Nat.mul one 0, Nat.mul one 0, Nat.mul one 0, Nat.mul one 0, Nat.mul one 520]
/-- The sum of two neighbours. -/
def pairP (m one : Nat) (x y : S8) : S8 := mixP m one (mixP m one (ivP one) (blkA m one x y)) (blkB m one y)

theorem sm_mul24 {x : Nat} (h : Sm 4294967296 x) : Sm 72057594037927936 (Nat.mul x 16777216) := fun t => by
  rw [ln_mul x 16777216 (fun t => by have := h t; omega)]
  have := h t
  show ln x t * 16777216 < _
  omega
theorem ln_cat {m one x y : Nat} (M : Msk m one) (hx : Sm 4294967296 x) (t : Nat) (hm : ln m t = 4294967295) : ln (cat24 m x y) t = cat24 4294967295 (ln x t) (ln y t) := by
  unfold cat24
  rw [ln_mask _ _ _ hm, ln_add' (sm_mul24 hx) (sm_shr M.sm _ _) (by omega), ln_mul x 16777216 (fun t => by have := hx t; omega), ln_shrP 8 t (by omega) hm]
theorem sm_cat {m one x y : Nat} (M : Msk m one) : Sm 4294967296 (cat24 m x y) := sm_and M.sm _
theorem fit_iv {m one : Nat} (M : Msk m one) : Fit (ivP one) := ⟨sm_kw M _ (by omega), sm_kw M _ (by omega), sm_kw M _ (by omega), sm_kw M _ (by omega), sm_kw M _ (by omega), sm_kw M _ (by omega), sm_kw M _ (by omega), sm_kw M _ (by omega)⟩
theorem ln_iv {m one : Nat} (M : Msk m one) (t : Nat) (ho : ln one t = 1) : (ivP one).lane t = ivP 1 := by
  unfold ivP S8.lane
  simp only
  rw [ln_kw M 1779033703 t (by omega) ho, ln_kw M 3144134277 t (by omega) ho, ln_kw M 1013904242 t (by omega) ho, ln_kw M 2773480762 t (by omega) ho, ln_kw M 1359893119 t (by omega) ho, ln_kw M 2600822924 t (by omega) ho, ln_kw M 528734635 t (by omega) ho, ln_kw M 1541459225 t (by omega) ho]
theorem ln_pair {m one : Nat} (M : Msk m one) (t : Nat) (hm : ln m t = 4294967295) (ho : ln one t = 1) (x y : S8) (X : Fit x) (Y : Fit y) : Fit (pairP m one x y) ∧ (pairP m one x y).lane t = pairP 4294967295 1 (x.lane t) (y.lane t) := by
  have A : ∀ z ∈ blkA m one x y, Sm 4294967296 z := by
    intro z hz
    simp only [blkA, List.mem_cons, List.not_mem_nil, or_false] at hz
    rcases hz with rfl | rfl | rfl | rfl | rfl | rfl | rfl | rfl | rfl | rfl | rfl | rfl | rfl | rfl | rfl | rfl
    · exact sm_and M.sm _
    all_goals exact sm_cat M
  have B : ∀ z ∈ blkB m one y, Sm 4294967296 z := by
    intro z hz
    simp only [blkB, List.mem_cons, List.not_mem_nil, or_false] at hz
    rcases hz with rfl | rfl | rfl | rfl | rfl | rfl | rfl | rfl | rfl | rfl | rfl | rfl | rfl | rfl | rfl | rfl
    · exact sm_and M.sm _
    all_goals exact sm_kw M _ (by omega)
  obtain ⟨F1, e1⟩ := ln_mix M t hm ho (ivP one) (blkA m one x y) (fit_iv M) A rfl
  obtain ⟨F2, e2⟩ := ln_mix M t hm ho (mixP m one (ivP one) (blkA m one x y)) (blkB m one y) F1 B rfl
  refine ⟨F2, ?_⟩
  unfold pairP
  rw [e2, e1, ln_iv M t ho]
  have hA : (blkA m one x y).map (ln · t) = blkA 4294967295 1 (x.lane t) (y.lane t) := by
    unfold blkA
    simp only [List.map_cons, List.map_nil]
    rw [ln_mask _ _ _ hm, ln_add' (sm_kw M 16777216 (by omega)) (sm_shr M.sm _ _) (by omega), ln_kw M _ t (by omega) ho, ln_shrP 8 t (by omega) hm, ln_cat M X.a t hm, ln_cat M X.b t hm, ln_cat M X.c t hm, ln_cat M X.d t hm, ln_cat M X.e t hm, ln_cat M X.f t hm, ln_cat M X.g t hm, ln_cat M X.h t hm, ln_cat M Y.a t hm, ln_cat M Y.b t hm, ln_cat M Y.c t hm, ln_cat M Y.d t hm, ln_cat M Y.e t hm, ln_cat M Y.f t hm, ln_cat M Y.g t hm]
    rfl
  have hB : (blkB m one y).map (ln · t) = blkB 4294967295 1 (y.lane t) := by
    unfold blkB
    simp only [List.map_cons, List.map_nil]
    rw [ln_mask _ _ _ hm, ln_add' (sm_mul24 Y.h) (sm_kw M 8388608 (by omega)) (by omega), ln_mul y.h 16777216 (fun t => by have := Y.h t; omega), ln_kw M 8388608 t (by omega) ho, ln_kw M 0 t (by omega) ho, ln_kw M 520 t (by omega) ho]
    rfl
  rw [hA, hB]

/-- Four bytes as a word. -/
theorem or4 (a b c d : Int) (ha : 0 ≤ a ∧ a < 256) (hb : 0 ≤ b ∧ b < 256) (hc : 0 ≤ c ∧ c < 256) (hd : 0 ≤ d ∧ d < 256) :
    bits .or .u32 (bits .or .u32 (bits .or .u32 (a % 4294967296 * 16777216 % 4294967296) (b % 4294967296 * 65536 % 4294967296)) (c % 4294967296 * 256 % 4294967296)) (d % 4294967296) = a * 16777216 + b * 65536 + c * 256 + d := by
  obtain ⟨A, rfl⟩ := Int.eq_ofNat_of_zero_le ha.1
  obtain ⟨B, rfl⟩ := Int.eq_ofNat_of_zero_le hb.1
  obtain ⟨C, rfl⟩ := Int.eq_ofNat_of_zero_le hc.1
  obtain ⟨D, rfl⟩ := Int.eq_ofNat_of_zero_le hd.1
  have e1 : (A : Int) % 4294967296 * 16777216 % 4294967296 = ((A * 16777216 : Nat) : Int) := by omega
  have e2 : (B : Int) % 4294967296 * 65536 % 4294967296 = ((B * 65536 : Nat) : Int) := by omega
  have e3 : (C : Int) % 4294967296 * 256 % 4294967296 = ((C * 256 : Nat) : Int) := by omega
  have e4 : (D : Int) % 4294967296 = ((D : Nat) : Int) := by omega
  have o1 : A * 16777216 ||| B * 65536 = A * 16777216 + B * 65536 := by
    have h := Nat.two_pow_add_eq_or_of_lt (i := 24) (b := B * 65536) (by omega) A
    rw [show 2 ^ 24 * A = A * 16777216 from Nat.mul_comm _ _] at h
    exact h.symm
  have o2 : (A * 16777216 + B * 65536) ||| C * 256 = A * 16777216 + B * 65536 + C * 256 := by
    have h := Nat.two_pow_add_eq_or_of_lt (i := 16) (b := C * 256) (by omega) (A * 256 + B)
    have e : 65536 * (A * 256 + B) = A * 16777216 + B * 65536 := by omega
    rw [show 2 ^ 16 * (A * 256 + B) = A * 16777216 + B * 65536 from e] at h
    exact h.symm
  have o3 : (A * 16777216 + B * 65536 + C * 256) ||| D = A * 16777216 + B * 65536 + C * 256 + D := by
    have h := Nat.two_pow_add_eq_or_of_lt (i := 8) (b := D) (by omega) (A * 65536 + B * 256 + C)
    have e : 256 * (A * 65536 + B * 256 + C) = A * 16777216 + B * 65536 + C * 256 := by omega
    rw [show 2 ^ 8 * (A * 65536 + B * 256 + C) = A * 16777216 + B * 65536 + C * 256 from e] at h
    exact h.symm
  rw [e1, e2, e3, e4, u32_or_nat _ _ (by omega) (by omega), o1, u32_or_nat _ _ (by omega) (by omega), o2, u32_or_nat _ _ (by omega) (by omega), o3]
  omega
theorem word_of (blk : List Int) (k : Nat) (a b c d : Int) (h0 : blk[k * 4]?.getD 0 = a) (h1 : blk[k * 4 + 1]?.getD 0 = b) (h2 : blk[k * 4 + 2]?.getD 0 = c) (h3 : blk[k * 4 + 3]?.getD 0 = d)
    (ha : 0 ≤ a ∧ a < 256) (hb : 0 ≤ b ∧ b < 256) (hc : 0 ≤ c ∧ c < 256) (hd : 0 ≤ d ∧ d < 256) : word0 blk k = a * 16777216 + b * 65536 + c * 256 + d := by
  unfold word0
  rw [h0, h1, h2, h3]
  exact or4 a b c d ha hb hc hd
theorem byte_in (x n : Int) : 0 ≤ x / n % 256 ∧ x / n % 256 < 256 := ⟨Int.emod_nonneg _ (by omega), Int.emod_lt_of_pos _ (by omega)⟩
theorem byte_in0 (x : Int) : 0 ≤ x % 256 ∧ x % 256 < 256 := ⟨Int.emod_nonneg _ (by omega), Int.emod_lt_of_pos _ (by omega)⟩
theorem cat_val (x y : Nat) (hy : y < 4294967296) : (x : Int) % 256 * 16777216 + (y : Int) / 16777216 % 256 * 65536 + (y : Int) / 65536 % 256 * 256 + (y : Int) / 256 % 256 = (cat24 4294967295 x y : Nat) := by
  unfold cat24 shrP
  rw [land_mask, land_mask]
  show _ = (((x * 16777216 + (y >>> 8) % 4294967296 : Nat) % 4294967296 : Nat) : Int)
  rw [Nat.shiftRight_eq_div_pow]
  omega
set_option maxRecDepth 10000 in
theorem pad65 : padL 65 = [128, 0, 0, 0, 0, 0, 0, 0, 0, 0, 0, 0, 0, 0, 0, 0, 0, 0, 0, 0, 0, 0, 0, 0, 0, 0, 0, 0, 0, 0, 0, 0, 0, 0, 0, 0, 0, 0, 0, 0, 0, 0, 0, 0, 0, 0, 0, 0, 0, 0, 0, 0, 0, 0, 0, 0, 0, 0, 0, 0, 0, 2, 8] := by decide +kernel
set_option maxRecDepth 10000 in
theorem pad2 : padL 2 = [128, 0, 0, 0, 0, 0, 0, 0, 0, 0, 0, 0, 0, 0, 0, 0, 0, 0, 0, 0, 0, 0, 0, 0, 0, 0, 0, 0, 0, 0, 0, 0, 0, 0, 0, 0, 0, 0, 0, 0, 0, 0, 0, 0, 0, 0, 0, 0, 0, 0, 0, 0, 0, 0, 0, 0, 0, 0, 0, 0, 0, 16] := by decide +kernel
set_option maxRecDepth 10000 in
theorem pad6 : padL 6 = [128, 0, 0, 0, 0, 0, 0, 0, 0, 0, 0, 0, 0, 0, 0, 0, 0, 0, 0, 0, 0, 0, 0, 0, 0, 0, 0, 0, 0, 0, 0, 0, 0, 0, 0, 0, 0, 0, 0, 0, 0, 0, 0, 0, 0, 0, 0, 0, 0, 0, 0, 0, 0, 0, 0, 0, 0, 48] := by decide +kernel
theorem iv_li : iv = (ivP 1).li := by decide
theorem iv_ok : Ok (ivP 1) := ⟨by decide, by decide, by decide, by decide, by decide, by decide, by decide, by decide⟩
def bA (x y : S8) : List Int := [1, (x.a : Int) / 16777216 % 256, (x.a : Int) / 65536 % 256, (x.a : Int) / 256 % 256, (x.a : Int) % 256, (x.b : Int) / 16777216 % 256, (x.b : Int) / 65536 % 256, (x.b : Int) / 256 % 256, (x.b : Int) % 256, (x.c : Int) / 16777216 % 256, (x.c : Int) / 65536 % 256, (x.c : Int) / 256 % 256, (x.c : Int) % 256, (x.d : Int) / 16777216 % 256, (x.d : Int) / 65536 % 256, (x.d : Int) / 256 % 256, (x.d : Int) % 256, (x.e : Int) / 16777216 % 256, (x.e : Int) / 65536 % 256, (x.e : Int) / 256 % 256, (x.e : Int) % 256, (x.f : Int) / 16777216 % 256, (x.f : Int) / 65536 % 256, (x.f : Int) / 256 % 256, (x.f : Int) % 256, (x.g : Int) / 16777216 % 256, (x.g : Int) / 65536 % 256, (x.g : Int) / 256 % 256, (x.g : Int) % 256, (x.h : Int) / 16777216 % 256, (x.h : Int) / 65536 % 256, (x.h : Int) / 256 % 256, (x.h : Int) % 256, (y.a : Int) / 16777216 % 256, (y.a : Int) / 65536 % 256, (y.a : Int) / 256 % 256, (y.a : Int) % 256, (y.b : Int) / 16777216 % 256, (y.b : Int) / 65536 % 256, (y.b : Int) / 256 % 256, (y.b : Int) % 256, (y.c : Int) / 16777216 % 256, (y.c : Int) / 65536 % 256, (y.c : Int) / 256 % 256, (y.c : Int) % 256, (y.d : Int) / 16777216 % 256, (y.d : Int) / 65536 % 256, (y.d : Int) / 256 % 256, (y.d : Int) % 256, (y.e : Int) / 16777216 % 256, (y.e : Int) / 65536 % 256, (y.e : Int) / 256 % 256, (y.e : Int) % 256, (y.f : Int) / 16777216 % 256, (y.f : Int) / 65536 % 256, (y.f : Int) / 256 % 256, (y.f : Int) % 256, (y.g : Int) / 16777216 % 256, (y.g : Int) / 65536 % 256, (y.g : Int) / 256 % 256, (y.g : Int) % 256, (y.h : Int) / 16777216 % 256, (y.h : Int) / 65536 % 256, (y.h : Int) / 256 % 256]
def bB (y : S8) : List Int := [(y.h : Int) % 256, 128, 0, 0, 0, 0, 0, 0, 0, 0, 0, 0, 0, 0, 0, 0, 0, 0, 0, 0, 0, 0, 0, 0, 0, 0, 0, 0, 0, 0, 0, 0, 0, 0, 0, 0, 0, 0, 0, 0, 0, 0, 0, 0, 0, 0, 0, 0, 0, 0, 0, 0, 0, 0, 0, 0, 0, 0, 0, 0, 0, 0, 2, 8]
theorem msg_eq (x y : S8) : (1 :: (wordsB x.li ++ wordsB y.li)) ++ padL 65 = bA x y ++ bB y := by rw [pad65]; rfl
theorem chain2 (a b : List Int) (ha : a.length = 64) (hb : b.length = 64) : chainOf (a ++ b) = mixL (mixL iv a) b := by
  unfold chainOf
  have hl : (a ++ b).length / 64 = 2 := by rw [List.length_append, ha, hb]
  rw [hl]
  unfold chainB chunks chunks chunks
  rw [List.take_append_of_le_length (by omega), List.take_of_length_le (by omega), List.drop_append, List.drop_of_length_le (by omega), ha, List.nil_append]
  simp [List.take_of_length_le, hb]
theorem chain1 (a : List Int) (ha : a.length = 64) : chainOf a = mixL iv a := by
  unfold chainOf
  rw [ha]
  show chainB (chunks 1 a) = _
  unfold chainB chunks chunks
  simp [List.take_of_length_le, ha]
theorem first_val (x : Nat) (hx : x < 4294967296) : (1 : Int) * 16777216 + (x : Int) / 16777216 % 256 * 65536 + (x : Int) / 65536 % 256 * 256 + (x : Int) / 256 % 256 = ((Nat.land (Nat.add (Nat.mul 1 16777216) (shrP 4294967295 x 8)) 4294967295 : Nat) : Int) := by
  unfold shrP
  rw [land_mask, land_mask]
  show _ = (((1 * 16777216 + (x >>> 8) % 4294967296 : Nat) % 4294967296 : Nat) : Int)
  rw [Nat.shiftRight_eq_div_pow]
  omega
theorem last_val (y : Nat) : (y : Int) % 256 * 16777216 + 128 * 65536 + 0 * 256 + 0 = ((Nat.land (Nat.add (Nat.mul y 16777216) (Nat.mul 1 8388608)) 4294967295 : Nat) : Int) := by
  rw [land_mask]
  show _ = (((y * 16777216 + 1 * 8388608 : Nat) % 4294967296 : Nat) : Int)
  omega
/-- One lane's sum of two neighbours is the document's. -/
theorem pair_eq (x y : S8) (X : Ok x) (Y : Ok y) : pairL (wordsB x.li) (wordsB y.li) = wordsB (pairP 4294967295 1 x y).li ∧ Ok (pairP 4294967295 1 x y) := by
  obtain ⟨m1, O1⟩ := mix_eq (ivP 1) (bA x y) (Nat.land (Nat.add (Nat.mul 1 16777216) (shrP 4294967295 x.a 8)) 4294967295) (cat24 4294967295 x.a x.b) (cat24 4294967295 x.b x.c) (cat24 4294967295 x.c x.d) (cat24 4294967295 x.d x.e) (cat24 4294967295 x.e x.f) (cat24 4294967295 x.f x.g) (cat24 4294967295 x.g x.h) (cat24 4294967295 x.h y.a) (cat24 4294967295 y.a y.b) (cat24 4294967295 y.b y.c) (cat24 4294967295 y.c y.d) (cat24 4294967295 y.d y.e) (cat24 4294967295 y.e y.f) (cat24 4294967295 y.f y.g) (cat24 4294967295 y.g y.h) iv_ok
    (by rw [word_of (bA x y) 0 (1) ((x.a : Int) / 16777216 % 256) ((x.a : Int) / 65536 % 256) ((x.a : Int) / 256 % 256) rfl rfl rfl rfl ⟨by omega, by omega⟩ (byte_in _ _) (byte_in _ _) (byte_in _ _)]; show _ = ((Nat.land (Nat.add (Nat.mul 1 16777216) (shrP 4294967295 x.a 8)) 4294967295 : Nat) : Int); exact first_val x.a X.a)
    (by rw [word_of (bA x y) 1 ((x.a : Int) % 256) ((x.b : Int) / 16777216 % 256) ((x.b : Int) / 65536 % 256) ((x.b : Int) / 256 % 256) rfl rfl rfl rfl (byte_in0 _) (byte_in _ _) (byte_in _ _) (byte_in _ _)]; exact cat_val x.a x.b X.b)
    (by rw [word_of (bA x y) 2 ((x.b : Int) % 256) ((x.c : Int) / 16777216 % 256) ((x.c : Int) / 65536 % 256) ((x.c : Int) / 256 % 256) rfl rfl rfl rfl (byte_in0 _) (byte_in _ _) (byte_in _ _) (byte_in _ _)]; exact cat_val x.b x.c X.c)
    (by rw [word_of (bA x y) 3 ((x.c : Int) % 256) ((x.d : Int) / 16777216 % 256) ((x.d : Int) / 65536 % 256) ((x.d : Int) / 256 % 256) rfl rfl rfl rfl (byte_in0 _) (byte_in _ _) (byte_in _ _) (byte_in _ _)]; exact cat_val x.c x.d X.d)
    (by rw [word_of (bA x y) 4 ((x.d : Int) % 256) ((x.e : Int) / 16777216 % 256) ((x.e : Int) / 65536 % 256) ((x.e : Int) / 256 % 256) rfl rfl rfl rfl (byte_in0 _) (byte_in _ _) (byte_in _ _) (byte_in _ _)]; exact cat_val x.d x.e X.e)
    (by rw [word_of (bA x y) 5 ((x.e : Int) % 256) ((x.f : Int) / 16777216 % 256) ((x.f : Int) / 65536 % 256) ((x.f : Int) / 256 % 256) rfl rfl rfl rfl (byte_in0 _) (byte_in _ _) (byte_in _ _) (byte_in _ _)]; exact cat_val x.e x.f X.f)
    (by rw [word_of (bA x y) 6 ((x.f : Int) % 256) ((x.g : Int) / 16777216 % 256) ((x.g : Int) / 65536 % 256) ((x.g : Int) / 256 % 256) rfl rfl rfl rfl (byte_in0 _) (byte_in _ _) (byte_in _ _) (byte_in _ _)]; exact cat_val x.f x.g X.g)
    (by rw [word_of (bA x y) 7 ((x.g : Int) % 256) ((x.h : Int) / 16777216 % 256) ((x.h : Int) / 65536 % 256) ((x.h : Int) / 256 % 256) rfl rfl rfl rfl (byte_in0 _) (byte_in _ _) (byte_in _ _) (byte_in _ _)]; exact cat_val x.g x.h X.h)
    (by rw [word_of (bA x y) 8 ((x.h : Int) % 256) ((y.a : Int) / 16777216 % 256) ((y.a : Int) / 65536 % 256) ((y.a : Int) / 256 % 256) rfl rfl rfl rfl (byte_in0 _) (byte_in _ _) (byte_in _ _) (byte_in _ _)]; exact cat_val x.h y.a Y.a)
    (by rw [word_of (bA x y) 9 ((y.a : Int) % 256) ((y.b : Int) / 16777216 % 256) ((y.b : Int) / 65536 % 256) ((y.b : Int) / 256 % 256) rfl rfl rfl rfl (byte_in0 _) (byte_in _ _) (byte_in _ _) (byte_in _ _)]; exact cat_val y.a y.b Y.b)
    (by rw [word_of (bA x y) 10 ((y.b : Int) % 256) ((y.c : Int) / 16777216 % 256) ((y.c : Int) / 65536 % 256) ((y.c : Int) / 256 % 256) rfl rfl rfl rfl (byte_in0 _) (byte_in _ _) (byte_in _ _) (byte_in _ _)]; exact cat_val y.b y.c Y.c)
    (by rw [word_of (bA x y) 11 ((y.c : Int) % 256) ((y.d : Int) / 16777216 % 256) ((y.d : Int) / 65536 % 256) ((y.d : Int) / 256 % 256) rfl rfl rfl rfl (byte_in0 _) (byte_in _ _) (byte_in _ _) (byte_in _ _)]; exact cat_val y.c y.d Y.d)
    (by rw [word_of (bA x y) 12 ((y.d : Int) % 256) ((y.e : Int) / 16777216 % 256) ((y.e : Int) / 65536 % 256) ((y.e : Int) / 256 % 256) rfl rfl rfl rfl (byte_in0 _) (byte_in _ _) (byte_in _ _) (byte_in _ _)]; exact cat_val y.d y.e Y.e)
    (by rw [word_of (bA x y) 13 ((y.e : Int) % 256) ((y.f : Int) / 16777216 % 256) ((y.f : Int) / 65536 % 256) ((y.f : Int) / 256 % 256) rfl rfl rfl rfl (byte_in0 _) (byte_in _ _) (byte_in _ _) (byte_in _ _)]; exact cat_val y.e y.f Y.f)
    (by rw [word_of (bA x y) 14 ((y.f : Int) % 256) ((y.g : Int) / 16777216 % 256) ((y.g : Int) / 65536 % 256) ((y.g : Int) / 256 % 256) rfl rfl rfl rfl (byte_in0 _) (byte_in _ _) (byte_in _ _) (byte_in _ _)]; exact cat_val y.f y.g Y.g)
    (by rw [word_of (bA x y) 15 ((y.g : Int) % 256) ((y.h : Int) / 16777216 % 256) ((y.h : Int) / 65536 % 256) ((y.h : Int) / 256 % 256) rfl rfl rfl rfl (byte_in0 _) (byte_in _ _) (byte_in _ _) (byte_in _ _)]; exact cat_val y.g y.h Y.h)
    (and_lt _ _ (by omega)) (and_lt _ _ (by omega)) (and_lt _ _ (by omega)) (and_lt _ _ (by omega)) (and_lt _ _ (by omega)) (and_lt _ _ (by omega)) (and_lt _ _ (by omega)) (and_lt _ _ (by omega)) (and_lt _ _ (by omega)) (and_lt _ _ (by omega)) (and_lt _ _ (by omega)) (and_lt _ _ (by omega)) (and_lt _ _ (by omega)) (and_lt _ _ (by omega)) (and_lt _ _ (by omega)) (and_lt _ _ (by omega))
  obtain ⟨m2, O2⟩ := mix_eq (mixP 4294967295 1 (ivP 1) (blkA 4294967295 1 x y)) (bB y) (Nat.land (Nat.add (Nat.mul y.h 16777216) (Nat.mul 1 8388608)) 4294967295) (Nat.mul 1 0) (Nat.mul 1 0) (Nat.mul 1 0) (Nat.mul 1 0) (Nat.mul 1 0) (Nat.mul 1 0) (Nat.mul 1 0) (Nat.mul 1 0) (Nat.mul 1 0) (Nat.mul 1 0) (Nat.mul 1 0) (Nat.mul 1 0) (Nat.mul 1 0) (Nat.mul 1 0) (Nat.mul 1 520) O1
    (by rw [word_of (bB y) 0 ((y.h : Int) % 256) (128) (0) (0) rfl rfl rfl rfl (byte_in0 _) ⟨by omega, by omega⟩ ⟨by omega, by omega⟩ ⟨by omega, by omega⟩]; show _ = ((Nat.land (Nat.add (Nat.mul y.h 16777216) (Nat.mul 1 8388608)) 4294967295 : Nat) : Int); exact last_val y.h)
    (by rw [word_of (bB y) 1 (0) (0) (0) (0) rfl rfl rfl rfl ⟨by omega, by omega⟩ ⟨by omega, by omega⟩ ⟨by omega, by omega⟩ ⟨by omega, by omega⟩]; rfl)
    (by rw [word_of (bB y) 2 (0) (0) (0) (0) rfl rfl rfl rfl ⟨by omega, by omega⟩ ⟨by omega, by omega⟩ ⟨by omega, by omega⟩ ⟨by omega, by omega⟩]; rfl)
    (by rw [word_of (bB y) 3 (0) (0) (0) (0) rfl rfl rfl rfl ⟨by omega, by omega⟩ ⟨by omega, by omega⟩ ⟨by omega, by omega⟩ ⟨by omega, by omega⟩]; rfl)
    (by rw [word_of (bB y) 4 (0) (0) (0) (0) rfl rfl rfl rfl ⟨by omega, by omega⟩ ⟨by omega, by omega⟩ ⟨by omega, by omega⟩ ⟨by omega, by omega⟩]; rfl)
    (by rw [word_of (bB y) 5 (0) (0) (0) (0) rfl rfl rfl rfl ⟨by omega, by omega⟩ ⟨by omega, by omega⟩ ⟨by omega, by omega⟩ ⟨by omega, by omega⟩]; rfl)
    (by rw [word_of (bB y) 6 (0) (0) (0) (0) rfl rfl rfl rfl ⟨by omega, by omega⟩ ⟨by omega, by omega⟩ ⟨by omega, by omega⟩ ⟨by omega, by omega⟩]; rfl)
    (by rw [word_of (bB y) 7 (0) (0) (0) (0) rfl rfl rfl rfl ⟨by omega, by omega⟩ ⟨by omega, by omega⟩ ⟨by omega, by omega⟩ ⟨by omega, by omega⟩]; rfl)
    (by rw [word_of (bB y) 8 (0) (0) (0) (0) rfl rfl rfl rfl ⟨by omega, by omega⟩ ⟨by omega, by omega⟩ ⟨by omega, by omega⟩ ⟨by omega, by omega⟩]; rfl)
    (by rw [word_of (bB y) 9 (0) (0) (0) (0) rfl rfl rfl rfl ⟨by omega, by omega⟩ ⟨by omega, by omega⟩ ⟨by omega, by omega⟩ ⟨by omega, by omega⟩]; rfl)
    (by rw [word_of (bB y) 10 (0) (0) (0) (0) rfl rfl rfl rfl ⟨by omega, by omega⟩ ⟨by omega, by omega⟩ ⟨by omega, by omega⟩ ⟨by omega, by omega⟩]; rfl)
    (by rw [word_of (bB y) 11 (0) (0) (0) (0) rfl rfl rfl rfl ⟨by omega, by omega⟩ ⟨by omega, by omega⟩ ⟨by omega, by omega⟩ ⟨by omega, by omega⟩]; rfl)
    (by rw [word_of (bB y) 12 (0) (0) (0) (0) rfl rfl rfl rfl ⟨by omega, by omega⟩ ⟨by omega, by omega⟩ ⟨by omega, by omega⟩ ⟨by omega, by omega⟩]; rfl)
    (by rw [word_of (bB y) 13 (0) (0) (0) (0) rfl rfl rfl rfl ⟨by omega, by omega⟩ ⟨by omega, by omega⟩ ⟨by omega, by omega⟩ ⟨by omega, by omega⟩]; rfl)
    (by rw [word_of (bB y) 14 (0) (0) (0) (0) rfl rfl rfl rfl ⟨by omega, by omega⟩ ⟨by omega, by omega⟩ ⟨by omega, by omega⟩ ⟨by omega, by omega⟩]; rfl)
    (by rw [word_of (bB y) 15 (0) (0) (2) (8) rfl rfl rfl rfl ⟨by omega, by omega⟩ ⟨by omega, by omega⟩ ⟨by omega, by omega⟩ ⟨by omega, by omega⟩]; rfl)
    (and_lt _ _ (by omega)) (by decide) (by decide) (by decide) (by decide) (by decide) (by decide) (by decide) (by decide) (by decide) (by decide) (by decide) (by decide) (by decide) (by decide) (by decide)
  refine ⟨?_, O2⟩
  unfold pairL shaL
  have hl : (1 :: (wordsB x.li ++ wordsB y.li)).length = 65 := rfl
  rw [hl, msg_eq, chain2 _ _ rfl rfl, iv_li, m1]
  exact congrArg wordsB m2
/-- A leaf of one byte. -/
def leafS (i : Nat) : S8 := mixP 4294967295 1 (ivP 1) [Nat.add (Nat.mul i 65536) 32768, 0, 0, 0, 0, 0, 0, 0, 0, 0, 0, 0, 0, 0, 0, 16]
def otherS : S8 := mixP 4294967295 1 (ivP 1) [7304296, 1702002688, 0, 0, 0, 0, 0, 0, 0, 0, 0, 0, 0, 0, 0, 48]
def bL (i : Nat) : List Int := [0, (i : Int), 128, 0, 0, 0, 0, 0, 0, 0, 0, 0, 0, 0, 0, 0, 0, 0, 0, 0, 0, 0, 0, 0, 0, 0, 0, 0, 0, 0, 0, 0, 0, 0, 0, 0, 0, 0, 0, 0, 0, 0, 0, 0, 0, 0, 0, 0, 0, 0, 0, 0, 0, 0, 0, 0, 0, 0, 0, 0, 0, 0, 0, 16]
def bO : List Int := [0, 111, 116, 104, 101, 114, 128, 0, 0, 0, 0, 0, 0, 0, 0, 0, 0, 0, 0, 0, 0, 0, 0, 0, 0, 0, 0, 0, 0, 0, 0, 0, 0, 0, 0, 0, 0, 0, 0, 0, 0, 0, 0, 0, 0, 0, 0, 0, 0, 0, 0, 0, 0, 0, 0, 0, 0, 0, 0, 0, 0, 0, 0, 48]
theorem leaf_eq (i : Nat) (hi : i < 256) : leafL [(i : Int)] = wordsB (leafS i).li ∧ Ok (leafS i) := by
  obtain ⟨m1, O1⟩ := mix_eq (ivP 1) (bL i) (Nat.add (Nat.mul i 65536) 32768) 0 0 0 0 0 0 0 0 0 0 0 0 0 0 16 iv_ok
    (by rw [word_of (bL i) 0 (0) ((i : Int)) (128) (0) rfl rfl rfl rfl ⟨by omega, by omega⟩ ⟨by omega, by omega⟩ ⟨by omega, by omega⟩ ⟨by omega, by omega⟩]; show _ = ((i * 65536 + 32768 : Nat) : Int); omega)
    (by rw [word_of (bL i) 1 (0) (0) (0) (0) rfl rfl rfl rfl ⟨by omega, by omega⟩ ⟨by omega, by omega⟩ ⟨by omega, by omega⟩ ⟨by omega, by omega⟩]; rfl)
    (by rw [word_of (bL i) 2 (0) (0) (0) (0) rfl rfl rfl rfl ⟨by omega, by omega⟩ ⟨by omega, by omega⟩ ⟨by omega, by omega⟩ ⟨by omega, by omega⟩]; rfl)
    (by rw [word_of (bL i) 3 (0) (0) (0) (0) rfl rfl rfl rfl ⟨by omega, by omega⟩ ⟨by omega, by omega⟩ ⟨by omega, by omega⟩ ⟨by omega, by omega⟩]; rfl)
    (by rw [word_of (bL i) 4 (0) (0) (0) (0) rfl rfl rfl rfl ⟨by omega, by omega⟩ ⟨by omega, by omega⟩ ⟨by omega, by omega⟩ ⟨by omega, by omega⟩]; rfl)
    (by rw [word_of (bL i) 5 (0) (0) (0) (0) rfl rfl rfl rfl ⟨by omega, by omega⟩ ⟨by omega, by omega⟩ ⟨by omega, by omega⟩ ⟨by omega, by omega⟩]; rfl)
    (by rw [word_of (bL i) 6 (0) (0) (0) (0) rfl rfl rfl rfl ⟨by omega, by omega⟩ ⟨by omega, by omega⟩ ⟨by omega, by omega⟩ ⟨by omega, by omega⟩]; rfl)
    (by rw [word_of (bL i) 7 (0) (0) (0) (0) rfl rfl rfl rfl ⟨by omega, by omega⟩ ⟨by omega, by omega⟩ ⟨by omega, by omega⟩ ⟨by omega, by omega⟩]; rfl)
    (by rw [word_of (bL i) 8 (0) (0) (0) (0) rfl rfl rfl rfl ⟨by omega, by omega⟩ ⟨by omega, by omega⟩ ⟨by omega, by omega⟩ ⟨by omega, by omega⟩]; rfl)
    (by rw [word_of (bL i) 9 (0) (0) (0) (0) rfl rfl rfl rfl ⟨by omega, by omega⟩ ⟨by omega, by omega⟩ ⟨by omega, by omega⟩ ⟨by omega, by omega⟩]; rfl)
    (by rw [word_of (bL i) 10 (0) (0) (0) (0) rfl rfl rfl rfl ⟨by omega, by omega⟩ ⟨by omega, by omega⟩ ⟨by omega, by omega⟩ ⟨by omega, by omega⟩]; rfl)
    (by rw [word_of (bL i) 11 (0) (0) (0) (0) rfl rfl rfl rfl ⟨by omega, by omega⟩ ⟨by omega, by omega⟩ ⟨by omega, by omega⟩ ⟨by omega, by omega⟩]; rfl)
    (by rw [word_of (bL i) 12 (0) (0) (0) (0) rfl rfl rfl rfl ⟨by omega, by omega⟩ ⟨by omega, by omega⟩ ⟨by omega, by omega⟩ ⟨by omega, by omega⟩]; rfl)
    (by rw [word_of (bL i) 13 (0) (0) (0) (0) rfl rfl rfl rfl ⟨by omega, by omega⟩ ⟨by omega, by omega⟩ ⟨by omega, by omega⟩ ⟨by omega, by omega⟩]; rfl)
    (by rw [word_of (bL i) 14 (0) (0) (0) (0) rfl rfl rfl rfl ⟨by omega, by omega⟩ ⟨by omega, by omega⟩ ⟨by omega, by omega⟩ ⟨by omega, by omega⟩]; rfl)
    (by rw [word_of (bL i) 15 (0) (0) (0) (16) rfl rfl rfl rfl ⟨by omega, by omega⟩ ⟨by omega, by omega⟩ ⟨by omega, by omega⟩ ⟨by omega, by omega⟩]; rfl)
    (by show i * 65536 + 32768 < _; omega) (by omega) (by omega) (by omega) (by omega) (by omega) (by omega) (by omega) (by omega) (by omega) (by omega) (by omega) (by omega) (by omega) (by omega) (by omega)
  refine ⟨?_, O1⟩
  unfold leafL shaL
  rw [show (0 :: [(i : Int)]).length = 2 from rfl, pad2, show (0 :: [(i : Int)]) ++ [128, 0, 0, 0, 0, 0, 0, 0, 0, 0, 0, 0, 0, 0, 0, 0, 0, 0, 0, 0, 0, 0, 0, 0, 0, 0, 0, 0, 0, 0, 0, 0, 0, 0, 0, 0, 0, 0, 0, 0, 0, 0, 0, 0, 0, 0, 0, 0, 0, 0, 0, 0, 0, 0, 0, 0, 0, 0, 0, 0, 0, 16] = bL i from rfl, chain1 _ rfl, iv_li, m1]
  rfl
theorem other_eq : leafL [111, 116, 104, 101, 114] = wordsB otherS.li ∧ Ok otherS := by
  obtain ⟨m1, O1⟩ := mix_eq (ivP 1) bO 7304296 1702002688 0 0 0 0 0 0 0 0 0 0 0 0 0 48 iv_ok
    (by rw [word_of bO 0 (0) (111) (116) (104) rfl rfl rfl rfl ⟨by omega, by omega⟩ ⟨by omega, by omega⟩ ⟨by omega, by omega⟩ ⟨by omega, by omega⟩]; rfl)
    (by rw [word_of bO 1 (101) (114) (128) (0) rfl rfl rfl rfl ⟨by omega, by omega⟩ ⟨by omega, by omega⟩ ⟨by omega, by omega⟩ ⟨by omega, by omega⟩]; rfl)
    (by rw [word_of bO 2 (0) (0) (0) (0) rfl rfl rfl rfl ⟨by omega, by omega⟩ ⟨by omega, by omega⟩ ⟨by omega, by omega⟩ ⟨by omega, by omega⟩]; rfl)
    (by rw [word_of bO 3 (0) (0) (0) (0) rfl rfl rfl rfl ⟨by omega, by omega⟩ ⟨by omega, by omega⟩ ⟨by omega, by omega⟩ ⟨by omega, by omega⟩]; rfl)
    (by rw [word_of bO 4 (0) (0) (0) (0) rfl rfl rfl rfl ⟨by omega, by omega⟩ ⟨by omega, by omega⟩ ⟨by omega, by omega⟩ ⟨by omega, by omega⟩]; rfl)
    (by rw [word_of bO 5 (0) (0) (0) (0) rfl rfl rfl rfl ⟨by omega, by omega⟩ ⟨by omega, by omega⟩ ⟨by omega, by omega⟩ ⟨by omega, by omega⟩]; rfl)
    (by rw [word_of bO 6 (0) (0) (0) (0) rfl rfl rfl rfl ⟨by omega, by omega⟩ ⟨by omega, by omega⟩ ⟨by omega, by omega⟩ ⟨by omega, by omega⟩]; rfl)
    (by rw [word_of bO 7 (0) (0) (0) (0) rfl rfl rfl rfl ⟨by omega, by omega⟩ ⟨by omega, by omega⟩ ⟨by omega, by omega⟩ ⟨by omega, by omega⟩]; rfl)
    (by rw [word_of bO 8 (0) (0) (0) (0) rfl rfl rfl rfl ⟨by omega, by omega⟩ ⟨by omega, by omega⟩ ⟨by omega, by omega⟩ ⟨by omega, by omega⟩]; rfl)
    (by rw [word_of bO 9 (0) (0) (0) (0) rfl rfl rfl rfl ⟨by omega, by omega⟩ ⟨by omega, by omega⟩ ⟨by omega, by omega⟩ ⟨by omega, by omega⟩]; rfl)
    (by rw [word_of bO 10 (0) (0) (0) (0) rfl rfl rfl rfl ⟨by omega, by omega⟩ ⟨by omega, by omega⟩ ⟨by omega, by omega⟩ ⟨by omega, by omega⟩]; rfl)
    (by rw [word_of bO 11 (0) (0) (0) (0) rfl rfl rfl rfl ⟨by omega, by omega⟩ ⟨by omega, by omega⟩ ⟨by omega, by omega⟩ ⟨by omega, by omega⟩]; rfl)
    (by rw [word_of bO 12 (0) (0) (0) (0) rfl rfl rfl rfl ⟨by omega, by omega⟩ ⟨by omega, by omega⟩ ⟨by omega, by omega⟩ ⟨by omega, by omega⟩]; rfl)
    (by rw [word_of bO 13 (0) (0) (0) (0) rfl rfl rfl rfl ⟨by omega, by omega⟩ ⟨by omega, by omega⟩ ⟨by omega, by omega⟩ ⟨by omega, by omega⟩]; rfl)
    (by rw [word_of bO 14 (0) (0) (0) (0) rfl rfl rfl rfl ⟨by omega, by omega⟩ ⟨by omega, by omega⟩ ⟨by omega, by omega⟩ ⟨by omega, by omega⟩]; rfl)
    (by rw [word_of bO 15 (0) (0) (0) (48) rfl rfl rfl rfl ⟨by omega, by omega⟩ ⟨by omega, by omega⟩ ⟨by omega, by omega⟩ ⟨by omega, by omega⟩]; rfl)
    (by omega) (by omega) (by omega) (by omega) (by omega) (by omega) (by omega) (by omega) (by omega) (by omega) (by omega) (by omega) (by omega) (by omega) (by omega) (by omega)
  refine ⟨?_, O1⟩
  unfold leafL shaL
  rw [show ([0, 111, 116, 104, 101, 114] : List Int).length = 6 from rfl, pad6, show ([0, 111, 116, 104, 101, 114] : List Int) ++ [128, 0, 0, 0, 0, 0, 0, 0, 0, 0, 0, 0, 0, 0, 0, 0, 0, 0, 0, 0, 0, 0, 0, 0, 0, 0, 0, 0, 0, 0, 0, 0, 0, 0, 0, 0, 0, 0, 0, 0, 0, 0, 0, 0, 0, 0, 0, 0, 0, 0, 0, 0, 0, 0, 0, 0, 0, 48] = bO from rfl, chain1 _ rfl, iv_li, m1]
  rfl
end Go.Lane
