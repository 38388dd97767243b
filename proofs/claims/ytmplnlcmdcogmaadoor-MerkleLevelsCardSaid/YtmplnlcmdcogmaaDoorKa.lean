/- Many words side by side in one great number: lanes of 64 bits. No conditions: definitions and lemmas. -/
namespace Go.Lane

/-- What lies in lane t. -/
def ln (X t : Nat) : Nat := X / 2 ^ (64 * t) % 18446744073709551616
/-- All lanes are below B. -/
def Sm (B X : Nat) : Prop := ∀ t, ln X t < B

theorem ln_zero (X : Nat) (h : X < 18446744073709551616) : ln X 0 = X := by
  unfold ln; simp; omega
theorem low_succ (X t : Nat) : X % 2 ^ (64 * (t + 1)) = X % 2 ^ (64 * t) + 2 ^ (64 * t) * ln X t := by
  have e : 2 ^ (64 * (t + 1)) = 2 ^ (64 * t) * 18446744073709551616 := by rw [show 64 * (t + 1) = 64 * t + 64 by omega, Nat.pow_add]
  rw [e, Nat.mod_mul]; rfl
theorem ln_xor (X Y t : Nat) : ln (Nat.xor X Y) t = Nat.xor (ln X t) (ln Y t) := by
  show (X ^^^ Y) / 2 ^ (64 * t) % 2 ^ 64 = (X / 2 ^ (64 * t) % 2 ^ 64) ^^^ (Y / 2 ^ (64 * t) % 2 ^ 64)
  rw [← Nat.shiftRight_eq_div_pow, Nat.shiftRight_xor_distrib, Nat.xor_mod_two_pow, Nat.shiftRight_eq_div_pow, Nat.shiftRight_eq_div_pow]
theorem ln_and (X Y t : Nat) : ln (Nat.land X Y) t = Nat.land (ln X t) (ln Y t) := by
  show (X &&& Y) / 2 ^ (64 * t) % 2 ^ 64 = (X / 2 ^ (64 * t) % 2 ^ 64) &&& (Y / 2 ^ (64 * t) % 2 ^ 64)
  rw [← Nat.shiftRight_eq_div_pow, Nat.shiftRight_and_distrib, Nat.and_mod_two_pow, Nat.shiftRight_eq_div_pow, Nat.shiftRight_eq_div_pow]
theorem low_add (X Y : Nat) (h : ∀ t, ln X t + ln Y t < 18446744073709551616) : ∀ t, X % 2 ^ (64 * t) + Y % 2 ^ (64 * t) < 2 ^ (64 * t)
  | 0 => by simp [Nat.mod_one]
  | t + 1 => by
    have ih := low_add X Y h t
    have hl := h t
    rw [low_succ, low_succ]
    have e : 2 ^ (64 * (t + 1)) = 2 ^ (64 * t) * 18446744073709551616 := by rw [show 64 * (t + 1) = 64 * t + 64 by omega, Nat.pow_add]
    rw [e]
    have e2 : 2 ^ (64 * t) * ln X t + 2 ^ (64 * t) * ln Y t = 2 ^ (64 * t) * (ln X t + ln Y t) := by rw [Nat.mul_add]
    have e3 : 2 ^ (64 * t) * (ln X t + ln Y t) ≤ 2 ^ (64 * t) * 18446744073709551615 := Nat.mul_le_mul_left _ (by omega)
    have e4 : 2 ^ (64 * t) * 18446744073709551616 = 2 ^ (64 * t) * 18446744073709551615 + 2 ^ (64 * t) := by omega
    omega
theorem ln_add (X Y : Nat) (h : ∀ t, ln X t + ln Y t < 18446744073709551616) (t : Nat) : ln (Nat.add X Y) t = Nat.add (ln X t) (ln Y t) := by
  have hl := low_add X Y h t
  have ht := h t
  have hp : 0 < 2 ^ (64 * t) := Nat.two_pow_pos _
  show (X + Y) / 2 ^ (64 * t) % 18446744073709551616 = ln X t + ln Y t
  have hd : (X + Y) / 2 ^ (64 * t) = X / 2 ^ (64 * t) + Y / 2 ^ (64 * t) := by
    rw [Nat.add_div hp, if_neg (by omega)]; rfl
  rw [hd, Nat.add_mod]
  show (ln X t + ln Y t) % _ = _
  exact Nat.mod_eq_of_lt ht
theorem low_mul (X c : Nat) (h : ∀ t, ln X t * c < 18446744073709551616) : ∀ t, X % 2 ^ (64 * t) * c < 2 ^ (64 * t)
  | 0 => by simp [Nat.mod_one]
  | t + 1 => by
    have ih := low_mul X c h t
    have hl := h t
    rw [low_succ, Nat.add_mul, Nat.mul_assoc]
    have e : 2 ^ (64 * (t + 1)) = 2 ^ (64 * t) * 18446744073709551616 := by rw [show 64 * (t + 1) = 64 * t + 64 by omega, Nat.pow_add]
    rw [e]
    have e3 : 2 ^ (64 * t) * (ln X t * c) ≤ 2 ^ (64 * t) * 18446744073709551615 := Nat.mul_le_mul_left _ (by omega)
    have e4 : 2 ^ (64 * t) * 18446744073709551616 = 2 ^ (64 * t) * 18446744073709551615 + 2 ^ (64 * t) := by omega
    omega
theorem ln_mul (X c : Nat) (h : ∀ t, ln X t * c < 18446744073709551616) (t : Nat) : ln (Nat.mul X c) t = Nat.mul (ln X t) c := by
  have hl := low_mul X c h t
  have ht := h t
  have hp : 0 < 2 ^ (64 * t) := Nat.two_pow_pos _
  show X * c / 2 ^ (64 * t) % 18446744073709551616 = ln X t * c
  have hd : X * c / 2 ^ (64 * t) = X / 2 ^ (64 * t) * c := by
    conv => lhs; rw [← Nat.div_add_mod X (2 ^ (64 * t)), Nat.add_mul, Nat.mul_assoc]
    rw [Nat.mul_add_div hp, Nat.div_eq_of_lt hl, Nat.add_zero]
  rw [hd, Nat.mul_mod]
  show (ln X t * (c % _)) % _ = _
  rw [Nat.mul_mod, Nat.mod_mod, ← Nat.mul_mod]
  exact Nat.mod_eq_of_lt ht
theorem land_mask (x : Nat) : Nat.land x 4294967295 = x % 4294967296 := Nat.and_two_pow_sub_one_eq_mod x 32
/-- Shifted to the right, the low half taken. -/
theorem ln_shr (X m n t : Nat) (hn : n ≤ 32) (hm : ln m t = 4294967295) : ln (Nat.land (Nat.shiftRight X n) m) t = Nat.land (Nat.shiftRight (ln X t) n) 4294967295 := by
  rw [ln_and, hm, land_mask, land_mask]
  show (X >>> n) / 2 ^ (64 * t) % 2 ^ 64 % 2 ^ 32 = (X / 2 ^ (64 * t) % 2 ^ 64) >>> n % 2 ^ 32
  rw [Nat.shiftRight_eq_div_pow, Nat.shiftRight_eq_div_pow, Nat.div_div_eq_div_mul, Nat.mul_comm, ← Nat.div_div_eq_div_mul]
  generalize X / 2 ^ (64 * t) = Z
  rw [Nat.mod_mod_of_dvd _ (Nat.pow_dvd_pow 2 (by omega))]
  have e : (2 : Nat) ^ 64 = 2 ^ n * 2 ^ (64 - n) := by rw [← Nat.pow_add]; congr 1; omega
  rw [e, Nat.mod_mul_right_div_self, Nat.mod_mod_of_dvd _ (Nat.pow_dvd_pow 2 (by omega))]
theorem ln_mask (X m t : Nat) (hm : ln m t = 4294967295) : ln (Nat.land X m) t = Nat.land (ln X t) 4294967295 := by rw [ln_and, hm]

/-- Words laid side by side. -/
def packL : List Nat → Nat
  | [] => 0
  | x :: r => Nat.add x (Nat.shiftLeft (packL r) 64)
theorem ln_pack : ∀ (l : List Nat) (t : Nat), (∀ x ∈ l, x < 18446744073709551616) → ln (packL l) t = l.getD t 0
  | [], t, _ => by
    show 0 / 2 ^ (64 * t) % 18446744073709551616 = 0
    rw [Nat.zero_div]
  | x :: r, 0, h => by
    have hx := h x (by simp)
    show (x + packL r <<< 64) / 2 ^ (64 * 0) % 18446744073709551616 = x
    rw [Nat.shiftLeft_eq]
    simp
    omega
  | x :: r, t + 1, h => by
    have hx := h x (by simp)
    have ih := ln_pack r t (fun y hy => h y (by simp [hy]))
    show (x + packL r <<< 64) / 2 ^ (64 * (t + 1)) % 18446744073709551616 = _
    rw [Nat.shiftLeft_eq, show 64 * (t + 1) = 64 + 64 * t by omega, Nat.pow_add, ← Nat.div_div_eq_div_mul, Nat.add_mul_div_right _ _ (by decide), Nat.div_eq_of_lt hx, Nat.zero_add]
    simpa [ln] using ih
end Go.Lane
