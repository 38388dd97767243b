/- An image read back out of a page's body. No conditions but those named: definitions, lemmas, and a contract of the Reader's. -/
import Derived.Test.YtnhokjnmpdiokaaGreatDoorIrM
namespace Go.Proofs.YtnhokjnmpdiokaaGreatDoor
open Go.RowKit Go.Sha Go.Pth
set_option linter.unusedSimpArgs false
set_option linter.unusedVariables false

def stR (l : List Int) (e : Int) : RD × List Int × Int :=
  match rCnt l e 60 with
  | (p, l1, e1) => match rNum l1 e1 with
    | (k, l2, e2) => match rNum l2 e2 with
      | (z, l3, e3) => match rNum l3 e3 with
        | (m, l4, e4) => match rWord l4 e4 with
          | (t, l5, e5) => match rCnt l5 e5 32 with
            | (r, l6, e6) => (⟨strOfNums p, k, z, m, t, r⟩, l6, e6)
theorem stR_eq {l : List Int} {e : Int} {p l1 : List Int} {e1 : Int} (h1 : rCnt l e 60 = (p, l1, e1)) {k : Int} {l2 : List Int} {e2 : Int} (h2 : rNum l1 e1 = (k, l2, e2)) {z : Int} {l3 : List Int} {e3 : Int} (h3 : rNum l2 e2 = (z, l3, e3))
    {m : Int} {l4 : List Int} {e4 : Int} (h4 : rNum l3 e3 = (m, l4, e4)) {t : Int} {l5 : List Int} {e5 : Int} (h5 : rWord l4 e4 = (t, l5, e5)) {r l6 : List Int} {e6 : Int} (h6 : rCnt l5 e5 32 = (r, l6, e6)) :
    stR l e = (⟨strOfNums p, k, z, m, t, r⟩, l6, e6) := by
  unfold stR
  rw [h1]; simp only
  rw [h2]; simp only
  rw [h3]; simp only
  rw [h4]; simp only
  rw [h5]; simp only
  rw [h6]
theorem rNum_len (l : List Int) (e : Int) : (rNum l e).2.1.length ≤ l.length := by
  unfold rNum; repeat' split
  all_goals simp
theorem rWord_len (l : List Int) (e : Int) : (rWord l e).2.1.length ≤ l.length := by
  unfold rWord; repeat' split
  all_goals simp
theorem rCnt_len (l : List Int) (e : Int) (n : Nat) : (rCnt l e n).2.1.length ≤ l.length := by
  have := rNum_len l e
  unfold rCnt; repeat' split
  all_goals first | (simp; done) | (simp only [List.length_drop]; omega)
theorem rCnt_less (l : List Int) (e : Int) (n : Nat) (h : 0 < l.length) : (rCnt l e n).2.1.length < l.length := by
  have h1 : (rNum l e).2.1.length < l.length := by
    unfold rNum; repeat' split
    all_goals first | (simp only [List.length_nil]; omega) | (simp only [List.length_drop]; omega)
  unfold rCnt; repeat' split
  all_goals first | (simp only [List.length_nil]; omega) | (simp only [List.length_drop]; omega)
theorem rWord_byt (l : List Int) (e : Int) (hb : Byt l) : Byt (rWord l e).2.1 := by
  unfold rWord; repeat' split
  all_goals first | exact byt_nil | exact hb.drop 8
theorem rCnt_byt (l : List Int) (e : Int) (n : Nat) (hb : Byt l) : Byt (rCnt l e n).2.1 ∧ Byt (rCnt l e n).1 := by
  have := rNum_byt l e hb
  unfold rCnt; repeat' split
  all_goals first | exact ⟨byt_nil, byt_nil⟩ | exact ⟨this.drop _, this.take _⟩
theorem stR_less (l : List Int) (e : Int) (h : 0 < l.length) (hb : Byt l) : (stR l e).2.1.length < l.length ∧ Byt (stR l e).2.1 := by
  obtain ⟨⟨p, l1, e1⟩, h1⟩ : ∃ s, rCnt l e 60 = s := ⟨_, rfl⟩
  obtain ⟨⟨k, l2, e2⟩, h2⟩ : ∃ s, rNum l1 e1 = s := ⟨_, rfl⟩
  obtain ⟨⟨z, l3, e3⟩, h3⟩ : ∃ s, rNum l2 e2 = s := ⟨_, rfl⟩
  obtain ⟨⟨m, l4, e4⟩, h4⟩ : ∃ s, rNum l3 e3 = s := ⟨_, rfl⟩
  obtain ⟨⟨t, l5, e5⟩, h5⟩ : ∃ s, rWord l4 e4 = s := ⟨_, rfl⟩
  obtain ⟨⟨r, l6, e6⟩, h6⟩ : ∃ s, rCnt l5 e5 32 = s := ⟨_, rfl⟩
  have q1 := rCnt_less l e 60 h; rw [h1] at q1
  have q2 := rNum_len l1 e1; rw [h2] at q2
  have q3 := rNum_len l2 e2; rw [h3] at q3
  have q4 := rNum_len l3 e3; rw [h4] at q4
  have q5 := rWord_len l4 e4; rw [h5] at q5
  have q6 := rCnt_len l5 e5 32; rw [h6] at q6
  have b1 := (rCnt_byt l e 60 hb).1; rw [h1] at b1
  have b2 := rNum_byt l1 e1 b1; rw [h2] at b2
  have b3 := rNum_byt l2 e2 b2; rw [h3] at b3
  have b4 := rNum_byt l3 e3 b3; rw [h4] at b4
  have b5 := rWord_byt l4 e4 b4; rw [h5] at b5
  have b6 := (rCnt_byt l5 e5 32 b5).1; rw [h6] at b6
  simp only at q1 q2 q3 q4 q5 q6 b6
  rw [stR_eq h1 h2 h3 h4 h5 h6]
  exact ⟨by simp only; omega, b6⟩
def runR : Nat → List Int → Int → List RD × Int
  | 0, _, e => ([], e)
  | n + 1, l, e => if l.length = 0 then ([], e) else ((stR l e).1 :: (runR n (stR l e).2.1 (stR l e).2.2).1, (runR n (stR l e).2.1 (stR l e).2.2).2)
theorem runR_nil (n : Nat) (l : List Int) (e : Int) (h : l.length = 0) : runR n l e = ([], e) := by cases n <;> simp [runR, h]
theorem runR_more (n : Nat) (l : List Int) (e : Int) (h : 0 < l.length) : runR (n + 1) l e = ((stR l e).1 :: (runR n (stR l e).2.1 (stR l e).2.2).1, (runR n (stR l e).2.1 (stR l e).2.2).2) := by
  rw [runR, if_neg (by omega)]
def refsF (l : List Int) : Option (List RD) := if (runR l.length l 0).2 = 0 ∧ imageL (runR l.length l 0).1 = true then some (runR l.length l 0).1 else none
theorem rWord_lf (n : Nat) (l : List Int) (h : n < 18446744073709551616) : rWord (lf (n : Int) 8 ++ l) 0 = ((n : Int), l, 0) := by
  have h4 : (lf (n : Int) 8).length = 8 := lf_length _ _
  have ht : (lf (n : Int) 8 ++ l).take 8 = lf (n : Int) 8 := by rw [List.take_append_of_le_length (by omega), List.take_of_length_le (by omega)]
  have hd : (lf (n : Int) 8 ++ l).drop 8 = l := by rw [List.drop_append_of_le_length (by omega), List.drop_of_length_le (by omega)]; rfl
  have hN : leN (lf (n : Int) 8) = (n : Int) := leN_lf n 8 (by have : (256 : Nat) ^ 8 = 18446744073709551616 := rfl; omega)
  rw [rWord, if_neg (by simp), if_neg (by rw [List.length_append]; omega), ht, hN, hd]
def TimR (l : List RD) : Prop := ∀ x ∈ l, 0 ≤ x.t ∧ x.t < 18446744073709551616
theorem stR_enc {x : RD} (l : List Int) (h : MayR x) (ht : 0 ≤ x.t ∧ x.t < 18446744073709551616) : stR (encR x ++ l) 0 = (x, l, 0) := by
  have hl := mayR_len h
  have hn := nums_length x.p
  have hk : 0 ≤ x.k ∧ x.k ≤ 2 := by rcases h.k with ⟨e, _⟩ | ⟨e, _⟩ <;> omega
  have num : ∀ (a : Int) (r : List Int), 0 ≤ a → a ≤ 2147483647 → rNum (lf a 4 ++ r) 0 = (a, r, 0) := fun a r h0 h1 => by
    obtain ⟨n, rfl⟩ := Int.eq_ofNat_of_zero_le h0
    exact rNum_lf n r (by omega)
  have h1 := rCnt_enc (nums x.p) (lf x.k 4 ++ (lf x.z 4 ++ (lf x.m 4 ++ (lf x.t 8 ++ (encB x.r ++ l))))) 60 (by omega) (by omega)
  have h2 := num x.k (lf x.z 4 ++ (lf x.m 4 ++ (lf x.t 8 ++ (encB x.r ++ l)))) (by omega) (by omega)
  have h3 := num x.z (lf x.m 4 ++ (lf x.t 8 ++ (encB x.r ++ l))) h.z.1 (by have := h.z.2; omega)
  have h4 := num x.m (lf x.t 8 ++ (encB x.r ++ l)) h.m.1 h.m.2
  have h5 : rWord (lf x.t 8 ++ (encB x.r ++ l)) 0 = (x.t, encB x.r ++ l, 0) := by
    obtain ⟨n, hn⟩ := Int.eq_ofNat_of_zero_le ht.1
    rw [hn]; exact rWord_lf n _ (by omega)
  have h6 := rCnt_enc x.r l 32 (by omega) (by omega)
  have e : encR x ++ l = encB (nums x.p) ++ (lf x.k 4 ++ (lf x.z 4 ++ (lf x.m 4 ++ (lf x.t 8 ++ (encB x.r ++ l))))) := by
    unfold encR; simp only [List.append_assoc]
  rw [e, stR_eq h1 h2 h3 h4 h5 h6, nums_str]
theorem runR_body : ∀ (ds : List RD) (n : Nat), (∀ x ∈ ds, mayR x = true) → TimR ds → (bodyL ds).length ≤ n → runR n (bodyL ds) 0 = (ds, 0)
  | [], n, _, _, _ => runR_nil n _ 0 rfl
  | x :: r, n, h, ht, hn => by
    have hx := (mayR_iff x).1 (h x List.mem_cons_self)
    have hl := encR_len x
    simp only [bodyL, List.length_append] at hn
    obtain ⟨n, rfl⟩ : ∃ k, n = k + 1 := ⟨n - 1, by omega⟩
    rw [bodyL, runR_more n _ 0 (by rw [List.length_append]; omega), stR_enc (bodyL r) hx (ht x List.mem_cons_self)]
    simp only
    rw [runR_body r n (fun y hy => h y (List.mem_cons_of_mem _ hy)) (fun y hy => ht y (List.mem_cons_of_mem _ hy)) (by omega)]
theorem refsF_body {ds : List RD} (h : imageL ds = true) (ht : TimR ds) : refsF (bodyL ds) = some ds := by
  have e := runR_body ds _ (image_may h) ht (Nat.le_refl _)
  unfold refsF
  rw [e]
  simp [h]
end Go.Proofs.YtnhokjnmpdiokaaGreatDoor
