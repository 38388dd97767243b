/- Parities: plain functions over lists of bytes. No conditions: definitions and lemmas. -/
import Derived.Test.YtblhipdcgdhmiaaDoorWr
import Derived.Laws.BitsAllLaws
namespace Go.Sha
open Go.Proofs.YtblhipdcgdhmiaaDoor

/-- Two bytes xored. -/
def xb (a b : Int) : Int := bits .xor .u8 a b
def bv (a : Int) : BitVec 8 := BitVec.ofInt 8 a
theorem xb_bv (a b : Int) : xb a b = ((bv a ^^^ bv b).toNat : Int) := by
  show IntKind.u8.wrap ((BitVec.ofInt 8 a ^^^ BitVec.ofInt 8 b).toNat : Int) = _
  rw [IntKind.wrap_u8']
  have h : (BitVec.ofInt 8 a ^^^ BitVec.ofInt 8 b).toNat < 2 ^ 8 := BitVec.isLt _
  unfold bv
  omega
theorem bv_nat (x : BitVec 8) : bv (x.toNat : Int) = x := by
  unfold bv
  rw [BitVec.ofInt_natCast, BitVec.ofNat_toNat, BitVec.setWidth_eq]
theorem bv_xb (a b : Int) : bv (xb a b) = bv a ^^^ bv b := by rw [xb_bv, bv_nat]
theorem xb_range (a b : Int) : 0 ≤ xb a b ∧ xb a b < 256 := by
  rw [xb_bv]
  have h : (bv a ^^^ bv b).toNat < 2 ^ 8 := BitVec.isLt _
  omega
theorem xb_right (a b c : Int) : xb (xb a b) c = xb (xb a c) b := by
  rw [xb_bv (xb a b), xb_bv (xb a c), bv_xb, bv_xb, BitVec.xor_assoc, BitVec.xor_comm (bv b), ← BitVec.xor_assoc]
theorem xb_assoc (a b c : Int) : xb (xb a b) c = xb a (xb b c) := by
  rw [xb_bv (xb a b), xb_bv a (xb b c), bv_xb, bv_xb, BitVec.xor_assoc]
theorem xb_comm (a b : Int) : xb a b = xb b a := by rw [xb_bv, xb_bv, BitVec.xor_comm]
theorem xb_self (a : Int) : xb a a = 0 := by rw [xb_bv, BitVec.xor_self]; rfl
theorem xb_zero (a : Int) (h : 0 ≤ a ∧ a < 256) : xb a 0 = a := by
  have e : bv 0 = 0#8 := rfl
  rw [xb_bv, e, BitVec.xor_zero]
  obtain ⟨n, rfl⟩ := Int.eq_ofNat_of_zero_le h.1
  unfold bv
  rw [BitVec.ofInt_natCast, BitVec.toNat_ofNat, Nat.mod_eq_of_lt (by omega)]
theorem zero_xb (a : Int) (h : 0 ≤ a ∧ a < 256) : xb 0 a = a := by rw [xb_comm, xb_zero a h]

/-- All are bytes. -/
def Byt (m : List Int) : Prop := ∀ x ∈ m, 0 ≤ x ∧ x < 256
/-- One list xored into another. -/
def xorL : List Int → List Int → List Int
  | [], _ => []
  | a :: s, [] => a :: s
  | a :: s, b :: o => xb a b :: xorL s o
theorem xorL_length : ∀ s o : List Int, (xorL s o).length = s.length
  | [], _ => rfl
  | _ :: _, [] => rfl
  | _ :: s, _ :: o => by simp [xorL, xorL_length s o]
theorem xorL_nil : ∀ s : List Int, xorL s [] = s
  | [] => rfl
  | _ :: _ => rfl
theorem xorL_right : ∀ s a b : List Int, xorL (xorL s a) b = xorL (xorL s b) a
  | [], _, _ => rfl
  | _ :: _, [], [] => rfl
  | _ :: _, [], _ :: _ => rfl
  | _ :: _, _ :: _, [] => rfl
  | _ :: s, x :: a, y :: b => by simp only [xorL]; rw [xb_right, xorL_right s a b]
theorem xorL_assoc : ∀ s t o : List Int, s.length = t.length → xorL s (xorL t o) = xorL (xorL s t) o
  | [], _, _, _ => rfl
  | _ :: _, [], _, h => by simp at h
  | _ :: _, _ :: _, [], _ => by simp only [xorL]
  | _ :: s, _ :: t, _ :: o, h => by simp only [xorL]; rw [xb_assoc, xorL_assoc s t o (by simpa using h)]
theorem xorL_byt : ∀ s o : List Int, Byt s → Byt (xorL s o)
  | [], _, h => h
  | _ :: _, [], h => h
  | a :: s, b :: o, h => by
    intro x hx
    simp only [xorL, List.mem_cons] at hx
    rcases hx with rfl | hx
    · exact xb_range a b
    · exact xorL_byt s o (fun y hy => h y (List.mem_cons_of_mem _ hy)) x hx
theorem xorL_zero : ∀ (s : List Int) (n : Nat), Byt s → xorL s (List.replicate n 0) = s
  | [], _, _ => rfl
  | _ :: _, 0, _ => rfl
  | a :: s, n + 1, h => by
    rw [List.replicate_succ, xorL, xb_zero a (h a (by simp)), xorL_zero s n fun y hy => h y (List.mem_cons_of_mem _ hy)]
theorem zero_xorL : ∀ (s : List Int), Byt s → xorL (List.replicate s.length 0) s = s
  | [], _ => rfl
  | a :: s, h => by
    rw [List.length_cons, List.replicate_succ, xorL, zero_xb a (h a (by simp)), zero_xorL s fun y hy => h y (List.mem_cons_of_mem _ hy)]
theorem zero_xorL_le : ∀ (n : Nat) (s : List Int), Byt s → s.length ≤ n → (xorL (List.replicate n 0) s).take s.length = s
  | _, [], _, _ => by simp
  | 0, _ :: _, _, h => by simp at h
  | n + 1, a :: s, h, hl => by
    rw [List.replicate_succ, xorL, List.length_cons, List.take_succ_cons, zero_xb a (h a (by simp)), zero_xorL_le n s (fun y hy => h y (List.mem_cons_of_mem _ hy)) (by simpa using hl)]
theorem xorL_self : ∀ s : List Int, xorL s s = List.replicate s.length 0
  | [] => rfl
  | a :: s => by rw [xorL, xb_self, xorL_self s, List.length_cons, List.replicate_succ]
theorem zeros_byt (n : Nat) : Byt (List.replicate n 0) := fun x hx => by
  have := List.eq_of_mem_replicate hx
  omega
/-- One byte more. -/
theorem xorL_take : ∀ (s o : List Int) (k : Nat), k < o.length → o.length ≤ s.length → (xorL s (o.take k))[k]?.getD 0 = s[k]?.getD 0 ∧ (xorL s (o.take k)).set k (xb (s[k]?.getD 0) (o[k]?.getD 0)) = xorL s (o.take (k + 1))
  | [], o, k, h, hl => absurd h (by simp only [List.length_nil] at hl; omega)
  | _ :: _, [], _, h, _ => by simp at h
  | a :: s, b :: o, 0, _, _ => by simp [xorL, xorL_nil]
  | a :: s, b :: o, k + 1, h, hl => by
    obtain ⟨h1, h2⟩ := xorL_take s o k (by simpa using h) (by simpa using hl)
    simp only [List.take_succ_cons, xorL, List.getElem?_cons_succ, List.set_cons_succ]
    exact ⟨h1, by rw [h2]⟩

/-- Blocks xored into a sum. -/
def grp (s : List Int) (bl : List (List Int)) : List Int := bl.foldl xorL s
theorem grp_length : ∀ (bl : List (List Int)) (s : List Int), (grp s bl).length = s.length
  | [], _ => rfl
  | b :: bl, s => by rw [grp, List.foldl_cons]; exact (grp_length bl _).trans (xorL_length s b)
theorem grp_byt : ∀ (bl : List (List Int)) (s : List Int), Byt s → Byt (grp s bl)
  | [], _, h => h
  | b :: bl, s, h => by rw [grp, List.foldl_cons]; exact grp_byt bl _ (xorL_byt s b h)
theorem grp_snoc (bl : List (List Int)) (b s : List Int) : grp s (bl ++ [b]) = xorL (grp s bl) b := by simp [grp]
theorem xorL_grp : ∀ (bl : List (List Int)) (s t : List Int), s.length = t.length → xorL s (grp t bl) = grp (xorL s t) bl
  | [], _, _, _ => rfl
  | b :: bl, s, t, h => by
    rw [grp, List.foldl_cons]
    refine (xorL_grp bl s (xorL t b) (by rw [xorL_length, h])).trans ?_
    rw [xorL_assoc s t b h]; rfl
theorem grp_eq (bl : List (List Int)) (s : List Int) (h : Byt s) : grp s bl = xorL s (grp (List.replicate s.length 0) bl) := by
  rw [xorL_grp bl s _ (by simp), xorL_zero s _ h]
theorem grp_none : ∀ (bl : List (List Int)) (s : List Int), (∀ b ∈ bl, b = []) → grp s bl = s
  | [], _, _ => rfl
  | b :: bl, s, h => by
    rw [grp, List.foldl_cons, h b (by simp), xorL_nil]
    exact grp_none bl s fun x hx => h x (List.mem_cons_of_mem _ hx)

/-- How many groups there are. -/
def grpsN (size B K : Int) : Int := if K < 1 ∨ K > 8 then 0 else (cntL size B + K - 1) / K
/-- A group's blocks. -/
def gb (m : List Int) (B : Int) (K g : Nat) : List (List Int) := (List.range K).map fun j => blockT m B ((g * K + j : Nat) : Int)
/-- A group's parity. -/
def parL (m : List Int) (B : Int) (K g : Nat) : List Int := grp (List.replicate B.toNat 0) (gb m B K g)
theorem parL_length (m : List Int) (B : Int) (K g : Nat) : (parL m B K g).length = B.toNat := by rw [parL, grp_length, List.length_replicate]
theorem parL_byt (m : List Int) (B : Int) (K g : Nat) : Byt (parL m B K g) := grp_byt _ _ (zeros_byt _)
def buildL (m : List Int) (B K : Int) : List (List Int) := (List.range (grpsN m.length B K).toNat).map fun g => parL m B K.toNat g
/-- What an update makes of a group. -/
def updG (par : List (List Int)) (old now : List Int) (B : Int) (K g : Nat) : List Int := grp (grp (par[g]?.getD (List.replicate B.toNat 0)) (gb old B K g)) (gb now B K g)
def updL (par : List (List Int)) (old now : List Int) (B K : Int) : List (List Int) := (List.range (grpsN now.length B K).toNat).map fun g => updG par old now B K.toNat g

theorem cntL_nonneg (s B : Int) : 0 ≤ cntL s B := by
  unfold cntL
  split
  · omega
  · exact Int.ediv_nonneg (by omega) (by omega)
theorem cntL_le (s B : Int) : cntL s B ≤ 1048576 := by
  unfold cntL
  split
  · omega
  · rename_i h
    have h1 : (s + B - 1) / B < s + 1 := by
      apply Int.ediv_lt_of_lt_mul (by omega)
      have : s * 1 ≤ s * B := Int.mul_le_mul_of_nonneg_left (by omega) (by omega)
      rw [Int.add_mul]; omega
    omega
theorem grpsN_nonneg (s B K : Int) : 0 ≤ grpsN s B K := by
  unfold grpsN
  have := cntL_nonneg s B
  split
  · omega
  · exact Int.ediv_nonneg (by omega) (by omega)
theorem grpsN_le (s B K : Int) : grpsN s B K ≤ 1048584 := by
  unfold grpsN
  have := cntL_le s B
  have := cntL_nonneg s B
  split
  · omega
  · exact Int.le_trans (Int.ediv_le_self _ (by omega)) (by omega)
/-- Where there is a group block and k are as they may be. -/
theorem grpsN_pos (s B K : Int) (h : 0 < grpsN s B K) : 1 ≤ K ∧ K ≤ 8 ∧ 1 ≤ B ∧ B ≤ 4096 := by
  unfold grpsN at h
  split at h
  · omega
  · rename_i hk
    refine ⟨by omega, by omega, ?_⟩
    unfold cntL at h
    split at h
    · rw [Int.ediv_eq_zero_of_lt (by omega) (by omega)] at h; omega
    · omega
/-- Behind the last group there are no blocks. -/
theorem gb_none (m : List Int) (B : Int) (K g : Nat) (hK : 1 ≤ K) (hK8 : K ≤ 8) (h : grpsN m.length B K ≤ (g : Int)) : ∀ b ∈ gb m B K g, b = [] := by
  intro b hb
  unfold gb at hb
  obtain ⟨j, _, rfl⟩ := List.mem_map.1 hb
  unfold blockT
  rw [if_neg]
  intro ⟨_, h2⟩
  unfold grpsN at h
  rw [if_neg (by omega)] at h
  have h3 : cntL (m.length : Int) B + K - 1 < ((g : Int) + 1) * K := Int.lt_mul_of_ediv_lt (by omega) (by omega)
  rw [Int.add_mul] at h3
  have e : ((g * K + j : Nat) : Int) = (g : Int) * K + j := by push_cast; rfl
  omega
/-- Of what Build made, an update is what Build makes. -/
theorem upd_build (old now : List Int) (B K : Int) (hK : 1 ≤ K ∧ K ≤ 8) : updL (buildL old B K) old now B K = buildL now B K := by
  unfold updL
  conv => rhs; unfold buildL
  refine List.map_congr_left fun g _ => ?_
  obtain ⟨k, rfl⟩ := Int.eq_ofNat_of_zero_le (show 0 ≤ K by omega)
  rw [Int.toNat_natCast]
  unfold updG
  by_cases hg : g < (grpsN old.length B k).toNat
  · have e : (buildL old B k)[g]? = some (parL old B k g) := by
      unfold buildL
      rw [List.getElem?_map, List.getElem?_range hg]
      simp
    rw [e]
    simp only [Option.getD_some]
    have e2 := grp_eq (gb old B k g) (parL old B k g) (parL_byt old B k g)
    rw [e2, parL_length]
    conv => lhs; enter [1, 2]; rw [← parL]
    rw [xorL_self, parL_length]
    rfl
  · have e : (buildL old B k)[g]? = none := by
      rw [List.getElem?_eq_none_iff]
      unfold buildL
      simp; omega
    rw [e]
    simp only [Option.getD_none]
    rw [grp_none _ _ (gb_none old B k g (by omega) (by omega) (by omega))]
    rfl
theorem buildL_length (m : List Int) (B K : Int) : (buildL m B K).length = (grpsN m.length B K).toNat := by simp [buildL]
theorem buildL_get (m : List Int) (B K : Int) (g : Nat) (h : g < (grpsN m.length B K).toNat) : (buildL m B K)[g]? = some (parL m B K.toNat g) := by
  unfold buildL
  rw [List.getElem?_map, List.getElem?_range h]; rfl
theorem buildL_all (m : List Int) (B K : Int) : ∀ x ∈ buildL m B K, x.length = B.toNat := by
  intro x hx
  unfold buildL at hx
  obtain ⟨g, _, rfl⟩ := List.mem_map.1 hx
  exact parL_length _ _ _ _
theorem updL_length (par : List (List Int)) (old now : List Int) (B K : Int) : (updL par old now B K).length = (grpsN now.length B K).toNat := by simp [updL]
theorem updL_get (par : List (List Int)) (old now : List Int) (B K : Int) (g : Nat) (h : g < (grpsN now.length B K).toNat) : (updL par old now B K)[g]? = some (updG par old now B K.toNat g) := by
  unfold updL
  rw [List.getElem?_map, List.getElem?_range h]; rfl
theorem blockT_length (m : List Int) (B k : Int) : (blockT m B k).length ≤ B.toNat := by
  unfold blockT
  split
  · rw [blkL, List.length_take]; omega
  · simp
theorem gb_succ (m : List Int) (B : Int) (K g j : Nat) : ((List.range (j + 1)).map fun i => blockT m B ((g * K + i : Nat) : Int)) = ((List.range j).map fun i => blockT m B ((g * K + i : Nat) : Int)) ++ [blockT m B ((g * K + j : Nat) : Int)] := by
  rw [List.range_succ, List.map_append]; rfl
end Go.Sha
