/- The contracts of the Writer's Num, Word, Bytes, Text. -/
import Derived.Test.YtblhipdcgdhmiaaDoorCe
import Derived.Lib.ConvBytes
namespace Go.Proofs.YtblhipdcgdhmiaaDoor
open Go.RowKit Go.Sha

/-- More bytes, if it is not bad. -/
def oadd (o : Option (List Int)) (m : List Int) : Option (List Int) := o.map (· ++ m)
def Fits (o : Option (List Int)) (n : Nat) : Prop := ∀ l, o = some l → l.length + n < 4611686018427387904
theorem wst_wat {w : World} {b : Nat} {o : Option (List Int)} (h : WSt w b o) : ∃ p n wt k bad, Wat w b p n wt k bad := by
  cases o with
  | none => exact ⟨_, _, _, _, _, h⟩
  | some l => obtain ⟨cs, t, p, h⟩ := h; exact ⟨_, _, _, _, _, h.hat⟩
theorem add_st (b : Nat) (o : Option (List Int)) (m : List Int) (v : Value) (w : World) (h : WSt w b o) (hf : Fits o m.length) (hs : Src w v m b) :
    Calls Tryd.prog 41 #[.pointer (some ⟨b, 0, none⟩), v] w fun e w' => e = .returned (.pointer (some ⟨b, 0, none⟩)) ∧ Only b w w' ∧ WSt w' b (oadd o m) := by
  cases o with
  | none => exact (add_bad b v w h).mono fun e w' he => ⟨he.1, he.2 ▸ Only.refl b w, he.2 ▸ h⟩
  | some l => exact wadd_any b l m v w h (hf l rfl) hs
theorem spoil_st (b : Nat) (o : Option (List Int)) (w : World) (h : WSt w b o) : Calls Tryd.prog 40 #[.pointer (some ⟨b, 0, none⟩)] w fun e w' => e = .returned (.pointer (some ⟨b, 0, none⟩)) ∧ Only b w w' ∧ WSt w' b none := by
  obtain ⟨p, n, wt, k, bad, h⟩ := wst_wat h
  exact spoil_any b p n wt k bad w h
/-- What Num leaves. -/
def wNum (o : Option (List Int)) (n : Int) : Option (List Int) := if n < 0 ∨ 2147483647 < n then none else oadd o (lf n 4)
theorem wnum_any (b : Nat) (o : Option (List Int)) (n : Int) (w : World) (h : WSt w b o) (hf : Fits o 4) :
    Calls Tryd.prog 19 #[.pointer (some ⟨b, 0, none⟩), .int .i64 n] w fun e w' => e = .returned (.pointer (some ⟨b, 0, none⟩)) ∧ Only b w w' ∧ WSt w' b (wNum o n) := by
  have H := Lib.hid h; clear h
  have Hf := Lib.hid hf; clear hf
  by_cases h1 : n < 0
  · rw [wNum, if_pos (Or.inl h1)]
    have t1 : decide (n < 0) = true := decide_eq_true h1
    go_enter Tryd.func19, Tryd.ntmps19
    go_wp2_with fail
    refine (spoil_st b o w H.out).mono ?_
    rintro e w' ⟨rfl, ho, hw⟩
    have Hw := Lib.hid hw; clear hw
    go_wp2
    go_ret
    exact ⟨rfl, ho, Hw.out⟩
  · have t1 : decide (n < 0) = false := decide_eq_false h1
    by_cases h2 : 2147483647 < n
    · rw [wNum, if_pos (Or.inr h2)]
      have t2 : decide (2147483647 < n) = true := decide_eq_true h2
      go_enter Tryd.func19, Tryd.ntmps19
      go_wp2_with fail
      refine (spoil_st b o w H.out).mono ?_
      rintro e w' ⟨rfl, ho, hw⟩
      have Hw := Lib.hid hw; clear hw
      go_wp2
      go_ret
      exact ⟨rfl, ho, Hw.out⟩
    · rw [wNum, if_neg (by omega)]
      have t2 : decide (2147483647 < n) = false := decide_eq_false h2
      have u1 : IntKind.u64.wrap n = n := IntWalk.u64_in _ (by omega)
      go_enter Tryd.func19, Tryd.ntmps19
      go_wp2_with fail
      refine (lf_any n 4 w (by omega)).mono ?_
      rintro e w1 ⟨v, rfl, e1, o1⟩
      have S1 := Lib.hid (o1.src b H.out.lt)
      have W1 := Lib.hid (H.out.below e1)
      clear o1
      go_wp2_with fail
      refine (add_st b o _ v w1 W1.out (by rw [lf_length]; exact Hf.out) S1.out).mono ?_
      rintro e w' ⟨rfl, ho, hw⟩
      have Hw := Lib.hid hw; clear hw
      go_wp2
      go_ret
      exact ⟨rfl, (Only.of_below e1).trans ho, Hw.out⟩
theorem wnum_nil (w : World) : Calls Tryd.prog 19 #[.pointer none, .int .i64 1] w fun e w' => e = .returned (.pointer none) ∧ Ext w w' := by
  go_enter Tryd.func19, Tryd.ntmps19
  go_wp2_with fail
  refine (lf_any 1 4 w (by omega)).mono ?_
  rintro e w1 ⟨v, rfl, e1, o1⟩
  clear o1
  go_wp2_with fail
  refine (add_nil v w1).mono ?_
  rintro e w' ⟨rfl, rfl⟩
  go_wp2
  go_ret
  exact ⟨rfl, e1⟩
/-- The bytes of a text, with their number ahead. -/
def encB (m : List Int) : List Int := lf m.length 4 ++ m
theorem wNum_len (o : Option (List Int)) (m : List Int) (h : m.length ≤ 1000000000) : oadd (wNum o m.length) m = oadd o (encB m) := by
  rw [wNum, if_neg (by omega)]
  cases o <;> simp [oadd, encB]
theorem fits_num (o : Option (List Int)) (n : Int) (k : Nat) (h : Fits o (4 + k)) : Fits (wNum o n) k := by
  unfold wNum
  split
  · intro l hl; cases hl
  · cases o with
    | none => intro l hl; cases hl
    | some x =>
      intro l hl
      have := h x rfl
      injection hl with hl
      subst hl
      rw [List.length_append, lf_length]; omega
theorem fits_less {o : Option (List Int)} {a c : Nat} (h : Fits o a) (hc : c ≤ a) : Fits o c := fun l hl => by have := h l hl; omega
theorem wbytes_any (b : Nat) (o : Option (List Int)) (m : List Int) (v : Value) (w : World) (h : WSt w b o) (hf : Fits o (4 + m.length)) (hm : m.length ≤ 1000000000) (hs : Src w v m b) :
    Calls Tryd.prog 20 #[.pointer (some ⟨b, 0, none⟩), v] w fun e w' => e = .returned (.pointer (some ⟨b, 0, none⟩)) ∧ Only b w w' ∧ WSt w' b (oadd o (encB m)) := by
  obtain ⟨ad, cap, rfl⟩ := hs.len
  have H := Lib.hid h; clear h
  have Hf := Lib.hid hf; clear hf
  have Hs := Lib.hid hs; clear hs
  go_enter Tryd.func20, Tryd.ntmps20
  go_wp2_with fail
  refine (wnum_any b o _ w H.out (fits_less Hf.out (by omega))).mono ?_
  rintro e w1 ⟨rfl, o1, h1⟩
  have H1 := Lib.hid h1; clear h1
  go_wp2_with fail
  refine (add_st b _ m _ w1 H1.out (fits_num _ _ _ Hf.out) (Hs.out.only o1)).mono ?_
  rintro e w' ⟨rfl, ho, hw⟩
  rw [wNum_len o m hm] at hw
  have Hw := Lib.hid hw; clear hw
  go_wp2
  go_ret
  exact ⟨rfl, o1.trans ho, Hw.out⟩
/-- The bytes of a text. -/
def nums (s : ByteArray) : List Int := s.data.toList.map fun x => (x.toNat : Int)
theorem nums_length (s : ByteArray) : (nums s).length = s.size := by unfold nums; rw [List.length_map]; rfl
theorem nums_byt (s : ByteArray) : Byt (nums s) := by
  intro x hx
  obtain ⟨y, _, rfl⟩ := List.mem_map.1 hx
  have := y.toNat_lt
  omega
theorem nums_str (s : ByteArray) : strOfNums (nums s) = s := by
  unfold strOfNums nums
  simp [Function.comp_def]
theorem ext_bytes (w : World) (s : ByteArray) : Ext w (Lib.bytesWorld w 5 s) := by
  exact ⟨rfl, rfl, rfl, by rw [Lib.bytesWorld_size]; omega, fun k hk => Lib.bytesWorld_at_old w 5 s k hk⟩
theorem grown_le (w : World) (n : Nat) : n ≤ grownCap w n 0 5 := grownCap_ge w n 0 5
/-- []byte(s) -/
theorem src_bytes (w : World) (s : ByteArray) (b : Nat) (hb : b < w.heap.size) : Src (Lib.bytesWorld w 5 s) (.slice (some ⟨w.heap.size, 0, none⟩) s.size (grownCap w s.size 0 5)) (nums s) b := by
  refine ⟨_, _, w.heap.size, 0, by rw [nums_length], by rw [nums_length]; exact grown_le w _, fun _ => rfl, by omega, fun j hj => ?_, fun h => by cases h⟩
  rw [nums_length] at hj
  rw [Nat.zero_add, Lib.bytesWorld_cell w 5 s j hj]
  have hj' : j < s.data.toList.length := hj
  unfold nums
  rw [List.getElem?_map, List.getD_eq_getElem?_getD, List.getElem?_eq_getElem hj']
  rfl
theorem conv_bytes (w : World) (s : ByteArray) : (convert 9 22 (.string s)).run Tryd.prog w = .ok (.slice (some ⟨w.heap.size, 0, none⟩) s.size (grownCap w s.size 0 5)) (Lib.bytesWorld w 5 s) := Lib.run_convert_string_bytes w 9 22 5 s Tryd.underlying9 Tryd.underlying22 Tryd.underlying5
end Go.Proofs.YtblhipdcgdhmiaaDoor
