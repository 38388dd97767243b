/- The walk of IgnoreLast. -/
import Derived.Test.YtoompkmncglmoaaDoorIk
import Derived.Test.YtoompkmncglmoaaDoorPm
import Derived.Test.YtoompkmncglmoaaDoorRc
namespace Go.Proofs.YtoompkmncglmoaaDoor
open Go.RowKit Go.Pth

/-- two lines, read. -/
theorem two_new (s t : ByteArray) (w : World) (hs : s.size ≤ 1000) (ht : t.size ≤ 1000) (sa_ : AnyOk (mkR s.toList).pat) (at_ : AnyOk (mkR t.toList).pat) (os : okR (mkR s.toList) = true) (ot : okR (mkR t.toList) = true) :
    Calls Tryd.prog 12 #[.slice (some ⟨w.heap.size, 0, none⟩) 2 2] (w.alloc (.cells #[.string s, .string t] 9)) fun e w' => ∃ p, e = .returned (.tuple #[.pointer (some p), .int .i64 0]) ∧ Rul w' (.pointer (some p)) [mkR s.toList, mkR t.toList] ∧ Ext w w' := by
  have hx := Txt.new w [s.toList, t.toList]
  have e : strs [s.toList, t.toList] = #[.string s, .string t] := by
    show #[Value.string (tx s.toList), Value.string (tx t.toList)] = _
    rw [list_tx, list_tx]
  rw [e] at hx
  have z1 := size_list s
  have z2 := size_list t
  refine (new_any (.slice (some ⟨w.heap.size, 0, none⟩) 2 2) [s.toList, t.toList] _ hx.o (by simp) (fun _ l hl => ?_) (fun _ l hl => ?_)).mono fun e w' h => ?_
  · simp only [List.mem_cons, List.not_mem_nil, or_false] at hl
    rcases hl with rfl | rfl <;> omega
  · simp only [List.mem_cons, List.not_mem_nil, or_false] at hl
    rcases hl with rfl | rfl
    · exact sa_
    · exact at_
  · obtain ⟨h1, h2⟩ := h
    rw [if_neg (by simp), if_pos (by simp [os, ot])] at h2
    obtain ⟨v, rfl, h3⟩ := h2
    have h4 := h3
    obtain ⟨rb, ad, cap, b, rfl, -⟩ := h4
    exact ⟨_, rfl, h3, (Ext.alloc w _).trans h1⟩
theorem One.ascii {p : B} (h : One p) : ∀ c ∈ p, c.toNat < 128 := fun c hc => (okByte_range (h.by_ c hc)).2.2.2.2.2.2
theorem any_last {p : B} (h : One p) (n d : Bool) : AnyOk (mkR (lastL n d p)).pat := by
  rw [mkR_last h]; exact anyOk_ascii h.ascii (by have := h.l20; simp only; omega)
theorem any_x {p : B} (h : One p) : AnyOk (mkR ([120, 47] ++ p)).pat := by
  rw [mkR_x h]
  refine anyOk_ascii (fun c hc => ?_) (by have := h.l20; simp; omega)
  simp only [List.cons_append, List.nil_append, List.mem_cons] at hc
  rcases hc with rfl | rfl | hc
  · decide
  · decide
  · exact h.ascii c hc
theorem any_star : AnyOk (mkR [42]).pat := by
  rw [mkR_star]
  exact anyOk_ascii (fun c hc => by simp at hc; subst hc; decide) (by simp)
theorem ok_star : okR (mkR [42]) = true := by decide +kernel

set_option linter.unusedSimpArgs false in
set_option maxRecDepth 100000 in
set_option maxHeartbeats 16000000 in
theorem last_law (p : ByteArray) (n d dir : Bool) (w : World) (_ : p.size ≤ 9223372036854775807) : Calls Tryd.prog 6 #[.string p, .bool n, .bool d, .bool dir] w fun e w' => e = .returned (.bool true) ∧ Ext w w' := by
  have AW := Lib.hid (fun (w' : World) (e : Ext w w') => awake_acc e)
  have RV := Lib.hid (rvalid_any p w)
  cases hv : valid p.toList with
  | false =>
    rw [hv] at RV
    clear hv
    go_enter Tryd.func6, Tryd.ntmps6
    go_wp2_with fail
    refine (RV.out).mono ?_
    rintro e w1 ⟨rfl, e1⟩
    go_wp2_with fail
    refine (AW.out _ e1).mono ?_
    rintro e w2 ⟨rfl, e2⟩
    go_wp2_with fail
    go_ret
    exact ⟨rfl, e2⟩
  | true =>
  rw [hv] at RV
  have RP := Lib.hid (fun w' : World => rparent_any p w')
  by_cases hq : parent p.toList = []
  rotate_left
  · have hz : ((tx (parent p.toList)).toList == []) = false := by rw [tx_list]; simpa using hq
    generalize tx (parent p.toList) = z at RP hz
    clear hv hq
    go_enter Tryd.func6, Tryd.ntmps6
    go_wp2_with fail
    refine (RV.out).mono ?_
    rintro e w1 ⟨rfl, e1⟩
    go_wp2_with fail
    refine (RP.out _).mono ?_
    rintro e w2 ⟨rfl, e2⟩
    go_wp2_with fail
    refine (AW.out _ (e1.trans e2)).mono ?_
    rintro e w3 ⟨rfl, e3⟩
    go_wp2_with fail
    go_ret
    exact ⟨rfl, e3⟩
  have ho := one_of hv hq
  have l20 := ho.l20
  rw [hq] at RP
  have hz : ((tx []).toList == []) = true := by rw [tx_list]; rfl
  generalize tx [] = z at RP hz
  have szp := size_list p
  clear hv hq
  have X0 : (⟨#[120, 47]⟩ ++ p : ByteArray).toList = [120, 47] ++ p.toList := by rw [tx_app, show (⟨#[120, 47]⟩ : ByteArray).toList = [120, 47] from tl [120, 47]]
  have t42 : (⟨#[42]⟩ : ByteArray).toList = [42] := tl [42]
  have t33 : (⟨#[33]⟩ : ByteArray).toList = [33] := tl [33]
  have t47 : (⟨#[47]⟩ : ByteArray).toList = [47] := tl [47]
  have OX := ok_x ho
  have AX := any_x ho
  have OS := ok_star
  have AS := any_star
  have ZX : (⟨#[120, 47]⟩ ++ p : ByteArray).size ≤ 1000 := by rw [size_list, X0]; simp; omega
  cases n <;> cases d <;> cases dir
  · have L0 : (p : ByteArray).toList = lastL false false p.toList := by
      unfold lastL; simp [tx_app, t33, t47]
    have ZL : (p : ByteArray).size ≤ 1000 := by rw [size_list, L0]; unfold lastL; simp; omega
    have N1 := Lib.hid (fun w' : World => two_new (⟨#[120, 47]⟩ ++ p) p w' ZX ZL (by rw [X0]; exact AX) (by rw [L0]; exact any_last ho _ _) (by rw [X0]; exact OX) (by rw [L0]; exact ok_last ho _ _))
    have N2 := Lib.hid (fun w' : World => two_new ⟨#[42]⟩ p w' (by decide) ZL (by rw [t42]; exact AS) (by rw [L0]; exact any_last ho _ _) (by rw [t42]; exact OS) (by rw [L0]; exact ok_last ho _ _))
    have I1 := Lib.hid (fun (a : Addr) (w' : World) (h : Rul w' (.pointer (some a)) [mkR (⟨#[120, 47]⟩ ++ p : ByteArray).toList, mkR (p : ByteArray).toList]) => ignored_any _ _ p false w' h (by simp))
    have I2 := Lib.hid (fun (a : Addr) (w' : World) (h : Rul w' (.pointer (some a)) [mkR (⟨#[42]⟩ : ByteArray).toList, mkR (p : ByteArray).toList]) => ignored_any _ _ p false w' h (by simp))
    have G1 : Hid (ignored [mkR (⟨#[120, 47]⟩ ++ p : ByteArray).toList, mkR (p : ByteArray).toList] p.toList false = true) := Lib.hid (by rw [X0]; have q := last_one ho false false false; rw [← L0] at q; exact q)
    have G2 : Hid (ignored [mkR (⟨#[42]⟩ : ByteArray).toList, mkR (p : ByteArray).toList] p.toList false = true) := Lib.hid (by rw [t42]; have q := last_two ho false false false; rw [← L0] at q; exact q)
    clear X0 OX AX OS AS ZX L0 ZL ho t42 t33 t47
    go_enter Tryd.func6, Tryd.ntmps6
    go_wp2_with fail
    refine (RV.out).mono ?_
    rintro e w1 ⟨rfl, e1⟩
    have E1 := Lib.hid e1
    clear e1
    go_wp2_with fail
    refine (RP.out _).mono ?_
    rintro e w2 ⟨rfl, e2⟩
    have E2 := Lib.hid (E1.out.trans e2)
    clear e2
    go_wp2_with fail
    refine (N1.out _).mono ?_
    rintro e w3 ⟨r1, rfl, h3, e3⟩
    have E3 := Lib.hid (E2.out.trans e3)
    have H3 := Lib.hid h3
    clear e3 h3
    go_wp2_with fail
    refine (N2.out _).mono ?_
    rintro e w4 ⟨r2, rfl, h4, e4⟩
    have E4 := Lib.hid (E3.out.trans e4)
    have H4 := Lib.hid (H3.out.ext e4)
    have K4 := Lib.hid h4
    clear e4 h4
    go_wp2_with fail
    refine (I1.out r1 w4 H4.out).mono ?_
    rintro e w5 ⟨rfl, e5⟩
    have E5 := Lib.hid (E4.out.trans e5)
    have K5 := Lib.hid (K4.out.ext e5)
    clear e5
    rw [G1.out]
    go_wp2_with fail
    refine (I2.out r2 w5 K5.out).mono ?_
    rintro e w6 ⟨rfl, e6⟩
    have E6 := Lib.hid (E5.out.trans e6)
    clear e6
    rw [G2.out]
    go_wp2_with fail
    refine (AW.out _ E6.out).mono ?_
    rintro e w7 ⟨rfl, e7⟩
    have E7 := Lib.hid e7
    clear e7
    go_wp2_with fail
    go_ret
    exact ⟨rfl, E7.out⟩
  · have L0 : (p : ByteArray).toList = lastL false false p.toList := by
      unfold lastL; simp [tx_app, t33, t47]
    have ZL : (p : ByteArray).size ≤ 1000 := by rw [size_list, L0]; unfold lastL; simp; omega
    have N1 := Lib.hid (fun w' : World => two_new (⟨#[120, 47]⟩ ++ p) p w' ZX ZL (by rw [X0]; exact AX) (by rw [L0]; exact any_last ho _ _) (by rw [X0]; exact OX) (by rw [L0]; exact ok_last ho _ _))
    have N2 := Lib.hid (fun w' : World => two_new ⟨#[42]⟩ p w' (by decide) ZL (by rw [t42]; exact AS) (by rw [L0]; exact any_last ho _ _) (by rw [t42]; exact OS) (by rw [L0]; exact ok_last ho _ _))
    have I1 := Lib.hid (fun (a : Addr) (w' : World) (h : Rul w' (.pointer (some a)) [mkR (⟨#[120, 47]⟩ ++ p : ByteArray).toList, mkR (p : ByteArray).toList]) => ignored_any _ _ p true w' h (by simp))
    have I2 := Lib.hid (fun (a : Addr) (w' : World) (h : Rul w' (.pointer (some a)) [mkR (⟨#[42]⟩ : ByteArray).toList, mkR (p : ByteArray).toList]) => ignored_any _ _ p true w' h (by simp))
    have G1 : Hid (ignored [mkR (⟨#[120, 47]⟩ ++ p : ByteArray).toList, mkR (p : ByteArray).toList] p.toList true = true) := Lib.hid (by rw [X0]; have q := last_one ho false false true; rw [← L0] at q; exact q)
    have G2 : Hid (ignored [mkR (⟨#[42]⟩ : ByteArray).toList, mkR (p : ByteArray).toList] p.toList true = true) := Lib.hid (by rw [t42]; have q := last_two ho false false true; rw [← L0] at q; exact q)
    clear X0 OX AX OS AS ZX L0 ZL ho t42 t33 t47
    go_enter Tryd.func6, Tryd.ntmps6
    go_wp2_with fail
    refine (RV.out).mono ?_
    rintro e w1 ⟨rfl, e1⟩
    have E1 := Lib.hid e1
    clear e1
    go_wp2_with fail
    refine (RP.out _).mono ?_
    rintro e w2 ⟨rfl, e2⟩
    have E2 := Lib.hid (E1.out.trans e2)
    clear e2
    go_wp2_with fail
    refine (N1.out _).mono ?_
    rintro e w3 ⟨r1, rfl, h3, e3⟩
    have E3 := Lib.hid (E2.out.trans e3)
    have H3 := Lib.hid h3
    clear e3 h3
    go_wp2_with fail
    refine (N2.out _).mono ?_
    rintro e w4 ⟨r2, rfl, h4, e4⟩
    have E4 := Lib.hid (E3.out.trans e4)
    have H4 := Lib.hid (H3.out.ext e4)
    have K4 := Lib.hid h4
    clear e4 h4
    go_wp2_with fail
    refine (I1.out r1 w4 H4.out).mono ?_
    rintro e w5 ⟨rfl, e5⟩
    have E5 := Lib.hid (E4.out.trans e5)
    have K5 := Lib.hid (K4.out.ext e5)
    clear e5
    rw [G1.out]
    go_wp2_with fail
    refine (I2.out r2 w5 K5.out).mono ?_
    rintro e w6 ⟨rfl, e6⟩
    have E6 := Lib.hid (E5.out.trans e6)
    clear e6
    rw [G2.out]
    go_wp2_with fail
    refine (AW.out _ E6.out).mono ?_
    rintro e w7 ⟨rfl, e7⟩
    have E7 := Lib.hid e7
    clear e7
    go_wp2_with fail
    go_ret
    exact ⟨rfl, E7.out⟩
  · have L0 : ((p ++ ⟨#[47]⟩) : ByteArray).toList = lastL false true p.toList := by
      unfold lastL; simp [tx_app, t33, t47]
    have ZL : ((p ++ ⟨#[47]⟩) : ByteArray).size ≤ 1000 := by rw [size_list, L0]; unfold lastL; simp; omega
    have N1 := Lib.hid (fun w' : World => two_new (⟨#[120, 47]⟩ ++ p) (p ++ ⟨#[47]⟩) w' ZX ZL (by rw [X0]; exact AX) (by rw [L0]; exact any_last ho _ _) (by rw [X0]; exact OX) (by rw [L0]; exact ok_last ho _ _))
    have N2 := Lib.hid (fun w' : World => two_new ⟨#[42]⟩ (p ++ ⟨#[47]⟩) w' (by decide) ZL (by rw [t42]; exact AS) (by rw [L0]; exact any_last ho _ _) (by rw [t42]; exact OS) (by rw [L0]; exact ok_last ho _ _))
    have I1 := Lib.hid (fun (a : Addr) (w' : World) (h : Rul w' (.pointer (some a)) [mkR (⟨#[120, 47]⟩ ++ p : ByteArray).toList, mkR ((p ++ ⟨#[47]⟩) : ByteArray).toList]) => ignored_any _ _ p false w' h (by simp))
    have I2 := Lib.hid (fun (a : Addr) (w' : World) (h : Rul w' (.pointer (some a)) [mkR (⟨#[42]⟩ : ByteArray).toList, mkR ((p ++ ⟨#[47]⟩) : ByteArray).toList]) => ignored_any _ _ p false w' h (by simp))
    have G1 : Hid (ignored [mkR (⟨#[120, 47]⟩ ++ p : ByteArray).toList, mkR ((p ++ ⟨#[47]⟩) : ByteArray).toList] p.toList false = false) := Lib.hid (by rw [X0]; have q := last_one ho false true false; rw [← L0] at q; exact q)
    have G2 : Hid (ignored [mkR (⟨#[42]⟩ : ByteArray).toList, mkR ((p ++ ⟨#[47]⟩) : ByteArray).toList] p.toList false = true) := Lib.hid (by rw [t42]; have q := last_two ho false true false; rw [← L0] at q; exact q)
    clear X0 OX AX OS AS ZX L0 ZL ho t42 t33 t47
    go_enter Tryd.func6, Tryd.ntmps6
    go_wp2_with fail
    refine (RV.out).mono ?_
    rintro e w1 ⟨rfl, e1⟩
    have E1 := Lib.hid e1
    clear e1
    go_wp2_with fail
    refine (RP.out _).mono ?_
    rintro e w2 ⟨rfl, e2⟩
    have E2 := Lib.hid (E1.out.trans e2)
    clear e2
    go_wp2_with fail
    refine (N1.out _).mono ?_
    rintro e w3 ⟨r1, rfl, h3, e3⟩
    have E3 := Lib.hid (E2.out.trans e3)
    have H3 := Lib.hid h3
    clear e3 h3
    go_wp2_with fail
    refine (N2.out _).mono ?_
    rintro e w4 ⟨r2, rfl, h4, e4⟩
    have E4 := Lib.hid (E3.out.trans e4)
    have H4 := Lib.hid (H3.out.ext e4)
    have K4 := Lib.hid h4
    clear e4 h4
    go_wp2_with fail
    refine (I1.out r1 w4 H4.out).mono ?_
    rintro e w5 ⟨rfl, e5⟩
    have E5 := Lib.hid (E4.out.trans e5)
    have K5 := Lib.hid (K4.out.ext e5)
    clear e5
    rw [G1.out]
    go_wp2_with fail
    refine (I2.out r2 w5 K5.out).mono ?_
    rintro e w6 ⟨rfl, e6⟩
    have E6 := Lib.hid (E5.out.trans e6)
    clear e6
    rw [G2.out]
    go_wp2_with fail
    refine (AW.out _ E6.out).mono ?_
    rintro e w7 ⟨rfl, e7⟩
    have E7 := Lib.hid e7
    clear e7
    go_wp2_with fail
    go_ret
    exact ⟨rfl, E7.out⟩
  · have L0 : ((p ++ ⟨#[47]⟩) : ByteArray).toList = lastL false true p.toList := by
      unfold lastL; simp [tx_app, t33, t47]
    have ZL : ((p ++ ⟨#[47]⟩) : ByteArray).size ≤ 1000 := by rw [size_list, L0]; unfold lastL; simp; omega
    have N1 := Lib.hid (fun w' : World => two_new (⟨#[120, 47]⟩ ++ p) (p ++ ⟨#[47]⟩) w' ZX ZL (by rw [X0]; exact AX) (by rw [L0]; exact any_last ho _ _) (by rw [X0]; exact OX) (by rw [L0]; exact ok_last ho _ _))
    have N2 := Lib.hid (fun w' : World => two_new ⟨#[42]⟩ (p ++ ⟨#[47]⟩) w' (by decide) ZL (by rw [t42]; exact AS) (by rw [L0]; exact any_last ho _ _) (by rw [t42]; exact OS) (by rw [L0]; exact ok_last ho _ _))
    have I1 := Lib.hid (fun (a : Addr) (w' : World) (h : Rul w' (.pointer (some a)) [mkR (⟨#[120, 47]⟩ ++ p : ByteArray).toList, mkR ((p ++ ⟨#[47]⟩) : ByteArray).toList]) => ignored_any _ _ p true w' h (by simp))
    have I2 := Lib.hid (fun (a : Addr) (w' : World) (h : Rul w' (.pointer (some a)) [mkR (⟨#[42]⟩ : ByteArray).toList, mkR ((p ++ ⟨#[47]⟩) : ByteArray).toList]) => ignored_any _ _ p true w' h (by simp))
    have G1 : Hid (ignored [mkR (⟨#[120, 47]⟩ ++ p : ByteArray).toList, mkR ((p ++ ⟨#[47]⟩) : ByteArray).toList] p.toList true = true) := Lib.hid (by rw [X0]; have q := last_one ho false true true; rw [← L0] at q; exact q)
    have G2 : Hid (ignored [mkR (⟨#[42]⟩ : ByteArray).toList, mkR ((p ++ ⟨#[47]⟩) : ByteArray).toList] p.toList true = true) := Lib.hid (by rw [t42]; have q := last_two ho false true true; rw [← L0] at q; exact q)
    clear X0 OX AX OS AS ZX L0 ZL ho t42 t33 t47
    go_enter Tryd.func6, Tryd.ntmps6
    go_wp2_with fail
    refine (RV.out).mono ?_
    rintro e w1 ⟨rfl, e1⟩
    have E1 := Lib.hid e1
    clear e1
    go_wp2_with fail
    refine (RP.out _).mono ?_
    rintro e w2 ⟨rfl, e2⟩
    have E2 := Lib.hid (E1.out.trans e2)
    clear e2
    go_wp2_with fail
    refine (N1.out _).mono ?_
    rintro e w3 ⟨r1, rfl, h3, e3⟩
    have E3 := Lib.hid (E2.out.trans e3)
    have H3 := Lib.hid h3
    clear e3 h3
    go_wp2_with fail
    refine (N2.out _).mono ?_
    rintro e w4 ⟨r2, rfl, h4, e4⟩
    have E4 := Lib.hid (E3.out.trans e4)
    have H4 := Lib.hid (H3.out.ext e4)
    have K4 := Lib.hid h4
    clear e4 h4
    go_wp2_with fail
    refine (I1.out r1 w4 H4.out).mono ?_
    rintro e w5 ⟨rfl, e5⟩
    have E5 := Lib.hid (E4.out.trans e5)
    have K5 := Lib.hid (K4.out.ext e5)
    clear e5
    rw [G1.out]
    go_wp2_with fail
    refine (I2.out r2 w5 K5.out).mono ?_
    rintro e w6 ⟨rfl, e6⟩
    have E6 := Lib.hid (E5.out.trans e6)
    clear e6
    rw [G2.out]
    go_wp2_with fail
    refine (AW.out _ E6.out).mono ?_
    rintro e w7 ⟨rfl, e7⟩
    have E7 := Lib.hid e7
    clear e7
    go_wp2_with fail
    go_ret
    exact ⟨rfl, E7.out⟩
  · have L0 : ((⟨#[33]⟩ ++ p) : ByteArray).toList = lastL true false p.toList := by
      unfold lastL; simp [tx_app, t33, t47]
    have ZL : ((⟨#[33]⟩ ++ p) : ByteArray).size ≤ 1000 := by rw [size_list, L0]; unfold lastL; simp; omega
    have N1 := Lib.hid (fun w' : World => two_new (⟨#[120, 47]⟩ ++ p) (⟨#[33]⟩ ++ p) w' ZX ZL (by rw [X0]; exact AX) (by rw [L0]; exact any_last ho _ _) (by rw [X0]; exact OX) (by rw [L0]; exact ok_last ho _ _))
    have N2 := Lib.hid (fun w' : World => two_new ⟨#[42]⟩ (⟨#[33]⟩ ++ p) w' (by decide) ZL (by rw [t42]; exact AS) (by rw [L0]; exact any_last ho _ _) (by rw [t42]; exact OS) (by rw [L0]; exact ok_last ho _ _))
    have I1 := Lib.hid (fun (a : Addr) (w' : World) (h : Rul w' (.pointer (some a)) [mkR (⟨#[120, 47]⟩ ++ p : ByteArray).toList, mkR ((⟨#[33]⟩ ++ p) : ByteArray).toList]) => ignored_any _ _ p false w' h (by simp))
    have I2 := Lib.hid (fun (a : Addr) (w' : World) (h : Rul w' (.pointer (some a)) [mkR (⟨#[42]⟩ : ByteArray).toList, mkR ((⟨#[33]⟩ ++ p) : ByteArray).toList]) => ignored_any _ _ p false w' h (by simp))
    have G1 : Hid (ignored [mkR (⟨#[120, 47]⟩ ++ p : ByteArray).toList, mkR ((⟨#[33]⟩ ++ p) : ByteArray).toList] p.toList false = false) := Lib.hid (by rw [X0]; have q := last_one ho true false false; rw [← L0] at q; exact q)
    have G2 : Hid (ignored [mkR (⟨#[42]⟩ : ByteArray).toList, mkR ((⟨#[33]⟩ ++ p) : ByteArray).toList] p.toList false = false) := Lib.hid (by rw [t42]; have q := last_two ho true false false; rw [← L0] at q; exact q)
    clear X0 OX AX OS AS ZX L0 ZL ho t42 t33 t47
    go_enter Tryd.func6, Tryd.ntmps6
    go_wp2_with fail
    refine (RV.out).mono ?_
    rintro e w1 ⟨rfl, e1⟩
    have E1 := Lib.hid e1
    clear e1
    go_wp2_with fail
    refine (RP.out _).mono ?_
    rintro e w2 ⟨rfl, e2⟩
    have E2 := Lib.hid (E1.out.trans e2)
    clear e2
    go_wp2_with fail
    refine (N1.out _).mono ?_
    rintro e w3 ⟨r1, rfl, h3, e3⟩
    have E3 := Lib.hid (E2.out.trans e3)
    have H3 := Lib.hid h3
    clear e3 h3
    go_wp2_with fail
    refine (N2.out _).mono ?_
    rintro e w4 ⟨r2, rfl, h4, e4⟩
    have E4 := Lib.hid (E3.out.trans e4)
    have H4 := Lib.hid (H3.out.ext e4)
    have K4 := Lib.hid h4
    clear e4 h4
    go_wp2_with fail
    refine (I1.out r1 w4 H4.out).mono ?_
    rintro e w5 ⟨rfl, e5⟩
    have E5 := Lib.hid (E4.out.trans e5)
    have K5 := Lib.hid (K4.out.ext e5)
    clear e5
    rw [G1.out]
    go_wp2_with fail
    refine (I2.out r2 w5 K5.out).mono ?_
    rintro e w6 ⟨rfl, e6⟩
    have E6 := Lib.hid (E5.out.trans e6)
    clear e6
    rw [G2.out]
    go_wp2_with fail
    refine (AW.out _ E6.out).mono ?_
    rintro e w7 ⟨rfl, e7⟩
    have E7 := Lib.hid e7
    clear e7
    go_wp2_with fail
    go_ret
    exact ⟨rfl, E7.out⟩
  · have L0 : ((⟨#[33]⟩ ++ p) : ByteArray).toList = lastL true false p.toList := by
      unfold lastL; simp [tx_app, t33, t47]
    have ZL : ((⟨#[33]⟩ ++ p) : ByteArray).size ≤ 1000 := by rw [size_list, L0]; unfold lastL; simp; omega
    have N1 := Lib.hid (fun w' : World => two_new (⟨#[120, 47]⟩ ++ p) (⟨#[33]⟩ ++ p) w' ZX ZL (by rw [X0]; exact AX) (by rw [L0]; exact any_last ho _ _) (by rw [X0]; exact OX) (by rw [L0]; exact ok_last ho _ _))
    have N2 := Lib.hid (fun w' : World => two_new ⟨#[42]⟩ (⟨#[33]⟩ ++ p) w' (by decide) ZL (by rw [t42]; exact AS) (by rw [L0]; exact any_last ho _ _) (by rw [t42]; exact OS) (by rw [L0]; exact ok_last ho _ _))
    have I1 := Lib.hid (fun (a : Addr) (w' : World) (h : Rul w' (.pointer (some a)) [mkR (⟨#[120, 47]⟩ ++ p : ByteArray).toList, mkR ((⟨#[33]⟩ ++ p) : ByteArray).toList]) => ignored_any _ _ p true w' h (by simp))
    have I2 := Lib.hid (fun (a : Addr) (w' : World) (h : Rul w' (.pointer (some a)) [mkR (⟨#[42]⟩ : ByteArray).toList, mkR ((⟨#[33]⟩ ++ p) : ByteArray).toList]) => ignored_any _ _ p true w' h (by simp))
    have G1 : Hid (ignored [mkR (⟨#[120, 47]⟩ ++ p : ByteArray).toList, mkR ((⟨#[33]⟩ ++ p) : ByteArray).toList] p.toList true = false) := Lib.hid (by rw [X0]; have q := last_one ho true false true; rw [← L0] at q; exact q)
    have G2 : Hid (ignored [mkR (⟨#[42]⟩ : ByteArray).toList, mkR ((⟨#[33]⟩ ++ p) : ByteArray).toList] p.toList true = false) := Lib.hid (by rw [t42]; have q := last_two ho true false true; rw [← L0] at q; exact q)
    clear X0 OX AX OS AS ZX L0 ZL ho t42 t33 t47
    go_enter Tryd.func6, Tryd.ntmps6
    go_wp2_with fail
    refine (RV.out).mono ?_
    rintro e w1 ⟨rfl, e1⟩
    have E1 := Lib.hid e1
    clear e1
    go_wp2_with fail
    refine (RP.out _).mono ?_
    rintro e w2 ⟨rfl, e2⟩
    have E2 := Lib.hid (E1.out.trans e2)
    clear e2
    go_wp2_with fail
    refine (N1.out _).mono ?_
    rintro e w3 ⟨r1, rfl, h3, e3⟩
    have E3 := Lib.hid (E2.out.trans e3)
    have H3 := Lib.hid h3
    clear e3 h3
    go_wp2_with fail
    refine (N2.out _).mono ?_
    rintro e w4 ⟨r2, rfl, h4, e4⟩
    have E4 := Lib.hid (E3.out.trans e4)
    have H4 := Lib.hid (H3.out.ext e4)
    have K4 := Lib.hid h4
    clear e4 h4
    go_wp2_with fail
    refine (I1.out r1 w4 H4.out).mono ?_
    rintro e w5 ⟨rfl, e5⟩
    have E5 := Lib.hid (E4.out.trans e5)
    have K5 := Lib.hid (K4.out.ext e5)
    clear e5
    rw [G1.out]
    go_wp2_with fail
    refine (I2.out r2 w5 K5.out).mono ?_
    rintro e w6 ⟨rfl, e6⟩
    have E6 := Lib.hid (E5.out.trans e6)
    clear e6
    rw [G2.out]
    go_wp2_with fail
    refine (AW.out _ E6.out).mono ?_
    rintro e w7 ⟨rfl, e7⟩
    have E7 := Lib.hid e7
    clear e7
    go_wp2_with fail
    go_ret
    exact ⟨rfl, E7.out⟩
  · have L0 : ((⟨#[33]⟩ ++ p ++ ⟨#[47]⟩) : ByteArray).toList = lastL true true p.toList := by
      unfold lastL; simp [tx_app, t33, t47]
    have ZL : ((⟨#[33]⟩ ++ p ++ ⟨#[47]⟩) : ByteArray).size ≤ 1000 := by rw [size_list, L0]; unfold lastL; simp; omega
    have N1 := Lib.hid (fun w' : World => two_new (⟨#[120, 47]⟩ ++ p) (⟨#[33]⟩ ++ p ++ ⟨#[47]⟩) w' ZX ZL (by rw [X0]; exact AX) (by rw [L0]; exact any_last ho _ _) (by rw [X0]; exact OX) (by rw [L0]; exact ok_last ho _ _))
    have N2 := Lib.hid (fun w' : World => two_new ⟨#[42]⟩ (⟨#[33]⟩ ++ p ++ ⟨#[47]⟩) w' (by decide) ZL (by rw [t42]; exact AS) (by rw [L0]; exact any_last ho _ _) (by rw [t42]; exact OS) (by rw [L0]; exact ok_last ho _ _))
    have I1 := Lib.hid (fun (a : Addr) (w' : World) (h : Rul w' (.pointer (some a)) [mkR (⟨#[120, 47]⟩ ++ p : ByteArray).toList, mkR ((⟨#[33]⟩ ++ p ++ ⟨#[47]⟩) : ByteArray).toList]) => ignored_any _ _ p false w' h (by simp))
    have I2 := Lib.hid (fun (a : Addr) (w' : World) (h : Rul w' (.pointer (some a)) [mkR (⟨#[42]⟩ : ByteArray).toList, mkR ((⟨#[33]⟩ ++ p ++ ⟨#[47]⟩) : ByteArray).toList]) => ignored_any _ _ p false w' h (by simp))
    have G1 : Hid (ignored [mkR (⟨#[120, 47]⟩ ++ p : ByteArray).toList, mkR ((⟨#[33]⟩ ++ p ++ ⟨#[47]⟩) : ByteArray).toList] p.toList false = false) := Lib.hid (by rw [X0]; have q := last_one ho true true false; rw [← L0] at q; exact q)
    have G2 : Hid (ignored [mkR (⟨#[42]⟩ : ByteArray).toList, mkR ((⟨#[33]⟩ ++ p ++ ⟨#[47]⟩) : ByteArray).toList] p.toList false = true) := Lib.hid (by rw [t42]; have q := last_two ho true true false; rw [← L0] at q; exact q)
    clear X0 OX AX OS AS ZX L0 ZL ho t42 t33 t47
    go_enter Tryd.func6, Tryd.ntmps6
    go_wp2_with fail
    refine (RV.out).mono ?_
    rintro e w1 ⟨rfl, e1⟩
    have E1 := Lib.hid e1
    clear e1
    go_wp2_with fail
    refine (RP.out _).mono ?_
    rintro e w2 ⟨rfl, e2⟩
    have E2 := Lib.hid (E1.out.trans e2)
    clear e2
    go_wp2_with fail
    refine (N1.out _).mono ?_
    rintro e w3 ⟨r1, rfl, h3, e3⟩
    have E3 := Lib.hid (E2.out.trans e3)
    have H3 := Lib.hid h3
    clear e3 h3
    go_wp2_with fail
    refine (N2.out _).mono ?_
    rintro e w4 ⟨r2, rfl, h4, e4⟩
    have E4 := Lib.hid (E3.out.trans e4)
    have H4 := Lib.hid (H3.out.ext e4)
    have K4 := Lib.hid h4
    clear e4 h4
    go_wp2_with fail
    refine (I1.out r1 w4 H4.out).mono ?_
    rintro e w5 ⟨rfl, e5⟩
    have E5 := Lib.hid (E4.out.trans e5)
    have K5 := Lib.hid (K4.out.ext e5)
    clear e5
    rw [G1.out]
    go_wp2_with fail
    refine (I2.out r2 w5 K5.out).mono ?_
    rintro e w6 ⟨rfl, e6⟩
    have E6 := Lib.hid (E5.out.trans e6)
    clear e6
    rw [G2.out]
    go_wp2_with fail
    refine (AW.out _ E6.out).mono ?_
    rintro e w7 ⟨rfl, e7⟩
    have E7 := Lib.hid e7
    clear e7
    go_wp2_with fail
    go_ret
    exact ⟨rfl, E7.out⟩
  · have L0 : ((⟨#[33]⟩ ++ p ++ ⟨#[47]⟩) : ByteArray).toList = lastL true true p.toList := by
      unfold lastL; simp [tx_app, t33, t47]
    have ZL : ((⟨#[33]⟩ ++ p ++ ⟨#[47]⟩) : ByteArray).size ≤ 1000 := by rw [size_list, L0]; unfold lastL; simp; omega
    have N1 := Lib.hid (fun w' : World => two_new (⟨#[120, 47]⟩ ++ p) (⟨#[33]⟩ ++ p ++ ⟨#[47]⟩) w' ZX ZL (by rw [X0]; exact AX) (by rw [L0]; exact any_last ho _ _) (by rw [X0]; exact OX) (by rw [L0]; exact ok_last ho _ _))
    have N2 := Lib.hid (fun w' : World => two_new ⟨#[42]⟩ (⟨#[33]⟩ ++ p ++ ⟨#[47]⟩) w' (by decide) ZL (by rw [t42]; exact AS) (by rw [L0]; exact any_last ho _ _) (by rw [t42]; exact OS) (by rw [L0]; exact ok_last ho _ _))
    have I1 := Lib.hid (fun (a : Addr) (w' : World) (h : Rul w' (.pointer (some a)) [mkR (⟨#[120, 47]⟩ ++ p : ByteArray).toList, mkR ((⟨#[33]⟩ ++ p ++ ⟨#[47]⟩) : ByteArray).toList]) => ignored_any _ _ p true w' h (by simp))
    have I2 := Lib.hid (fun (a : Addr) (w' : World) (h : Rul w' (.pointer (some a)) [mkR (⟨#[42]⟩ : ByteArray).toList, mkR ((⟨#[33]⟩ ++ p ++ ⟨#[47]⟩) : ByteArray).toList]) => ignored_any _ _ p true w' h (by simp))
    have G1 : Hid (ignored [mkR (⟨#[120, 47]⟩ ++ p : ByteArray).toList, mkR ((⟨#[33]⟩ ++ p ++ ⟨#[47]⟩) : ByteArray).toList] p.toList true = false) := Lib.hid (by rw [X0]; have q := last_one ho true true true; rw [← L0] at q; exact q)
    have G2 : Hid (ignored [mkR (⟨#[42]⟩ : ByteArray).toList, mkR ((⟨#[33]⟩ ++ p ++ ⟨#[47]⟩) : ByteArray).toList] p.toList true = false) := Lib.hid (by rw [t42]; have q := last_two ho true true true; rw [← L0] at q; exact q)
    clear X0 OX AX OS AS ZX L0 ZL ho t42 t33 t47
    go_enter Tryd.func6, Tryd.ntmps6
    go_wp2_with fail
    refine (RV.out).mono ?_
    rintro e w1 ⟨rfl, e1⟩
    have E1 := Lib.hid e1
    clear e1
    go_wp2_with fail
    refine (RP.out _).mono ?_
    rintro e w2 ⟨rfl, e2⟩
    have E2 := Lib.hid (E1.out.trans e2)
    clear e2
    go_wp2_with fail
    refine (N1.out _).mono ?_
    rintro e w3 ⟨r1, rfl, h3, e3⟩
    have E3 := Lib.hid (E2.out.trans e3)
    have H3 := Lib.hid h3
    clear e3 h3
    go_wp2_with fail
    refine (N2.out _).mono ?_
    rintro e w4 ⟨r2, rfl, h4, e4⟩
    have E4 := Lib.hid (E3.out.trans e4)
    have H4 := Lib.hid (H3.out.ext e4)
    have K4 := Lib.hid h4
    clear e4 h4
    go_wp2_with fail
    refine (I1.out r1 w4 H4.out).mono ?_
    rintro e w5 ⟨rfl, e5⟩
    have E5 := Lib.hid (E4.out.trans e5)
    have K5 := Lib.hid (K4.out.ext e5)
    clear e5
    rw [G1.out]
    go_wp2_with fail
    refine (I2.out r2 w5 K5.out).mono ?_
    rintro e w6 ⟨rfl, e6⟩
    have E6 := Lib.hid (E5.out.trans e6)
    clear e6
    rw [G2.out]
    go_wp2_with fail
    refine (AW.out _ E6.out).mono ?_
    rintro e w7 ⟨rfl, e7⟩
    have E7 := Lib.hid e7
    clear e7
    go_wp2_with fail
    go_ret
    exact ⟨rfl, E7.out⟩
end Go.Proofs.YtoompkmncglmoaaDoor
