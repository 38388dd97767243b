/- The walk of IgnoreUnder. -/
import Derived.Test.YtoompkmncglmoaaDoorLl
import Derived.Test.YtoompkmncglmoaaDoorSy
import Derived.Test.YtoompkmncglmoaaDoorWx
import Derived.Test.YtoompkmncglmoaaDoorRn
namespace Go.Proofs.YtoompkmncglmoaaDoor
open Go.RowKit Go.Pth

theorem one_name {p : B} (h : valid p = true) : One (name p) := by
  rcases path_cases h with ⟨h1, h2, h3⟩ | ⟨a, b, e, hb, hv, hne, _, h3⟩
  · rw [h3]; exact one_of h h2
  · rw [h3]
    rw [e] at h
    have hv2 := (valid_app h).2
    exact one_of hv2 (parent_one hv2 hb).1
theorem pat_le (l : B) : (mkR l).pat.length ≤ l.length := by
  unfold mkR Lib.trimSuffix Lib.trimPrefix
  simp only
  split <;> split <;> simp <;> omega
theorem all_but_one {p : B} (h : One p) (dir : Bool) : ignored [mkR [42, 42], mkR (lastL true false p)] p dir = false := by
  rw [ign_one h]
  unfold tell
  have key : (mkR (lastL true false p)).nt = true := by rw [mkR_last h]
  simp only [List.foldl_cons, List.foldl_nil, hit_last h, key]
  cases dir <;> rfl
theorem ok_stars : okR (mkR [42, 42]) = true := by decide +kernel

set_option maxRecDepth 100000 in
set_option maxHeartbeats 16000000 in
theorem under_law (lv : Value) (ls : List B) (p n : ByteArray) (dir : Bool) (w : World) (hx : TxO w lv ls) (hl : ls.length ≤ 9223372036854775807) (hb : ∀ l ∈ ls, l.length ≤ 9223372036854775807) :
    Calls Tryd.prog 5 #[lv, .string p, .string n, .bool dir] w fun e w' => e = .returned (.bool true) ∧ Ext w w' := by
  have AW := Lib.hid (fun (w' : World) (e : Ext w w') => awake_acc e)
  have WD := Lib.hid (words_any lv ls w hx hl hb)
  have HX := Lib.hid hx
  clear hl hb hx
  go_enter Tryd.func5, Tryd.ntmps5
  go_wp2_with fail
  refine (WD.out).mono ?_
  rintro e w1 ⟨R, rfl, e1, hR⟩
  clear WD
  by_cases h1 : 2000 < R
  · have d1 : decide ((2000 : Int) < (R : Int)) = true := decide_eq_true (by omega)
    go_wp2_with fail
    refine (AW.out _ e1).mono ?_
    rintro e w2 ⟨rfl, e2⟩
    go_wp2_with fail
    go_ret
    exact ⟨rfl, e2⟩
  have d1 : decide ((2000 : Int) < (R : Int)) = false := decide_eq_false (by omega)
  obtain ⟨hl, hb⟩ := hR (by omega)
  by_cases h2 : 100 < p.size
  · have d2 : decide ((100 : Int) < (p.size : Int)) = true := decide_eq_true (by omega)
    go_wp2_with fail
    refine (AW.out _ e1).mono ?_
    rintro e w2 ⟨rfl, e2⟩
    go_wp2_with fail
    go_ret
    exact ⟨rfl, e2⟩
  have d2 : decide ((100 : Int) < (p.size : Int)) = false := decide_eq_false (by omega)
  by_cases h3 : 100 < n.size
  · have d3 : decide ((100 : Int) < (n.size : Int)) = true := decide_eq_true (by omega)
    go_wp2_with fail
    refine (AW.out _ e1).mono ?_
    rintro e w2 ⟨rfl, e2⟩
    go_wp2_with fail
    go_ret
    exact ⟨rfl, e2⟩
  have d3 : decide ((100 : Int) < (n.size : Int)) = false := decide_eq_false (by omega)
  have NW := Lib.hid (fun (w' : World) (e : Ext w w') => new_any lv ls w' (HX.out.ext e) (by omega) (fun _ l h => by have := hb l h; omega) (fun _ l h => anyOk_all _ (by have := pat_le l; have := hb l h; omega)))
  have JN := Lib.hid (fun w' : World => rjoin_any p n (by omega) (by omega) w')
  have E1 := Lib.hid e1
  clear hb hl hR e1
  go_wp2_with fail
  refine (ignored_nil p dir w1).mono ?_
  rintro e w2 ⟨rfl, e2⟩
  have E2 := Lib.hid (E1.out.trans e2)
  clear e2
  go_wp2_with fail
  refine (lines_nil w2).mono ?_
  rintro e w3 ⟨rfl, e3⟩
  have E3 := Lib.hid (E2.out.trans e3)
  clear e3
  go_wp2_with fail
  refine (NW.out w3 E3.out).mono ?_
  rintro e w4 ⟨e4, hN⟩
  have E4 := Lib.hid (E3.out.trans e4)
  clear e4 NW
  by_cases h50 : 50 < ls.length
  · rw [if_pos h50] at hN
    subst hN
    go_wp2_with fail
    refine (AW.out _ E4.out).mono ?_
    rintro e w5 ⟨rfl, e5⟩
    go_wp2_with fail
    go_ret
    exact ⟨rfl, e5⟩
  rw [if_neg h50] at hN
  cases hall : (ls.map mkR).all okR with
  | false =>
    rw [if_neg (by rw [hall]; exact Bool.false_ne_true)] at hN
    subst hN
    go_wp2_with fail
    refine (AW.out _ E4.out).mono ?_
    rintro e w5 ⟨rfl, e5⟩
    go_wp2_with fail
    go_ret
    exact ⟨rfl, e5⟩
  | true =>
  rw [if_pos hall] at hN
  obtain ⟨v, rfl, hr⟩ := hN
  have HRL : Hid ((ls.map mkR).length ≤ 1000) := Lib.hid (by rw [List.length_map]; omega)
  generalize ls.map mkR = rs at *
  have HR4 := Lib.hid hr
  obtain ⟨rb, -, -, -, rfl, -⟩ := hr
  clear hall h50
  go_wp2_with fail
  refine (JN.out w4).mono ?_
  rintro e w5 ⟨rfl, e5⟩
  have E5 := Lib.hid (E4.out.trans e5)
  have HR5 := Lib.hid (HR4.out.ext e5)
  clear e5
  by_cases hj : join p.toList n.toList = []
  · have hz : ((tx (join p.toList n.toList)).toList == []) = true := by rw [tx_list, hj]; rfl
    generalize tx (join p.toList n.toList) = z at *
    go_wp2_with fail
    refine (AW.out _ E5.out).mono ?_
    rintro e w6 ⟨rfl, e6⟩
    go_wp2_with fail
    go_ret
    exact ⟨rfl, e6⟩
  have hz : ((tx (join p.toList n.toList)).toList == []) = false := by rw [tx_list]; simpa using hj
  by_cases hp0 : p.toList = []
  · have hy : (p.toList == []) = true := by rw [hp0]; rfl
    generalize tx (join p.toList n.toList) = z at *
    go_wp2_with fail
    refine (AW.out _ E5.out).mono ?_
    rintro e w6 ⟨rfl, e6⟩
    go_wp2_with fail
    go_ret
    exact ⟨rfl, e6⟩
  have hy : (p.toList == []) = false := by simpa using hp0
  obtain ⟨ej, hv⟩ := join_some hp0 hj
  have hvp := (valid_app hv).1
  have ho := one_name hvp
  have UN : Hid (ignored rs p.toList true = true → ignored rs (tx (join p.toList n.toList)).toList dir = true) := Lib.hid (fun h => by rw [tx_list, ej]; exact ignored_under rs p.toList h (n.toList.length + 1) n.toList dir (by omega) hv)
  have I1 := Lib.hid (ignored_any _ rs p true w5 HR5.out HRL.out)
  have IS := Lib.hid (fun (w' : World) (h : Rul w' (.pointer (some ⟨rb, 0, none⟩)) rs) => ignored_any _ rs (tx (join p.toList n.toList)) dir w' h HRL.out)
  have NM := Lib.hid (fun w' : World => rname_any p w')
  have PR := Lib.hid (fun w' : World => rparent_any p w')
  have t42 : (⟨#[42, 42]⟩ : ByteArray).toList = [42, 42] := tl [42, 42]
  have t33 : (⟨#[33]⟩ : ByteArray).toList = [33] := tl [33]
  have L0 : (⟨#[33]⟩ ++ tx (name p.toList) : ByteArray).toList = lastL true false (name p.toList) := by unfold lastL; rw [tx_app, tx_list, t33]; simp
  have N2 := Lib.hid (fun w' : World => two_new ⟨#[42, 42]⟩ (⟨#[33]⟩ ++ tx (name p.toList)) w' (by decide) (by rw [size_list, L0]; unfold lastL; have := ho.l20; simp; omega) (by rw [t42]; exact anyOk_all _ (by decide)) (by rw [L0]; exact any_last ho _ _) (by rw [t42]; exact ok_stars) (by rw [L0]; exact ok_last ho _ _))
  have FA : Hid (parent p.toList = [] → ignored [mkR (⟨#[42, 42]⟩ : ByteArray).toList, mkR (⟨#[33]⟩ ++ tx (name p.toList) : ByteArray).toList] p.toList dir = false) := Lib.hid (fun h => by
    have o := one_of hvp h
    rw [t42, L0, o.nam]; exact all_but_one o dir)
  have zn : (tx (name p.toList)).size ≤ 20 := by rw [tx_size]; exact ho.l20
  have zn1 : ¬ (9223372036854775807 < 1 + (tx (name p.toList)).size) := by omega
  clear hj hp0 ej hv hvp ho t42 t33 L0
  generalize tx (join p.toList n.toList) = z at *
  go_wp2_with fail
  refine (I1.out).mono ?_
  rintro e w6 ⟨rfl, e6⟩
  have E6 := Lib.hid (E5.out.trans e6)
  have HR6 := Lib.hid (HR5.out.ext e6)
  clear e6 I1 HR5
  cases hi : ignored rs p.toList true with
  | true =>
    have hs := UN.out hi
    clear hi UN
    go_wp2_with fail
    refine (IS.out w6 HR6.out).mono ?_
    rintro e w7 ⟨rfl, e7⟩
    have E7 := Lib.hid (E6.out.trans e7)
    clear e7
    rw [hs]
    go_wp2_with fail
    refine (NM.out w7).mono ?_
    rintro e w8 ⟨rfl, e8⟩
    have E8 := Lib.hid (E7.out.trans e8)
    clear e8
    go_wp2_with fail
    refine (N2.out w8).mono ?_
    rintro e w9 ⟨r2, rfl, h9, e9⟩
    have E9 := Lib.hid (E8.out.trans e9)
    have K9 := Lib.hid h9
    clear e9 h9
    go_wp2_with fail
    refine (PR.out w9).mono ?_
    rintro e w10 ⟨rfl, e10⟩
    have E10 := Lib.hid (E9.out.trans e10)
    have K10 := Lib.hid (K9.out.ext e10)
    clear e10
    by_cases hq : parent p.toList = []
    · have I2 := Lib.hid (ignored_any _ _ p dir w10 K10.out (by simp))
      have hf := FA.out hq
      rw [hf] at I2
      have hz2 : ((tx (parent p.toList)).toList == []) = true := by rw [tx_list, hq]; rfl
      clear hq hf
      generalize tx (parent p.toList) = y at *
      go_wp2_with fail
      refine (I2.out).mono ?_
      rintro e w11 ⟨rfl, e11⟩
      have E11 := Lib.hid (E10.out.trans e11)
      clear e11
      go_wp2_with fail
      refine (AW.out _ E11.out).mono ?_
      rintro e w12 ⟨rfl, e12⟩
      go_wp2_with fail
      go_ret
      exact ⟨rfl, e12⟩
    · have hz2 : ((tx (parent p.toList)).toList == []) = false := by rw [tx_list]; simpa using hq
      clear hq
      generalize tx (parent p.toList) = y at *
      go_wp2_with fail
      refine (AW.out _ E10.out).mono ?_
      rintro e w12 ⟨rfl, e12⟩
      go_wp2_with fail
      go_ret
      exact ⟨rfl, e12⟩
  | false =>
    clear hi UN
    go_wp2_with fail
    refine (NM.out w6).mono ?_
    rintro e w7 ⟨rfl, e7⟩
    have E7 := Lib.hid (E6.out.trans e7)
    clear e7
    go_wp2_with fail
    refine (N2.out w7).mono ?_
    rintro e w8 ⟨r2, rfl, h8, e8⟩
    have E8 := Lib.hid (E7.out.trans e8)
    have K8 := Lib.hid h8
    clear e8 h8
    go_wp2_with fail
    refine (PR.out w8).mono ?_
    rintro e w9 ⟨rfl, e9⟩
    have E9 := Lib.hid (E8.out.trans e9)
    have K9 := Lib.hid (K8.out.ext e9)
    clear e9
    by_cases hq : parent p.toList = []
    · have I2 := Lib.hid (ignored_any _ _ p dir w9 K9.out (by simp))
      have hf := FA.out hq
      rw [hf] at I2
      have hz2 : ((tx (parent p.toList)).toList == []) = true := by rw [tx_list, hq]; rfl
      clear hq hf
      generalize tx (parent p.toList) = y at *
      go_wp2_with fail
      refine (I2.out).mono ?_
      rintro e w10 ⟨rfl, e10⟩
      have E10 := Lib.hid (E9.out.trans e10)
      clear e10
      go_wp2_with fail
      refine (AW.out _ E10.out).mono ?_
      rintro e w11 ⟨rfl, e11⟩
      go_wp2_with fail
      go_ret
      exact ⟨rfl, e11⟩
    · have hz2 : ((tx (parent p.toList)).toList == []) = false := by rw [tx_list]; simpa using hq
      clear hq
      generalize tx (parent p.toList) = y at *
      go_wp2_with fail
      refine (AW.out _ E9.out).mono ?_
      rintro e w11 ⟨rfl, e11⟩
      go_wp2_with fail
      go_ret
      exact ⟨rfl, e11⟩
end Go.Proofs.YtoompkmncglmoaaDoor
