/- The walk of IgnoreRules. -/
import Derived.Test.YtoompkmncglmoaaDoorIk
import Derived.Test.YtoompkmncglmoaaDoorSy
import Derived.Test.YtoompkmncglmoaaDoorWx
import Derived.Test.YtoompkmncglmoaaDoorTc
import Derived.Test.YtoompkmncglmoaaDoorTd
namespace Go.Proofs.YtoompkmncglmoaaDoor
open Go.RowKit Go.Pth

theorem pat_few (l : B) : (mkR l).pat.length ≤ l.length := by
  unfold mkR Lib.trimSuffix Lib.trimPrefix
  simp only
  split <;> split <;> simp <;> omega
theorem lines_back (ls : List B) : (ls.map mkR).map RL.line = ls := by
  rw [List.map_map]
  exact (List.map_congr_left (fun l _ => rfl)).trans (List.map_id ls)

set_option maxRecDepth 100000 in
set_option maxHeartbeats 2000000 in
theorem rules_law (lv : Value) (ls : List B) (p : ByteArray) (dir : Bool) (w : World) (hx : TxO w lv ls) (hl : ls.length ≤ 9223372036854775807) (hb : ∀ l ∈ ls, l.length ≤ 9223372036854775807) :
    Calls Tryd.prog 4 #[lv, .string p, .bool dir] w fun e w' => e = .returned (.bool true) ∧ Ext w w' := by
  have AW := Lib.hid (fun (w' : World) (e : Ext w w') => awake_acc e)
  have WD := Lib.hid (words_any lv ls w hx hl hb)
  have HX := Lib.hid hx
  clear hl hb hx
  go_enter Tryd.func4, Tryd.ntmps4
  go_wp2_with fail
  refine (WD.out).mono ?_
  rintro e w1 ⟨R, rfl, e1, hR⟩
  clear WD
  by_cases h1 : 2000 < R
  · have d1 : decide ((2000 : Int) < (R : Int)) = true := decide_eq_true (by omega)
    go_wp2_with fail
    refine (AW.out _ e1).mono ?_
    rintro e w2 ⟨rfl, e2⟩
    go_wp2_with fail
    go_ret
    exact ⟨rfl, e2⟩
  have d1 : decide ((2000 : Int) < (R : Int)) = false := decide_eq_false (by omega)
  obtain ⟨hl, hb⟩ := hR (by omega)
  by_cases h2 : 100 < p.size
  · have d2 : decide ((100 : Int) < (p.size : Int)) = true := decide_eq_true (by omega)
    go_wp2_with fail
    refine (AW.out _ e1).mono ?_
    rintro e w2 ⟨rfl, e2⟩
    go_wp2_with fail
    go_ret
    exact ⟨rfl, e2⟩
  have d2 : decide ((100 : Int) < (p.size : Int)) = false := decide_eq_false (by omega)
  have NW := Lib.hid (fun (w' : World) (e : Ext w w') => new_any lv ls w' (HX.out.ext e) (by omega) (fun _ l h => by have := hb l h; omega) (fun _ l h => anyOk_all _ (by have := pat_few l; have := hb l h; omega)))
  have RU := Lib.hid (fun (w' : World) (e : Ext w w') => rrules_any lv ls w' (HX.out.ext e) (by omega) (fun _ l h => by have := hb l h; omega))
  have E1 := Lib.hid e1
  clear hb hl hR e1
  go_wp2_with fail
  refine (NW.out w1 E1.out).mono ?_
  rintro e w2 ⟨e2, hN⟩
  have E2 := Lib.hid (E1.out.trans e2)
  clear e2 NW
  by_cases h50 : 50 < ls.length
  · rw [if_pos h50] at hN
    subst hN
    go_wp2_with fail
    refine (RU.out w2 E2.out).mono ?_
    rintro e w3 ⟨e3, hN⟩
    have E3 := Lib.hid (E2.out.trans e3)
    rw [if_pos h50] at hN
    subst hN
    clear e3
    go_wp2_with fail
    refine (AW.out _ E3.out).mono ?_
    rintro e w4 ⟨rfl, e4⟩
    go_wp2_with fail
    go_ret
    exact ⟨rfl, e4⟩
  rw [if_neg h50] at hN
  cases hall : (ls.map mkR).all okR with
  | false =>
    rw [if_neg (by rw [hall]; exact Bool.false_ne_true)] at hN
    subst hN
    go_wp2_with fail
    refine (RU.out w2 E2.out).mono ?_
    rintro e w3 ⟨e3, hN⟩
    have E3 := Lib.hid (E2.out.trans e3)
    rw [if_neg h50, if_neg (by rw [hall]; exact Bool.false_ne_true)] at hN
    subst hN
    clear e3
    go_wp2_with fail
    refine (AW.out _ E3.out).mono ?_
    rintro e w4 ⟨rfl, e4⟩
    go_wp2_with fail
    go_ret
    exact ⟨rfl, e4⟩
  | true =>
  rw [if_pos hall] at hN
  obtain ⟨v, rfl, hr⟩ := hN
  have HRL : Hid ((ls.map mkR).length ≤ 1000) := Lib.hid (by rw [List.length_map]; omega)
  have HR2 := Lib.hid hr
  obtain ⟨rb, -, -, -, rfl, -⟩ := hr
  go_wp2_with fail
  refine (RU.out w2 E2.out).mono ?_
  rintro e w3 ⟨e3, hN⟩
  have E3 := Lib.hid (E2.out.trans e3)
  have HR3 := Lib.hid (HR2.out.ext e3)
  rw [if_neg h50, if_pos hall] at hN
  obtain ⟨m, rfl, hg⟩ := hN
  have HG3 := Lib.hid hg
  obtain ⟨gad, gcap, gb, ev, -⟩ := hg
  subst ev
  have LB := Lib.hid (lines_back ls)
  have L100 : Hid (ls.length ≤ 100) := Lib.hid (by omega)
  clear e3 hall h50 RU HR2
  generalize ls.map mkR = rs at *
  have I1 := Lib.hid (ignored_any _ rs p dir w3 HR3.out HRL.out)
  go_wp2_with fail
  refine (I1.out).mono ?_
  rintro e w4 ⟨rfl, e4⟩
  have E4 := Lib.hid (E3.out.trans e4)
  have HR4 := Lib.hid (HR3.out.ext e4)
  have I2 := Lib.hid (rignored_any (p.size + 1) _ rs p dir w4 (by omega) (HG3.out.ext e4) HRL.out)
  clear e4 I1
  go_wp2_with fail
  refine (I2.out).mono ?_
  rintro e w5 ⟨rfl, e5⟩
  have E5 := Lib.hid (E4.out.trans e5)
  have HR5 := Lib.hid (HR4.out.ext e5)
  clear e5 I2
  go_wp2_with fail
  refine (lines_any _ rs w5 HR5.out HRL.out).mono ?_
  rintro e w6 ⟨y, rfl, ty, e6⟩
  have E6 := Lib.hid (E5.out.trans e6)
  rw [LB.out] at ty
  have TX := Lib.hid (texts_alike y lv ls w6 ty.o (HX.out.ext E6.out) L100.out)
  clear e6 ty
  go_wp2_with fail
  refine (TX.out).mono ?_
  rintro e w7 ⟨rfl, e7⟩
  have E7 := Lib.hid (E6.out.trans e7)
  clear e7
  go_wp2_with fail
  refine (AW.out _ E7.out).mono ?_
  rintro e w8 ⟨rfl, e8⟩
  go_wp2_with fail
  go_ret
  exact ⟨rfl, e8⟩
end Go.Proofs.YtoompkmncglmoaaDoor
