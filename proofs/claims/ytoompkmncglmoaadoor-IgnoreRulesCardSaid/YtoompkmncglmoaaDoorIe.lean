/- The contract of Match: the walk that goes back to the last star. -/
import Derived.Test.YtoompkmncglmoaaDoorIb
import Derived.Test.YtoompkmncglmoaaDoorId
import Derived.Test.YtoompkmncglmoaaDoorShc
import Derived.WalkMore
import Derived.BigQuiet
import Derived.Deep.QuietTactic
namespace Go.Proofs.YtoompkmncglmoaaDoor
open Go.RowKit Go.Pth

/-- how far the walk is, as one number. -/
def mea (i a b c d : Nat) : Nat := (((c * 201 + d) * 201 + a) * 201 + b) * 201 + i
def topM : Nat := 328080401000
/-- the three local variables in memory. -/
structure W3 (w wr : World) (i j a b c d : Int) (f h : Bool) : Prop where
  ext : Ext w wr
  c0 : At wr w.heap.size #[.int .i64 i, .int .i64 j] 46
  c1 : At wr (w.heap.size + 1) #[.int .i64 a, .int .i64 b, .bool f] 48
  c2 : At wr (w.heap.size + 1 + 1) #[.int .i64 c, .int .i64 d, .bool h] 48
theorem at_set_other {w : World} {b b' : Nat} {c : Array Value} {t : TypeId} (h : At w b c t) (hb : b ≠ b') (j : Nat) (v : Value) : At (w.setCell ⟨b', j, none⟩ v) b c t :=
  h.keep (Below.heap_setCell _ _ _ _ (by simpa using hb))
theorem ext_set {w wr : World} (h : Ext w wr) (b j : Nat) (hb : w.heap.size ≤ b) (v : Value) : Ext w (wr.setCell ⟨b, j, none⟩ v) :=
  Below.setCell h (p := ⟨b, j, none⟩) hb v
section
variable {w wr : World} {i j a b c d : Int} {f h : Bool}
theorem W3.drew (k : W3 w wr i j a b c d f h) : W3 w wr.drew i j a b c d f h := ⟨k.ext.trans (Ext.drew _), k.c0.ext (Ext.drew _), k.c1.ext (Ext.drew _), k.c2.ext (Ext.drew _)⟩
theorem W3.drewN (k : W3 w wr i j a b c d f h) (n : Nat) : W3 w (wr.drewN n) i j a b c d f h := ⟨k.ext.trans (Ext.drewN _ n), k.c0.ext (Ext.drewN _ n), k.c1.ext (Ext.drewN _ n), k.c2.ext (Ext.drewN _ n)⟩
theorem W3.si (k : W3 w wr i j a b c d f h) (x : Int) : W3 w (wr.setCell ⟨w.heap.size, 0, none⟩ (.int .i64 x)) x j a b c d f h :=
  ⟨ext_set k.ext _ _ (by omega) _, k.c0.set 0 _, at_set_other k.c1 (by omega) _ _, at_set_other k.c2 (by omega) _ _⟩
theorem W3.sj (k : W3 w wr i j a b c d f h) (x : Int) : W3 w (wr.setCell ⟨w.heap.size, 1, none⟩ (.int .i64 x)) i x a b c d f h :=
  ⟨ext_set k.ext _ _ (by omega) _, k.c0.set 1 _, at_set_other k.c1 (by omega) _ _, at_set_other k.c2 (by omega) _ _⟩
theorem W3.sa (k : W3 w wr i j a b c d f h) (x : Int) : W3 w (wr.setCell ⟨w.heap.size + 1, 0, none⟩ (.int .i64 x)) i j x b c d f h :=
  ⟨ext_set k.ext _ _ (by omega) _, at_set_other k.c0 (by omega) _ _, k.c1.set 0 _, at_set_other k.c2 (by omega) _ _⟩
theorem W3.sb (k : W3 w wr i j a b c d f h) (x : Int) : W3 w (wr.setCell ⟨w.heap.size + 1, 1, none⟩ (.int .i64 x)) i j a x c d f h :=
  ⟨ext_set k.ext _ _ (by omega) _, at_set_other k.c0 (by omega) _ _, k.c1.set 1 _, at_set_other k.c2 (by omega) _ _⟩
theorem W3.sf (k : W3 w wr i j a b c d f h) (x : Bool) : W3 w (wr.setCell ⟨w.heap.size + 1, 2, none⟩ (.bool x)) i j a b c d x h :=
  ⟨ext_set k.ext _ _ (by omega) _, at_set_other k.c0 (by omega) _ _, k.c1.set 2 _, at_set_other k.c2 (by omega) _ _⟩
theorem W3.sc (k : W3 w wr i j a b c d f h) (x : Int) : W3 w (wr.setCell ⟨w.heap.size + 1 + 1, 0, none⟩ (.int .i64 x)) i j a b x d f h :=
  ⟨ext_set k.ext _ _ (by omega) _, at_set_other k.c0 (by omega) _ _, at_set_other k.c1 (by omega) _ _, k.c2.set 0 _⟩
theorem W3.sd (k : W3 w wr i j a b c d f h) (x : Int) : W3 w (wr.setCell ⟨w.heap.size + 1 + 1, 1, none⟩ (.int .i64 x)) i j a b c x f h :=
  ⟨ext_set k.ext _ _ (by omega) _, at_set_other k.c0 (by omega) _ _, at_set_other k.c1 (by omega) _ _, k.c2.set 1 _⟩
theorem W3.sh (k : W3 w wr i j a b c d f h) (x : Bool) : W3 w (wr.setCell ⟨w.heap.size + 1 + 1, 2, none⟩ (.bool x)) i j a b c d f x :=
  ⟨ext_set k.ext _ _ (by omega) _, at_set_other k.c0 (by omega) _ _, at_set_other k.c1 (by omega) _ _, k.c2.set 2 _⟩
theorem W3.new (w : World) : W3 w (((w.alloc (.cells #[.int .i64 0, .int .i64 0] 46)).alloc (.cells #[.int .i64 0, .int .i64 0, .bool false] 48)).alloc (.cells #[.int .i64 0, .int .i64 0, .bool false] 48)) 0 0 0 0 0 0 false false := by
  have s1 : (w.alloc (.cells #[.int .i64 0, .int .i64 0] 46)).heap.size = w.heap.size + 1 := size_alloc _ _
  have s2 : ((w.alloc (.cells #[.int .i64 0, .int .i64 0] 46)).alloc (.cells #[.int .i64 0, .int .i64 0, .bool false] 48)).heap.size = w.heap.size + 1 + 1 := by rw [size_alloc, s1]
  refine ⟨((Ext.alloc w _).trans (Ext.alloc _ _)).trans (Ext.alloc _ _), ((At.new w _ _).ext (Ext.alloc _ _)).ext (Ext.alloc _ _), ?_, ?_⟩
  · rw [← s1]; exact (At.new _ _ _).ext (Ext.alloc _ _)
  · rw [← s2]; exact At.new _ _ _
end
def InvM (p s : ByteArray) (w : World) (g : Nat) (wr : World) : Prop :=
  ∃ (i j a b c d : Nat) (f h : Bool), MI p.toList s.toList i j a b f c d h ∧ W3 w wr i j a b c d f h ∧ (h = false → c = 0 ∧ d = 0) ∧ g + mea i a b c d = topM + 1
theorem mea_le {i a b c d : Nat} (h1 : i ≤ 200) (h2 : a ≤ 200) (h3 : b ≤ 200) (h4 : c ≤ 200) (h5 : d ≤ 200) : mea i a b c d ≤ topM := by unfold mea topM; omega
/-- the walk goes on. -/
theorem InvM.next {p s : ByteArray} {w wr' : World} {g : Nat} {i a b c d : Nat} {i' j' a' b' c' d' : Nat} {f' h' : Bool} {I J A B C D : Int} (hg : g + mea i a b c d = topM + 1)
    (hm : mea i a b c d < mea i' a' b' c' d') (hp : p.toList.length ≤ 200) (hs : s.toList.length ≤ 200) (hM : MI p.toList s.toList i' j' a' b' f' c' d' h') (hW : W3 w wr' I J A B C D f' h')
    (e1 : I = i') (e2 : J = j') (e3 : A = a') (e4 : B = b') (e5 : C = c') (e6 : D = d') (hh : h' = false → c' = 0 ∧ d' = 0) : topM + 1 - mea i' a' b' c' d' < g ∧ InvM p s w (topM + 1 - mea i' a' b' c' d') wr' := by
  have h1 := hM.hi; have h2 := hM.hj; have h3 := hM.ha; have h4 := hM.hb; have h5 := hM.hc; have h6 := hM.hd
  have := mea_le (i := i') (a := a') (b := b') (c := c') (d := d') (by omega) (by omega) (by omega) (by omega) (by omega)
  refine ⟨by omega, i', j', a', b', c', d', f', h', hM, ?_, hh, by omega⟩
  rw [← e1, ← e2, ← e3, ← e4, ← e5, ← e6]; exact hW

section
variable {p s : ByteArray} {w : World} {g : Nat} {i j a b c d : Nat} {f h : Bool}
theorem step_two (HM : MI p.toList s.toList i j a b f c d h) (hg : g + mea i a b c d = topM + 1) (hp : p.toList.length ≤ 200) (hs : s.toList.length ≤ 200) (h1 : p.toList[i]? = some 42) (h2 : p.toList[i + 1]? = some 42) :
    topM + 1 - mea (i + 2) 0 0 (i + 2) j < g ∧ ∀ wz, W3 w wz (↑i + 2) j 0 0 (↑i + 2) j false true → InvM p s w (topM + 1 - mea (i + 2) 0 0 (i + 2) j) wz := by
  have k1 := HM.hi; have k2 := HM.hj; have k3 := HM.ha; have k4 := HM.hb; have k5 := HM.hc; have k6 := HM.hd
  have N := HM.two h1 h2
  have k7 := N.hi
  have hm : mea i a b c d < mea (i + 2) 0 0 (i + 2) j := by unfold mea; omega
  have hl := mea_le (i := i + 2) (a := 0) (b := 0) (c := i + 2) (d := j) (by omega) (by omega) (by omega) (by omega) (by omega)
  exact ⟨by omega, fun wz hz => (InvM.next hg hm hp hs N hz (by omega) rfl rfl rfl (by omega) rfl (fun h => by cases h)).2⟩
theorem step_one (HM : MI p.toList s.toList i j a b f c d h) (hg : g + mea i a b c d = topM + 1) (hp : p.toList.length ≤ 200) (hs : s.toList.length ≤ 200) (h1 : p.toList[i]? = some 42) (h2 : p.toList[i + 1]? ≠ some 42) (hh : h = false → c = 0 ∧ d = 0) :
    topM + 1 - mea (i + 1) (i + 1) j c d < g ∧ ∀ wz, W3 w wz (↑i + 1) j (↑i + 1) j c d true h → InvM p s w (topM + 1 - mea (i + 1) (i + 1) j c d) wz := by
  have k1 := HM.hi; have k2 := HM.hj; have k3 := HM.ha; have k4 := HM.hb; have k5 := HM.hc; have k6 := HM.hd
  have N := HM.one h1 h2
  have k7 := N.hi
  have hm : mea i a b c d < mea (i + 1) (i + 1) j c d := by unfold mea; omega
  have hl := mea_le (i := i + 1) (a := i + 1) (b := j) (c := c) (d := d) (by omega) (by omega) (by omega) (by omega) (by omega)
  exact ⟨by omega, fun wz hz => (InvM.next hg hm hp hs N hz (by omega) rfl (by omega) rfl rfl rfl hh).2⟩
theorem step_lit {x y : UInt8} (HM : MI p.toList s.toList i j a b f c d h) (hg : g + mea i a b c d = topM + 1) (hp : p.toList.length ≤ 200) (hs : s.toList.length ≤ 200) (h1 : p.toList[i]? = some x) (hx : x ≠ 42) (h2 : s.toList[j]? = some y) (hc : Ch x y) (hh : h = false → c = 0 ∧ d = 0) :
    topM + 1 - mea (i + 1) a b c d < g ∧ ∀ wz, W3 w wz (↑i + 1) (↑j + 1) a b c d f h → InvM p s w (topM + 1 - mea (i + 1) a b c d) wz := by
  have k1 := HM.hi; have k2 := HM.hj; have k3 := HM.ha; have k4 := HM.hb; have k5 := HM.hc; have k6 := HM.hd
  have N := HM.lit h1 hx h2 hc
  have k7 := N.hi
  have hm : mea i a b c d < mea (i + 1) a b c d := by unfold mea; omega
  have hl := mea_le (i := i + 1) (a := a) (b := b) (c := c) (d := d) (by omega) (by omega) (by omega) (by omega) (by omega)
  exact ⟨by omega, fun wz hz => (InvM.next hg hm hp hs N hz (by omega) (by omega) rfl rfl rfl rfl hh).2⟩
theorem step_again1 (HM : MI p.toList s.toList i j a b true c d h) (hg : g + mea i a b c d = topM + 1) (hp : p.toList.length ≤ 200) (hs : s.toList.length ≤ 200) (hm0 : Miss p.toList s.toList i j) (h4 : s.toList[b]? ≠ some 47) (hh : h = false → c = 0 ∧ d = 0) :
    topM + 1 - mea a a (b + 1) c d < g ∧ ∀ wz, W3 w wz a (↑b + 1) a (↑b + 1) c d true h → InvM p s w (topM + 1 - mea a a (b + 1) c d) wz := by
  have k1 := HM.hi; have k2 := HM.hj; have k3 := HM.ha; have k4 := HM.hb; have k5 := HM.hc; have k6 := HM.hd
  have N := HM.again1 hm0 h4
  have k7 := N.hi; have k8 := N.hb; have k9 := N.hj
  have hm : mea i a b c d < mea a a (b + 1) c d := by unfold mea; omega
  have hl := mea_le (i := a) (a := a) (b := b + 1) (c := c) (d := d) (by omega) (by omega) (by omega) (by omega) (by omega)
  exact ⟨by omega, fun wz hz => (InvM.next hg hm hp hs N hz rfl (by omega) rfl (by omega) rfl rfl hh).2⟩
theorem step_again2 (HM : MI p.toList s.toList i j a b f c d true) (hg : g + mea i a b c d = topM + 1) (hp : p.toList.length ≤ 200) (hs : s.toList.length ≤ 200) (hm0 : Miss p.toList s.toList i j) (h4 : f = true → s.toList[b]? = some 47) :
    topM + 1 - mea c 0 0 c (d + 1) < g ∧ ∀ wz, W3 w wz c (↑d + 1) 0 0 c (↑d + 1) false true → InvM p s w (topM + 1 - mea c 0 0 c (d + 1)) wz := by
  have k1 := HM.hi; have k2 := HM.hj; have k3 := HM.ha; have k4 := HM.hb; have k5 := HM.hc; have k6 := HM.hd
  have N := HM.again2 hm0 h4
  have k7 := N.hi; have k8 := N.hb; have k9 := N.hj
  have hm : mea i a b c d < mea c 0 0 c (d + 1) := by unfold mea; omega
  have hl := mea_le (i := c) (a := 0) (b := 0) (c := c) (d := d + 1) (by omega) (by omega) (by omega) (by omega) (by omega)
  exact ⟨by omega, fun wz hz => (InvM.next hg hm hp hs N hz rfl (by omega) rfl rfl rfl (by omega) (fun h => by cases h)).2⟩
end
theorem hasPrefix_two (l : List UInt8) (i : Nat) : Lib.hasPrefix (l.drop i) [42, 42] = ((l[i]? == some 42) && (l[i + 1]? == some 42)) := by
  unfold Lib.hasPrefix
  rw [Bool.eq_iff_iff, List.isPrefixOf_iff_prefix]
  constructor
  · rintro ⟨t, ht⟩
    have h0 := congrArg (fun x => x[0]?) ht
    have h1 := congrArg (fun x => x[1]?) ht
    simp at h0 h1
    simp [← h0, ← h1]
  · intro h
    simp only [Bool.and_eq_true, beq_iff_eq] at h
    obtain ⟨h1, h2⟩ := h
    obtain ⟨l1, e1⟩ := List.getElem?_eq_some_iff.mp h1
    obtain ⟨l2, e2⟩ := List.getElem?_eq_some_iff.mp h2
    rw [List.drop_eq_getElem_cons l1, List.drop_eq_getElem_cons l2, e1, e2]
    exact ⟨_, rfl⟩
theorem hasPrefix_one (l : List UInt8) (i : Nat) (c : UInt8) : Lib.hasPrefix (l.drop i) [c] = (l[i]? == some c) := by
  unfold Lib.hasPrefix
  rw [Bool.eq_iff_iff, List.isPrefixOf_iff_prefix]
  constructor
  · rintro ⟨t, ht⟩
    have h0 := congrArg (fun x => x[0]?) ht
    simp at h0
    simp [← h0]
  · intro h
    simp only [beq_iff_eq] at h
    obtain ⟨l1, e1⟩ := List.getElem?_eq_some_iff.mp h
    rw [List.drop_eq_getElem_cons l1, e1]
    exact ⟨_, rfl⟩
theorem ext_drop (s : ByteArray) (i : Nat) : (s.extract i s.size).toList = s.toList.drop i := by
  rw [tx_cut, List.take_of_length_le]; rw [List.length_drop, size_list]; exact Nat.le_refl _

theorem pre_any (s : ByteArray) (i : Nat) (w : World) : Calls Tryd.prog 23 #[.string (s.extract i s.size), .string ⟨#[42]⟩] w fun e w' => e = .returned (.bool (s.toList[i]? == some 42)) ∧ w' = w := by
  refine (Tryd.strings_HasPrefix _ _ w).mono ?_
  rintro e w' ⟨rfl, rfl⟩
  refine ⟨?_, rfl⟩
  rw [← ByteArray.toList_eq, ext_drop, ← hasPrefix_one]
theorem pre2_any (s : ByteArray) (i : Nat) (w : World) : Calls Tryd.prog 23 #[.string (s.extract i s.size), .string ⟨#[42, 42]⟩] w fun e w' => e = .returned (.bool ((s.toList[i]? == some 42) && (s.toList[i + 1]? == some 42))) ∧ w' = w := by
  refine (Tryd.strings_HasPrefix _ _ w).mono ?_
  rintro e w' ⟨rfl, rfl⟩
  refine ⟨?_, rfl⟩
  rw [← ByteArray.toList_eq, ext_drop, ← hasPrefix_two]

set_option maxRecDepth 100000 in
set_option maxHeartbeats 40000000 in
theorem match_any (p s : ByteArray) (w : World) : Calls Tryd.prog 9 #[.string p, .string s] w fun e w' => e = .returned (.bool (mB p.toList s.toList)) ∧ Ext w w' := by
  have hp := Lib.hid (size_list p)
  have hs := Lib.hid (size_list s)
  by_cases h0 : 200 < p.size ∨ 200 < s.size
  · have r : mB p.toList s.toList = false := by
      unfold mB
      rw [← hp.out, ← hs.out]
      rcases h0 with h0 | h0
      · rw [decide_eq_true h0]; rfl
      · rw [decide_eq_true (p := 200 < s.size) h0, Bool.or_true]; rfl
    by_cases h1 : 200 < p.size
    · have c0 : decide ((200 : Int) < (p.size : Int)) = true := decide_eq_true (by omega)
      clear h0 h1
      go_enter Tryd.func9, Tryd.ntmps9
      go_wp2; go_step3; go_wp2
      rw [Exit.noGoto_ret]
      go_ret
      exact ⟨retbb r.symm, Ext.refl w⟩
    · have c0 : decide ((200 : Int) < (p.size : Int)) = false := decide_eq_false (by omega)
      have c1 : decide ((200 : Int) < (s.size : Int)) = true := decide_eq_true (by omega)
      clear h0 h1
      go_enter Tryd.func9, Tryd.ntmps9
      go_wp2; go_step3; go_wp2
      rw [Exit.noGoto_ret]
      go_ret
      exact ⟨retbb r.symm, Ext.refl w⟩
  · have c0 : decide ((200 : Int) < (p.size : Int)) = false := decide_eq_false (by omega)
    have c1 : decide ((200 : Int) < (s.size : Int)) = false := decide_eq_false (by omega)
    have hpl : p.size ≤ 200 := by omega
    have hsl : s.size ≤ 200 := by omega
    have R : Hid (mB p.toList s.toList = mat p.toList s.toList) := Lib.hid (by
      unfold mB; rw [← hp.out, ← hs.out, decide_eq_false (by omega), decide_eq_false (p := 200 < s.size) (by omega)]; rfl)
    clear h0
    go_enter Tryd.func9, Tryd.ntmps9
    go_wp2; go_step3; go_wp2; go_step3; go_wp2
    go_loopg [8] (topM + 1) (fun g s8 wr => s8 = .bool false ∧ InvM p s w g wr)
    case atStart => exact ⟨rfl, 0, 0, 0, 0, 0, 0, false, false, MI.start _ _, W3.new w, fun _ => ⟨rfl, rfl⟩, rfl⟩
    case round =>
      obtain ⟨rfl, i, j, a, b, c, d, f, h, hmi, hw, hh0, hme⟩ := hrel
      have HM := Lib.hid hmi
      have HW := Lib.hid hw
      have HH := Lib.hid hh0
      have HME := Lib.hid hme
      have hi : i ≤ p.size := by rw [hp.out]; exact hmi.hi
      have hj : j ≤ s.size := by rw [hs.out]; exact hmi.hj
      have i0 : (0 : Int) ≤ (i : Int) := by omega
      have i1 : (i : Int) ≤ (p.size : Int) := by omega
      have x0 : wr.cell? ⟨w.heap.size, 0, none⟩ = some (.int .i64 i) := by rw [hw.c0.cell]; rfl
      have x1 : wr.cell? ⟨w.heap.size, 1, none⟩ = some (.int .i64 j) := by rw [hw.c0.cell]; rfl
      have x2 : wr.cell? ⟨w.heap.size + 1, 0, none⟩ = some (.int .i64 a) := by rw [hw.c1.cell]; rfl
      have x3 : wr.cell? ⟨w.heap.size + 1, 1, none⟩ = some (.int .i64 b) := by rw [hw.c1.cell]; rfl
      have x4 : wr.cell? ⟨w.heap.size + 1, 2, none⟩ = some (.bool f) := by rw [hw.c1.cell]; rfl
      have x5 : wr.cell? ⟨w.heap.size + 1 + 1, 0, none⟩ = some (.int .i64 c) := by rw [hw.c2.cell]; rfl
      have x6 : wr.cell? ⟨w.heap.size + 1 + 1, 1, none⟩ = some (.int .i64 d) := by rw [hw.c2.cell]; rfl
      have x7 : wr.cell? ⟨w.heap.size + 1 + 1, 2, none⟩ = some (.bool h) := by rw [hw.c2.cell]; rfl
      have y0 : wr.frozen? ⟨w.heap.size, 0, none⟩ = false := hw.c0.frozen 0
      have y1 : wr.frozen? ⟨w.heap.size, 1, none⟩ = false := hw.c0.frozen 1
      have y2 : wr.frozen? ⟨w.heap.size + 1, 0, none⟩ = false := hw.c1.frozen 0
      have y3 : wr.frozen? ⟨w.heap.size + 1, 1, none⟩ = false := hw.c1.frozen 1
      have y4 : wr.frozen? ⟨w.heap.size + 1, 2, none⟩ = false := hw.c1.frozen 2
      have y5 : wr.frozen? ⟨w.heap.size + 1 + 1, 0, none⟩ = false := hw.c2.frozen 0
      have y6 : wr.frozen? ⟨w.heap.size + 1 + 1, 1, none⟩ = false := hw.c2.frozen 1
      have y7 : wr.frozen? ⟨w.heap.size + 1 + 1, 2, none⟩ = false := hw.c2.frozen 2
      have hP : Hid (p.toList.length ≤ 200) := Lib.hid (by rw [← hp.out]; omega)
      have hS : Hid (s.toList.length ≤ 200) := Lib.hid (by rw [← hs.out]; omega)
      clear hmi hw hh0 hme
      cases h42 : (p.toList[i]? == some 42) && (p.toList[i + 1]? == some 42) with
      | true =>
        have HB := Lib.hid h42
        have hc := pre2_any p i
        rw [h42] at hc
        have Hc := Lib.hid hc
        clear h42 hc
        go_wp2_with fail
        refine (Hc.out wr).mono ?_
        rintro e w' ⟨rfl, rfl⟩
        go_wp2_with fail
        go_region
        go_wp2_with fail
        have hb := HB.out
        simp only [Bool.and_eq_true, beq_iff_eq] at hb
        have hn := step_two (w := w) HM.out HME.out hP.out hS.out hb.1 hb.2
        have W4 := (((((((HW.out.si (↑i + 2)).sa 0).sb 0).sf false).sc (↑i + 2)).sd j).sh true).drew
        go_roundg (topM + 1 - mea (i + 2) 0 0 (i + 2) j)
        case measure => exact hn.1
        case rel => exact ⟨rfl, hn.2 _ W4⟩
      | false =>
        cases h1 : (p.toList[i]? == some 42) with
        | true =>
          have HB := Lib.hid h42
          have HB1 := Lib.hid h1
          have hc := pre2_any p i
          rw [h42] at hc
          have Hc := Lib.hid hc
          have hc1 := pre_any p i
          rw [h1] at hc1
          have Hc1 := Lib.hid hc1
          clear h42 hc h1 hc1
          go_wp2_with fail
          refine (Hc.out wr).mono ?_
          rintro e w' ⟨rfl, rfl⟩
          go_wp2_with fail
          refine (Hc1.out w').mono ?_
          rintro e w'' ⟨rfl, rfl⟩
          go_wp2_with fail
          have hb : p.toList[i]? = some 42 := by simpa using HB1.out
          have hb2 : p.toList[i + 1]? ≠ some 42 := by
            intro h3
            have := HB.out
            rw [hb, h3] at this
            cases this
          have hn := step_one (w := w) HM.out HME.out hP.out hS.out hb hb2 HH.out
          have W4 := (((HW.out.si (↑i + 1)).sa (↑i + 1)).sb j).sf true
          go_roundg (topM + 1 - mea (i + 1) (i + 1) j c d)
          case measure => exact hn.1
          case rel => exact ⟨rfl, hn.2 _ W4⟩
        | false =>
          have HB1 := Lib.hid h1
          have hc := pre2_any p i
          rw [h42] at hc
          have Hc := Lib.hid hc
          have hc1 := pre_any p i
          rw [h1] at hc1
          have Hc1 := Lib.hid hc1
          clear h42 hc h1 hc1
          by_cases hjs : j = s.size
          · have cj : ((j : Int) == (s.size : Int)) = true := by rw [hjs]; exact beq_self_eq_true _
            have hb1 : p.toList[i]? ≠ some 42 := by simpa using HB1.out
            have Fin := Lib.hid (HM.out.fin hb1 (by rw [← hs.out]; exact hjs))
            clear hjs hb1
            go_wp2_with fail
            refine (Hc.out wr).mono ?_
            rintro e w' ⟨rfl, rfl⟩
            go_wp2_with fail
            refine (Hc1.out w').mono ?_
            rintro e w'' ⟨rfl, rfl⟩
            go_wp2_with fail
            rw [Exit.noGoto_ret]
            go_ret
            refine ⟨retbb ?_, HW.out.ext⟩
            rw [R.out, Bool.eq_iff_iff, mat_iff, Fin.out, List.isEmpty_iff, ext_drop, List.drop_eq_nil_iff, ← hp.out]
            omega
          · have cj : ((j : Int) == (s.size : Int)) = false := by
              rw [beq_eq_false_iff_ne]; omega
            have hjl : j < s.size := by omega
            clear hjs
            by_cases hil : i < p.size
            · have hp1 := Lib.hid (tx_get p i hil)
              have hs1 := Lib.hid (tx_get s j hjl)
              have j0 : (0 : Int) ≤ (j : Int) := by omega
              have j1 : (j : Int) < (s.size : Int) := by omega
              obtain ⟨r, hr⟩ : ∃ r, r = p.extract i p.size := ⟨_, rfl⟩
              have zs : r.size = p.size - i := by rw [hr]; simp
              have g2 : 0 < r.size := by omega
              have gE : r.toList.isEmpty = false := by
                rw [← Bool.not_eq_true, List.isEmpty_iff]
                intro h3
                have := congrArg List.length h3
                rw [← size_list, List.length_nil] at this
                omega
              have g0 := Lib.hid (show r[0] = p[i] from by subst hr; simp [ByteArray.getElem_extract])
              have g1 : (0 : Int) < (r.size : Int) := by omega
              have HR := Lib.hid hr
              clear zs hr
              cases hst : chB r[0].toNat s[j].toNat with
              | true =>
                have hc2 := standsFor_any r[0].toNat s[j].toNat
                rw [hst] at hc2
                have Hc2 := Lib.hid hc2
                have HST := Lib.hid hst
                clear hc2 hst
                go_wp2_with fail
                refine (Hc.out wr).mono ?_
                rintro e w' ⟨rfl, rfl⟩
                go_wp2_with fail
                refine (Hc1.out w').mono ?_
                rintro e w'' ⟨rfl, rfl⟩
                go_wp2_with fail
                rw [← HR.out]
                go_quiet ((go_at_call 24; exact Calls.quiet_of_same (Hc2.out _)))
                go_wp2_with fail
                have hb1 : p[i] ≠ 42 := by
                  have := HB1.out
                  rw [hp1.out] at this
                  intro h3
                  rw [h3] at this; cases this
                have hch : Ch p[i] s[j] := by rw [← g0.out]; exact (chB_iff _ _).mp HST.out
                have hn := step_lit (w := w) HM.out HME.out hP.out hS.out hp1.out hb1 hs1.out hch HH.out
                have W4 := ((W3.drewN HW.out nq).si (↑i + 1)).sj (↑j + 1)
                go_roundg (topM + 1 - mea (i + 1) a b c d)
                case measure => exact hn.1
                case rel => exact ⟨rfl, hn.2 _ W4⟩
              | false =>
                have hc2 := standsFor_any r[0].toNat s[j].toNat
                rw [hst] at hc2
                have Hc2 := Lib.hid hc2
                have HMS : Hid (Miss p.toList s.toList i j) := Lib.hid (by
                  refine ⟨by rw [← hs.out]; exact hjl, by simpa using HB1.out, ?_⟩
                  intro x y hx hy hxy
                  rw [hp1.out] at hx; rw [hs1.out] at hy
                  injection hx with hx; injection hy with hy
                  subst hx; subst hy
                  rw [← g0.out] at hxy
                  have := (chB_iff _ _).mpr hxy
                  rw [hst] at this; cases this)
                clear hc2 hst
                have hbs : b < s.size := by have := HM.out.hb; omega
                have hbg := Lib.hid (tx_get s b hbs)
                have b0 : (0 : Int) ≤ (b : Int) := by omega
                have b1 : (b : Int) < (s.size : Int) := by omega
                have hds : d ≤ s.size := by have := HM.out.hd; omega
                have two := fun (f : Bool) (hf : Hid (f = true → s.toList[b]? = some 47)) (hm : MI p.toList s.toList i j a b f c d true) => step_again2 (w := w) hm HME.out hP.out hS.out HMS.out hf.out
                have Two := Lib.hid two
                clear two
                cases f with
                | true =>
                  cases h47 : ((s[b].toNat : Int) == 47) with
                  | true =>
                    have HF : Hid (true = true → s.toList[b]? = some 47) := Lib.hid (fun _ => by
                      rw [hbg.out]; congr 1
                      have h5 : (s[b].toNat : Int) = 47 := beq_iff_eq.mp h47
                      exact UInt8.toNat_inj.mp (show s[b].toNat = 47 from by omega))
                    have h48 : ((s[b].toNat : Int) != 47) = false := by rw [bne, h47]; rfl
                    clear h47
                    cases h with
                    | true =>
                      have Tw := Lib.hid (Two.out _ HF HM.out)
                      go_wp2_with fail
                      refine (Hc.out wr).mono ?_
                      rintro e w' ⟨rfl, rfl⟩
                      go_wp2_with fail
                      refine (Hc1.out w').mono ?_
                      rintro e w'' ⟨rfl, rfl⟩
                      go_wp2_with fail
                      rw [← HR.out]
                      go_quiet ((go_at_call 24; exact Calls.quiet_of_same (Hc2.out _)))
                      go_wp2_with fail
                      have W4 := ((((((((W3.drewN HW.out nq)).sa 0).sb 0).sf false).sd (↑d + 1)).si ↑c).sj (↑d + 1))
                      go_roundg (topM + 1 - mea c 0 0 c (d + 1))
                      case measure => exact Tw.out.1
                      case rel => exact ⟨rfl, Tw.out.2 _ W4⟩
                    | false =>
                      have No := Lib.hid (MI.none HM.out HMS.out HF.out)
                      go_wp2_with fail
                      refine (Hc.out wr).mono ?_
                      rintro e w' ⟨rfl, rfl⟩
                      go_wp2_with fail
                      refine (Hc1.out w').mono ?_
                      rintro e w'' ⟨rfl, rfl⟩
                      go_wp2_with fail
                      rw [← HR.out]
                      go_quiet ((go_at_call 24; exact Calls.quiet_of_same (Hc2.out _)))
                      go_wp2_with fail
                      rw [Exit.noGoto_ret]
                      go_ret
                      refine ⟨retbb ?_, (W3.drewN HW.out nq).ext⟩
                      rw [R.out, eq_comm, ← Bool.not_eq_true, mat_iff]; exact No.out
                  | false =>
                    have h48 : ((s[b].toNat : Int) != 47) = true := by rw [bne, h47]; rfl
                    have HF : Hid (s.toList[b]? ≠ some 47) := Lib.hid (by
                      rw [hbg.out]; intro h5
                      injection h5 with h5
                      rw [h5] at h47; cases h47)
                    have hn := step_again1 (w := w) HM.out HME.out hP.out hS.out HMS.out HF.out HH.out
                    have Hn := Lib.hid hn
                    clear h47 hn
                    go_wp2_with fail
                    refine (Hc.out wr).mono ?_
                    rintro e w' ⟨rfl, rfl⟩
                    go_wp2_with fail
                    refine (Hc1.out w').mono ?_
                    rintro e w'' ⟨rfl, rfl⟩
                    go_wp2_with fail
                    rw [← HR.out]
                    go_quiet ((go_at_call 24; exact Calls.quiet_of_same (Hc2.out _)))
                    go_wp2_with fail
                    have W4 := ((((W3.drewN HW.out nq).sb (↑b + 1)).si ↑a).sj (↑b + 1))
                    go_roundg (topM + 1 - mea a a (b + 1) c d)
                    case measure => exact Hn.out.1
                    case rel => exact ⟨rfl, Hn.out.2 _ W4⟩
                | false =>
                  have HF : Hid (false = true → s.toList[b]? = some 47) := Lib.hid (fun h => by cases h)
                  cases h with
                  | true =>
                    have Tw := Lib.hid (Two.out _ HF HM.out)
                    go_wp2_with fail
                    refine (Hc.out wr).mono ?_
                    rintro e w' ⟨rfl, rfl⟩
                    go_wp2_with fail
                    refine (Hc1.out w').mono ?_
                    rintro e w'' ⟨rfl, rfl⟩
                    go_wp2_with fail
                    rw [← HR.out]
                    go_quiet ((go_at_call 24; exact Calls.quiet_of_same (Hc2.out _)))
                    go_wp2_with fail
                    have W4 := ((((((((W3.drewN HW.out nq)).sa 0).sb 0).sf false).sd (↑d + 1)).si ↑c).sj (↑d + 1))
                    go_roundg (topM + 1 - mea c 0 0 c (d + 1))
                    case measure => exact Tw.out.1
                    case rel => exact ⟨rfl, Tw.out.2 _ W4⟩
                  | false =>
                    have No := Lib.hid (MI.none HM.out HMS.out HF.out)
                    go_wp2_with fail
                    refine (Hc.out wr).mono ?_
                    rintro e w' ⟨rfl, rfl⟩
                    go_wp2_with fail
                    refine (Hc1.out w').mono ?_
                    rintro e w'' ⟨rfl, rfl⟩
                    go_wp2_with fail
                    rw [← HR.out]
                    go_quiet ((go_at_call 24; exact Calls.quiet_of_same (Hc2.out _)))
                    go_wp2_with fail
                    rw [Exit.noGoto_ret]
                    go_ret
                    refine ⟨retbb ?_, (W3.drewN HW.out nq).ext⟩
                    rw [R.out, eq_comm, ← Bool.not_eq_true, mat_iff]; exact No.out
            · obtain ⟨r, hr⟩ : ∃ r, r = p.extract i p.size := ⟨_, rfl⟩
              have zs : r.size = p.size - i := by rw [hr]; simp
              have gE : r.toList.isEmpty = true := by
                rw [List.isEmpty_iff]
                apply List.eq_nil_of_length_eq_zero
                rw [← size_list]; omega
              have HR := Lib.hid hr
              have HMS : Hid (Miss p.toList s.toList i j) := Lib.hid (by
                refine ⟨by rw [← hs.out]; exact hjl, by simpa using HB1.out, ?_⟩
                intro x y hx hy hxy
                rw [List.getElem?_eq_none (by rw [← hp.out]; omega)] at hx; cases hx)
              clear zs hr
              have hbs : b < s.size := by have := HM.out.hb; omega
              have hbg := Lib.hid (tx_get s b hbs)
              have b0 : (0 : Int) ≤ (b : Int) := by omega
              have b1 : (b : Int) < (s.size : Int) := by omega
              have hds : d ≤ s.size := by have := HM.out.hd; omega
              have two := fun (f : Bool) (hf : Hid (f = true → s.toList[b]? = some 47)) (hm : MI p.toList s.toList i j a b f c d true) => step_again2 (w := w) hm HME.out hP.out hS.out HMS.out hf.out
              have Two := Lib.hid two
              clear two
              cases f with
              | true =>
                cases h47 : ((s[b].toNat : Int) == 47) with
                | true =>
                  have HF : Hid (true = true → s.toList[b]? = some 47) := Lib.hid (fun _ => by
                    rw [hbg.out]; congr 1
                    have h5 : (s[b].toNat : Int) = 47 := beq_iff_eq.mp h47
                    exact UInt8.toNat_inj.mp (show s[b].toNat = 47 from by omega))
                  have h48 : ((s[b].toNat : Int) != 47) = false := by rw [bne, h47]; rfl
                  clear h47
                  cases h with
                  | true =>
                    have Tw := Lib.hid (Two.out _ HF HM.out)
                    go_wp2_with fail
                    refine (Hc.out wr).mono ?_
                    rintro e w' ⟨rfl, rfl⟩
                    go_wp2_with fail
                    refine (Hc1.out w').mono ?_
                    rintro e w'' ⟨rfl, rfl⟩
                    go_wp2_with fail
                    rw [← HR.out]
                    go_quiet (fail)
                    go_wp2_with fail
                    have W4 := ((((((((W3.drewN HW.out nq)).sa 0).sb 0).sf false).sd (↑d + 1)).si ↑c).sj (↑d + 1))
                    go_roundg (topM + 1 - mea c 0 0 c (d + 1))
                    case measure => exact Tw.out.1
                    case rel => exact ⟨rfl, Tw.out.2 _ W4⟩
                  | false =>
                    have No := Lib.hid (MI.none HM.out HMS.out HF.out)
                    go_wp2_with fail
                    refine (Hc.out wr).mono ?_
                    rintro e w' ⟨rfl, rfl⟩
                    go_wp2_with fail
                    refine (Hc1.out w').mono ?_
                    rintro e w'' ⟨rfl, rfl⟩
                    go_wp2_with fail
                    rw [← HR.out]
                    go_quiet (fail)
                    go_wp2_with fail
                    rw [Exit.noGoto_ret]
                    go_ret
                    refine ⟨retbb ?_, (W3.drewN HW.out nq).ext⟩
                    rw [R.out, eq_comm, ← Bool.not_eq_true, mat_iff]; exact No.out
                | false =>
                  have h48 : ((s[b].toNat : Int) != 47) = true := by rw [bne, h47]; rfl
                  have HF : Hid (s.toList[b]? ≠ some 47) := Lib.hid (by
                    rw [hbg.out]; intro h5
                    injection h5 with h5
                    rw [h5] at h47; cases h47)
                  have hn := step_again1 (w := w) HM.out HME.out hP.out hS.out HMS.out HF.out HH.out
                  have Hn := Lib.hid hn
                  clear h47 hn
                  go_wp2_with fail
                  refine (Hc.out wr).mono ?_
                  rintro e w' ⟨rfl, rfl⟩
                  go_wp2_with fail
                  refine (Hc1.out w').mono ?_
                  rintro e w'' ⟨rfl, rfl⟩
                  go_wp2_with fail
                  rw [← HR.out]
                  go_quiet (fail)
                  go_wp2_with fail
                  have W4 := ((((W3.drewN HW.out nq).sb (↑b + 1)).si ↑a).sj (↑b + 1))
                  go_roundg (topM + 1 - mea a a (b + 1) c d)
                  case measure => exact Hn.out.1
                  case rel => exact ⟨rfl, Hn.out.2 _ W4⟩
              | false =>
                have HF : Hid (false = true → s.toList[b]? = some 47) := Lib.hid (fun h => by cases h)
                cases h with
                | true =>
                  have Tw := Lib.hid (Two.out _ HF HM.out)
                  go_wp2_with fail
                  refine (Hc.out wr).mono ?_
                  rintro e w' ⟨rfl, rfl⟩
                  go_wp2_with fail
                  refine (Hc1.out w').mono ?_
                  rintro e w'' ⟨rfl, rfl⟩
                  go_wp2_with fail
                  rw [← HR.out]
                  go_quiet (fail)
                  go_wp2_with fail
                  have W4 := ((((((((W3.drewN HW.out nq)).sa 0).sb 0).sf false).sd (↑d + 1)).si ↑c).sj (↑d + 1))
                  go_roundg (topM + 1 - mea c 0 0 c (d + 1))
                  case measure => exact Tw.out.1
                  case rel => exact ⟨rfl, Tw.out.2 _ W4⟩
                | false =>
                  have No := Lib.hid (MI.none HM.out HMS.out HF.out)
                  go_wp2_with fail
                  refine (Hc.out wr).mono ?_
                  rintro e w' ⟨rfl, rfl⟩
                  go_wp2_with fail
                  refine (Hc1.out w').mono ?_
                  rintro e w'' ⟨rfl, rfl⟩
                  go_wp2_with fail
                  rw [← HR.out]
                  go_quiet (fail)
                  go_wp2_with fail
                  rw [Exit.noGoto_ret]
                  go_ret
                  refine ⟨retbb ?_, (W3.drewN HW.out nq).ext⟩
                  rw [R.out, eq_comm, ← Bool.not_eq_true, mat_iff]; exact No.out
end Go.Proofs.YtoompkmncglmoaaDoor
