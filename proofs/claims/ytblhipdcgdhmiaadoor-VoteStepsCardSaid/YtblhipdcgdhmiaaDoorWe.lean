/- The contract of '(*Hasher).Add'. -/
import Derived.Test.YtblhipdcgdhmiaaDoorWd
import Derived.Test.YtblhipdcgdhmiaaDoorSpec2
namespace Go.Proofs.YtblhipdcgdhmiaaDoor
open Go.RowKit Go.Sha

theorem sz5 : (Tryd.prog.info? 5).map (·.size) = some 1 := by kernel_rfl

def InvA (w : World) (bh : Nat) (l m : List Int) (sb so : Nat) (v : Value) (wr : World) : Prop :=
  ∃ j ad c, j ≤ m.length ∧ v = .slice ad (m.length - j) c ∧ m.length - j ≤ c ∧ (j < m.length → ad = some ⟨sb, so + j, none⟩) ∧ Only bh w wr ∧ Rep wr bh (l ++ m.take j)

theorem inv_close (w w' : World) (bh : Nat) (l m x : List Int) (sb so j q r c2 : Nat) (ad ad0 : Option Addr) (c : Nat) (hj : j < m.length) (hr : r = m.length - j) (hq0 : 0 < q) (hqr : q ≤ r) (hc : r - q ≤ c2) (hxs : m.take j ++ x = m.take (j + q))
    (had : q < r → ad = some ⟨sb, so + j + q, none⟩) (ho : Only bh w w') (hrep : Rep w' bh ((l ++ m.take j) ++ x)) :
    InvA w bh l m sb so (.slice ad (r - q) c2) w' ∧ sliceLen (.slice ad (r - q) c2) < sliceLen (.slice ad0 r c) := by
  refine ⟨⟨j + q, _, c2, by omega, by rw [show m.length - (j + q) = r - q by omega], by omega, fun h => ?_, ho, ?_⟩, ?_⟩
  · rw [had (by omega), Nat.add_assoc]
  · rw [List.append_assoc, hxs] at hrep; exact hrep
  · show r - q < r; omega

set_option maxHeartbeats 1000000 in
set_option maxRecDepth 100000 in
theorem add_any (bh : Nat) (l m : List Int) (v : Value) (ad : Option Addr) (cap sb so : Nat) (w : World) (hK : KAt w) (hb0 : bh ≠ 0) (hr : Rep w bh l) (hlen : l.length + m.length < 4611686018427387904)
    (hv : v = .slice ad m.length cap) (hcap : m.length ≤ cap) (had : 0 < m.length → ad = some ⟨sb, so, none⟩) (hsb : sb ≠ bh) (hm : ∀ j, j < m.length → w.cell? ⟨sb, so + j, none⟩ = some (.int .u8 (m[j]?.getD 0))) :
    Calls Tryd.prog 54 #[.pointer (some ⟨bh, 0, none⟩), v] w fun e w' => e = .returned (.pointer (some ⟨bh, 0, none⟩)) ∧ Only bh w w' ∧ Rep w' bh (l ++ m) := by
  subst hv
  have HK := Lib.hid hK; clear hK
  have Hr := Lib.hid hr; clear hr
  have Hm := Lib.hid hm; clear hm
  have Ha := Lib.hid had; clear had
  go_enter Tryd.func54, Tryd.ntmps54
  go_wp2
  go_loopw [1] (fun v wr => InvA w bh l m sb so v wr) (fun v _ => sliceLen v)
  case atStart => exact ⟨0, ad, cap, by omega, by simp, by simpa using hcap, fun h => by simpa using Ha.out h, Only.refl _ _, by simpa using Hr.out⟩
  case round =>
    obtain ⟨j, ad', c, hj, rfl, hc, had', ho, hrep⟩ := hrel
    by_cases hlt : j < m.length
    · have e := had' hlt
      subst e
      clear had'
      obtain ⟨bks, t, ch, hR⟩ := hrep
      have hat := hR.hat
      have ck := hat.cell_k
      have ht := hR.ht
      obtain ⟨k, hk⟩ : ∃ k, k = t.length := ⟨_, rfl⟩
      obtain ⟨r, hrr⟩ : ∃ r, r = m.length - j := ⟨_, rfl⟩
      rw [← hk] at ck ht
      rw [← hrr] at hc ⊢
      have hr0 : 0 < r := by omega
      have Hk := Lib.hid hk; clear hk
      have Hrr := Lib.hid hrr; clear hrr
      have hl1 : (0 : Int) ≤ (k : Int) := by omega
      have hl2 : (k : Int) ≤ 64 := by omega
      have hrB : (decide (0 < r)) = true := by simpa using hr0
      have hne : ¬ (64 = k) := by omega
      obtain ⟨x, hx⟩ : ∃ x, x = (m.drop j).take (min r (64 - k)) := ⟨_, rfl⟩
      obtain ⟨q, hq⟩ : ∃ q, q = min r (64 - k) := ⟨_, rfl⟩
      have hxl : x.length = q := by rw [hx, hq, List.length_take, List.length_drop, ← Hrr.out]; omega
      have hxg : ∀ i, i < q → x[i]?.getD 0 = m[j + i]?.getD 0 := fun i hi => by rw [hx, List.getElem?_take_of_lt (by omega), List.getElem?_drop]
      have hxs : m.take j ++ x = m.take (j + q) := by rw [hx, hq, List.take_add]
      have hq0 : 0 < q := by omega
      have hqr : q ≤ r := by omega
      have hq64 : k + q ≤ 64 := by omega
      have hjq : r - q = m.length - (j + q) := by have := Hrr.out; omega
      have Hq := Lib.hid hq; clear hq
      have hsrc : ∀ i v, (x.map (Value.int .u8))[i]? = some v → wr.drew.cell? ((⟨sb, so + j, none⟩ : Addr).add i) = some v := fun i v hv => by
        have hi : i < q := by rw [← hxl]; simpa using (List.getElem?_eq_some_iff.1 hv).1
        rw [Addr.add_mid]
        have h1 := Hm.out (j + i) (by have := Hrr.out; omega)
        have h2 : wr.cell? ⟨sb, so + j + i, none⟩ = w.cell? ⟨sb, so + j + i, none⟩ := World.cell?_of_block (ho.block sb (World.block_lt_of_cell? w _ h1) hsb)
        show wr.cell? _ = _
        rw [h2, Nat.add_assoc, h1, ← hxg i hi, ← hv, List.getElem?_map]
        rw [List.getElem?_eq_getElem (by omega)]; rfl
      have hthere : wr.drew.there bh (9 + k) q := hat.drew.there (9 + k) q (by omega)
      have hmid := hat.drew.set_mid k x (by omega)
      rw [Hk.out, pad64_put, ← Hk.out] at hmid
      have hon := ho.drew.trans (Only.cells bh (x.map (Value.int .u8)) (9 + k) wr.drew)
      have Hsrc := Lib.hid hsrc; clear hsrc
      have Hxl := Lib.hid hxl; clear hxl
      have Hxs := Lib.hid hxs; clear hxs hxg hx
      have Hjq := Lib.hid hjq; clear hjq
      go_wp2
      go_still_tail 9, (by kernel_rfl)
      change wpList _ _ _ _ _ wr.drew
      refine list_copy rfl (.tmp 18) (.tmp 19) 22 22 rfl 5 Tryd.underlying22 sz5 bh (9 + k) (64 - k) (64 - k) ⟨sb, so + j, none⟩ r c rfl rfl (x.map (Value.int .u8)) q (by rw [List.length_map]; exact Hxl.out) Hq.out Hsrc.out hthere (by simp [Value.oneCell']) ?_
      generalize wr.drew.setCells bh (9 + k) (x.map (Value.int .u8)) = w2 at *
      simp only [Act.put, List.setIfInBounds_toArray, List.set_cons_zero, List.set_cons_succ]
      clear ck hat hthere Hsrc ho
      have ck := hmid.cell_k
      have fk := hmid.frozen 73
      have b1 : (0 : Int) ≤ (q : Int) := by omega
      have b2 : (q : Int) ≤ (r : Int) := by omega
      have h3 : Hat (w2.setCell ⟨bh, 73, none⟩ (.int .i64 ((k : Int) + (q : Int)))) bh ch bks.length (pad64 (t ++ x)) (k + q) := hmid.set_k (k + q)
      have o3 := hon.trans (Only.set bh 73 w2 (.int .i64 ((k : Int) + (q : Int))))
      have hbk : bks.length < 4611686018427387904 := by have := hR.len; simp at this; omega
      by_cases hfull : k + q = 64
      · have tB : ((k : Int) + (q : Int) == 64) = true := beq_iff_eq.2 (by omega)
        have Hf := Lib.hid hfull; clear hfull hmid hon
        go_wp2_with fail
        all_goals
          refine (take_any bh bks.length (k + q) ch (pad64 (t ++ x)) _ (o3.k HK.out hb0) hb0 hbk h3).mono ?_
          rintro e w4 ⟨rfl, o4, h4⟩
          go_wp2
          exact inv_close w w4 bh l m x sb so j q r _ _ _ _ hlt Hrr.out hq0 hqr (by omega) Hxs.out (fun h => by first | rfl | (exfalso; omega) | exact if_neg (by omega)) (o3.trans o4) (hR.full x (by rw [← Hk.out, Hxl.out]; exact Hf.out) h4)
      · have tB : ((k : Int) + (q : Int) == 64) = false := beq_eq_false_iff_ne.2 (by omega)
        have Hf := Lib.hid hfull; clear hfull hmid hon
        go_wp2
        all_goals exact inv_close w _ bh l m x sb so j q r _ _ _ _ hlt Hrr.out hq0 hqr (by omega) Hxs.out (fun h => by first | rfl | (exfalso; omega) | exact if_neg (by omega)) o3 ⟨bks, t ++ x, ch, hR.more x (by rw [← Hk.out, Hxl.out]; have := Hf.out; omega) (by rw [← Hk.out, Hxl.out]; exact h3)⟩
    · obtain rfl : j = m.length := by omega
      have hz : m.length - m.length = 0 := by omega
      rw [hz]
      rw [List.take_length] at hrep
      have Hrep := Lib.hid hrep; clear hrep hz had'
      go_wp2
      go_ret
      exact ⟨rfl, ho, Hrep.out⟩
end Go.Proofs.YtblhipdcgdhmiaaDoor
