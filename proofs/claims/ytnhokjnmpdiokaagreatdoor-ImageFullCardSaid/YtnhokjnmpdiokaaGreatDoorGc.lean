/- The contracts of Unseal (the code's and the document's). -/
import Derived.Test.YtnhokjnmpdiokaaGreatDoorGaM
import Derived.Test.YtnhokjnmpdiokaaGreatDoorCa
import Derived.Test.YtnhokjnmpdiokaaGreatDoorSaM
namespace Go.Proofs.YtnhokjnmpdiokaaGreatDoor
open Go.RowKit Go.Sha
set_option linter.unusedSimpArgs false
set_option linter.unusedVariables false

def unsL (b : List Int) : Option (List Int) := if b.length < 32 then none else if eqS (shaL (b.take (b.length - 32))) (b.drop (b.length - 32)) then some (b.take (b.length - 32)) else none
def UnPost (w : World) (o : Option (List Int)) (e : Ending) (w' : World) : Prop := ∃ (v : Value) (n : Int), e = .returned (.tuple #[v, .int .i64 n]) ∧ Ext w w' ∧ (∀ m, o = some m → n = 0 ∧ Src w' v m w'.heap.size) ∧ (o = none → n = 2 ∧ v = .slice none 0 0)
theorem un_short (b : List Int) (h : b.length < 32) : unsL b = none := by rw [unsL, if_pos h]
theorem un_cut {w : World} {v : Value} {b : List Int} {bh : Nat} (hs : Src w v b bh) (h : ¬ b.length < 32) : ∃ c sb so cap m t, v = .slice (some ⟨sb, so, none⟩) (c + 32) cap ∧ b.length = c + 32 ∧ c + 32 ≤ cap ∧ m = b.take c ∧ t = b.drop c ∧ unsL b = (if eqS (shaL m) t then some m else none) ∧
    Src w (.slice (some ⟨sb, so, none⟩) c cap) m bh ∧ Src w (.slice (some ⟨sb, so + c, none⟩) 32 (cap - c)) t bh := by
  have hs' := hs
  obtain ⟨ad, cap, sb, so, rfl, h2, h3, h4, h5, h6⟩ := hs
  obtain rfl := h3 (by omega)
  have f1 := src_front (n := b.length - 32) hs' (by omega)
  have f2 := src_back (n := b.length - 32) hs' (by omega)
  refine ⟨b.length - 32, sb, so, cap, _, _, by congr 1; omega, by omega, by omega, rfl, rfl, ?_, f1, ?_⟩
  · rw [unsL, if_neg h]
  · have e : b.length - (b.length - 32) = 32 := by omega
    rw [e, Option.map_some, Addr.add_mid] at f2
    exact f2

set_option maxHeartbeats 4000000 in
set_option maxRecDepth 100000 in
theorem unseal_any (v : Value) (b : List Int) (w : World) (hK : KAt w) (hs : Src w v b w.heap.size) (hl : b.length ≤ 100000000) : Calls Tryz.prog 113 #[v] w (UnPost w (unsL b)) := by
  by_cases h : b.length < 32
  · rw [un_short b h]
    obtain ⟨ad, cap, ev⟩ := hs.len
    subst ev
    obtain ⟨n, hn⟩ : ∃ n, n = b.length := ⟨_, rfl⟩
    rw [← hn] at h ⊢
    have wn : wrap64 ((n : Int) - 32) = (n : Int) - 32 := IntWalk.wrap64_in _ (by omega)
    have d1 : decide ((n : Int) - 32 < 0) = true := by simp; omega
    clear hs hn hl hK
    go_enter Tryz.func113, Tryz.ntmps113
    go_wp2
    go_quiet (fail)
    go_wp2
    go_ret2
    exact ⟨_, _, rfl, belowN (Ext.refl w) _, fun m h => by simp at h, fun _ => ⟨rfl, rfl⟩⟩
  obtain ⟨c, sb, so, cap, m, t, rfl, hbl, hcap, hm, ht, hu, SF, SB⟩ := un_cut hs h
  rw [hu]
  have hml : m.length = c := by rw [hm, List.length_take]; omega
  clear hs h hu hm ht
  have i0 : ¬ cap = c := by omega
  have i1 : (0 : Int) ≤ (c : Int) := by omega
  have i2 : (c : Int) ≤ (cap : Int) := by omega
  have i4 : ¬ ((c : Int) + 32 < (c : Int)) := by omega
  have wc : IntKind.i64.wrap (c : Int) = (c : Int) := IntWalk.i64_in _ (by omega)
  have d1 : decide ((c : Int) < 0) = false := by simp
  have k32 : c + 32 - c = 32 := by omega
  obtain ⟨E, hE⟩ : ∃ E, eqS (shaL m) t = E := ⟨_, rfl⟩
  rw [hE]
  cases E
  · rw [if_neg (by simp)]
    go_enter Tryz.func113, Tryz.ntmps113
    go_wp2
    refine wp_region_held (S := Ext w) (by kernel_rfl) ?_
    change wpAnyH _ _ _ _ _ _ _ _ w.drew
    have S0 : Ext w w.drew := Below.drew (Below.refl _ _)
    have F0 := SF.now S0
    have K0 := hK.below S0 hK.lt
    have B0 := SB.now S0
    clear hK SF SB
    generalize w.drew = W at *
    refine tkS 0 (some 8) (.int .i64 (c : Int)) S0 ?_
    simp only [pt0, pt4, pt1, pt2, pt3]
    refine tkS 1 (some 9) (.bool false) S0 ?_
    simp only [pt0, pt4, pt1, pt2, pt3]
    refine tkS 2 (some 10) (.bool false) S0 ?_
    simp only [pt0, pt4, pt1, pt2, pt3]
    refine tkS 3 (some 11) (.slice (some ⟨sb, so, none⟩) (c + 32) cap) S0 ?_
    simp only [pt0, pt4, pt1, pt2, pt3]
    refine tkS 4 (some 12) (.int .i64 (c : Int)) S0 ?_
    simp only [pt0, pt4, pt1, pt2, pt3]
    refine tkS 5 (some 13) (.slice (some ⟨sb, so, none⟩) c cap) S0 ?_
    simp only [pt0, pt4, pt1, pt2, pt3]
    refine tkS 8 (some 16) (.slice (some ⟨sb, so, none⟩) (c + 32) cap) S0 ?_
    simp only [pt0, pt4, pt1, pt2, pt3]
    refine tkS 9 (some 17) (.int .i64 (c : Int)) S0 ?_
    simp only [pt0, pt4, pt1, pt2, pt3]
    refine tkS 10 (some 18) (.slice (some ⟨sb, so + c, none⟩) 32 (cap - c)) S0 ?_
    simp only [pt0, pt4, pt1, pt2, pt3]
    refine nextS 6 rfl (by kernel_rfl) rfl (makeS (some 14) rfl (.slice (some ⟨W.heap.size, 0, none⟩) 1 1) (w1 := W.alloc (.cells #[.slice (some ⟨sb, so, none⟩) c cap] 50)) (by go_simp) ?_)
    simp only [pt0, pt4, pt1, pt2, pt3]
    have e1 : Ext W (W.alloc (.cells #[.slice (some ⟨sb, so, none⟩) c cap] 50)) := Ext.alloc W _
    have S1 := S0.trans e1
    have Q1 := srcs_cons1 (At.new W #[.slice (some ⟨sb, so, none⟩) c cap] 50) (F0.now e1) 1
    have K1 := K0.below e1 K0.lt
    have B1 := B0.now e1
    have F1 := F0.now e1
    clear e1 S0 K0 B0 F0
    generalize W.alloc (.cells #[.slice (some ⟨sb, so, none⟩) c cap] 50) = W1 at *
    generalize W.heap.size = g1 at *
    refine ⟨S1, ?_⟩
    refine nextS 7 rfl (by kernel_rfl) rfl (callS (some 15) rfl 104 #[.slice (some ⟨g1, 0, none⟩) 1 1] (by go_simp) (fun v w' => Ext W1 w' ∧ OwnB w' W1.heap.size v (shaL m)) ((dsum_any _ _ W1 K1 Q1 (by simp [flat]; omega) (by simp)).mono fun _ _ he => by have := sum_own he; rwa [show flat [(.slice (some ⟨sb, so, none⟩) c cap, m)] = m by simp [flat]] at this) ?_)
    rintro v2 W2 ⟨e1, o2⟩
    simp only [pt0, pt4, pt1, pt2, pt3]
    have S2 := S1.trans e1
    have B2 := B1.now e1
    have q2 := o2.srcs _ (Or.inr (Nat.le_refl _))
    clear e1 o2 B1 Q1 K1 S1
    refine ⟨S2, ?_⟩
    refine nextS 11 rfl (by kernel_rfl) rfl (callS (some 19) rfl 137 #[v2, .slice (some ⟨sb, so + c, none⟩) 32 (cap - c)] (by go_simp) (fun v w' => v = .bool false ∧ W2 = w') ((deq_any v2 _ (shaL m) t W2 q2 B2).mono fun _ _ he => ⟨_, he.1.trans (by rw [hE]), rfl, he.2⟩) ?_)
    rintro v3 W3 ⟨rfl, rfl⟩
    simp only [pt0, pt4, pt1, pt2, pt3]
    refine ⟨S2, ?_⟩
    refine tkS 12 (some 20) (.bool true) S2 ?_
    simp only [pt0, pt4, pt1, pt2, pt3]
    refine tkS 13 (some 21) (.bool true) S2 ?_
    simp only [pt0, pt4, pt1, pt2, pt3]
    refine wpAnyH_done (by kernel_rfl) ?_ _
    go_wp2
    go_ret2
    exact ⟨_, _, rfl, S2, fun m h => by simp at h, fun _ => ⟨rfl, rfl⟩⟩
  · rw [if_pos rfl]
    go_enter Tryz.func113, Tryz.ntmps113
    go_wp2
    refine wp_region_held (S := Ext w) (by kernel_rfl) ?_
    change wpAnyH _ _ _ _ _ _ _ _ w.drew
    have S0 : Ext w w.drew := Below.drew (Below.refl _ _)
    have F0 := SF.now S0
    have K0 := hK.below S0 hK.lt
    have B0 := SB.now S0
    have SF2 := SF
    clear hK SF SB
    generalize w.drew = W at *
    refine tkS 0 (some 8) (.int .i64 (c : Int)) S0 ?_
    simp only [pt0, pt4, pt1, pt2, pt3]
    refine tkS 1 (some 9) (.bool false) S0 ?_
    simp only [pt0, pt4, pt1, pt2, pt3]
    refine tkS 2 (some 10) (.bool false) S0 ?_
    simp only [pt0, pt4, pt1, pt2, pt3]
    refine tkS 3 (some 11) (.slice (some ⟨sb, so, none⟩) (c + 32) cap) S0 ?_
    simp only [pt0, pt4, pt1, pt2, pt3]
    refine tkS 4 (some 12) (.int .i64 (c : Int)) S0 ?_
    simp only [pt0, pt4, pt1, pt2, pt3]
    refine tkS 5 (some 13) (.slice (some ⟨sb, so, none⟩) c cap) S0 ?_
    simp only [pt0, pt4, pt1, pt2, pt3]
    refine tkS 8 (some 16) (.slice (some ⟨sb, so, none⟩) (c + 32) cap) S0 ?_
    simp only [pt0, pt4, pt1, pt2, pt3]
    refine tkS 9 (some 17) (.int .i64 (c : Int)) S0 ?_
    simp only [pt0, pt4, pt1, pt2, pt3]
    refine tkS 10 (some 18) (.slice (some ⟨sb, so + c, none⟩) 32 (cap - c)) S0 ?_
    simp only [pt0, pt4, pt1, pt2, pt3]
    refine nextS 6 rfl (by kernel_rfl) rfl (makeS (some 14) rfl (.slice (some ⟨W.heap.size, 0, none⟩) 1 1) (w1 := W.alloc (.cells #[.slice (some ⟨sb, so, none⟩) c cap] 50)) (by go_simp) ?_)
    simp only [pt0, pt4, pt1, pt2, pt3]
    have e1 : Ext W (W.alloc (.cells #[.slice (some ⟨sb, so, none⟩) c cap] 50)) := Ext.alloc W _
    have S1 := S0.trans e1
    have Q1 := srcs_cons1 (At.new W #[.slice (some ⟨sb, so, none⟩) c cap] 50) (F0.now e1) 1
    have K1 := K0.below e1 K0.lt
    have B1 := B0.now e1
    have F1 := F0.now e1
    clear e1 S0 K0 B0 F0
    generalize W.alloc (.cells #[.slice (some ⟨sb, so, none⟩) c cap] 50) = W1 at *
    generalize W.heap.size = g1 at *
    refine ⟨S1, ?_⟩
    refine nextS 7 rfl (by kernel_rfl) rfl (callS (some 15) rfl 104 #[.slice (some ⟨g1, 0, none⟩) 1 1] (by go_simp) (fun v w' => Ext W1 w' ∧ OwnB w' W1.heap.size v (shaL m)) ((dsum_any _ _ W1 K1 Q1 (by simp [flat]; omega) (by simp)).mono fun _ _ he => by have := sum_own he; rwa [show flat [(.slice (some ⟨sb, so, none⟩) c cap, m)] = m by simp [flat]] at this) ?_)
    rintro v2 W2 ⟨e1, o2⟩
    simp only [pt0, pt4, pt1, pt2, pt3]
    have S2 := S1.trans e1
    have B2 := B1.now e1
    have q2 := o2.srcs _ (Or.inr (Nat.le_refl _))
    clear e1 o2 B1 Q1 K1 S1
    refine ⟨S2, ?_⟩
    refine nextS 11 rfl (by kernel_rfl) rfl (callS (some 19) rfl 137 #[v2, .slice (some ⟨sb, so + c, none⟩) 32 (cap - c)] (by go_simp) (fun v w' => v = .bool true ∧ W2 = w') ((deq_any v2 _ (shaL m) t W2 q2 B2).mono fun _ _ he => ⟨_, he.1.trans (by rw [hE]), rfl, he.2⟩) ?_)
    rintro v3 W3 ⟨rfl, rfl⟩
    simp only [pt0, pt4, pt1, pt2, pt3]
    refine ⟨S2, ?_⟩
    refine tkS 12 (some 20) (.bool false) S2 ?_
    simp only [pt0, pt4, pt1, pt2, pt3]
    refine tkS 13 (some 21) (.bool false) S2 ?_
    simp only [pt0, pt4, pt1, pt2, pt3]
    refine wpAnyH_done (by kernel_rfl) ?_ _
    clear B2 q2
    have s9 := SF2.now S2
    go_wp2_with fail
    refine (clone_any _ m W2 s9 (by omega)).mono ?_
    rintro e W9 ⟨v9, rfl, e9, o9⟩
    go_wp2
    go_ret2
    exact ⟨_, _, rfl, S2.trans e9, fun m' h => by injection h with h; subst h; exact ⟨rfl, o9.srcs _ (Or.inr (Nat.le_refl _))⟩, fun h => by simp at h⟩

end Go.Proofs.YtnhokjnmpdiokaaGreatDoor
