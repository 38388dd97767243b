/- put, wherever the names go; take. Contract of take. Contract of apply: one act that moves names. take, whatever room. -/
import Derived.Test.YtnhokjnmpdiokaaGreatDoorVJM
set_option linter.unusedSimpArgs false
namespace Go.Proofs.YtnhokjnmpdiokaaGreatDoor.V
open Go.RowKit Go.Pth

end Go.Proofs.YtnhokjnmpdiokaaGreatDoor.V

set_option linter.unusedSimpArgs false
namespace Go.Proofs.YtnhokjnmpdiokaaGreatDoor.V
open Go.RowKit Go.Pth

theorem Row.trr {w : World} {g cap : Nat} {l : List Nm} (h : Row w 79 2 (.slice (some ⟨g, 0, none⟩) l.length cap) l.length (ents l)) : TrR w (.slice (some ⟨g, 0, none⟩) l.length cap) l (some ⟨g, 0, none⟩) cap g 0 := by
  obtain ⟨cur, hat, hn, hcm, hcs, hxs⟩ := Row.at' h
  have key : ∀ q, q < l.length * 2 → w.cell? ⟨g, q, none⟩ = (ents l)[q]? := fun q hq => by
    rw [hat.cell, ← hxs, List.getElem?_take_of_lt hq, Array.getElem?_toList]
  refine ⟨rfl, fun _ => rfl, fun j hj => ?_, fun j hj => ?_⟩
  · rw [Nat.zero_add, key _ (by omega)]; exact (ents_get l j hj).1
  · rw [Nat.zero_add, key _ (by omega)]; exact (ents_get l j hj).2

def TakePost (w : World) (c j g cap q : Nat) (Y R : List Nm) (e : Ending) (w' : World) : Prop :=
  ∃ vr w1, e = .returned vr ∧ Row w1 79 2 vr R.length (ents R) ∧ (∀ q, vr.ownBlock = some q → w.heap.size ≤ q) ∧ Row w1 79 2 (.slice (some ⟨g, 0, none⟩) q cap) q (ents Y) ∧ Chg (fun i => i = g) w w1 ∧ w' = w1.setCell ⟨c, j, none⟩ (.slice (some ⟨g, 0, none⟩) q cap)

set_option maxRecDepth 100000 in
set_option maxHeartbeats 8000000 in
theorem take_any (c j g cap : Nat) (cs : Array Value) (tc : TypeId) (l : List Nm) (p : ByteArray) (w : World) (hc : At w c cs tc) (hj : cs[j]? = some (.slice (some ⟨g, 0, none⟩) l.length cap)) (h : Row w 79 2 (.slice (some ⟨g, 0, none⟩) l.length cap) l.length (ents l)) (hgc : ¬ c = g) (hs : Srt l) (hl : l.length ≤ 1000000) (hR : 0 < (rung l p.toList).length) (hjc : place l p.toList + (rung l p.toList).length < cap) :
    Calls Tryz.prog 135 #[.pointer (some ⟨c, j, none⟩), .string p] w (TakePost w c j g cap (place l p.toList + (l.length - (place l p.toList + (rung l p.toList).length))) (l.take (place l p.toList) ++ l.drop (place l p.toList + (rung l p.toList).length)) (rung l p.toList)) := by
  obtain ⟨cur, hat, hn, hcm, hcs, hxs⟩ := Row.at' h
  have cv : w.cell? ⟨c, j, none⟩ = some (.slice (some ⟨g, 0, none⟩) l.length cap) := by rw [hc.cell, hj]
  have hle := rung_le l p.toList
  have HGL := Lib.hid hat.lt
  have PL := Lib.hid (place_any _ l p w (Tr.of_row h) hs hl)
  have RU := Lib.hid (fun w' (he : Ext w w') => run_any _ l p _ cap g 0 w' ((Row.trr h).ext he) hn hcm (fun hh => by cases hh) (fun A hA => by injection hA with hA; exact hA.symm) hs hl)
  have CLO := Lib.hid (fun v (w' : World) (ht : Tr w' v (rung l p.toList)) => clonetr_any v _ w' ht hR (by omega))
  have DEL := Lib.hid (fun w' (he : Ext w w') => delete_any g cap (place l p.toList) (place l p.toList + (rung l p.toList).length) l w' (h.ext he) (by omega) hle hjc)
  have HC := Lib.hid hc
  have HJ := Lib.hid hj
  generalize l.take (place l p.toList) ++ l.drop (place l p.toList + (rung l p.toList).length) = Y at *
  generalize place l p.toList = K at *
  generalize rung l p.toList = R at *
  clear h hat hxs hcs cur hs hc hj
  obtain ⟨m, hm⟩ : ∃ m, m = R.length := ⟨_, rfl⟩
  have HM := Lib.hid hm
  rw [← hm] at hR hjc hle DEL ⊢
  clear hm
  obtain ⟨q, hq⟩ : ∃ q, q = K + (l.length - (K + m)) := ⟨_, rfl⟩
  rw [← hq] at DEL ⊢
  have DEL2 := Lib.hid (fun w' (he : Ext w w') => by have := DEL.out w' he; rw [Int.natCast_add] at this; exact this)
  clear hq DEL
  generalize l.length = n at *
  simp only [maxLen] at hcm
  have i1 : IntKind.i64.wrap ((K : Int) + (m : Int)) = (K : Int) + (m : Int) := by rw [IntKind.wrap_i64]; omega
  go_enter Tryz.func135, Tryz.ntmps135
  go_wp2_with fail
  refine (PL.out).mono ?_
  rintro e w1 ⟨rfl, e1⟩
  have cv1 := e1.cell cv
  have E1 := Lib.hid e1
  clear PL e1
  go_wp2_with fail
  refine (RU.out _ E1.out).mono ?_
  rintro e w2 ⟨v2, ad2, cap2, o2, rfl, e2, t2⟩
  have CL := Lib.hid (CLO.out v2 w2 ⟨_, _, _, _, t2⟩)
  have hv2 := t2.val
  rw [← HM.out] at hv2 CL
  subst hv2
  have E2 := Lib.hid (E1.out.trans e2)
  have cv2 := E2.out.cell cv
  clear RU CLO E1 e2 t2 cv1
  go_wp2_with fail
  refine (CL.out).mono ?_
  rintro e w3 ⟨vr, rfl, r3, e3, f3⟩
  have E3 := Lib.hid (E2.out.trans e3)
  obtain ⟨gr, capr, hvr, -⟩ := Row.ownK r3 hR
  have fr := f3 gr (by rw [hvr]; rfl)
  have fr2 : w.heap.size ≤ gr := Nat.le_trans E2.out.size fr
  subst hvr
  have cv3 := E3.out.cell cv
  have R3 := Lib.hid r3
  clear CL r3 e3 f3 cv2
  go_wp2_with fail
  refine (DEL2.out _ E3.out).mono ?_
  rintro e w4 ⟨rfl, rd, cd⟩
  have at4 := cd.at (HC.out.ext E3.out) hgc
  have cv4 := at4.cell j
  rw [HJ.out] at cv4
  have fz4 := at4.frozen j
  have FIN := Lib.hid (show ∃ vr w1, (Value.slice (some ⟨gr, 0, none⟩) m capr) = vr ∧ Row w1 79 2 vr R.length (ents R) ∧ (∀ q, vr.ownBlock = some q → w.heap.size ≤ q) ∧ Row w1 79 2 (.slice (some ⟨g, 0, none⟩) q cap) q (ents Y) ∧ Chg (fun i => i = g) w w1 ∧ w4.setCell ⟨c, j, none⟩ (.slice (some ⟨g, 0, none⟩) q cap) = w1.setCell ⟨c, j, none⟩ (.slice (some ⟨g, 0, none⟩) q cap) from
    ⟨_, w4, rfl, by
      rw [← HM.out]
      exact R3.out.chg cd (fun x hx e => by injection hx with hx; have hx2 : gr = x := hx; have := HGL.out; omega), fun x hx => by injection hx with hx; rw [← hx]; exact fr2, rd, (Chg.of_ext E3.out).trans cd (fun _ _ x => x), rfl⟩)
  clear at4 rd cd DEL2 E3 R3 cv3 HC HJ
  go_wp2
  go_ret
  obtain ⟨vr, w1, a1, a2, a3, a4, a5, a6⟩ := FIN.out
  exact ⟨vr, w1, by rw [a1]; rfl, a2, a3, a4, a5, a6⟩
end Go.Proofs.YtnhokjnmpdiokaaGreatDoor.V

set_option linter.unusedSimpArgs false
namespace Go.Proofs.YtnhokjnmpdiokaaGreatDoor.V
open Go.RowKit Go.Pth

theorem setCell_twice (w : World) (b o : Nat) (x y : Value) : (w.setCell ⟨b, o, none⟩ x).setCell ⟨b, o, none⟩ y = w.setCell ⟨b, o, none⟩ y := by
  unfold World.setCell
  congr 1
  apply Array.ext
  · simp
  · intro i h1 h2
    simp only [Array.getElem_modify]
    split
    · have hi : i < w.heap.size := by simpa using h2
      generalize w.heap[i] = ob
      cases ob <;> simp
    · rfl
theorem mend {w wZ : World} {c j g : Nat} {cs : Array Value} {tc : TypeId} {v x : Value} (hc : At w c cs tc) (hj : cs[j]? = some v) (hz : At wZ c (cs.setIfInBounds j x) tc) (hg : Chg (fun i => i = g ∨ i = c) w wZ) : Chg (fun i => i = g) w (wZ.setCell ⟨c, j, none⟩ v) := by
  refine ⟨hg.os, hg.tape, hg.output, by rw [size_setCell]; exact hg.size, fun i hi hn => ?_⟩
  by_cases e : i = c
  · subst e
    have h2 := hz.set j v
    have e2 : (cs.setIfInBounds j x).setIfInBounds j v = cs := by
      obtain ⟨hlt, he⟩ := Array.getElem?_eq_some_iff.1 hj
      apply Array.ext
      · simp
      · intro q h1 h2
        by_cases e : j = q
        · subst e; simp [he]
        · rw [Array.getElem_setIfInBounds_ne (by simpa using h2) e, Array.getElem_setIfInBounds_ne h2 e]
    rw [e2] at h2
    unfold At at h2 hc
    rw [h2, hc]
  · rw [Below.heap_setCell _ _ _ _ (by simpa using e)]
    exact hg.block i hi (fun h => by rcases h with h | h; exact hn h; exact e h)
theorem insert_back (g cap k b capr : Nat) (l r : List Nm) (w : World) (h : Row w 79 2 (.slice (some ⟨g, 0, none⟩) l.length cap) l.length (ents l)) (hr : Row w 79 2 (.slice (some ⟨b, 0, none⟩) r.length capr) r.length (ents r)) (hbg : b ≠ g) (hk : k ≤ l.length) (hr0 : 0 < r.length) (hroom : l.length + r.length ≤ cap) (hl : l.length ≤ 1000000) (hrl : r.length ≤ 1000000) :
    Calls Tryz.prog 148 #[.slice (some ⟨g, 0, none⟩) l.length cap, .int .i64 k, .slice (some ⟨b, 0, none⟩) r.length capr] w (InsPost w (l.length + r.length) (.slice (some ⟨g, 0, none⟩) l.length cap) (ents (l.take k ++ r ++ l.drop k))) := by
  rcases Nat.lt_or_ge k l.length with hlt | hge
  · exact (insert_room g cap k b capr l r w h hr hbg hlt hr0 hroom hl hrl).mono fun e w' ⟨h1, h2, h3⟩ => ⟨_, h1, h2, h3.mono (fun i _ e => by rw [e]; rfl), Or.inl rfl⟩
  · obtain rfl : k = l.length := by omega
    rw [List.take_of_length_le (Nat.le_refl _), List.drop_of_length_le (Nat.le_refl _), List.append_nil]
    exact insert_end _ _ l r w h (Row.trr hr) hr0 hl hrl
def rest (l : List Nm) (f : B) : List Nm := l.take (place l f) ++ l.drop (place l f + (rung l f).length)
def mvl (l : List Nm) (f t : B) (k : Nat) : List Nm := (rest l f).take k ++ mvd (rung l f) f t ++ (rest l f).drop k
theorem rest_len (l : List Nm) (f : B) : (rest l f).length = place l f + (l.length - (place l f + (rung l f).length)) := by
  have := rung_le l f
  unfold rest
  simp only [List.length_append, List.length_take, List.length_drop]
  omega
theorem mvl_len (l : List Nm) (f t : B) (k : Nat) : (mvl l f t k).length = l.length := by
  have := rung_le l f
  have h2 := rest_len l f
  unfold mvl
  simp only [List.length_append, List.length_take, List.length_drop, mvd_len]
  omega
def MovePost (w : World) (c j n : Nat) (v : Value) (X : List Value) (e : Ending) (w' : World) : Prop := e = .returned (.tuple #[]) ∧ ∃ v' w1, Row w1 79 2 v' n X ∧ Grew w w1 v v' ∧ w' = w1.setCell ⟨c, j, none⟩ v'
structure Steps (w : World) (c j g cap : Nat) (l : List Nm) (f t : ByteArray) (k : Nat) : Prop where
  take : Calls Tryz.prog 135 #[.pointer (some ⟨c, j, none⟩), .string f] w (TakePost w c j g cap (rest l f.toList).length (rest l f.toList) (rung l f.toList))
  move : ∀ v w', TakePost w c j g cap (rest l f.toList).length (rest l f.toList) (rung l f.toList) (.returned v) w' → Calls Tryz.prog 136 #[v, .string f, .string t] w' (MvPost w' (mvd (rung l f.toList) f.toList t.toList))
  put : ∀ v w' u w2, TakePost w c j g cap (rest l f.toList).length (rest l f.toList) (rung l f.toList) (.returned v) w' → MvPost w' (mvd (rung l f.toList) f.toList t.toList) (.returned u) w2 → Calls Tryz.prog 134 #[.pointer (some ⟨c, j, none⟩), u] w2 (MovePost w c j l.length (.slice (some ⟨g, 0, none⟩) l.length cap) (ents (mvl l f.toList t.toList k)))
end Go.Proofs.YtnhokjnmpdiokaaGreatDoor.V

set_option linter.unusedSimpArgs false
set_option linter.unusedVariables false
namespace Go.Proofs.YtnhokjnmpdiokaaGreatDoor.V
open Go.RowKit Go.Pth

theorem delete_both (g cap i j : Nat) (l : List Nm) (w : World) (h : Row w 79 2 (.slice (some ⟨g, 0, none⟩) l.length cap) l.length (ents l)) (hij : i < j) (hj : j ≤ l.length) :
    Calls Tryz.prog 150 #[.slice (some ⟨g, 0, none⟩) l.length cap, .int .i64 i, .int .i64 j] w (DelPost w g (i + (l.length - j)) cap (l.take i ++ l.drop j)) := by
  obtain ⟨cur, hat, hn, hcm, hcs, hxs⟩ := Row.at' h
  by_cases hjc : j < cap
  · exact delete_any g cap i j l w h hij hj hjc
  · exact delete_last g cap i j l w h hij hj (by omega)
set_option maxRecDepth 100000 in
set_option maxHeartbeats 8000000 in
theorem take_all (c j g cap : Nat) (cs : Array Value) (tc : TypeId) (l : List Nm) (p : ByteArray) (w : World) (hc : At w c cs tc) (hj : cs[j]? = some (.slice (some ⟨g, 0, none⟩) l.length cap)) (h : Row w 79 2 (.slice (some ⟨g, 0, none⟩) l.length cap) l.length (ents l)) (hgc : ¬ c = g) (hs : Srt l) (hl : l.length ≤ 1000000) (hR : 0 < (rung l p.toList).length) :
    Calls Tryz.prog 135 #[.pointer (some ⟨c, j, none⟩), .string p] w (TakePost w c j g cap (place l p.toList + (l.length - (place l p.toList + (rung l p.toList).length))) (l.take (place l p.toList) ++ l.drop (place l p.toList + (rung l p.toList).length)) (rung l p.toList)) := by
  obtain ⟨cur, hat, hn, hcm, hcs, hxs⟩ := Row.at' h
  have cv : w.cell? ⟨c, j, none⟩ = some (.slice (some ⟨g, 0, none⟩) l.length cap) := by rw [hc.cell, hj]
  have hle := rung_le l p.toList
  have HGL := Lib.hid hat.lt
  have PL := Lib.hid (place_any _ l p w (Tr.of_row h) hs hl)
  have RU := Lib.hid (fun w' (he : Ext w w') => run_any _ l p _ cap g 0 w' ((Row.trr h).ext he) hn hcm (fun hh => by cases hh) (fun A hA => by injection hA with hA; exact hA.symm) hs hl)
  have CLO := Lib.hid (fun v (w' : World) (ht : Tr w' v (rung l p.toList)) => clonetr_any v _ w' ht hR (by omega))
  have DEL := Lib.hid (fun w' (he : Ext w w') => delete_both g cap (place l p.toList) (place l p.toList + (rung l p.toList).length) l w' (h.ext he) (by omega) hle)
  have HC := Lib.hid hc
  have HJ := Lib.hid hj
  generalize l.take (place l p.toList) ++ l.drop (place l p.toList + (rung l p.toList).length) = Y at *
  generalize place l p.toList = K at *
  generalize rung l p.toList = R at *
  clear h hat hxs hcs cur hs hc hj
  obtain ⟨m, hm⟩ : ∃ m, m = R.length := ⟨_, rfl⟩
  have HM := Lib.hid hm
  rw [← hm] at hR hle DEL ⊢
  clear hm
  obtain ⟨q, hq⟩ : ∃ q, q = K + (l.length - (K + m)) := ⟨_, rfl⟩
  rw [← hq] at DEL ⊢
  have DEL2 := Lib.hid (fun w' (he : Ext w w') => by have := DEL.out w' he; rw [Int.natCast_add] at this; exact this)
  clear hq DEL
  generalize l.length = n at *
  simp only [maxLen] at hcm
  have i1 : IntKind.i64.wrap ((K : Int) + (m : Int)) = (K : Int) + (m : Int) := by rw [IntKind.wrap_i64]; omega
  go_enter Tryz.func135, Tryz.ntmps135
  go_wp2_with fail
  refine (PL.out).mono ?_
  rintro e w1 ⟨rfl, e1⟩
  have cv1 := e1.cell cv
  have E1 := Lib.hid e1
  clear PL e1
  go_wp2_with fail
  refine (RU.out _ E1.out).mono ?_
  rintro e w2 ⟨v2, ad2, cap2, o2, rfl, e2, t2⟩
  have CL := Lib.hid (CLO.out v2 w2 ⟨_, _, _, _, t2⟩)
  have hv2 := t2.val
  rw [← HM.out] at hv2 CL
  subst hv2
  have E2 := Lib.hid (E1.out.trans e2)
  have cv2 := E2.out.cell cv
  clear RU CLO E1 e2 t2 cv1
  go_wp2_with fail
  refine (CL.out).mono ?_
  rintro e w3 ⟨vr, rfl, r3, e3, f3⟩
  have E3 := Lib.hid (E2.out.trans e3)
  obtain ⟨gr, capr, hvr, -⟩ := Row.ownK r3 hR
  have fr := f3 gr (by rw [hvr]; rfl)
  have fr2 : w.heap.size ≤ gr := Nat.le_trans E2.out.size fr
  subst hvr
  have cv3 := E3.out.cell cv
  have R3 := Lib.hid r3
  clear CL r3 e3 f3 cv2
  go_wp2_with fail
  refine (DEL2.out _ E3.out).mono ?_
  rintro e w4 ⟨rfl, rd, cd⟩
  have at4 := cd.at (HC.out.ext E3.out) hgc
  have cv4 := at4.cell j
  rw [HJ.out] at cv4
  have fz4 := at4.frozen j
  have FIN := Lib.hid (show ∃ vr w1, (Value.slice (some ⟨gr, 0, none⟩) m capr) = vr ∧ Row w1 79 2 vr R.length (ents R) ∧ (∀ q, vr.ownBlock = some q → w.heap.size ≤ q) ∧ Row w1 79 2 (.slice (some ⟨g, 0, none⟩) q cap) q (ents Y) ∧ Chg (fun i => i = g) w w1 ∧ w4.setCell ⟨c, j, none⟩ (.slice (some ⟨g, 0, none⟩) q cap) = w1.setCell ⟨c, j, none⟩ (.slice (some ⟨g, 0, none⟩) q cap) from
    ⟨_, w4, rfl, by
      rw [← HM.out]
      exact R3.out.chg cd (fun x hx e => by injection hx with hx; have hx2 : gr = x := hx; have := HGL.out; omega), fun x hx => by injection hx with hx; rw [← hx]; exact fr2, rd, (Chg.of_ext E3.out).trans cd (fun _ _ x => x), rfl⟩)
  clear at4 rd cd DEL2 E3 R3 cv3 HC HJ
  go_wp2
  go_ret
  obtain ⟨vr, w1, a1, a2, a3, a4, a5, a6⟩ := FIN.out
  exact ⟨vr, w1, by rw [a1]; rfl, a2, a3, a4, a5, a6⟩
theorem steps_all (c j g cap k : Nat) (cs : Array Value) (tc : TypeId) (l : List Nm) (f t : ByteArray) (w : World) (hc : At w c cs tc) (hj : cs[j]? = some (.slice (some ⟨g, 0, none⟩) l.length cap)) (h : Row w 79 2 (.slice (some ⟨g, 0, none⟩) l.length cap) l.length (ents l)) (hgc : ¬ c = g) (hs : Srt l) (hl : l.length ≤ 1000000) (hR : 0 < (rung l f.toList).length)
    (hpre : ∀ e ∈ rung l f.toList, f.size ≤ e.1.length ∧ e.1.length ≤ 1000000) (ht : t.size ≤ 1000000) (hsr : Srt (rest l f.toList)) (hk : place (rest l f.toList) ((mvd (rung l f.toList) f.toList t.toList)[0]'(by rw [mvd_len]; exact hR)).1 = k) : Steps w c j g cap l f t k := by
  have hle := rung_le l f.toList
  have hrl := rest_len l f.toList
  obtain ⟨cur, hat, hn, hcm, hcs, hxs⟩ := Row.at' h
  refine ⟨?_, ?_, ?_⟩
  · have := take_all c j g cap cs tc l f w hc hj h hgc hs hl hR
    rw [← hrl] at this
    exact this
  · rintro v w' ⟨vr, w1, h1, h2, h3, h4, h5, h6⟩
    injection h1 with h1
    subst h1
    have hr' : Row w' 79 2 v (rung l f.toList).length (ents (rung l f.toList)) := by
      rw [h6]
      exact h2.chg (Chg.setCell _ _ _ _) (fun q hq e => by have := h3 q hq; have := hc.lt; omega)
    exact moved_any v _ f t w' (Tr.of_row hr') hR (by omega) hpre ht
  · rintro v w' u w2 ⟨vr, w1, h1, h2, h3, h4, h5, h6⟩ ⟨u', i1, i2, i3, i4⟩
    injection i1 with i1
    subst i1
    rw [mvd_len] at i2
    obtain ⟨gu, capu, hu, -⟩ := Row.ownK i2 hR
    subst hu
    have hgu := i4 gu rfl
    have hcw : At w' c (cs.setIfInBounds j (.slice (some ⟨g, 0, none⟩) (rest l f.toList).length cap)) tc := by
      rw [h6]; exact (h5.at hc hgc).set j _
    have hc2 := hcw.ext i3
    have hy' : Row w' 79 2 (.slice (some ⟨g, 0, none⟩) (rest l f.toList).length cap) (rest l f.toList).length (ents (rest l f.toList)) := by
      rw [h6]
      exact h4.chg (Chg.setCell _ _ _ _) (fun q hq e => by injection hq with hq; exact hgc (by rw [← e]; exact hq.symm))
    have hy2 := hy'.ext i3
    have hi2 : Row w2 79 2 (.slice (some ⟨gu, 0, none⟩) (mvd (rung l f.toList) f.toList t.toList).length capu) (mvd (rung l f.toList) f.toList t.toList).length (ents (mvd (rung l f.toList) f.toList t.toList)) := by rw [mvd_len]; exact i2
    have hgw : g < w'.heap.size := (hy'.lt g rfl)
    have jlt : j < cs.size := (Array.getElem?_eq_some_iff.1 hj).1
    have PU := put_gen c j k ((rest l f.toList).length + (mvd (rung l f.toList) f.toList t.toList).length) (ents (mvl l f.toList t.toList k)) _ tc (.slice (some ⟨g, 0, none⟩) (rest l f.toList).length cap) _ (rest l f.toList) (mvd (rung l f.toList) f.toList t.toList) w2 hc2 (by simp [jlt]) hy2 (fun e => by injection e with e; exact hgc e.symm) (Row.trr hi2) (by rw [mvd_len]; exact hR) hsr (by omega) hk
      (fun W hW => insert_back g cap k gu capu _ _ W (hy2.ext hW) (hi2.ext hW) (by omega) (by rw [← hk]; exact place_le _ _) (by rw [mvd_len]; exact hR) (by rw [mvd_len]; omega) (by omega) (by rw [mvd_len]; omega))
    rw [mvd_len] at PU
    refine PU.mono ?_
    rintro e w9 ⟨p1, v9, w8, p2, p3, p4⟩
    have hln : (rest l f.toList).length + (rung l f.toList).length = l.length := by omega
    rw [hln] at p2
    have hch : Chg (fun i => i = g ∨ i = c) w w8 := by
      have a1 : Chg (fun i => i = g ∨ i = c) w w' := by
        rw [h6]
        exact (h5.mono (fun _ _ e => Or.inl e)).trans ((Chg.setCell w1 c j _).mono (fun _ _ e => Or.inr e)) (fun _ _ e => e)
      exact (a1.trans (Chg.of_ext i3) (fun _ _ e => e)).trans p3.chg (fun i _ e => Or.inl (by injection e with e; exact e.symm))
    have hz := p3.chg.at hc2 (fun e => by injection e with e; exact hgc e.symm)
    have hm := mend hc hj hz hch
    have hnc : ∀ q, v9.ownBlock = some q → ¬ q = c := fun q hq e => by
      subst e
      rcases p3.own with e1 | ⟨q', e1, e2⟩
      · rw [e1] at hq; injection hq with hq; exact hgc hq.symm
      · rw [e1] at hq; injection hq with hq
        have := hc2.lt
        omega
    refine ⟨p1, v9, w8.setCell ⟨c, j, none⟩ (.slice (some ⟨g, 0, none⟩) l.length cap), p2.chg (Chg.setCell _ _ _ _) hnc, ⟨hm.mono (fun i _ e => by rw [e]; rfl), ?_⟩, by rw [setCell_twice]; exact p4⟩
    rcases p3.own with e1 | ⟨q', e1, e2⟩
    · exact Or.inl e1
    · refine Or.inr ⟨q', e1, ?_⟩
      have := i3.size
      have := hch.size
      have e9 : w.heap.size ≤ w'.heap.size := by rw [h6, size_setCell]; exact h5.size
      omega
end Go.Proofs.YtnhokjnmpdiokaaGreatDoor.V
