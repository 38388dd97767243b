/- Contract of take. -/
import Derived.Test.YtbneedmfpldpfaaDoorGd
set_option linter.unusedSimpArgs false
namespace Go.Proofs.YtbneedmfpldpfaaDoor
open Go.RowKit Go.Pth

theorem Row.trr {w : World} {g cap : Nat} {l : List Nm} (h : Row w 64 2 (.slice (some ⟨g, 0, none⟩) l.length cap) l.length (ents l)) : TrR w (.slice (some ⟨g, 0, none⟩) l.length cap) l (some ⟨g, 0, none⟩) cap g 0 := by
  obtain ⟨cur, hat, hn, hcm, hcs, hxs⟩ := Row.at' h
  have key : ∀ q, q < l.length * 2 → w.cell? ⟨g, q, none⟩ = (ents l)[q]? := fun q hq => by
    rw [hat.cell, ← hxs, List.getElem?_take_of_lt hq, Array.getElem?_toList]
  refine ⟨rfl, fun _ => rfl, fun j hj => ?_, fun j hj => ?_⟩
  · rw [Nat.zero_add, key _ (by omega)]; exact (ents_get l j hj).1
  · rw [Nat.zero_add, key _ (by omega)]; exact (ents_get l j hj).2

def TakePost (w : World) (c j g cap q : Nat) (Y R : List Nm) (e : Ending) (w' : World) : Prop :=
  ∃ vr w1, e = .returned vr ∧ Row w1 64 2 vr R.length (ents R) ∧ (∀ q, vr.ownBlock = some q → w.heap.size ≤ q) ∧ Row w1 64 2 (.slice (some ⟨g, 0, none⟩) q cap) q (ents Y) ∧ Chg (fun i => i = g) w w1 ∧ w' = w1.setCell ⟨c, j, none⟩ (.slice (some ⟨g, 0, none⟩) q cap)

set_option maxRecDepth 100000 in
set_option maxHeartbeats 8000000 in
theorem take_any (c j g cap : Nat) (cs : Array Value) (tc : TypeId) (l : List Nm) (p : ByteArray) (w : World) (hc : At w c cs tc) (hj : cs[j]? = some (.slice (some ⟨g, 0, none⟩) l.length cap)) (h : Row w 64 2 (.slice (some ⟨g, 0, none⟩) l.length cap) l.length (ents l)) (hgc : ¬ c = g) (hs : Srt l) (hl : l.length ≤ 1000000) (hR : 0 < (rung l p.toList).length) (hjc : place l p.toList + (rung l p.toList).length < cap) :
    Calls Tryd.prog 56 #[.pointer (some ⟨c, j, none⟩), .string p] w (TakePost w c j g cap (place l p.toList + (l.length - (place l p.toList + (rung l p.toList).length))) (l.take (place l p.toList) ++ l.drop (place l p.toList + (rung l p.toList).length)) (rung l p.toList)) := by
  obtain ⟨cur, hat, hn, hcm, hcs, hxs⟩ := Row.at' h
  have cv : w.cell? ⟨c, j, none⟩ = some (.slice (some ⟨g, 0, none⟩) l.length cap) := by rw [hc.cell, hj]
  have hle := rung_le l p.toList
  have HGL := Lib.hid hat.lt
  have PL := Lib.hid (place_any _ l p w (Tr.of_row h) hs hl)
  have RU := Lib.hid (fun w' (he : Ext w w') => run_any _ l p _ cap g 0 w' ((Row.trr h).ext he) hn hcm (fun hh => by cases hh) (fun A hA => by injection hA with hA; exact hA.symm) hs hl)
  have CLO := Lib.hid (fun v (w' : World) (ht : Tr w' v (rung l p.toList)) => clonetr_any v _ w' ht hR (by omega))
  have DEL := Lib.hid (fun w' (he : Ext w w') => delete_any g cap (place l p.toList) (place l p.toList + (rung l p.toList).length) l w' (h.ext he) (by omega) hle hjc)
  have HC := Lib.hid hc
  have HJ := Lib.hid hj
  generalize l.take (place l p.toList) ++ l.drop (place l p.toList + (rung l p.toList).length) = Y at *
  generalize place l p.toList = K at *
  generalize rung l p.toList = R at *
  clear h hat hxs hcs cur hs hc hj
  obtain ⟨m, hm⟩ : ∃ m, m = R.length := ⟨_, rfl⟩
  have HM := Lib.hid hm
  rw [← hm] at hR hjc hle DEL ⊢
  clear hm
  obtain ⟨q, hq⟩ : ∃ q, q = K + (l.length - (K + m)) := ⟨_, rfl⟩
  rw [← hq] at DEL ⊢
  have DEL2 := Lib.hid (fun w' (he : Ext w w') => by have := DEL.out w' he; rw [Int.natCast_add] at this; exact this)
  clear hq DEL
  generalize l.length = n at *
  simp only [maxLen] at hcm
  have i1 : IntKind.i64.wrap ((K : Int) + (m : Int)) = (K : Int) + (m : Int) := by rw [IntKind.wrap_i64]; omega
  go_enter Tryd.func56, Tryd.ntmps56
  go_wp2_with fail
  refine (PL.out).mono ?_
  rintro e w1 ⟨rfl, e1⟩
  have cv1 := e1.cell cv
  have E1 := Lib.hid e1
  clear PL e1
  go_wp2_with fail
  refine (RU.out _ E1.out).mono ?_
  rintro e w2 ⟨v2, ad2, cap2, o2, rfl, e2, t2⟩
  have CL := Lib.hid (CLO.out v2 w2 ⟨_, _, _, _, t2⟩)
  have hv2 := t2.val
  rw [← HM.out] at hv2 CL
  subst hv2
  have E2 := Lib.hid (E1.out.trans e2)
  have cv2 := E2.out.cell cv
  clear RU CLO E1 e2 t2 cv1
  go_wp2_with fail
  refine (CL.out).mono ?_
  rintro e w3 ⟨vr, rfl, r3, e3, f3⟩
  have E3 := Lib.hid (E2.out.trans e3)
  obtain ⟨gr, capr, hvr, -⟩ := Row.ownK r3 hR
  have fr := f3 gr (by rw [hvr]; rfl)
  have fr2 : w.heap.size ≤ gr := Nat.le_trans E2.out.size fr
  subst hvr
  have cv3 := E3.out.cell cv
  have R3 := Lib.hid r3
  clear CL r3 e3 f3 cv2
  go_wp2_with fail
  refine (DEL2.out _ E3.out).mono ?_
  rintro e w4 ⟨rfl, rd, cd⟩
  have at4 := cd.at (HC.out.ext E3.out) hgc
  have cv4 := at4.cell j
  rw [HJ.out] at cv4
  have fz4 := at4.frozen j
  have FIN := Lib.hid (show ∃ vr w1, (Value.slice (some ⟨gr, 0, none⟩) m capr) = vr ∧ Row w1 64 2 vr R.length (ents R) ∧ (∀ q, vr.ownBlock = some q → w.heap.size ≤ q) ∧ Row w1 64 2 (.slice (some ⟨g, 0, none⟩) q cap) q (ents Y) ∧ Chg (fun i => i = g) w w1 ∧ w4.setCell ⟨c, j, none⟩ (.slice (some ⟨g, 0, none⟩) q cap) = w1.setCell ⟨c, j, none⟩ (.slice (some ⟨g, 0, none⟩) q cap) from
    ⟨_, w4, rfl, by
      rw [← HM.out]
      exact R3.out.chg cd (fun x hx e => by injection hx with hx; have hx2 : gr = x := hx; have := HGL.out; omega), fun x hx => by injection hx with hx; rw [← hx]; exact fr2, rd, (Chg.of_ext E3.out).trans cd (fun _ _ x => x), rfl⟩)
  clear at4 rd cd DEL2 E3 R3 cv3 HC HJ
  go_wp2
  go_ret
  obtain ⟨vr, w1, a1, a2, a3, a4, a5, a6⟩ := FIN.out
  exact ⟨vr, w1, by rw [a1]; rfl, a2, a3, a4, a5, a6⟩
end Go.Proofs.YtbneedmfpldpfaaDoor
