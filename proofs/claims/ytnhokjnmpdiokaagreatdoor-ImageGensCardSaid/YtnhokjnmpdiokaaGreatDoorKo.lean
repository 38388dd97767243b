/- The walk of ImagePlays. No conditions: a contract. -/
import Derived.Test.YtnhokjnmpdiokaaGreatDoorKiM
import Derived.Test.YtnhokjnmpdiokaaGreatDoorKm
import Derived.Test.YtnhokjnmpdiokaaGreatDoorKn
namespace Go.Proofs.YtnhokjnmpdiokaaGreatDoor
open Go.RowKit Go.Sha Go.Pth
set_option linter.unusedSimpArgs false
set_option linter.unusedVariables false

/-- Between two rounds: nothing was committed, or all three copies are the last image's page. -/
def Bet (w : World) (sb ab k : Nat) (u : Value) (lu : List RV) (wr : World) : Prop :=
  (∃ d, k = 0 ∧ u = .slice none 0 0 ∧ lu = [] ∧ Lw w sb ab 0 2 d 0 (fun _ => []) u lu wr) ∨ ∃ d, 1 ≤ k ∧ Lw w sb ab k (2 + 100 * k) d 3 (fun _ => pageI k (lu.map RV.d)) u lu wr ∧ imageL (lu.map RV.d) = true ∧ BytR (lu.map RV.d) ∧ TimR (lu.map RV.d)
theorem Bet.e {w wr : World} {sb ab k : Nat} {u : Value} {lu : List RV} (h : Bet w sb ab k u lu wr) : Ext w wr := by
  rcases h with ⟨d, _, _, _, h⟩ | ⟨d, _, h, _⟩
  · exact h.e
  · exact h.e
theorem Bet.len {w wr : World} {sb ab k : Nat} {u : Value} {lu : List RV} (h : Bet w sb ab k u lu wr) : ∃ ad cap, u = .slice ad lu.length cap := by
  rcases h with ⟨d, _, _, _, h⟩ | ⟨d, _, h, _⟩
  · exact h.len
  · exact h.len
theorem Bet.shows {w wr : World} {sb ab k : Nat} {u : Value} {lu : List RV} (h : Bet w sb ab k u lu wr) : Calls Tryz.prog 13 #[V.ptr ab, u, .int .i64 (k : Int)] wr fun e w' => e = .returned (.bool true) ∧ Bet w sb ab k u lu w' := by
  rcases h with ⟨d, rfl, rfl, rfl, h⟩ | ⟨d, h1, h, hi, hb, ht⟩
  · exact (h.shows (by rfl)).mono fun _ _ q => ⟨q.1, Or.inl ⟨d, rfl, rfl, rfl, h.ext q.2⟩⟩
  · exact (h.shows hi).mono fun _ _ q => ⟨q.1, Or.inr ⟨d, h1, h.ext q.2, hi, hb, ht⟩⟩
/-- At the end it is opened. -/
theorem Bet.open {w wr : World} {sb ab k : Nat} {u : Value} {lu : List RV} (h : Bet w sb ab k u lu wr) (hk : k ≤ 12) (hK : KAt w) : Calls Tryz.prog 19 #[V.ptr sb] wr fun e w' => ∃ ab', e = .returned (.tuple #[V.ptr ab', .int .i64 0]) ∧ Ext w w' ∧
    Calls Tryz.prog 13 #[V.ptr ab', u, .int .i64 (k : Int)] w' fun e w2 => e = .returned (.bool true) ∧ Ext w w2 := by
  rcases h with ⟨d, rfl, rfl, rfl, S, W, L, v, l, ids, A, hd, hr, MD, CN, h0, hL, hab, e⟩ | ⟨d, h1, h, hi, hb, ht⟩
  · obtain rfl : ids = [] := List.length_eq_zero_iff.1 h0
    refine (open_none (w0 := w) A.rep MD (by omega) (hK.below e hK.lt) e hL).mono fun e' w' q => ?_
    obtain ⟨ab', h1, fr⟩ := q
    obtain ⟨d', lw⟩ := Lw.fresh fr
    exact ⟨ab', h1, lw.e, (lw.shows (by rfl)).mono fun _ _ r => ⟨r.1, lw.e.trans r.2⟩⟩
  · refine (h.open (by omega) hK hi hb ht ⟨h1, by omega⟩ 0 1 (by omega) (by omega) rfl rfl).mono fun e' w' q => ?_
    obtain ⟨ab', h2, lw⟩ := q
    exact ⟨ab', h2, lw.e, (lw.shows hi).mono fun _ _ r => ⟨r.1, lw.e.trans r.2⟩⟩
/-- Within a round: whatever the copies hold. -/
def Mid (w : World) (sb ab k : Nat) (u : Value) (lu : List RV) (wr : World) : Prop :=
  (∃ d, k = 0 ∧ Lw w sb ab 0 2 d 0 (fun _ => []) u lu wr) ∨ ∃ d con, 1 ≤ k ∧ Lw w sb ab k (2 + 100 * k + 60) d 3 con u lu wr
theorem Bet.mid {w wr : World} {sb ab k : Nat} {u : Value} {lu : List RV} (h : Bet w sb ab k u lu wr) : Mid w sb ab k u lu wr := by
  rcases h with ⟨d, h1, _, _, h⟩ | ⟨d, h1, h, _⟩
  · exact Or.inl ⟨d, h1, h⟩
  · exact Or.inr ⟨d, _, h1, h.up (by omega)⟩
theorem Mid.e {w wr : World} {sb ab k : Nat} {u : Value} {lu : List RV} (h : Mid w sb ab k u lu wr) : Ext w wr := by
  rcases h with ⟨d, _, h⟩ | ⟨d, _, _, h⟩
  · exact h.e
  · exact h.e
theorem Mid.commit {w wr w1 : World} {sb ab k : Nat} {u : Value} {lu : List RV} (h : Mid w sb ab k u lu wr) (hk : k ≤ 12) (hK : KAt w) (e1 : Ext wr w1) {ms : List Int} (hm : B64 ms) {u' : Value} {lu' : List RV} (hr : OwnR w1 wr.heap.size u' lu') (hd : lu'.map RV.d = refsK ms 20) :
    Calls Tryz.prog 12 #[V.ptr ab, u'] w1 fun e w' => e = .returned (.int .i64 0) ∧ Bet w sb ab (k + 1) u' lu' w' := by
  have hi : imageL (lu'.map RV.d) = true := by rw [hd]; exact refsK_image ms
  have hb : BytR (lu'.map RV.d) := by rw [hd]; exact refsK_byt ms
  have ht : TimR (lu'.map RV.d) := by rw [hd]; exact refsK_tim ms hm
  rcases h with ⟨d, rfl, h⟩ | ⟨d, con, h1, h⟩
  · exact (h.commit (Or.inr rfl) (by omega) hK e1 hr hi hb (by omega)).mono fun _ _ q => ⟨q.1, Or.inr ⟨d, by omega, q.2.up (by omega), hi, hb, ht⟩⟩
  · exact (h.commit (Or.inl rfl) (by omega) hK e1 hr hi hb (by omega)).mono fun _ _ q => ⟨q.1, Or.inr ⟨d, by omega, q.2.up (by omega), hi, hb, ht⟩⟩
end Go.Proofs.YtnhokjnmpdiokaaGreatDoor
