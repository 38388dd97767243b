/- The contract of the document's own Ignored. -/
import Derived.Test.YtoompkmncglmoaaDoorTb
import Derived.Test.YtoompkmncglmoaaDoorIf
import Derived.Test.YtoompkmncglmoaaDoorRn
namespace Go.Proofs.YtoompkmncglmoaaDoor
open Go.RowKit Go.Pth

def foldT (p : B) (dir : Bool) (rs : List RL) : Bool := rs.foldl (fun y r => if hit r p dir then !r.nt else y) false
theorem foldT_app (p : B) (dir : Bool) (rs : List RL) (r : RL) : foldT p dir (rs ++ [r]) = if hit r p dir then !r.nt else foldT p dir rs := by
  unfold foldT; rw [List.foldl_append]; rfl
def InvGi (w : World) (rs : List RL) (p : B) (dir : Bool) (y i : Value) (wr : World) : Prop :=
  ∃ k : Nat, k ≤ rs.length ∧ i = .int .i64 k ∧ y = .bool (foldT p dir (rs.take k)) ∧ Ext w wr
set_option maxRecDepth 100000 in
set_option maxHeartbeats 16000000 in
theorem rignored_step (N : Nat) (ih0 : ∀ (v : Value) (rs : List RL) (s : ByteArray) (dir : Bool) (w : World), s.size < N → Gul w v rs → rs.length ≤ 1000 →
    Calls Tryd.prog 15 #[v, .string s, .bool dir] w fun e w' => e = .returned (.bool (ignored rs s.toList dir)) ∧ Ext w w') : ∀ (v : Value) (rs : List RL) (s : ByteArray) (dir : Bool) (w : World), s.size < N + 1 → Gul w v rs → rs.length ≤ 1000 →
    Calls Tryd.prog 15 #[v, .string s, .bool dir] w fun e w' => e = .returned (.bool (ignored rs s.toList dir)) ∧ Ext w w' := by
    intro v rs s dir w hN h hl
    have IH := Lib.hid (fun (q : ByteArray) (wr : World) (hq : q.size < N) (he : Ext w wr) => ih0 v rs q true wr hq (h.ext he) hl)
    clear ih0
    obtain ⟨ad, cap, b, rfl, x2, x3⟩ := h
    obtain ⟨n, hn⟩ : ∃ n, n = rs.length := ⟨_, rfl⟩
    have HNN := Lib.hid hn
    rw [← hn] at x2 hl IH ⊢
    have HX2 := Lib.hid x2; have HX3 := Lib.hid x3
    have HSZ := Lib.hid (size_list s)
    clear hn x2 x3
    go_enter Tryd.func15, Tryd.ntmps15
    go_wp2_with fail
    refine (rvalid_any s w).mono ?_
    rintro e w1 ⟨rfl, e1⟩
    cases hv : valid s.toList with
    | false =>
      have T := Lib.hid (ignored_not rs s.toList dir hv)
      go_wp2_with fail
      go_ret
      exact ⟨retbb T.out.symm, e1⟩
    | true =>
      have STEP := Lib.hid (ignored_step rs s.toList dir hv)
      have PO := Lib.hid (parent_ok hv)
      have NM := Lib.hid (fun w' : World => rname_any s w')
      have E1 := Lib.hid e1
      clear e1 hv
      go_wp2_with fail
      refine (rparent_any s w1).mono ?_
      rintro e w2 ⟨rfl, e2⟩
      have E2 := Lib.hid (E1.out.trans e2)
      clear e2
      have KEY : Hid ((parent s.toList = [] ∨ ignored rs (parent s.toList) true = false) → ignored rs s.toList dir = foldT s.toList dir rs) := Lib.hid (fun h => by
        rw [STEP.out]
        rcases h with h | h
        · rw [h]; rfl
        · rw [h, Bool.and_false]; rfl)
      by_cases hp : parent s.toList = []
      · have T := Lib.hid (KEY.out (Or.inl hp))
        have hz : ((tx (parent s.toList)).toList == []) = true := by rw [tx_list, hp]; rfl
        generalize tx (parent s.toList) = z at *
        clear hp KEY STEP PO IH
        go_wp2_with fail
        go_loopw [8, 9] (fun y i wr => InvGi w rs s.toList dir y i wr) (fun _ i _ => n - (intOf i).toNat)
        case atStart => exact ⟨0, by omega, rfl, rfl, E2.out⟩
        case round =>
          obtain ⟨k, hk, rfl, rfl, he⟩ := hrel
          rw [← HNN.out] at hk
          have HE := Lib.hid he
          by_cases hlt : k < n
          · have i0 : (0 : Int) ≤ (k : Int) := by omega
            have i1 : (k : Int) < (n : Int) := by omega
            have ead := HX2.out (by omega)
            subst ead
            have hkk : k < rs.length := by rw [← HNN.out]; omega
            obtain ⟨r, hr⟩ : ∃ r, r = rs[k] := ⟨_, rfl⟩
            have hr' : rs[k]? = some r := by rw [List.getElem?_eq_getElem hkk, hr]
            have c0 := he.cell (HX3.out k r hr' 0 _ rfl)
            have c1 := he.cell (HX3.out k r hr' 1 _ rfl)
            have c2 := he.cell (HX3.out k r hr' 2 _ rfl)
            have c3 := he.cell (HX3.out k r hr' 3 _ rfl)
            rw [Nat.add_zero] at c0
            have TK : rs.take (k + 1) = rs.take k ++ [r] := by rw [List.take_succ_eq_append_getElem hkk, hr]
            have NXT : Hid (hit r s.toList dir = true → foldT s.toList dir (rs.take (k + 1)) = !r.nt) := Lib.hid (fun h => by rw [TK, foldT_app, h]; rfl)
            have NXF : Hid (hit r s.toList dir = false → foldT s.toList dir (rs.take (k + 1)) = foldT s.toList dir (rs.take k)) := Lib.hid (fun h => by rw [TK, foldT_app, h]; rfl)
            have A4 := Lib.hid (At.new wr #[.bool r.nt, .bool r.dr, .bool r.wh, .string (tx r.pat)] 58)
            have E4 := Lib.hid (he.trans (Ext.alloc wr (.cells #[.bool r.nt, .bool r.dr, .bool r.wh, .string (tx r.pat)] 58)))
            generalize foldT s.toList dir (rs.take k) = Y at *
            clear TK hr hr' hkk he T
            cases hw : r.wh with
            | true =>
              cases hd : r.dr with
              | true =>
                cases dir with
                | true =>
                  rw [hw, hd] at E4 A4
                  have HF0 : Hid (hit r s.toList true = mB r.pat (s.toList)) := Lib.hid (by unfold hit; rw [hw, hd]; rfl)
                  have MT := Lib.hid (fun w' : World => rmatch_any (tx r.pat) (s) w')
                  rw [tx_list] at MT
                  generalize hM : mB r.pat (s.toList) = M at MT HF0
                  go_wp2_with fail
                  refine (MT.out _).mono ?_
                  rintro e w6 ⟨rfl, e6⟩
                  have E6 := Lib.hid (E4.out.trans e6)
                  have A6 := Lib.hid (A4.out.ext e6)
                  have q0 : w6.cell? ⟨wr.heap.size, 0, none⟩ = some (.bool r.nt) := by rw [A6.out.cell]; rfl
                  clear e6 hM
                  cases M with
                  | true =>
                    have HT := Lib.hid (NXT.out HF0.out)
                    go_wp2_with fail
                    exact ⟨⟨k + 1, by rw [← HNN.out]; omega, rfl, by rw [HT.out], E6.out⟩, by simp [intOf]; omega⟩
                  | false =>
                    have HT := Lib.hid (NXF.out HF0.out)
                    go_wp2_with fail
                    exact ⟨⟨k + 1, by rw [← HNN.out]; omega, rfl, by rw [HT.out], E6.out⟩, by simp [intOf]; omega⟩
                | false =>
                  rw [hw, hd] at E4 A4
                  have HF : Hid (hit r s.toList false = false) := Lib.hid (by unfold hit; rw [hd]; rfl)
                  go_wp2_with fail
                  exact ⟨⟨k + 1, by rw [← HNN.out]; omega, rfl, by rw [NXF.out HF.out], E4.out⟩, by simp [intOf]; omega⟩
              | false =>
                rw [hw, hd] at E4 A4
                have HF0 : Hid (hit r s.toList dir = mB r.pat (s.toList)) := Lib.hid (by unfold hit; rw [hw, hd]; cases dir <;> rfl)
                have MT := Lib.hid (fun w' : World => rmatch_any (tx r.pat) (s) w')
                rw [tx_list] at MT
                generalize hM : mB r.pat (s.toList) = M at MT HF0
                go_wp2_with fail
                refine (MT.out _).mono ?_
                rintro e w6 ⟨rfl, e6⟩
                have E6 := Lib.hid (E4.out.trans e6)
                have A6 := Lib.hid (A4.out.ext e6)
                have q0 : w6.cell? ⟨wr.heap.size, 0, none⟩ = some (.bool r.nt) := by rw [A6.out.cell]; rfl
                clear e6 hM
                cases M with
                | true =>
                  have HT := Lib.hid (NXT.out HF0.out)
                  go_wp2_with fail
                  exact ⟨⟨k + 1, by rw [← HNN.out]; omega, rfl, by rw [HT.out], E6.out⟩, by simp [intOf]; omega⟩
                | false =>
                  have HT := Lib.hid (NXF.out HF0.out)
                  go_wp2_with fail
                  exact ⟨⟨k + 1, by rw [← HNN.out]; omega, rfl, by rw [HT.out], E6.out⟩, by simp [intOf]; omega⟩
            | false =>
              cases hd : r.dr with
              | true =>
                cases dir with
                | true =>
                  rw [hw, hd] at E4 A4
                  have HF0 : Hid (hit r s.toList true = mB r.pat (name s.toList)) := Lib.hid (by unfold hit; rw [hw, hd]; rfl)
                  have MT := Lib.hid (fun w' : World => rmatch_any (tx r.pat) (tx (name s.toList)) w')
                  rw [tx_list, tx_list] at MT
                  generalize hM : mB r.pat (name s.toList) = M at MT HF0
                  go_wp2_with fail
                  refine (NM.out _).mono ?_
                  rintro e w5 ⟨rfl, e5⟩
                  have E5 := Lib.hid (E4.out.trans e5)
                  have A5 := Lib.hid (A4.out.ext e5)
                  have q1 : w5.cell? ⟨wr.heap.size, 1, none⟩ = some (.bool true) := by rw [A5.out.cell]; rfl
                  have q3 : w5.cell? ⟨wr.heap.size, 3, none⟩ = some (.string (tx r.pat)) := by rw [A5.out.cell]; rfl
                  clear e5
                  go_wp2_with fail
                  refine (MT.out _).mono ?_
                  rintro e w6 ⟨rfl, e6⟩
                  have E6 := Lib.hid (E5.out.trans e6)
                  have A6 := Lib.hid (A5.out.ext e6)
                  have q0 : w6.cell? ⟨wr.heap.size, 0, none⟩ = some (.bool r.nt) := by rw [A6.out.cell]; rfl
                  clear e6 hM
                  cases M with
                  | true =>
                    have HT := Lib.hid (NXT.out HF0.out)
                    go_wp2_with fail
                    exact ⟨⟨k + 1, by rw [← HNN.out]; omega, rfl, by rw [HT.out], E6.out⟩, by simp [intOf]; omega⟩
                  | false =>
                    have HT := Lib.hid (NXF.out HF0.out)
                    go_wp2_with fail
                    exact ⟨⟨k + 1, by rw [← HNN.out]; omega, rfl, by rw [HT.out], E6.out⟩, by simp [intOf]; omega⟩
                | false =>
                  rw [hw, hd] at E4 A4
                  have HF : Hid (hit r s.toList false = false) := Lib.hid (by unfold hit; rw [hd]; rfl)
                  go_wp2_with fail
                  refine (NM.out _).mono ?_
                  rintro e w5 ⟨rfl, e5⟩
                  have E5 := Lib.hid (E4.out.trans e5)
                  have A5 := Lib.hid (A4.out.ext e5)
                  have q1 : w5.cell? ⟨wr.heap.size, 1, none⟩ = some (.bool true) := by rw [A5.out.cell]; rfl
                  have q3 : w5.cell? ⟨wr.heap.size, 3, none⟩ = some (.string (tx r.pat)) := by rw [A5.out.cell]; rfl
                  clear e5
                  go_wp2_with fail
                  exact ⟨⟨k + 1, by rw [← HNN.out]; omega, rfl, by rw [NXF.out HF.out], E5.out⟩, by simp [intOf]; omega⟩
              | false =>
                rw [hw, hd] at E4 A4
                have HF0 : Hid (hit r s.toList dir = mB r.pat (name s.toList)) := Lib.hid (by unfold hit; rw [hw, hd]; cases dir <;> rfl)
                have MT := Lib.hid (fun w' : World => rmatch_any (tx r.pat) (tx (name s.toList)) w')
                rw [tx_list, tx_list] at MT
                generalize hM : mB r.pat (name s.toList) = M at MT HF0
                go_wp2_with fail
                refine (NM.out _).mono ?_
                rintro e w5 ⟨rfl, e5⟩
                have E5 := Lib.hid (E4.out.trans e5)
                have A5 := Lib.hid (A4.out.ext e5)
                have q1 : w5.cell? ⟨wr.heap.size, 1, none⟩ = some (.bool false) := by rw [A5.out.cell]; rfl
                have q3 : w5.cell? ⟨wr.heap.size, 3, none⟩ = some (.string (tx r.pat)) := by rw [A5.out.cell]; rfl
                clear e5
                go_wp2_with fail
                refine (MT.out _).mono ?_
                rintro e w6 ⟨rfl, e6⟩
                have E6 := Lib.hid (E5.out.trans e6)
                have A6 := Lib.hid (A5.out.ext e6)
                have q0 : w6.cell? ⟨wr.heap.size, 0, none⟩ = some (.bool r.nt) := by rw [A6.out.cell]; rfl
                clear e6 hM
                cases M with
                | true =>
                  have HT := Lib.hid (NXT.out HF0.out)
                  go_wp2_with fail
                  exact ⟨⟨k + 1, by rw [← HNN.out]; omega, rfl, by rw [HT.out], E6.out⟩, by simp [intOf]; omega⟩
                | false =>
                  have HT := Lib.hid (NXF.out HF0.out)
                  go_wp2_with fail
                  exact ⟨⟨k + 1, by rw [← HNN.out]; omega, rfl, by rw [HT.out], E6.out⟩, by simp [intOf]; omega⟩
          · obtain rfl : k = n := by omega
            have FIN : Hid (ignored rs s.toList dir = foldT s.toList dir (rs.take k)) := Lib.hid (by rw [T.out, HNN.out, List.take_length])
            generalize foldT s.toList dir (rs.take k) = Y at *
            clear he T
            go_wp2_with fail
            go_ret
            exact ⟨retbb FIN.out.symm, HE.out⟩
      · have hz : ((tx (parent s.toList)).toList == []) = false := by rw [tx_list]; simpa using hp
        have ih := Lib.hid (IH.out (tx (parent s.toList)) w2 (by rw [tx_size]; have h1 := PO.out.2; have h2 := HSZ.out; omega) E2.out)
        rw [tx_list] at ih
        generalize tx (parent s.toList) = z at *
        go_wp2_with fail
        refine (ih.out).mono ?_
        rintro e w3 ⟨rfl, e3⟩
        have E3 := Lib.hid (E2.out.trans e3)
        clear e3 ih IH
        cases hi : ignored rs (parent s.toList) true with
        | true =>
          have T2 : Hid (ignored rs s.toList dir = true) := Lib.hid (by
            rw [STEP.out, hi]
            have : (parent s.toList == []) = false := by simpa using hp
            rw [this]; rfl)
          clear hi KEY STEP PO
          go_wp2_with fail
          go_ret
          exact ⟨retbb T2.out.symm, E3.out⟩
        | false =>
          have T := Lib.hid (KEY.out (Or.inr hi))
          clear hi hp KEY STEP PO
          go_wp2_with fail
          go_loopw [8, 9] (fun y i wr => InvGi w rs s.toList dir y i wr) (fun _ i _ => n - (intOf i).toNat)
          case atStart => exact ⟨0, by omega, rfl, rfl, E3.out⟩
          case round =>
            obtain ⟨k, hk, rfl, rfl, he⟩ := hrel
            rw [← HNN.out] at hk
            have HE := Lib.hid he
            by_cases hlt : k < n
            · have i0 : (0 : Int) ≤ (k : Int) := by omega
              have i1 : (k : Int) < (n : Int) := by omega
              have ead := HX2.out (by omega)
              subst ead
              have hkk : k < rs.length := by rw [← HNN.out]; omega
              obtain ⟨r, hr⟩ : ∃ r, r = rs[k] := ⟨_, rfl⟩
              have hr' : rs[k]? = some r := by rw [List.getElem?_eq_getElem hkk, hr]
              have c0 := he.cell (HX3.out k r hr' 0 _ rfl)
              have c1 := he.cell (HX3.out k r hr' 1 _ rfl)
              have c2 := he.cell (HX3.out k r hr' 2 _ rfl)
              have c3 := he.cell (HX3.out k r hr' 3 _ rfl)
              rw [Nat.add_zero] at c0
              have TK : rs.take (k + 1) = rs.take k ++ [r] := by rw [List.take_succ_eq_append_getElem hkk, hr]
              have NXT : Hid (hit r s.toList dir = true → foldT s.toList dir (rs.take (k + 1)) = !r.nt) := Lib.hid (fun h => by rw [TK, foldT_app, h]; rfl)
              have NXF : Hid (hit r s.toList dir = false → foldT s.toList dir (rs.take (k + 1)) = foldT s.toList dir (rs.take k)) := Lib.hid (fun h => by rw [TK, foldT_app, h]; rfl)
              have A4 := Lib.hid (At.new wr #[.bool r.nt, .bool r.dr, .bool r.wh, .string (tx r.pat)] 58)
              have E4 := Lib.hid (he.trans (Ext.alloc wr (.cells #[.bool r.nt, .bool r.dr, .bool r.wh, .string (tx r.pat)] 58)))
              generalize foldT s.toList dir (rs.take k) = Y at *
              clear TK hr hr' hkk he T
              cases hw : r.wh with
              | true =>
                cases hd : r.dr with
                | true =>
                  cases dir with
                  | true =>
                    rw [hw, hd] at E4 A4
                    have HF0 : Hid (hit r s.toList true = mB r.pat (s.toList)) := Lib.hid (by unfold hit; rw [hw, hd]; rfl)
                    have MT := Lib.hid (fun w' : World => rmatch_any (tx r.pat) (s) w')
                    rw [tx_list] at MT
                    generalize hM : mB r.pat (s.toList) = M at MT HF0
                    go_wp2_with fail
                    refine (MT.out _).mono ?_
                    rintro e w6 ⟨rfl, e6⟩
                    have E6 := Lib.hid (E4.out.trans e6)
                    have A6 := Lib.hid (A4.out.ext e6)
                    have q0 : w6.cell? ⟨wr.heap.size, 0, none⟩ = some (.bool r.nt) := by rw [A6.out.cell]; rfl
                    clear e6 hM
                    cases M with
                    | true =>
                      have HT := Lib.hid (NXT.out HF0.out)
                      go_wp2_with fail
                      exact ⟨⟨k + 1, by rw [← HNN.out]; omega, rfl, by rw [HT.out], E6.out⟩, by simp [intOf]; omega⟩
                    | false =>
                      have HT := Lib.hid (NXF.out HF0.out)
                      go_wp2_with fail
                      exact ⟨⟨k + 1, by rw [← HNN.out]; omega, rfl, by rw [HT.out], E6.out⟩, by simp [intOf]; omega⟩
                  | false =>
                    rw [hw, hd] at E4 A4
                    have HF : Hid (hit r s.toList false = false) := Lib.hid (by unfold hit; rw [hd]; rfl)
                    go_wp2_with fail
                    exact ⟨⟨k + 1, by rw [← HNN.out]; omega, rfl, by rw [NXF.out HF.out], E4.out⟩, by simp [intOf]; omega⟩
                | false =>
                  rw [hw, hd] at E4 A4
                  have HF0 : Hid (hit r s.toList dir = mB r.pat (s.toList)) := Lib.hid (by unfold hit; rw [hw, hd]; cases dir <;> rfl)
                  have MT := Lib.hid (fun w' : World => rmatch_any (tx r.pat) (s) w')
                  rw [tx_list] at MT
                  generalize hM : mB r.pat (s.toList) = M at MT HF0
                  go_wp2_with fail
                  refine (MT.out _).mono ?_
                  rintro e w6 ⟨rfl, e6⟩
                  have E6 := Lib.hid (E4.out.trans e6)
                  have A6 := Lib.hid (A4.out.ext e6)
                  have q0 : w6.cell? ⟨wr.heap.size, 0, none⟩ = some (.bool r.nt) := by rw [A6.out.cell]; rfl
                  clear e6 hM
                  cases M with
                  | true =>
                    have HT := Lib.hid (NXT.out HF0.out)
                    go_wp2_with fail
                    exact ⟨⟨k + 1, by rw [← HNN.out]; omega, rfl, by rw [HT.out], E6.out⟩, by simp [intOf]; omega⟩
                  | false =>
                    have HT := Lib.hid (NXF.out HF0.out)
                    go_wp2_with fail
                    exact ⟨⟨k + 1, by rw [← HNN.out]; omega, rfl, by rw [HT.out], E6.out⟩, by simp [intOf]; omega⟩
              | false =>
                cases hd : r.dr with
                | true =>
                  cases dir with
                  | true =>
                    rw [hw, hd] at E4 A4
                    have HF0 : Hid (hit r s.toList true = mB r.pat (name s.toList)) := Lib.hid (by unfold hit; rw [hw, hd]; rfl)
                    have MT := Lib.hid (fun w' : World => rmatch_any (tx r.pat) (tx (name s.toList)) w')
                    rw [tx_list, tx_list] at MT
                    generalize hM : mB r.pat (name s.toList) = M at MT HF0
                    go_wp2_with fail
                    refine (NM.out _).mono ?_
                    rintro e w5 ⟨rfl, e5⟩
                    have E5 := Lib.hid (E4.out.trans e5)
                    have A5 := Lib.hid (A4.out.ext e5)
                    have q1 : w5.cell? ⟨wr.heap.size, 1, none⟩ = some (.bool true) := by rw [A5.out.cell]; rfl
                    have q3 : w5.cell? ⟨wr.heap.size, 3, none⟩ = some (.string (tx r.pat)) := by rw [A5.out.cell]; rfl
                    clear e5
                    go_wp2_with fail
                    refine (MT.out _).mono ?_
                    rintro e w6 ⟨rfl, e6⟩
                    have E6 := Lib.hid (E5.out.trans e6)
                    have A6 := Lib.hid (A5.out.ext e6)
                    have q0 : w6.cell? ⟨wr.heap.size, 0, none⟩ = some (.bool r.nt) := by rw [A6.out.cell]; rfl
                    clear e6 hM
                    cases M with
                    | true =>
                      have HT := Lib.hid (NXT.out HF0.out)
                      go_wp2_with fail
                      exact ⟨⟨k + 1, by rw [← HNN.out]; omega, rfl, by rw [HT.out], E6.out⟩, by simp [intOf]; omega⟩
                    | false =>
                      have HT := Lib.hid (NXF.out HF0.out)
                      go_wp2_with fail
                      exact ⟨⟨k + 1, by rw [← HNN.out]; omega, rfl, by rw [HT.out], E6.out⟩, by simp [intOf]; omega⟩
                  | false =>
                    rw [hw, hd] at E4 A4
                    have HF : Hid (hit r s.toList false = false) := Lib.hid (by unfold hit; rw [hd]; rfl)
                    go_wp2_with fail
                    refine (NM.out _).mono ?_
                    rintro e w5 ⟨rfl, e5⟩
                    have E5 := Lib.hid (E4.out.trans e5)
                    have A5 := Lib.hid (A4.out.ext e5)
                    have q1 : w5.cell? ⟨wr.heap.size, 1, none⟩ = some (.bool true) := by rw [A5.out.cell]; rfl
                    have q3 : w5.cell? ⟨wr.heap.size, 3, none⟩ = some (.string (tx r.pat)) := by rw [A5.out.cell]; rfl
                    clear e5
                    go_wp2_with fail
                    exact ⟨⟨k + 1, by rw [← HNN.out]; omega, rfl, by rw [NXF.out HF.out], E5.out⟩, by simp [intOf]; omega⟩
                | false =>
                  rw [hw, hd] at E4 A4
                  have HF0 : Hid (hit r s.toList dir = mB r.pat (name s.toList)) := Lib.hid (by unfold hit; rw [hw, hd]; cases dir <;> rfl)
                  have MT := Lib.hid (fun w' : World => rmatch_any (tx r.pat) (tx (name s.toList)) w')
                  rw [tx_list, tx_list] at MT
                  generalize hM : mB r.pat (name s.toList) = M at MT HF0
                  go_wp2_with fail
                  refine (NM.out _).mono ?_
                  rintro e w5 ⟨rfl, e5⟩
                  have E5 := Lib.hid (E4.out.trans e5)
                  have A5 := Lib.hid (A4.out.ext e5)
                  have q1 : w5.cell? ⟨wr.heap.size, 1, none⟩ = some (.bool false) := by rw [A5.out.cell]; rfl
                  have q3 : w5.cell? ⟨wr.heap.size, 3, none⟩ = some (.string (tx r.pat)) := by rw [A5.out.cell]; rfl
                  clear e5
                  go_wp2_with fail
                  refine (MT.out _).mono ?_
                  rintro e w6 ⟨rfl, e6⟩
                  have E6 := Lib.hid (E5.out.trans e6)
                  have A6 := Lib.hid (A5.out.ext e6)
                  have q0 : w6.cell? ⟨wr.heap.size, 0, none⟩ = some (.bool r.nt) := by rw [A6.out.cell]; rfl
                  clear e6 hM
                  cases M with
                  | true =>
                    have HT := Lib.hid (NXT.out HF0.out)
                    go_wp2_with fail
                    exact ⟨⟨k + 1, by rw [← HNN.out]; omega, rfl, by rw [HT.out], E6.out⟩, by simp [intOf]; omega⟩
                  | false =>
                    have HT := Lib.hid (NXF.out HF0.out)
                    go_wp2_with fail
                    exact ⟨⟨k + 1, by rw [← HNN.out]; omega, rfl, by rw [HT.out], E6.out⟩, by simp [intOf]; omega⟩
            · obtain rfl : k = n := by omega
              have FIN : Hid (ignored rs s.toList dir = foldT s.toList dir (rs.take k)) := Lib.hid (by rw [T.out, HNN.out, List.take_length])
              generalize foldT s.toList dir (rs.take k) = Y at *
              clear he T
              go_wp2_with fail
              go_ret
              exact ⟨retbb FIN.out.symm, HE.out⟩
theorem rignored_any : ∀ (N : Nat) (v : Value) (rs : List RL) (s : ByteArray) (dir : Bool) (w : World), s.size < N → Gul w v rs → rs.length ≤ 1000 →
    Calls Tryd.prog 15 #[v, .string s, .bool dir] w fun e w' => e = .returned (.bool (ignored rs s.toList dir)) ∧ Ext w w'
  | 0 => fun _ _ _ _ _ h _ _ => absurd h (by omega)
  | N + 1 => rignored_step N (rignored_any N)
end Go.Proofs.YtoompkmncglmoaaDoor
