/- The contract of elected (the code's). The contracts of Ints, others and Vote (the code's). The contract of Vote (the code's). -/
import Derived.Test.YtnhokjnmpdiokaaGreatDoorHaM
import Derived.Test.YtnhokjnmpdiokaaGreatDoorSaM
import Derived.BigQuiet
namespace Go.Proofs.YtnhokjnmpdiokaaGreatDoor
open Go.RowKit Go.Sha
set_option linter.unusedSimpArgs false
set_option linter.unusedVariables false

theorem mayQ_any (p : Pg) (v : Value) (w : World) (h : Src w v p.2 w.heap.size) : Calls Tryz.prog 76 #[.agg #[.int .i64 p.1, v]] w fun e w' => e = .returned (.bool (mayP p)) ∧ Ext w w' := by
  obtain ⟨ad, cap, ev⟩ := h.len
  subst ev
  exact mayP_any p.1 ad p.2.length cap w
def hit (p : Pg) (r : List Pg) : Bool := r.any fun q => mayP p && sameP p q
def electL : List Pg → Pg → Pg
  | [], n => n
  | p :: r, n => if hit p r then p else electL r (if n.1 < p.1 then p else n)
def InvEl (w : World) (l : List PV) (L : List Pg) (E : Pg) (i : Value) (wr : World) : Prop :=
  ∃ (k : Nat) (N : Pg) (vN : Value), k ≤ L.length ∧ i = .int .i64 k ∧ E = electL (L.drop k) N ∧ InL l vN N.2 ∧ Ext w wr ∧ At wr w.heap.size #[.int .i64 0, .slice none 0 0] 108 ∧ At wr (w.heap.size + 1) #[.int .i64 N.1, vN] 108
def InvIn (W : World) (p : Pg) (R : List Pg) (n : Nat) (i : Value) (wr : World) : Prop := ∃ q : Nat, q ≤ n ∧ i = .int .i64 q ∧ hit p R = hit p (R.drop q) ∧ Ext W wr
def ElPost (w : World) (l : List PV) (E : Pg) (e : Ending) (w' : World) : Prop := ∃ v, e = .returned (.agg #[.int .i64 E.1, v]) ∧ Ext w w' ∧ InL l v E.2
theorem hit_step (p : Pg) (R : List Pg) (q : Nat) (y : Pg) (h : R[q]? = some y) : hit p (R.drop q) = ((mayP p && sameP p y) || hit p (R.drop (q + 1))) := by
  have hl : q < R.length := (List.getElem?_eq_some_iff.1 h).1
  rw [List.drop_eq_getElem_cons hl]
  have : R[q] = y := by rw [List.getElem?_eq_getElem hl] at h; injection h
  rw [this]
  rfl
theorem hit_end (p : Pg) (R : List Pg) (q : Nat) (h : R.length ≤ q) : hit p (R.drop q) = false := by
  rw [List.drop_of_length_le h]; rfl
theorem elect_step (L : List Pg) (k : Nat) (N p : Pg) (h : L[k]? = some p) : electL (L.drop k) N = (if hit p (L.drop (k + 1)) then p else electL (L.drop (k + 1)) (if N.1 < p.1 then p else N)) := by
  have hl : k < L.length := (List.getElem?_eq_some_iff.1 h).1
  rw [List.drop_eq_getElem_cons hl]
  have : L[k] = p := by rw [List.getElem?_eq_getElem hl] at h; injection h
  rw [this]
  rfl
theorem vals_get (l : List PV) (j : Nat) (x : PV) (h : l[j]? = some x) : (vals l)[j]? = some (x.1, x.2.2) := by unfold vals; rw [List.getElem?_map, h]; rfl

set_option maxHeartbeats 8000000 in
set_option maxRecDepth 100000 in
theorem elected_any (v : Value) (l : List PV) (w : World) (h : PR w v l) (hl : l.length ≤ 1000000) :
    Calls Tryz.prog 89 #[v] w (ElPost w l (electL (vals l) (0, []))) := by
  obtain ⟨E, hE⟩ : ∃ E, electL (vals l) (0, []) = E := ⟨_, rfl⟩
  rw [hE]
  have HPR := Lib.hid h
  obtain ⟨ad, cap, pb, po, ev, hcap, hpos, hcells⟩ := h
  subst ev
  obtain ⟨n, hn⟩ : ∃ n, n = l.length := ⟨_, rfl⟩
  rw [← hn] at hcap hpos hl ⊢
  have HN := Lib.hid hn
  have HC := Lib.hid hcells
  have HP := Lib.hid hpos
  have hL : (vals l).length = n := by unfold vals; rw [List.length_map]; exact hn.symm
  have HL := Lib.hid hL
  have zone : (#[.int .i64 0, .slice none 0 0] : Array Value).all (·.oneCell') = true := by simp [Value.oneCell']
  have szz : (Tryz.prog.info? 108).map (·.size) = some (#[.int .i64 0, .slice none 0 0] : Array Value).size := szPage
  have e0 : Ext w ((w.alloc (.cells #[.int .i64 0, .slice none 0 0] 108)).alloc (.cells #[.int .i64 0, .slice none 0 0] 108)) := (Ext.alloc w _).trans (Ext.alloc _ _)
  have a2 : At ((w.alloc (.cells #[.int .i64 0, .slice none 0 0] 108)).alloc (.cells #[.int .i64 0, .slice none 0 0] 108)) w.heap.size #[.int .i64 0, .slice none 0 0] 108 := (At.new w _ _).alloc _
  have a3 := At.new1 w (.cells #[.int .i64 0, .slice none 0 0] 108) #[.int .i64 0, .slice none 0 0] 108
  have H0 := Lib.hid (And.intro hE.symm (And.intro e0 (And.intro a2 a3)))
  clear hn hcells hpos hE hL e0 a2 a3
  go_enter Tryz.func89, Tryz.ntmps89
  go_wp2
  go_loopw [10] (fun i wr => InvEl w l (vals l) E i wr) (fun i _ => n - (intOf i).toNat)
  case atStart => exact ⟨0, (0, []), .slice none 0 0, by omega, rfl, by rw [List.drop_zero]; exact H0.out.1, Or.inl ⟨rfl, rfl⟩, H0.out.2.1, H0.out.2.2.1, H0.out.2.2.2⟩
  case round =>
    clear H0
    obtain ⟨k, ⟨gN, mN⟩, vN, hk, rfl, hE, iN, ex, a2, a3⟩ := hrel
    simp only at iN a3
    have sN := HPR.out.src iN
    rw [HL.out] at hk
    obtain ⟨adN, capN, evN⟩ := sN.len
    obtain ⟨MN, hMN⟩ : ∃ n, n = mN.length := ⟨_, rfl⟩
    rw [← hMN] at evN
    clear hMN
    subst evN
    have HE := Lib.hid hE
    have HSN := Lib.hid iN
    clear hE sN iN
    by_cases hlt : k < n
    · have i0 : (k : Int) < (n : Int) := by omega
      have i1 : (0 : Int) ≤ (k : Int) := by omega
      have ea := HP.out (by omega)
      subst ea
      obtain ⟨x, hx⟩ : ∃ x, l[k]? = some x := ⟨_, List.getElem?_eq_getElem (by rw [← HN.out]; exact hlt)⟩
      obtain ⟨c0, c1, sx⟩ := HC.out k x hx
      have ix : InL l x.2.1 x.2.2 := Or.inr ⟨x, List.mem_of_getElem? hx, rfl, rfl⟩
      have hvx := vals_get l k x hx
      have hst := elect_step (vals l) k (gN, mN) _ hvx
      obtain ⟨gx, vx, mx⟩ := x
      simp only at c0 c1 sx hst ix
      rw [← HE.out] at hst
      have HE2 := Lib.hid hst
      obtain ⟨adx, capx, evx⟩ := sx.len
      obtain ⟨MX, hMX⟩ : ∃ n, n = mx.length := ⟨_, rfl⟩
      rw [← hMX] at evx
      clear hMX
      subst evx
      have HSX := Lib.hid sx
      have HIX := Lib.hid ix
      clear ix
      have c0' : wr.cell? ⟨pb, po + k * 2, none⟩ = some (.int .i64 gx) := by rw [Below.cell (p := ⟨pb, po + k * 2, none⟩) ex (World.block_lt_of_cell? w _ c0)]; exact c0
      have c1' : wr.cell? ⟨pb, po + k * 2 + 1, none⟩ = some (.slice adx MX capx) := by rw [Below.cell (p := ⟨pb, po + k * 2 + 1, none⟩) ex (World.block_lt_of_cell? w _ c1)]; exact c1
      have e4 : Ext wr (wr.alloc (.cells #[.int .i64 0, .slice none 0 0] 108)) := Ext.alloc wr _
      have a4 := At.new wr #[.int .i64 0, .slice none 0 0] 108
      have one : (#[.int .i64 gx, .slice adx MX capx] : Array Value).all (·.oneCell') = true := by simp [Value.oneCell']
      have sz2 : (Tryz.prog.info? 108).map (·.size) = some (#[.int .i64 gx, .slice adx MX capx] : Array Value).size := szPage
      have e5 := ext_only' e4 (Only.setRow wr.heap.size _ #[.int .i64 gx, .slice adx MX capx]) (Nat.le_refl _)
      have a5 : At ((wr.alloc (.cells #[.int .i64 0, .slice none 0 0] 108)).setRow wr.heap.size #[.int .i64 gx, .slice adx MX capx]) wr.heap.size #[.int .i64 gx, .slice adx MX capx] 108 := a4.row _
      have a25 := at_ext a2 e5
      have a35 := at_ext a3 e5
      clear c0 c1 sx hx hvx hst HE
      go_upto_region 5 with (refine wpList_store_row rfl 108 _ _ rfl wr.heap.size _ rfl rfl 108 _ a4 sz2 rfl one ?_)
      clear c0' c1' a2 a3 e4 a4
      generalize (wr.alloc (.cells #[.int .i64 0, .slice none 0 0] 108)).setRow wr.heap.size #[.int .i64 gx, .slice adx MX capx] = w5 at *
      obtain ⟨g5, hg5⟩ : ∃ g, g = wr.heap.size := ⟨_, rfl⟩
      rw [← hg5] at a5 ⊢
      have ex5 := ex.trans e5
      clear ex e5 hg5
      have f50 := a5.cell 0
      have f51 := a5.cell 1
      have f30 := a35.cell 0
      by_cases hlast : k + 1 = n
      · have hh := hit_end (gx, mx) (vals l) (k + 1) (by rw [HL.out]; omega)
        have HH := Lib.hid hh
        clear hh
        have j1 : (k : Int) + 1 ≤ (n : Int) := by omega
        have hsub : n - (k + 1) = 0 := by omega
        have HLa := Lib.hid hlast
        clear hlast
        by_cases hcn : cap = k + 1
        · replace hcn := hcn.symm
          go_upto_region 6 with (fail)
          clear hsub j1 hcn
          have i8 : k + 1 ≤ n := by have := HLa.out; omega
          obtain ⟨wq, rfl⟩ : ∃ V, V = wr := ⟨_, rfl⟩
          go_loopw [20] (fun i wr => i = .int .i64 0 ∧ w5 = wr) (fun i _ => 0)
          case atStart => exact ⟨rfl, rfl⟩
          case round =>
            obtain ⟨rfl, rfl⟩ := hrel
            obtain ⟨B, hB⟩ : ∃ B, decide (gN < gx) = B := ⟨_, rfl⟩
            have HF := Lib.hid (by have := HE2.out; rw [HH.out] at this; simp only [Bool.false_eq_true, if_false] at this; exact this : E = electL ((vals l).drop (k + 1)) (if gN < gx then (gx, mx) else (gN, mN)))
            cases B
            · have hng : ¬ gN < gx := by simpa using hB
              have HF2 := Lib.hid (by have := HF.out; rw [if_neg hng] at this; exact this)
              have F := Lib.hid (And.intro ex5 (And.intro a25 a35))
              clear HF hng
              go_wp2_with (refine wpList_load_row rfl 108 _ rfl g5 rfl 108 _ (0, 0) _ a5 Tryz.underlying108 rfl szPage ?_)
              exact ⟨⟨k + 1, (gN, mN), _, by rw [HL.out]; omega, by go_num, HF2.out, HSN.out, F.out.1, F.out.2.1, F.out.2.2⟩, by simp [intOf]; omega⟩
            · have hng : gN < gx := by simpa using hB
              have HF2 := Lib.hid (by have := HF.out; rw [if_pos hng] at this; exact this)
              have one2 : (#[.int .i64 gx, .slice adx MX capx] : Array Value).all (·.oneCell') = true := by simp [Value.oneCell']
              have o9 := Only.setRow (w.heap.size + 1) w5 #[.int .i64 gx, .slice adx MX capx]
              have e9 := ext_only' ex5 o9 (by omega)
              have a29 := o9.at a25 (by omega)
              have a39 := (a35).row #[.int .i64 gx, .slice adx MX capx]
              have F := Lib.hid (And.intro e9 (And.intro a29 a39))
              clear HF hng o9 e9 a29 a39
              go_wp2_with (first | (refine wpList_load_row rfl 108 _ rfl g5 rfl 108 _ (0, 0) _ a5 Tryz.underlying108 rfl szPage ?_) | (refine wpList_store_row rfl 108 _ _ rfl (w.heap.size + 1) _ rfl rfl 108 _ a35 szPage rfl one2 ?_))
              exact ⟨⟨k + 1, (gx, mx), _, by rw [HL.out]; omega, by go_num, HF2.out, HIX.out, F.out.1, F.out.2.1, F.out.2.2⟩, by simp [intOf]; omega⟩
        · go_upto_region 6 with (fail)
          clear hsub j1 hcn
          have i8 : k + 1 ≤ n := by have := HLa.out; omega
          obtain ⟨wq, rfl⟩ : ∃ V, V = wr := ⟨_, rfl⟩
          go_loopw [20] (fun i wr => i = .int .i64 0 ∧ w5 = wr) (fun i _ => 0)
          case atStart => exact ⟨rfl, rfl⟩
          case round =>
            obtain ⟨rfl, rfl⟩ := hrel
            obtain ⟨B, hB⟩ : ∃ B, decide (gN < gx) = B := ⟨_, rfl⟩
            have HF := Lib.hid (by have := HE2.out; rw [HH.out] at this; simp only [Bool.false_eq_true, if_false] at this; exact this : E = electL ((vals l).drop (k + 1)) (if gN < gx then (gx, mx) else (gN, mN)))
            cases B
            · have hng : ¬ gN < gx := by simpa using hB
              have HF2 := Lib.hid (by have := HF.out; rw [if_neg hng] at this; exact this)
              have F := Lib.hid (And.intro ex5 (And.intro a25 a35))
              clear HF hng
              go_wp2_with (refine wpList_load_row rfl 108 _ rfl g5 rfl 108 _ (0, 0) _ a5 Tryz.underlying108 rfl szPage ?_)
              exact ⟨⟨k + 1, (gN, mN), _, by rw [HL.out]; omega, by go_num, HF2.out, HSN.out, F.out.1, F.out.2.1, F.out.2.2⟩, by simp [intOf]; omega⟩
            · have hng : gN < gx := by simpa using hB
              have HF2 := Lib.hid (by have := HF.out; rw [if_pos hng] at this; exact this)
              have one2 : (#[.int .i64 gx, .slice adx MX capx] : Array Value).all (·.oneCell') = true := by simp [Value.oneCell']
              have o9 := Only.setRow (w.heap.size + 1) w5 #[.int .i64 gx, .slice adx MX capx]
              have e9 := ext_only' ex5 o9 (by omega)
              have a29 := o9.at a25 (by omega)
              have a39 := (a35).row #[.int .i64 gx, .slice adx MX capx]
              have F := Lib.hid (And.intro e9 (And.intro a29 a39))
              clear HF hng o9 e9 a29 a39
              go_wp2_with (first | (refine wpList_load_row rfl 108 _ rfl g5 rfl 108 _ (0, 0) _ a5 Tryz.underlying108 rfl szPage ?_) | (refine wpList_store_row rfl 108 _ _ rfl (w.heap.size + 1) _ rfl rfl 108 _ a35 szPage rfl one2 ?_))
              exact ⟨⟨k + 1, (gx, mx), _, by rw [HL.out]; omega, by go_num, HF2.out, HIX.out, F.out.1, F.out.2.1, F.out.2.2⟩, by simp [intOf]; omega⟩
      · have hlt2 : k + 1 < n := by omega
        have hcn : ¬ cap = k + 1 := by omega
        have j1 : (k : Int) + 1 ≤ (n : Int) := by omega
        go_upto_region 6 with (fail)
        clear hcn j1 hlt hlast
        obtain ⟨wq, rfl⟩ : ∃ V, V = wr := ⟨_, rfl⟩
        obtain ⟨NI, hNI⟩ : ∃ m, m = n - (k + 1) := ⟨_, rfl⟩
        rw [← hNI]
        have HNI := Lib.hid hNI
        clear hNI
        have i8 : k + 1 ≤ n := by omega
        have i9 : NI ≤ 1000000 := by have := HNI.out; omega
        go_loopw [20] (fun i wr => InvIn w5 (gx, mx) ((vals l).drop (k + 1)) NI i wr) (fun i _ => NI - (intOf i).toNat)
        case atStart => exact ⟨0, by omega, rfl, by rw [List.drop_zero], Ext.refl _⟩
        case round =>
          obtain ⟨q, hq, rfl, hH, e6⟩ := hrel
          have a56 := at_ext a5 e6
          have a26 := at_ext a25 e6
          have a36 := at_ext a35 e6
          have ex6 := ex5.trans e6
          have HHq := Lib.hid hH
          have E6 := Lib.hid e6
          clear hH
          by_cases hlq : q < NI
          · have iq0 : (q : Int) < (NI : Int) := by omega
            have iq1 : (0 : Int) ≤ (q : Int) := by omega
            obtain ⟨y, hy⟩ : ∃ x, l[k + 1 + q]? = some x := ⟨_, List.getElem?_eq_getElem (by rw [← HN.out]; have := HNI.out; omega)⟩
            obtain ⟨c0, c1, sy⟩ := HC.out (k + 1 + q) y hy
            have hvy := vals_get l (k + 1 + q) y hy
            have hst := hit_step (gx, mx) ((vals l).drop (k + 1)) q _ (by rw [List.getElem?_drop]; exact hvy)
            obtain ⟨gy, vy, my⟩ := y
            simp only at c0 c1 sy hst
            rw [← HHq.out] at hst
            have HST := Lib.hid hst
            obtain ⟨ady, capy, evy⟩ := sy.len
            obtain ⟨MY, hMY⟩ : ∃ n, n = my.length := ⟨_, rfl⟩
            rw [← hMY] at evy
            clear hMY
            subst evy
            have HSY := Lib.hid sy
            rw [show po + (k + 1 + q) * 2 = po + (k + 1) * 2 + q * 2 by omega] at c0 c1
            have c0' : wr.cell? ⟨pb, po + (k + 1) * 2 + q * 2, none⟩ = some (.int .i64 gy) := by rw [Below.cell (p := ⟨pb, po + (k + 1) * 2 + q * 2, none⟩) ex6 (World.block_lt_of_cell? w _ c0)]; exact c0
            have c1' : wr.cell? ⟨pb, po + (k + 1) * 2 + q * 2 + 1, none⟩ = some (.slice ady MY capy) := by rw [Below.cell (p := ⟨pb, po + (k + 1) * 2 + q * 2 + 1, none⟩) ex6 (World.block_lt_of_cell? w _ c1)]; exact c1
            have e7 : Ext wr (wr.alloc (.cells #[.int .i64 0, .slice none 0 0] 108)) := Ext.alloc wr _
            have a7 := At.new wr #[.int .i64 0, .slice none 0 0] 108
            have oney : (#[.int .i64 gy, .slice ady MY capy] : Array Value).all (·.oneCell') = true := by simp [Value.oneCell']
            have szy : (Tryz.prog.info? 108).map (·.size) = some (#[.int .i64 gy, .slice ady MY capy] : Array Value).size := szPage
            have e8 := ext_only' e7 (Only.setRow wr.heap.size _ #[.int .i64 gy, .slice ady MY capy]) (Nat.le_refl _)
            have a8 : At ((wr.alloc (.cells #[.int .i64 0, .slice none 0 0] 108)).setRow wr.heap.size #[.int .i64 gy, .slice ady MY capy]) wr.heap.size #[.int .i64 gy, .slice ady MY capy] 108 := a7.row _
            have a58 := at_ext a56 e8
            have a28 := at_ext a26 e8
            have a38 := at_ext a36 e8
            clear c0 c1 sy hy hvy hst
            go_upto_region 8 with (refine wpList_store_row rfl 108 _ _ rfl wr.heap.size _ rfl rfl 108 _ a7 szy rfl oney ?_)
            clear c0' c1' e7 a7 a56 a26 a36
            generalize (wr.alloc (.cells #[.int .i64 0, .slice none 0 0] 108)).setRow wr.heap.size #[.int .i64 gy, .slice ady MY capy] = w8 at *
            obtain ⟨g7, hg7⟩ : ∃ g, g = wr.heap.size := ⟨_, rfl⟩
            rw [← hg7] at a8 ⊢
            have ex8 := ex6.trans e8
            have e58 := e6.trans e8
            clear e8 hg7 ex6 e6
            have MB := mayQ_any (gx, mx) _ w8 (HSX.out.now ex8)
            obtain ⟨B1, hB1⟩ : ∃ B, mayP (gx, mx) = B := ⟨_, rfl⟩
            simp only at MB
            rw [hB1] at MB
            have HB1 := Lib.hid hB1
            clear hB1
            have f50 := a58.cell 0
            have f51 := a58.cell 1
            go_wp2_with fail
            refine MB.mono ?_
            rintro e w9 ⟨rfl, e9⟩
            clear f50 f51 MB
            have a59 := at_ext a58 e9
            have a29 := at_ext a28 e9
            have a39 := at_ext a38 e9
            have a89 := at_ext a8 e9
            have ex9 := ex8.trans e9
            have e59 := e58.trans e9
            clear a58 a28 a38 a8 ex8 e58 e9
            cases B1
            · have hn2 : hit (gx, mx) ((vals l).drop (k + 1)) = hit (gx, mx) (((vals l).drop (k + 1)).drop (q + 1)) := by rw [HST.out, HB1.out]; rfl
              have F := Lib.hid (And.intro hn2 e59)
              clear hn2 e59
              go_wp2
              exact ⟨⟨q + 1, by omega, by go_num, F.out.1, F.out.2⟩, by simp [intOf]; omega⟩
            · have SM := sameP_any gx gy mx my _ _ w9 (HSX.out.now ex9) (HSY.out.now ex9)
              obtain ⟨B2, hB2⟩ : ∃ B, sameP (gx, mx) (gy, my) = B := ⟨_, rfl⟩
              rw [hB2] at SM
              have HB2 := Lib.hid hB2
              clear hB2
              have f50 := a59.cell 0
              have f51 := a59.cell 1
              have f80 := a89.cell 0
              have f81 := a89.cell 1
              go_wp2_with fail
              refine SM.mono ?_
              rintro e w10 ⟨rfl, e10⟩
              clear f50 f51 f80 f81 SM
              have a5t := at_ext a59 e10
              have a2t := at_ext a29 e10
              have ext := ex9.trans e10
              have e5t := e59.trans e10
              clear a59 a29 a39 a89 ex9 e59 e10
              cases B2
              · have hn2 : hit (gx, mx) ((vals l).drop (k + 1)) = hit (gx, mx) (((vals l).drop (k + 1)).drop (q + 1)) := by rw [HST.out, HB1.out, HB2.out]; rfl
                have F := Lib.hid (And.intro hn2 e5t)
                clear hn2 e5t
                go_wp2
                exact ⟨⟨q + 1, by omega, by go_num, F.out.1, F.out.2⟩, by simp [intOf]; omega⟩
              · have hn2 : hit (gx, mx) ((vals l).drop (k + 1)) = true := by rw [HST.out, HB1.out, HB2.out]; rfl
                have hEE := HE2.out
                rw [if_pos hn2] at hEE
                have one2 : (#[.int .i64 gx, .slice adx MX capx] : Array Value).all (·.oneCell') = true := by simp [Value.oneCell']
                have szt : (Tryz.prog.info? 108).map (·.size) = some (#[.int .i64 gx, .slice adx MX capx] : Array Value).size := szPage
                have F := Lib.hid (And.intro hEE (ext_only' ext (Only.setRow w.heap.size w10 #[.int .i64 gx, .slice adx MX capx]) (Nat.le_refl _)))
                clear hn2 hEE ext e5t
                go_wp2_with (first | (refine wpList_load_row rfl 108 _ rfl g5 rfl 108 _ (0, 0) _ a5t Tryz.underlying108 rfl szPage ?_) | (refine wpList_store_row rfl 108 _ _ rfl w.heap.size _ rfl rfl 108 _ a2t szPage rfl one2 ?_))
                refine bodyPost_ret (results_row rfl _ _ w.heap.size 108 _ rfl (a2t.row #[.int .i64 gx, .slice adx MX capx]) Tryz.underlying108 rfl szt) rfl ?_
                have F1 := F.out.1
                subst F1
                exact ⟨_, rfl, F.out.2, HIX.out⟩
          · have iq0 : ¬ ((q : Int) < (NI : Int)) := by omega
            have d0 : decide ((q : Int) < (NI : Int)) = false := by simp; omega
            have hh := HHq.out
            rw [hit_end (gx, mx) _ q (by rw [List.length_drop, HL.out]; have := HNI.out; omega)] at hh
            have HH := Lib.hid hh
            have f50 := a56.cell 0
            have f51 := a56.cell 1
            have f30 := a36.cell 0
            clear hh hlq E6 e6
            obtain ⟨B, hB⟩ : ∃ B, decide (gN < gx) = B := ⟨_, rfl⟩
            have HF := Lib.hid (by have := HE2.out; rw [HH.out] at this; simp only [Bool.false_eq_true, if_false] at this; exact this : E = electL ((vals l).drop (k + 1)) (if gN < gx then (gx, mx) else (gN, mN)))
            cases B
            · have hng : ¬ gN < gx := by simpa using hB
              have HF2 := Lib.hid (by have := HF.out; rw [if_neg hng] at this; exact this)
              have F := Lib.hid (And.intro ex6 (And.intro a26 a36))
              clear HF hng
              go_wp2_with (refine wpList_load_row rfl 108 _ rfl g5 rfl 108 _ (0, 0) _ a56 Tryz.underlying108 rfl szPage ?_)
              exact ⟨⟨k + 1, (gN, mN), _, by rw [HL.out]; omega, by go_num, HF2.out, HSN.out, F.out.1, F.out.2.1, F.out.2.2⟩, by simp [intOf]; omega⟩
            · have hng : gN < gx := by simpa using hB
              have HF2 := Lib.hid (by have := HF.out; rw [if_pos hng] at this; exact this)
              have one2 : (#[.int .i64 gx, .slice adx MX capx] : Array Value).all (·.oneCell') = true := by simp [Value.oneCell']
              have o9 := Only.setRow (w.heap.size + 1) wr #[.int .i64 gx, .slice adx MX capx]
              have e9 := ext_only' ex6 o9 (by omega)
              have a29 := o9.at a26 (by omega)
              have a39 := (a36).row #[.int .i64 gx, .slice adx MX capx]
              have F := Lib.hid (And.intro e9 (And.intro a29 a39))
              clear HF hng o9 e9 a29 a39
              go_wp2_with (first | (refine wpList_load_row rfl 108 _ rfl g5 rfl 108 _ (0, 0) _ a56 Tryz.underlying108 rfl szPage ?_) | (refine wpList_store_row rfl 108 _ _ rfl (w.heap.size + 1) _ rfl rfl 108 _ a36 szPage rfl one2 ?_))
              exact ⟨⟨k + 1, (gx, mx), _, by rw [HL.out]; omega, by go_num, HF2.out, HIX.out, F.out.1, F.out.2.1, F.out.2.2⟩, by simp [intOf]; omega⟩
    · have i0 : ¬ ((k : Int) < (n : Int)) := by omega
      have d0 : decide ((k : Int) < (n : Int)) = false := by simp; omega
      obtain rfl : k = n := by omega
      have hE2 := HE.out
      rw [List.drop_of_length_le (by rw [HL.out]; exact Nat.le_refl _)] at hE2
      simp only [electL] at hE2
      have one2 : (#[.int .i64 gN, .slice adN MN capN] : Array Value).all (·.oneCell') = true := by simp [Value.oneCell']
      have sz2 : (Tryz.prog.info? 108).map (·.size) = some (#[.int .i64 gN, .slice adN MN capN] : Array Value).size := szPage
      have F := Lib.hid (And.intro hE2 (ext_only' ex (Only.setRow w.heap.size wr #[.int .i64 gN, .slice adN MN capN]) (Nat.le_refl _)))
      clear hE2 HE hlt ex
      go_wp2_with (first | (refine wpList_load_row rfl 108 _ rfl (w.heap.size + 1) rfl 108 _ (0, 0) _ a3 Tryz.underlying108 rfl szPage ?_) | (refine wpList_store_row rfl 108 _ _ rfl w.heap.size _ rfl rfl 108 _ a2 szPage rfl one2 ?_))
      refine bodyPost_ret (results_row rfl _ _ w.heap.size 108 _ rfl (a2.row #[.int .i64 gN, .slice adN MN capN]) Tryz.underlying108 rfl sz2) rfl ?_
      have F1 := F.out.1
      subst F1
      exact ⟨_, rfl, F.out.2, HSN.out⟩
end Go.Proofs.YtnhokjnmpdiokaaGreatDoor

namespace Go.Proofs.YtnhokjnmpdiokaaGreatDoor
open Go.RowKit Go.Sha
set_option linter.unusedSimpArgs false
set_option linter.unusedVariables false

def RI : World → Value → Int → Nat → Prop := fun _ v a _ => v = .int .i64 a
theorem ri_kept : Kept RI := ⟨fun h _ _ => h, fun h _ => h⟩
abbrev OwnI := OwnG (α := Int) 3 RI
theorem u3zero : (Tryz.prog.info? 3).map (fun i => (i.zero, i.size, i.bytes)) = some (some (.int .i64 0), 1, 8) := by kernel_rfl
def IR (w : World) (v : Value) (l : List Int) : Prop := ∃ ad cap pb po, v = .slice ad l.length cap ∧ (0 < l.length → ad = some ⟨pb, po, none⟩) ∧ ∀ j a, l[j]? = some a → w.cell? ⟨pb, po + j, none⟩ = some (.int .i64 a)
theorem ir_ext {w w' : World} {v : Value} {l : List Int} (h : IR w v l) (he : Ext w w') : IR w' v l := by
  obtain ⟨ad, cap, pb, po, h1, h2, h3⟩ := h
  exact ⟨ad, cap, pb, po, h1, h2, fun j a hj => by rw [Below.cell (p := ⟨pb, po + j, none⟩) he (World.block_lt_of_cell? w _ (h3 j a hj))]; exact h3 j a hj⟩
theorem ir_len {w : World} {v : Value} {l : List Int} (h : IR w v l) : ∃ ad cap, v = .slice ad l.length cap := by
  obtain ⟨ad, cap, _, _, h, _⟩ := h
  exact ⟨ad, cap, h⟩
theorem own_ir {w : World} {base : Nat} {v : Value} {ps : List (Value × Int)} (h : OwnI w base v ps (fun _ => False)) : IR w v (ps.map (·.2)) := by
  obtain ⟨ad, cap, pb, po, rfl, h1, _, h3⟩ := h.cells w.heap.size (Or.inr (Nat.le_refl _))
  refine ⟨ad, cap, pb, po, by simp, by simpa using h1, fun j a hj => ?_⟩
  rw [List.getElem?_map] at hj
  obtain ⟨x, hx, rfl⟩ := Option.map_eq_some_iff.1 hj
  obtain ⟨c, r⟩ := h3 j x hx
  rw [c]; exact congrArg some r
def DPost (w : World) (l : List Int) (e : Ending) (w' : World) : Prop := ∃ v, e = .returned v ∧ Ext w w' ∧ IR w' v l

def othL (p : Pg) : List Pg → Nat → List Int
  | [], _ => []
  | q :: r, i => (if sameP p q then [] else [(i : Int)]) ++ othL p r (i + 1)
theorem oth_step (p : Pg) (L : List Pg) (k : Nat) (q : Pg) (h : L[k]? = some q) : othL p (L.drop k) k = (if sameP p q then [] else [(k : Int)]) ++ othL p (L.drop (k + 1)) (k + 1) := by
  have hl : k < L.length := (List.getElem?_eq_some_iff.1 h).1
  rw [List.drop_eq_getElem_cons hl]
  have : L[k] = q := by rw [List.getElem?_eq_getElem hl] at h; injection h
  rw [this]
  rfl
def InvOt (w : World) (p : Pg) (L : List Pg) (R : List Int) (u v i : Value) (wr : World) : Prop :=
  ∃ (k : Nat) (ps : List (Value × Int)), k ≤ L.length ∧ i = .int .i64 k ∧ ps.length ≤ k ∧ ps.map (·.2) ++ othL p (L.drop k) k = R ∧ OwnI wr (w.heap.size + 1) v ps (fun _ => False) ∧ Ext w wr ∧ At wr w.heap.size #[.int .i64 p.1, u] 108

set_option maxHeartbeats 4000000 in
set_option maxRecDepth 100000 in
theorem others_any (v u : Value) (l : List PV) (p : Pg) (w : World) (h : PR w v l) (hu : Src w u p.2 w.heap.size) (hl : l.length ≤ 1000000) :
    Calls Tryz.prog 90 #[v, .agg #[.int .i64 p.1, u]] w (DPost w (othL p (vals l) 0)) := by
  obtain ⟨R, hR⟩ : ∃ R, othL p (vals l) 0 = R := ⟨_, rfl⟩
  rw [hR]
  obtain ⟨adu, capu, evu⟩ := hu.len
  obtain ⟨MU, hMU⟩ : ∃ n, n = p.2.length := ⟨_, rfl⟩
  rw [← hMU] at evu
  clear hMU
  subst evu
  obtain ⟨gp, mp⟩ := p
  simp only at hu ⊢
  obtain ⟨ad, cap, pb, po, ev, hcap, hpos, hcells⟩ := h
  subst ev
  obtain ⟨n, hn⟩ : ∃ n, n = l.length := ⟨_, rfl⟩
  rw [← hn] at hcap hpos hl ⊢
  have HN := Lib.hid hn
  have HC := Lib.hid hcells
  have HP := Lib.hid hpos
  have HU := Lib.hid hu
  have hL : (vals l).length = n := by unfold vals; rw [List.length_map]; exact hn.symm
  have HL := Lib.hid hL
  have zone : (#[.int .i64 0, .slice none 0 0] : Array Value).all (·.oneCell') = true := by simp [Value.oneCell']
  have e0 : Ext w (w.alloc (.cells #[.int .i64 gp, .slice adu MU capu] 108)) := Ext.alloc w _
  have a0 := At.new w #[.int .i64 gp, .slice adu MU capu] 108
  have H0 := Lib.hid (And.intro hR (And.intro e0 a0))
  clear hn hcells hpos hL e0 a0 hu hR hcap
  go_enter Tryz.func90, Tryz.ntmps90
  go_wp2
  go_loopw [5, 10] (fun v i wr => InvOt w (gp, mp) (vals l) R (.slice adu MU capu) v i wr) (fun _ i _ => n - (intOf i).toNat)
  case atStart => exact ⟨0, [], by omega, rfl, by simp, by rw [List.drop_zero]; exact H0.out.1, OwnG.nil _ _ _ _ _, H0.out.2.1, H0.out.2.2⟩
  case round =>
    clear H0
    obtain ⟨k, ps, hk, rfl, hpl, hR, ow, ex, a3⟩ := hrel
    simp only at a3
    rw [HL.out] at hk
    obtain ⟨ado, capo, evo⟩ := ow.len
    obtain ⟨q, hq⟩ : ∃ n, n = ps.length := ⟨_, rfl⟩
    rw [← hq] at evo hpl
    have Hq := Lib.hid hq
    clear hq
    subst evo
    have HR := Lib.hid hR
    clear hR
    by_cases hlt : k < n
    · have i0 : (k : Int) < (n : Int) := by omega
      have i1 : (0 : Int) ≤ (k : Int) := by omega
      have ea := HP.out (by omega)
      subst ea
      obtain ⟨x, hx⟩ : ∃ x, l[k]? = some x := ⟨_, List.getElem?_eq_getElem (by rw [← HN.out]; exact hlt)⟩
      obtain ⟨c0, c1, sx⟩ := HC.out k x hx
      have hvx := vals_get l k x hx
      have hst := oth_step (gp, mp) (vals l) k _ hvx
      obtain ⟨gx, vx, mx⟩ := x
      simp only at c0 c1 sx hst
      have HST := Lib.hid hst
      obtain ⟨adx, capx, evx⟩ := sx.len
      obtain ⟨MX, hMX⟩ : ∃ n, n = mx.length := ⟨_, rfl⟩
      rw [← hMX] at evx
      clear hMX
      subst evx
      have HSX := Lib.hid sx
      have c0' : wr.cell? ⟨pb, po + k * 2, none⟩ = some (.int .i64 gx) := by rw [Below.cell (p := ⟨pb, po + k * 2, none⟩) ex (World.block_lt_of_cell? w _ c0)]; exact c0
      have c1' : wr.cell? ⟨pb, po + k * 2 + 1, none⟩ = some (.slice adx MX capx) := by rw [Below.cell (p := ⟨pb, po + k * 2 + 1, none⟩) ex (World.block_lt_of_cell? w _ c1)]; exact c1
      have e4 : Ext wr (wr.alloc (.cells #[.int .i64 0, .slice none 0 0] 108)) := Ext.alloc wr _
      have a4 := At.new wr #[.int .i64 0, .slice none 0 0] 108
      have one : (#[.int .i64 gx, .slice adx MX capx] : Array Value).all (·.oneCell') = true := by simp [Value.oneCell']
      have sz2 : (Tryz.prog.info? 108).map (·.size) = some (#[.int .i64 gx, .slice adx MX capx] : Array Value).size := szPage
      have e5 := ext_only' e4 (Only.setRow wr.heap.size _ #[.int .i64 gx, .slice adx MX capx]) (Nat.le_refl _)
      have a5 : At ((wr.alloc (.cells #[.int .i64 0, .slice none 0 0] 108)).setRow wr.heap.size #[.int .i64 gx, .slice adx MX capx]) wr.heap.size #[.int .i64 gx, .slice adx MX capx] 108 := a4.row _
      have a35 := at_ext a3 e5
      have ow5 := ow.ext ri_kept e5
      clear c0 c1 sx hx hvx hst
      go_upto_region 5 with (refine wpList_store_row rfl 108 _ _ rfl wr.heap.size _ rfl rfl 108 _ a4 sz2 rfl one ?_)
      clear c0' c1' a3 e4 a4 ow
      generalize (wr.alloc (.cells #[.int .i64 0, .slice none 0 0] 108)).setRow wr.heap.size #[.int .i64 gx, .slice adx MX capx] = w5 at *
      obtain ⟨g5, hg5⟩ : ∃ g, g = wr.heap.size := ⟨_, rfl⟩
      rw [← hg5] at a5 ⊢
      have ex5 := ex.trans e5
      clear ex e5 hg5
      have SM := sameP_any gp gx mp mx _ _ w5 (HU.out.now ex5) (HSX.out.now ex5)
      obtain ⟨B, hB⟩ : ∃ B, sameP (gp, mp) (gx, mx) = B := ⟨_, rfl⟩
      rw [hB] at SM
      have HB := Lib.hid hB
      clear hB
      have f50 := a5.cell 0
      have f51 := a5.cell 1
      have f30 := a35.cell 0
      have f31 := a35.cell 1
      go_wp2_with fail
      refine SM.mono ?_
      rintro e w6 ⟨rfl, e6⟩
      clear f50 f51 f30 f31 SM a5
      have a36 := at_ext a35 e6
      have ow6 := ow5.ext ri_kept e6
      have ex6 := ex5.trans e6
      clear a35 ow5 ex5 e6
      cases B
      · have hn2 := HR.out
        rw [HST.out, HB.out] at hn2
        have lt6 := a36.lt
        have cI := cell_one w6 (.int .i64 (k : Int)) 3
        have e7 : Ext w6 (w6.alloc (.cells #[.int .i64 (k : Int)] 3)) := Ext.alloc w6 _
        have S3 := ex6.trans e7
        have a37 := at_ext a36 e7
        have sz7 : w.heap.size + 1 ≤ (w6.alloc (.cells #[.int .i64 (k : Int)] 3)).heap.size := a37.lt
        have F := Lib.hid (And.intro hn2 (And.intro S3 a37))
        clear hn2 a36 S3 a37 e7
        go_wp2_with (refine list_append_g ri_kept rfl (.tmp 19) (.tmp 21) 34 rfl (.int .i64 0) 8 Tryz.underlying34 u3zero rfl (by omega) (w.heap.size + 1) (.slice ado q capo) ps (fun _ => False) rfl (own_one ri_kept ow6 _ 3) w6.heap.size 1 _ (k : Int) rfl cI rfl (fun _ _ => rfl) (by have := Hq.out; omega) sz7 ?_; intro v3 w4 o3 b3)
        have b4 : Below w.heap.size _ w4 := ⟨b3.os, b3.tape, b3.output, b3.size, fun k hk => b3.block k (by omega)⟩
        exact ⟨⟨k + 1, _, by rw [HL.out]; omega, by go_num, by have := Hq.out; simp; omega, by have := F.out.1; rw [← this]; simp, o3, Below.trans F.out.2.1 b4, F.out.2.2.below b3 (by omega)⟩, by simp [intOf]; omega⟩
      · have hn2 := HR.out
        rw [HST.out, HB.out] at hn2
        have F := Lib.hid (And.intro hn2 (And.intro ow6 (And.intro ex6 a36)))
        clear hn2 ow6 ex6 a36
        go_wp2
        exact ⟨⟨k + 1, ps, by rw [HL.out]; omega, by go_num, by have := Hq.out; omega, by have := F.out.1; simpa using this, F.out.2.1, F.out.2.2.1, F.out.2.2.2⟩, by simp [intOf]; omega⟩
    · have i0 : ¬ ((k : Int) < (n : Int)) := by omega
      have d0 : decide ((k : Int) < (n : Int)) = false := by simp; omega
      obtain rfl : k = n := by omega
      have hR := HR.out
      rw [List.drop_of_length_le (by rw [HL.out]; exact Nat.le_refl _)] at hR
      have F := Lib.hid (And.intro (by simpa [othL] using hR : ps.map (·.2) = R) (And.intro (own_ir ow : IR wr (.slice ado q capo) (ps.map (·.2))) ex))
      clear hlt hR ow ex
      go_wp2
      go_ret
      exact ⟨_, rfl, F.out.2.2, F.out.1 ▸ F.out.2.1⟩
end Go.Proofs.YtnhokjnmpdiokaaGreatDoor

namespace Go.Proofs.YtnhokjnmpdiokaaGreatDoor
open Go.RowKit Go.Sha
set_option linter.unusedSimpArgs false
set_option linter.unusedVariables false

theorem setRow_same {w : World} {g : Nat} {c : Array Value} {t : TypeId} (h : At w g c t) : w.setRow g c = w := by
  have e : (w.setRow g c).heap = w.heap := by
    apply Array.ext_getElem?
    intro i
    by_cases hi : i = g
    · subst hi
      rw [setRow_heap w i c c t (0, 0) h]
      exact h.symm
    · exact heap_setRow _ _ _ _ hi
  have e2 : w.setRow g c = { w with heap := (w.setRow g c).heap } := rfl
  rw [e2, e]
theorem results_cell_tmp2 {fn : Func} {p u v : Tmp} {ty : TypeId} (h : fn.results = #[.cell p ty, .tmp u, .tmp v]) (tmps : Array Value) (P : Program) (w : World) :
    (results fn tmps).run P w =
      ((asAddr (tmps.getD p undef)).run P w).andThen fun a w₁ => ((loadVar ty a).run P w₁).andThen fun x w₂ => .ok (.tuple #[x, tmps.getD u undef, tmps.getD v undef]) w₂ := by
  simp only [results, h]
  simp [Sem.run_bind, Result.andThen]
theorem results_row_tmp2 {P : Program} {fn : Func} {p u v : Tmp} {ty : TypeId} (h : fn.results = #[.cell p ty, .tmp u, .tmp v]) (tmps : Array Value) (w : World) (g : Nat) (t : TypeId) (cs : Array Value) {d : TypeDesc} (hp : tmps.getD p undef = .pointer (some ⟨g, 0, none⟩)) (hg : At w g cs t)
    (hu : P.underlying ty = some d) (hd : (match d with | .struct _ | .array _ _ => true | _ => false) = true) (hi : (P.info? ty).map (·.size) = some cs.size) :
    (results fn tmps).run P w = .ok (.tuple #[.agg cs, tmps.getD u undef, tmps.getD v undef]) w := by
  rw [results_cell_tmp2 h, hp]
  simp only [asAddr, Sem.run_pure, Result.andThen_ok, run_loadVar_row w g t ty cs (0, 0) d hg hu hd hi]
def VtPost (w : World) (p : Pg) (m : List Int) (err : Int) (e : Ending) (w' : World) : Prop :=
  ∃ vb vm, e = .returned (.tuple #[.agg #[.int .i64 p.1, vb], vm, .int .i64 err]) ∧ Ext w w' ∧ Src w' vb p.2 w'.heap.size ∧ IR w' vm m
def voteP (a b c : List Int) : Pg := electL (pgs [a, b, c]) (0, [])
def voteM (a b c : List Int) : List Int := othL (voteP a b c) (pgs [a, b, c]) 0
theorem ir_nil (w : World) : IR w (.slice none 0 0) [] := ⟨none, 0, 0, 0, rfl, fun h => by simp at h, fun j a h => by simp at h⟩
theorem lr3 (w : World) (u1 u2 u3 : Value) (a b c : List Int) (t : TypeId) (h1 : Src w u1 a w.heap.size) (h2 : Src w u2 b w.heap.size) (h3 : Src w u3 c w.heap.size) (cap : Nat) :
    LR (w.alloc (.cells #[u1, u2, u3] t)) (.slice (some ⟨w.heap.size, 0, none⟩) 3 cap) [a, b, c] (w.alloc (.cells #[u1, u2, u3] t)).heap.size := by
  have e := Ext.alloc w (.cells #[u1, u2, u3] t)
  have A := At.new w #[u1, u2, u3] t
  refine ⟨_, cap, w.heap.size, 0, rfl, fun _ => rfl, by have := A.lt; omega, fun j m hj => ?_⟩
  match j, hj with
  | 0, hj => simp at hj; subst hj; exact ⟨u1, (A.cell 0).trans rfl, h1.now e⟩
  | 1, hj => simp at hj; subst hj; exact ⟨u2, (A.cell 1).trans rfl, h2.now e⟩
  | 2, hj => simp at hj; subst hj; exact ⟨u3, (A.cell 2).trans rfl, h3.now e⟩

set_option maxHeartbeats 4000000 in
set_option maxRecDepth 100000 in
theorem vote_any (v1 v2 v3 : Value) (a b c : List Int) (w : World) (hK : KAt w) (h1 : Src w v1 a w.heap.size) (h2 : Src w v2 b w.heap.size) (h3 : Src w v3 c w.heap.size) (hb : (Byt a ∧ a.length ≤ 100000000) ∧ (Byt b ∧ b.length ≤ 100000000) ∧ (Byt c ∧ c.length ≤ 100000000)) :
    Calls Tryz.prog 64 #[v1, v2, v3] w (fun e w' => (mayP (voteP a b c) = true → VtPost w (voteP a b c) (voteM a b c) 0 e w') ∧ (mayP (voteP a b c) = false → VtPost w (0, []) [] 10 e w')) := by
  have hB : ∀ m ∈ [a, b, c], Byt m ∧ m.length ≤ 100000000 := by
    intro m hm
    simp at hm
    rcases hm with h | h | h <;> subst h
    · exact hb.1
    · exact hb.2.1
    · exact hb.2.2
  have zone : (#[.int .i64 0, .slice none 0 0] : Array Value).all (·.oneCell') = true := by simp [Value.oneCell']
  have szz : (Tryz.prog.info? 108).map (·.size) = some (#[.int .i64 0, .slice none 0 0] : Array Value).size := szPage
  have e0 : Ext w (w.alloc (.cells #[.int .i64 0, .slice none 0 0] 108)) := Ext.alloc w _
  have a0 := At.new w #[.int .i64 0, .slice none 0 0] 108
  have L0 := lr3 (w.alloc (.cells #[.int .i64 0, .slice none 0 0] 108)) v1 v2 v3 a b c 50 (h1.now e0) (h2.now e0) (h3.now e0) 3
  have e1 : Ext w ((w.alloc (.cells #[.int .i64 0, .slice none 0 0] 108)).alloc (.cells #[v1, v2, v3] 50)) := e0.trans (Ext.alloc _ _)
  have a1 : At ((w.alloc (.cells #[.int .i64 0, .slice none 0 0] 108)).alloc (.cells #[v1, v2, v3] 50)) w.heap.size #[.int .i64 0, .slice none 0 0] 108 := a0.alloc _
  have RD := read_any _ [a, b, c] _ (hK.below e1 hK.lt) L0 hB (by simp)
  rw [size_alloc] at RD
  obtain ⟨E, hE⟩ : ∃ E, voteP a b c = E := ⟨_, rfl⟩
  obtain ⟨M, hM⟩ : ∃ E, voteM a b c = E := ⟨_, rfl⟩
  have hE' := hE
  have hM' := hM
  unfold voteP at hE'
  unfold voteM at hM'
  rw [hE] at hM' ⊢
  rw [hM]
  obtain ⟨B, hB2⟩ : ∃ B, mayP E = B := ⟨_, rfl⟩
  rw [hB2]
  have HBB := Lib.hid hB2
  clear hB2
  have HE := Lib.hid hE'
  have HM := Lib.hid hM'
  obtain ⟨ad1, cap1, ev⟩ := h1.len
  subst ev
  obtain ⟨ad2, cap2, ev⟩ := h2.len
  subst ev
  obtain ⟨ad3, cap3, ev⟩ := h3.len
  subst ev
  clear h1 h2 h3 hb hB e0 a0 L0 hE hM hE' hM'
  generalize a.length = na at *
  generalize b.length = nb at *
  generalize c.length = nc at *
  go_enter Tryz.func64, Tryz.ntmps64
  go_wp2_with fail
  refine RD.mono ?_
  rintro e w2 ⟨vp, l, rfl, e2, pr2, hv, hpr⟩
  have lt1 := a1.lt
  have HPR := Lib.hid (fun (W : World) (ho : Only w.heap.size w2 W) => hpr w.heap.size W lt1 ho)
  clear hpr lt1
  have a2 := at_ext a1 e2
  have e02 := e1.trans e2
  have hl := vals_len hv
  have hl' : l.length ≤ 1000000 := by rw [hl]; unfold pgs; simp
  have EL := elected_any vp l w2 pr2 hl'
  rw [hv, HE.out] at EL
  have OT := fun (W : World) (u : Value) (h : PR W vp l) (hu : Src W u E.2 W.heap.size) => others_any vp u l E W h hu hl'
  rw [hv, HM.out] at OT
  obtain ⟨adp, capp, evp⟩ := pr2.len
  subst evp
  obtain ⟨nl, hnl⟩ : ∃ n, n = l.length := ⟨_, rfl⟩
  rw [← hnl] at pr2 EL OT HPR ⊢
  have HOT := Lib.hid OT
  clear RD a1 e1 e2 hv hl OT hl' hnl
  go_wp2_with fail
  refine EL.mono ?_
  rintro e w3 ⟨vE, rfl, e3, iE⟩
  have a3 := at_ext a2 e3
  have e03 := e02.trans e3
  have pr3 := pr2.ext e3
  obtain ⟨gE, mE⟩ := E
  simp only at iE HOT ⊢
  obtain ⟨adE, capE, evE⟩ := (pr3.src iE).len
  obtain ⟨nE, hnE⟩ : ∃ n, n = mE.length := ⟨_, rfl⟩
  rw [← hnE] at evE
  clear hnE pr3
  subst evE
  have one : (#[.int .i64 gE, .slice adE nE capE] : Array Value).all (·.oneCell') = true := by simp [Value.oneCell']
  have sz2 : (Tryz.prog.info? 108).map (·.size) = some (#[.int .i64 gE, .slice adE nE capE] : Array Value).size := szPage
  have o4 := Only.setRow w.heap.size w3 #[.int .i64 gE, .slice adE nE capE]
  have a4 := a3.row #[.int .i64 gE, .slice adE nE capE]
  have e04 := ext_only' e03 o4 (Nat.le_refl _)
  have pr4 := HPR.out _ ((Only.of_below e3).trans o4)
  have IE := Lib.hid iE
  clear e02 e03 o4 iE e3 pr2 a2 EL
  go_upto_region 3 with (refine wpList_store_row rfl 108 _ _ rfl w.heap.size _ rfl rfl 108 _ a3 sz2 rfl one ?_)
  clear a3
  generalize w3.setRow w.heap.size #[.int .i64 gE, .slice adE nE capE] = w4 at *
  have MB := mayQ_any (gE, mE) _ w4 (pr4.src IE.out)
  rw [HBB.out] at MB
  simp only at MB
  have f0 := a4.cell 0
  have f1 := a4.cell 1
  go_wp2_with fail
  refine MB.mono ?_
  rintro e w5 ⟨rfl, e5⟩
  have a5 := at_ext a4 e5
  have e05 := e04.trans e5
  have pr5 := pr4.ext e5
  clear f0 f1 MB a4 e04 pr4 e5
  cases B
  · have F := Lib.hid (ext_only' e05 (Only.setRow w.heap.size w5 #[.int .i64 0, .slice none 0 0]) (Nat.le_refl _))
    clear e05 pr5
    go_wp2_with (refine wpList_store_row rfl 108 _ _ rfl w.heap.size _ rfl rfl 108 _ a5 szz rfl zone ?_)
    refine bodyPost_ret (results_row_tmp2 rfl _ _ w.heap.size 108 _ rfl (a5.row #[.int .i64 0, .slice none 0 0]) Tryz.underlying108 rfl szz) rfl ?_
    first | exact ⟨_, _, rfl, F.out, src_nil _ _, ir_nil _⟩ | exact ⟨fun h => by simp at h, fun _ => ⟨_, _, rfl, F.out, src_nil _ _, ir_nil _⟩⟩
  · go_upto_region 5 with (fail)
    have HA := Lib.hid (fun (W : World) (hW : Ext w5 W) => at_ext a5 hW)
    have HP5 := Lib.hid (fun (W : World) (hW : Ext w5 W) => pr5.ext hW)
    have HE5 := Lib.hid (fun (W : World) (hW : Ext w5 W) => e05.trans hW)
    clear a5 pr5 e05
    refine wp_region_held (S := Ext w5) (by kernel_rfl) ?_
    change wpAnyH _ _ _ _ _ _ _ _ w5.drew
    have S0 : Ext w5 w5.drew := Below.drew (Below.refl _ _)
    generalize w5.drew = W0 at *
    refine tkS 0 (some 21) (.agg #[.int .i64 gE, .slice adE nE capE]) S0 ?_ (hy := fun w' hw' => by have c0 : w'.cell? ⟨w.heap.size, 0, none⟩ = some (.int .i64 gE) := ((HA.out w' hw').cell 0).trans rfl; have c1 : w'.cell? ⟨w.heap.size, 1, none⟩ = some (.slice adE nE capE) := ((HA.out w' hw').cell 1).trans rfl; go_simp)
    simp only [Act.put, List.setIfInBounds_toArray, List.set_cons_zero, List.set_cons_succ]
    refine tkS 1 (some 22) (.slice adp nl capp) S0 ?_
    simp only [Act.put, List.setIfInBounds_toArray, List.set_cons_zero, List.set_cons_succ]
    refine tkS 2 (some 23) (.agg #[.int .i64 gE, .slice adE nE capE]) S0 ?_ (hy := fun w' hw' => by have c0 : w'.cell? ⟨w.heap.size, 0, none⟩ = some (.int .i64 gE) := ((HA.out w' hw').cell 0).trans rfl; have c1 : w'.cell? ⟨w.heap.size, 1, none⟩ = some (.slice adE nE capE) := ((HA.out w' hw').cell 1).trans rfl; go_simp)
    simp only [Act.put, List.setIfInBounds_toArray, List.set_cons_zero, List.set_cons_succ]
    refine nextS 3 rfl (by kernel_rfl) rfl (callS (some 24) rfl 90 #[.slice adp nl capp, .agg #[.int .i64 gE, .slice adE nE capE]] (by go_simp) (fun v w' => Ext W0 w' ∧ IR w' v M) ((HOT.out W0 (.slice adE nE capE) (HP5.out W0 S0) ((HP5.out W0 S0).src IE.out)).mono fun _ _ he => by obtain ⟨v, h1, h2, h3⟩ := he; exact ⟨v, h1, h2, h3⟩) ?_)
    rintro vm W1 ⟨e1, rM⟩
    simp only [Act.put, List.setIfInBounds_toArray, List.set_cons_zero, List.set_cons_succ]
    have S1 := S0.trans e1
    clear e1 S0
    refine ⟨S1, ?_⟩
    refine nextS 4 rfl (by kernel_rfl) rfl (wp_store_row 108 (.tmp 6) (.tmp 21) rfl w.heap.size _ rfl rfl 108 _ (HA.out W1 S1) sz2 rfl one ?_)
    rw [setRow_same (HA.out W1 S1)]
    refine ⟨S1, ?_⟩
    simp only [Act.put, List.setIfInBounds_toArray, List.set_cons_zero, List.set_cons_succ]
    refine tkS 5 (some 7) vm S1 ?_
    simp only [Act.put, List.setIfInBounds_toArray, List.set_cons_zero, List.set_cons_succ]
    refine tkS 6 (some 8) (.int .i64 0) S1 ?_
    simp only [Act.put, List.setIfInBounds_toArray, List.set_cons_zero, List.set_cons_succ]
    refine wpAnyH_done (by kernel_rfl) ?_ _
    have aW := HA.out W1 S1
    have F := Lib.hid (And.intro (HE5.out W1 S1) (And.intro ((HP5.out W1 S1).src IE.out) rM))
    clear S1 rM
    go_wp2
    refine bodyPost_ret (results_row_tmp2 rfl _ _ w.heap.size 108 _ rfl aW Tryz.underlying108 rfl sz2) rfl ?_
    first | exact ⟨_, _, rfl, F.out.1, F.out.2.1, F.out.2.2⟩ | exact ⟨fun _ => ⟨_, _, rfl, F.out.1, F.out.2.1, F.out.2.2⟩, fun h => by simp at h⟩
end Go.Proofs.YtnhokjnmpdiokaaGreatDoor
