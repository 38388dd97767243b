/- The contract of elected (the code's). -/
import Derived.Test.YtblhipdcgdhmiaaDoorHf
namespace Go.Proofs.YtblhipdcgdhmiaaDoor
open Go.RowKit Go.Sha
set_option linter.unusedSimpArgs false
set_option linter.unusedVariables false

theorem mayQ_any (p : Pg) (v : Value) (w : World) (h : Src w v p.2 w.heap.size) : Calls Tryd.prog 18 #[.agg #[.int .i64 p.1, v]] w fun e w' => e = .returned (.bool (mayP p)) ∧ Ext w w' := by
  obtain ⟨ad, cap, ev⟩ := h.len
  subst ev
  exact mayP_any p.1 ad p.2.length cap w
/-- Does a page stand among others? -/
def hit (p : Pg) (r : List Pg) : Bool := r.any fun q => mayP p && sameP p q
/-- The page that counts. -/
def electL : List Pg → Pg → Pg
  | [], n => n
  | p :: r, n => if hit p r then p else electL r (if n.1 < p.1 then p else n)
def InvEl (w : World) (l : List PV) (L : List Pg) (E : Pg) (i : Value) (wr : World) : Prop :=
  ∃ (k : Nat) (N : Pg) (vN : Value), k ≤ L.length ∧ i = .int .i64 k ∧ E = electL (L.drop k) N ∧ InL l vN N.2 ∧ Ext w wr ∧ At wr w.heap.size #[.int .i64 0, .slice none 0 0] 25 ∧ At wr (w.heap.size + 1) #[.int .i64 N.1, vN] 25
def InvIn (W : World) (p : Pg) (R : List Pg) (n : Nat) (i : Value) (wr : World) : Prop := ∃ q : Nat, q ≤ n ∧ i = .int .i64 q ∧ hit p R = hit p (R.drop q) ∧ Ext W wr
def ElPost (w : World) (l : List PV) (E : Pg) (e : Ending) (w' : World) : Prop := ∃ v, e = .returned (.agg #[.int .i64 E.1, v]) ∧ Ext w w' ∧ InL l v E.2
theorem hit_step (p : Pg) (R : List Pg) (q : Nat) (y : Pg) (h : R[q]? = some y) : hit p (R.drop q) = ((mayP p && sameP p y) || hit p (R.drop (q + 1))) := by
  have hl : q < R.length := (List.getElem?_eq_some_iff.1 h).1
  rw [List.drop_eq_getElem_cons hl]
  have : R[q] = y := by rw [List.getElem?_eq_getElem hl] at h; injection h
  rw [this]
  rfl
theorem hit_end (p : Pg) (R : List Pg) (q : Nat) (h : R.length ≤ q) : hit p (R.drop q) = false := by
  rw [List.drop_of_length_le h]; rfl
theorem elect_step (L : List Pg) (k : Nat) (N p : Pg) (h : L[k]? = some p) : electL (L.drop k) N = (if hit p (L.drop (k + 1)) then p else electL (L.drop (k + 1)) (if N.1 < p.1 then p else N)) := by
  have hl : k < L.length := (List.getElem?_eq_some_iff.1 h).1
  rw [List.drop_eq_getElem_cons hl]
  have : L[k] = p := by rw [List.getElem?_eq_getElem hl] at h; injection h
  rw [this]
  rfl
theorem vals_get (l : List PV) (j : Nat) (x : PV) (h : l[j]? = some x) : (vals l)[j]? = some (x.1, x.2.2) := by unfold vals; rw [List.getElem?_map, h]; rfl

set_option maxHeartbeats 8000000 in
set_option maxRecDepth 100000 in
theorem elected_any (v : Value) (l : List PV) (w : World) (h : PR w v l) (hl : l.length ≤ 1000000) :
    Calls Tryd.prog 37 #[v] w (ElPost w l (electL (vals l) (0, []))) := by
  obtain ⟨E, hE⟩ : ∃ E, electL (vals l) (0, []) = E := ⟨_, rfl⟩
  rw [hE]
  have HPR := Lib.hid h
  obtain ⟨ad, cap, pb, po, ev, hcap, hpos, hcells⟩ := h
  subst ev
  obtain ⟨n, hn⟩ : ∃ n, n = l.length := ⟨_, rfl⟩
  rw [← hn] at hcap hpos hl ⊢
  have HN := Lib.hid hn
  have HC := Lib.hid hcells
  have HP := Lib.hid hpos
  have hL : (vals l).length = n := by unfold vals; rw [List.length_map]; exact hn.symm
  have HL := Lib.hid hL
  have zone : (#[.int .i64 0, .slice none 0 0] : Array Value).all (·.oneCell') = true := by simp [Value.oneCell']
  have szz : (Tryd.prog.info? 25).map (·.size) = some (#[.int .i64 0, .slice none 0 0] : Array Value).size := szPage
  have e0 : Ext w ((w.alloc (.cells #[.int .i64 0, .slice none 0 0] 25)).alloc (.cells #[.int .i64 0, .slice none 0 0] 25)) := (Ext.alloc w _).trans (Ext.alloc _ _)
  have a2 : At ((w.alloc (.cells #[.int .i64 0, .slice none 0 0] 25)).alloc (.cells #[.int .i64 0, .slice none 0 0] 25)) w.heap.size #[.int .i64 0, .slice none 0 0] 25 := (At.new w _ _).alloc _
  have a3 := At.new1 w (.cells #[.int .i64 0, .slice none 0 0] 25) #[.int .i64 0, .slice none 0 0] 25
  have H0 := Lib.hid (And.intro hE.symm (And.intro e0 (And.intro a2 a3)))
  clear hn hcells hpos hE hL e0 a2 a3
  go_enter Tryd.func37, Tryd.ntmps37
  go_wp2
  go_loopw [10] (fun i wr => InvEl w l (vals l) E i wr) (fun i _ => n - (intOf i).toNat)
  case atStart => exact ⟨0, (0, []), .slice none 0 0, by omega, rfl, by rw [List.drop_zero]; exact H0.out.1, Or.inl ⟨rfl, rfl⟩, H0.out.2.1, H0.out.2.2.1, H0.out.2.2.2⟩
  case round =>
    clear H0
    obtain ⟨k, ⟨gN, mN⟩, vN, hk, rfl, hE, iN, ex, a2, a3⟩ := hrel
    simp only at iN a3
    have sN := HPR.out.src iN
    rw [HL.out] at hk
    obtain ⟨adN, capN, evN⟩ := sN.len
    obtain ⟨MN, hMN⟩ : ∃ n, n = mN.length := ⟨_, rfl⟩
    rw [← hMN] at evN
    clear hMN
    subst evN
    have HE := Lib.hid hE
    have HSN := Lib.hid iN
    clear hE sN iN
    by_cases hlt : k < n
    · have i0 : (k : Int) < (n : Int) := by omega
      have i1 : (0 : Int) ≤ (k : Int) := by omega
      have ea := HP.out (by omega)
      subst ea
      obtain ⟨x, hx⟩ : ∃ x, l[k]? = some x := ⟨_, List.getElem?_eq_getElem (by rw [← HN.out]; exact hlt)⟩
      obtain ⟨c0, c1, sx⟩ := HC.out k x hx
      have ix : InL l x.2.1 x.2.2 := Or.inr ⟨x, List.mem_of_getElem? hx, rfl, rfl⟩
      have hvx := vals_get l k x hx
      have hst := elect_step (vals l) k (gN, mN) _ hvx
      obtain ⟨gx, vx, mx⟩ := x
      simp only at c0 c1 sx hst ix
      rw [← HE.out] at hst
      have HE2 := Lib.hid hst
      obtain ⟨adx, capx, evx⟩ := sx.len
      obtain ⟨MX, hMX⟩ : ∃ n, n = mx.length := ⟨_, rfl⟩
      rw [← hMX] at evx
      clear hMX
      subst evx
      have HSX := Lib.hid sx
      have HIX := Lib.hid ix
      clear ix
      have c0' : wr.cell? ⟨pb, po + k * 2, none⟩ = some (.int .i64 gx) := by rw [Below.cell (p := ⟨pb, po + k * 2, none⟩) ex (World.block_lt_of_cell? w _ c0)]; exact c0
      have c1' : wr.cell? ⟨pb, po + k * 2 + 1, none⟩ = some (.slice adx MX capx) := by rw [Below.cell (p := ⟨pb, po + k * 2 + 1, none⟩) ex (World.block_lt_of_cell? w _ c1)]; exact c1
      have e4 : Ext wr (wr.alloc (.cells #[.int .i64 0, .slice none 0 0] 25)) := Ext.alloc wr _
      have a4 := At.new wr #[.int .i64 0, .slice none 0 0] 25
      have one : (#[.int .i64 gx, .slice adx MX capx] : Array Value).all (·.oneCell') = true := by simp [Value.oneCell']
      have sz2 : (Tryd.prog.info? 25).map (·.size) = some (#[.int .i64 gx, .slice adx MX capx] : Array Value).size := szPage
      have e5 := ext_only' e4 (Only.setRow wr.heap.size _ #[.int .i64 gx, .slice adx MX capx]) (Nat.le_refl _)
      have a5 : At ((wr.alloc (.cells #[.int .i64 0, .slice none 0 0] 25)).setRow wr.heap.size #[.int .i64 gx, .slice adx MX capx]) wr.heap.size #[.int .i64 gx, .slice adx MX capx] 25 := a4.row _
      have a25 := at_ext a2 e5
      have a35 := at_ext a3 e5
      clear c0 c1 sx hx hvx hst HE
      go_upto_region 5 with (refine wpList_store_row rfl 25 _ _ rfl wr.heap.size _ rfl rfl 25 _ a4 sz2 rfl one ?_)
      clear c0' c1' a2 a3 e4 a4
      generalize (wr.alloc (.cells #[.int .i64 0, .slice none 0 0] 25)).setRow wr.heap.size #[.int .i64 gx, .slice adx MX capx] = w5 at *
      obtain ⟨g5, hg5⟩ : ∃ g, g = wr.heap.size := ⟨_, rfl⟩
      rw [← hg5] at a5 ⊢
      have ex5 := ex.trans e5
      clear ex e5 hg5
      have f50 := a5.cell 0
      have f51 := a5.cell 1
      have f30 := a35.cell 0
      by_cases hlast : k + 1 = n
      · have hh := hit_end (gx, mx) (vals l) (k + 1) (by rw [HL.out]; omega)
        have HH := Lib.hid hh
        clear hh
        have j1 : (k : Int) + 1 ≤ (n : Int) := by omega
        have hsub : n - (k + 1) = 0 := by omega
        have HLa := Lib.hid hlast
        clear hlast
        by_cases hcn : cap = k + 1
        · replace hcn := hcn.symm
          go_upto_region 6 with (fail)
          clear hsub j1 hcn
          have i8 : k + 1 ≤ n := by have := HLa.out; omega
          obtain ⟨wq, rfl⟩ : ∃ V, V = wr := ⟨_, rfl⟩
          go_loopw [20] (fun i wr => i = .int .i64 0 ∧ w5 = wr) (fun i _ => 0)
          case atStart => exact ⟨rfl, rfl⟩
          case round =>
            obtain ⟨rfl, rfl⟩ := hrel
            obtain ⟨B, hB⟩ : ∃ B, decide (gN < gx) = B := ⟨_, rfl⟩
            have HF := Lib.hid (by have := HE2.out; rw [HH.out] at this; simp only [Bool.false_eq_true, if_false] at this; exact this : E = electL ((vals l).drop (k + 1)) (if gN < gx then (gx, mx) else (gN, mN)))
            cases B
            · have hng : ¬ gN < gx := by simpa using hB
              have HF2 := Lib.hid (by have := HF.out; rw [if_neg hng] at this; exact this)
              have F := Lib.hid (And.intro ex5 (And.intro a25 a35))
              clear HF hng
              go_wp2_with (refine wpList_load_row rfl 25 _ rfl g5 rfl 25 _ (0, 0) _ a5 Tryd.underlying25 rfl szPage ?_)
              exact ⟨⟨k + 1, (gN, mN), _, by rw [HL.out]; omega, by go_num, HF2.out, HSN.out, F.out.1, F.out.2.1, F.out.2.2⟩, by simp [intOf]; omega⟩
            · have hng : gN < gx := by simpa using hB
              have HF2 := Lib.hid (by have := HF.out; rw [if_pos hng] at this; exact this)
              have one2 : (#[.int .i64 gx, .slice adx MX capx] : Array Value).all (·.oneCell') = true := by simp [Value.oneCell']
              have o9 := Only.setRow (w.heap.size + 1) w5 #[.int .i64 gx, .slice adx MX capx]
              have e9 := ext_only' ex5 o9 (by omega)
              have a29 := o9.at a25 (by omega)
              have a39 := (a35).row #[.int .i64 gx, .slice adx MX capx]
              have F := Lib.hid (And.intro e9 (And.intro a29 a39))
              clear HF hng o9 e9 a29 a39
              go_wp2_with (first | (refine wpList_load_row rfl 25 _ rfl g5 rfl 25 _ (0, 0) _ a5 Tryd.underlying25 rfl szPage ?_) | (refine wpList_store_row rfl 25 _ _ rfl (w.heap.size + 1) _ rfl rfl 25 _ a35 szPage rfl one2 ?_))
              exact ⟨⟨k + 1, (gx, mx), _, by rw [HL.out]; omega, by go_num, HF2.out, HIX.out, F.out.1, F.out.2.1, F.out.2.2⟩, by simp [intOf]; omega⟩
        · go_upto_region 6 with (fail)
          clear hsub j1 hcn
          have i8 : k + 1 ≤ n := by have := HLa.out; omega
          obtain ⟨wq, rfl⟩ : ∃ V, V = wr := ⟨_, rfl⟩
          go_loopw [20] (fun i wr => i = .int .i64 0 ∧ w5 = wr) (fun i _ => 0)
          case atStart => exact ⟨rfl, rfl⟩
          case round =>
            obtain ⟨rfl, rfl⟩ := hrel
            obtain ⟨B, hB⟩ : ∃ B, decide (gN < gx) = B := ⟨_, rfl⟩
            have HF := Lib.hid (by have := HE2.out; rw [HH.out] at this; simp only [Bool.false_eq_true, if_false] at this; exact this : E = electL ((vals l).drop (k + 1)) (if gN < gx then (gx, mx) else (gN, mN)))
            cases B
            · have hng : ¬ gN < gx := by simpa using hB
              have HF2 := Lib.hid (by have := HF.out; rw [if_neg hng] at this; exact this)
              have F := Lib.hid (And.intro ex5 (And.intro a25 a35))
              clear HF hng
              go_wp2_with (refine wpList_load_row rfl 25 _ rfl g5 rfl 25 _ (0, 0) _ a5 Tryd.underlying25 rfl szPage ?_)
              exact ⟨⟨k + 1, (gN, mN), _, by rw [HL.out]; omega, by go_num, HF2.out, HSN.out, F.out.1, F.out.2.1, F.out.2.2⟩, by simp [intOf]; omega⟩
            · have hng : gN < gx := by simpa using hB
              have HF2 := Lib.hid (by have := HF.out; rw [if_pos hng] at this; exact this)
              have one2 : (#[.int .i64 gx, .slice adx MX capx] : Array Value).all (·.oneCell') = true := by simp [Value.oneCell']
              have o9 := Only.setRow (w.heap.size + 1) w5 #[.int .i64 gx, .slice adx MX capx]
              have e9 := ext_only' ex5 o9 (by omega)
              have a29 := o9.at a25 (by omega)
              have a39 := (a35).row #[.int .i64 gx, .slice adx MX capx]
              have F := Lib.hid (And.intro e9 (And.intro a29 a39))
              clear HF hng o9 e9 a29 a39
              go_wp2_with (first | (refine wpList_load_row rfl 25 _ rfl g5 rfl 25 _ (0, 0) _ a5 Tryd.underlying25 rfl szPage ?_) | (refine wpList_store_row rfl 25 _ _ rfl (w.heap.size + 1) _ rfl rfl 25 _ a35 szPage rfl one2 ?_))
              exact ⟨⟨k + 1, (gx, mx), _, by rw [HL.out]; omega, by go_num, HF2.out, HIX.out, F.out.1, F.out.2.1, F.out.2.2⟩, by simp [intOf]; omega⟩
      · have hlt2 : k + 1 < n := by omega
        have hcn : ¬ cap = k + 1 := by omega
        have j1 : (k : Int) + 1 ≤ (n : Int) := by omega
        go_upto_region 6 with (fail)
        clear hcn j1 hlt hlast
        obtain ⟨wq, rfl⟩ : ∃ V, V = wr := ⟨_, rfl⟩
        obtain ⟨NI, hNI⟩ : ∃ m, m = n - (k + 1) := ⟨_, rfl⟩
        rw [← hNI]
        have HNI := Lib.hid hNI
        clear hNI
        have i8 : k + 1 ≤ n := by omega
        have i9 : NI ≤ 1000000 := by have := HNI.out; omega
        go_loopw [20] (fun i wr => InvIn w5 (gx, mx) ((vals l).drop (k + 1)) NI i wr) (fun i _ => NI - (intOf i).toNat)
        case atStart => exact ⟨0, by omega, rfl, by rw [List.drop_zero], Ext.refl _⟩
        case round =>
          obtain ⟨q, hq, rfl, hH, e6⟩ := hrel
          have a56 := at_ext a5 e6
          have a26 := at_ext a25 e6
          have a36 := at_ext a35 e6
          have ex6 := ex5.trans e6
          have HHq := Lib.hid hH
          have E6 := Lib.hid e6
          clear hH
          by_cases hlq : q < NI
          · have iq0 : (q : Int) < (NI : Int) := by omega
            have iq1 : (0 : Int) ≤ (q : Int) := by omega
            obtain ⟨y, hy⟩ : ∃ x, l[k + 1 + q]? = some x := ⟨_, List.getElem?_eq_getElem (by rw [← HN.out]; have := HNI.out; omega)⟩
            obtain ⟨c0, c1, sy⟩ := HC.out (k + 1 + q) y hy
            have hvy := vals_get l (k + 1 + q) y hy
            have hst := hit_step (gx, mx) ((vals l).drop (k + 1)) q _ (by rw [List.getElem?_drop]; exact hvy)
            obtain ⟨gy, vy, my⟩ := y
            simp only at c0 c1 sy hst
            rw [← HHq.out] at hst
            have HST := Lib.hid hst
            obtain ⟨ady, capy, evy⟩ := sy.len
            obtain ⟨MY, hMY⟩ : ∃ n, n = my.length := ⟨_, rfl⟩
            rw [← hMY] at evy
            clear hMY
            subst evy
            have HSY := Lib.hid sy
            rw [show po + (k + 1 + q) * 2 = po + (k + 1) * 2 + q * 2 by omega] at c0 c1
            have c0' : wr.cell? ⟨pb, po + (k + 1) * 2 + q * 2, none⟩ = some (.int .i64 gy) := by rw [Below.cell (p := ⟨pb, po + (k + 1) * 2 + q * 2, none⟩) ex6 (World.block_lt_of_cell? w _ c0)]; exact c0
            have c1' : wr.cell? ⟨pb, po + (k + 1) * 2 + q * 2 + 1, none⟩ = some (.slice ady MY capy) := by rw [Below.cell (p := ⟨pb, po + (k + 1) * 2 + q * 2 + 1, none⟩) ex6 (World.block_lt_of_cell? w _ c1)]; exact c1
            have e7 : Ext wr (wr.alloc (.cells #[.int .i64 0, .slice none 0 0] 25)) := Ext.alloc wr _
            have a7 := At.new wr #[.int .i64 0, .slice none 0 0] 25
            have oney : (#[.int .i64 gy, .slice ady MY capy] : Array Value).all (·.oneCell') = true := by simp [Value.oneCell']
            have szy : (Tryd.prog.info? 25).map (·.size) = some (#[.int .i64 gy, .slice ady MY capy] : Array Value).size := szPage
            have e8 := ext_only' e7 (Only.setRow wr.heap.size _ #[.int .i64 gy, .slice ady MY capy]) (Nat.le_refl _)
            have a8 : At ((wr.alloc (.cells #[.int .i64 0, .slice none 0 0] 25)).setRow wr.heap.size #[.int .i64 gy, .slice ady MY capy]) wr.heap.size #[.int .i64 gy, .slice ady MY capy] 25 := a7.row _
            have a58 := at_ext a56 e8
            have a28 := at_ext a26 e8
            have a38 := at_ext a36 e8
            clear c0 c1 sy hy hvy hst
            go_upto_region 8 with (refine wpList_store_row rfl 25 _ _ rfl wr.heap.size _ rfl rfl 25 _ a7 szy rfl oney ?_)
            clear c0' c1' e7 a7 a56 a26 a36
            generalize (wr.alloc (.cells #[.int .i64 0, .slice none 0 0] 25)).setRow wr.heap.size #[.int .i64 gy, .slice ady MY capy] = w8 at *
            obtain ⟨g7, hg7⟩ : ∃ g, g = wr.heap.size := ⟨_, rfl⟩
            rw [← hg7] at a8 ⊢
            have ex8 := ex6.trans e8
            have e58 := e6.trans e8
            clear e8 hg7 ex6 e6
            have MB := mayQ_any (gx, mx) _ w8 (HSX.out.now ex8)
            obtain ⟨B1, hB1⟩ : ∃ B, mayP (gx, mx) = B := ⟨_, rfl⟩
            simp only at MB
            rw [hB1] at MB
            have HB1 := Lib.hid hB1
            clear hB1
            have f50 := a58.cell 0
            have f51 := a58.cell 1
            go_wp2_with fail
            refine MB.mono ?_
            rintro e w9 ⟨rfl, e9⟩
            clear f50 f51 MB
            have a59 := at_ext a58 e9
            have a29 := at_ext a28 e9
            have a39 := at_ext a38 e9
            have a89 := at_ext a8 e9
            have ex9 := ex8.trans e9
            have e59 := e58.trans e9
            clear a58 a28 a38 a8 ex8 e58 e9
            cases B1
            · have hn2 : hit (gx, mx) ((vals l).drop (k + 1)) = hit (gx, mx) (((vals l).drop (k + 1)).drop (q + 1)) := by rw [HST.out, HB1.out]; rfl
              have F := Lib.hid (And.intro hn2 e59)
              clear hn2 e59
              go_wp2
              exact ⟨⟨q + 1, by omega, by go_num, F.out.1, F.out.2⟩, by simp [intOf]; omega⟩
            · have SM := sameP_any gx gy mx my _ _ w9 (HSX.out.now ex9) (HSY.out.now ex9)
              obtain ⟨B2, hB2⟩ : ∃ B, sameP (gx, mx) (gy, my) = B := ⟨_, rfl⟩
              rw [hB2] at SM
              have HB2 := Lib.hid hB2
              clear hB2
              have f50 := a59.cell 0
              have f51 := a59.cell 1
              have f80 := a89.cell 0
              have f81 := a89.cell 1
              go_wp2_with fail
              refine SM.mono ?_
              rintro e w10 ⟨rfl, e10⟩
              clear f50 f51 f80 f81 SM
              have a5t := at_ext a59 e10
              have a2t := at_ext a29 e10
              have ext := ex9.trans e10
              have e5t := e59.trans e10
              clear a59 a29 a39 a89 ex9 e59 e10
              cases B2
              · have hn2 : hit (gx, mx) ((vals l).drop (k + 1)) = hit (gx, mx) (((vals l).drop (k + 1)).drop (q + 1)) := by rw [HST.out, HB1.out, HB2.out]; rfl
                have F := Lib.hid (And.intro hn2 e5t)
                clear hn2 e5t
                go_wp2
                exact ⟨⟨q + 1, by omega, by go_num, F.out.1, F.out.2⟩, by simp [intOf]; omega⟩
              · have hn2 : hit (gx, mx) ((vals l).drop (k + 1)) = true := by rw [HST.out, HB1.out, HB2.out]; rfl
                have hEE := HE2.out
                rw [if_pos hn2] at hEE
                have one2 : (#[.int .i64 gx, .slice adx MX capx] : Array Value).all (·.oneCell') = true := by simp [Value.oneCell']
                have szt : (Tryd.prog.info? 25).map (·.size) = some (#[.int .i64 gx, .slice adx MX capx] : Array Value).size := szPage
                have F := Lib.hid (And.intro hEE (ext_only' ext (Only.setRow w.heap.size w10 #[.int .i64 gx, .slice adx MX capx]) (Nat.le_refl _)))
                clear hn2 hEE ext e5t
                go_wp2_with (first | (refine wpList_load_row rfl 25 _ rfl g5 rfl 25 _ (0, 0) _ a5t Tryd.underlying25 rfl szPage ?_) | (refine wpList_store_row rfl 25 _ _ rfl w.heap.size _ rfl rfl 25 _ a2t szPage rfl one2 ?_))
                refine bodyPost_ret (results_row rfl _ _ w.heap.size 25 _ rfl (a2t.row #[.int .i64 gx, .slice adx MX capx]) Tryd.underlying25 rfl szt) rfl ?_
                have F1 := F.out.1
                subst F1
                exact ⟨_, rfl, F.out.2, HIX.out⟩
          · have iq0 : ¬ ((q : Int) < (NI : Int)) := by omega
            have d0 : decide ((q : Int) < (NI : Int)) = false := by simp; omega
            have hh := HHq.out
            rw [hit_end (gx, mx) _ q (by rw [List.length_drop, HL.out]; have := HNI.out; omega)] at hh
            have HH := Lib.hid hh
            have f50 := a56.cell 0
            have f51 := a56.cell 1
            have f30 := a36.cell 0
            clear hh hlq E6 e6
            obtain ⟨B, hB⟩ : ∃ B, decide (gN < gx) = B := ⟨_, rfl⟩
            have HF := Lib.hid (by have := HE2.out; rw [HH.out] at this; simp only [Bool.false_eq_true, if_false] at this; exact this : E = electL ((vals l).drop (k + 1)) (if gN < gx then (gx, mx) else (gN, mN)))
            cases B
            · have hng : ¬ gN < gx := by simpa using hB
              have HF2 := Lib.hid (by have := HF.out; rw [if_neg hng] at this; exact this)
              have F := Lib.hid (And.intro ex6 (And.intro a26 a36))
              clear HF hng
              go_wp2_with (refine wpList_load_row rfl 25 _ rfl g5 rfl 25 _ (0, 0) _ a56 Tryd.underlying25 rfl szPage ?_)
              exact ⟨⟨k + 1, (gN, mN), _, by rw [HL.out]; omega, by go_num, HF2.out, HSN.out, F.out.1, F.out.2.1, F.out.2.2⟩, by simp [intOf]; omega⟩
            · have hng : gN < gx := by simpa using hB
              have HF2 := Lib.hid (by have := HF.out; rw [if_pos hng] at this; exact this)
              have one2 : (#[.int .i64 gx, .slice adx MX capx] : Array Value).all (·.oneCell') = true := by simp [Value.oneCell']
              have o9 := Only.setRow (w.heap.size + 1) wr #[.int .i64 gx, .slice adx MX capx]
              have e9 := ext_only' ex6 o9 (by omega)
              have a29 := o9.at a26 (by omega)
              have a39 := (a36).row #[.int .i64 gx, .slice adx MX capx]
              have F := Lib.hid (And.intro e9 (And.intro a29 a39))
              clear HF hng o9 e9 a29 a39
              go_wp2_with (first | (refine wpList_load_row rfl 25 _ rfl g5 rfl 25 _ (0, 0) _ a56 Tryd.underlying25 rfl szPage ?_) | (refine wpList_store_row rfl 25 _ _ rfl (w.heap.size + 1) _ rfl rfl 25 _ a36 szPage rfl one2 ?_))
              exact ⟨⟨k + 1, (gx, mx), _, by rw [HL.out]; omega, by go_num, HF2.out, HIX.out, F.out.1, F.out.2.1, F.out.2.2⟩, by simp [intOf]; omega⟩
    · have i0 : ¬ ((k : Int) < (n : Int)) := by omega
      have d0 : decide ((k : Int) < (n : Int)) = false := by simp; omega
      obtain rfl : k = n := by omega
      have hE2 := HE.out
      rw [List.drop_of_length_le (by rw [HL.out]; exact Nat.le_refl _)] at hE2
      simp only [electL] at hE2
      have one2 : (#[.int .i64 gN, .slice adN MN capN] : Array Value).all (·.oneCell') = true := by simp [Value.oneCell']
      have sz2 : (Tryd.prog.info? 25).map (·.size) = some (#[.int .i64 gN, .slice adN MN capN] : Array Value).size := szPage
      have F := Lib.hid (And.intro hE2 (ext_only' ex (Only.setRow w.heap.size wr #[.int .i64 gN, .slice adN MN capN]) (Nat.le_refl _)))
      clear hE2 HE hlt ex
      go_wp2_with (first | (refine wpList_load_row rfl 25 _ rfl (w.heap.size + 1) rfl 25 _ (0, 0) _ a3 Tryd.underlying25 rfl szPage ?_) | (refine wpList_store_row rfl 25 _ _ rfl w.heap.size _ rfl rfl 25 _ a2 szPage rfl one2 ?_))
      refine bodyPost_ret (results_row rfl _ _ w.heap.size 25 _ rfl (a2.row #[.int .i64 gN, .slice adN MN capN]) Tryd.underlying25 rfl sz2) rfl ?_
      have F1 := F.out.1
      subst F1
      exact ⟨_, rfl, F.out.2, HSN.out⟩
end Go.Proofs.YtblhipdcgdhmiaaDoor
