/- The contracts of Ints, others and Vote (the code's). -/
import Derived.Test.YtblhipdcgdhmiaaDoorHg
import Derived.Test.YtblhipdcgdhmiaaDoorSbM
import Derived.BigQuiet
namespace Go.Proofs.YtblhipdcgdhmiaaDoor
open Go.RowKit Go.Sha
set_option linter.unusedSimpArgs false
set_option linter.unusedVariables false

def RI : World → Value → Int → Nat → Prop := fun _ v a _ => v = .int .i64 a
theorem ri_kept : Kept RI := ⟨fun h _ _ => h, fun h _ => h⟩
abbrev OwnI := OwnG (α := Int) 3 RI
theorem u3zero : (Tryd.prog.info? 3).map (fun i => (i.zero, i.size, i.bytes)) = some (some (.int .i64 0), 1, 8) := by kernel_rfl
/-- A slice of numbers. -/
def IR (w : World) (v : Value) (l : List Int) : Prop := ∃ ad cap pb po, v = .slice ad l.length cap ∧ (0 < l.length → ad = some ⟨pb, po, none⟩) ∧ ∀ j a, l[j]? = some a → w.cell? ⟨pb, po + j, none⟩ = some (.int .i64 a)
theorem ir_ext {w w' : World} {v : Value} {l : List Int} (h : IR w v l) (he : Ext w w') : IR w' v l := by
  obtain ⟨ad, cap, pb, po, h1, h2, h3⟩ := h
  exact ⟨ad, cap, pb, po, h1, h2, fun j a hj => by rw [Below.cell (p := ⟨pb, po + j, none⟩) he (World.block_lt_of_cell? w _ (h3 j a hj))]; exact h3 j a hj⟩
theorem ir_len {w : World} {v : Value} {l : List Int} (h : IR w v l) : ∃ ad cap, v = .slice ad l.length cap := by
  obtain ⟨ad, cap, _, _, h, _⟩ := h
  exact ⟨ad, cap, h⟩
theorem own_ir {w : World} {base : Nat} {v : Value} {ps : List (Value × Int)} (h : OwnI w base v ps (fun _ => False)) : IR w v (ps.map (·.2)) := by
  obtain ⟨ad, cap, pb, po, rfl, h1, _, h3⟩ := h.cells w.heap.size (Or.inr (Nat.le_refl _))
  refine ⟨ad, cap, pb, po, by simp, by simpa using h1, fun j a hj => ?_⟩
  rw [List.getElem?_map] at hj
  obtain ⟨x, hx, rfl⟩ := Option.map_eq_some_iff.1 hj
  obtain ⟨c, r⟩ := h3 j x hx
  rw [c]; exact congrArg some r
def DPost (w : World) (l : List Int) (e : Ending) (w' : World) : Prop := ∃ v, e = .returned v ∧ Ext w w' ∧ IR w' v l

set_option maxHeartbeats 1000000 in
theorem ints_any (v u : Value) (l : List Int) (w : World) (hv : IR w v l) (hu : IR w u l) (hl : l.length ≤ 1000000000) : Calls Tryd.prog 16 #[v, u] w fun e w' => e = .returned (.bool true) ∧ Ext w w' := by
  obtain ⟨adv, capv, ev⟩ := ir_len hv
  subst ev
  obtain ⟨adu, capu, eu⟩ := ir_len hu
  subst eu
  obtain ⟨N, hN⟩ : ∃ N, N = l.length := ⟨_, rfl⟩
  have t0 : ((N : Int) == (N : Int)) = true := by simp
  have HV := Lib.hid hv; clear hv
  have HU := Lib.hid hu; clear hu
  rw [← hN] at HV HU hl ⊢
  have HN := Lib.hid hN; clear hN
  go_enter Tryd.func16, Tryd.ntmps16
  go_wp2
  go_loopw [5] (fun i wr => InvC w N i wr) (fun i _ => N - (intOf i).toNat)
  case atStart => exact ⟨0, by omega, rfl, Ext.refl w⟩
  case round =>
    obtain ⟨k, hk, rfl, ex⟩ := hrel
    by_cases hlt : k < N
    · have i0 : (k : Int) < (N : Int) := by omega
      have i1 : (0 : Int) ≤ (k : Int) := by omega
      obtain ⟨m1, hm1⟩ : ∃ m, l[k]? = some m := ⟨_, List.getElem?_eq_getElem (by rw [← HN.out]; exact hlt)⟩
      obtain ⟨_, _, pb, po, ev1, g1, hc1⟩ := HV.out
      obtain ⟨_, _, qb, qo, ev2, g2, hc2⟩ := HU.out
      injection ev1 with a1 _ a2
      injection ev2 with a3 _ a4
      have g1' := g1 (by rw [← HN.out]; omega)
      have g2' := g2 (by rw [← HN.out]; omega)
      subst a1 a2 a3 a4 g1' g2'
      have c1 := hc1 k m1 hm1
      have c2 := hc2 k m1 hm1
      have c1' : wr.cell? ⟨pb, po + k, none⟩ = some (.int .i64 m1) := by rw [Below.cell (p := ⟨pb, po + k, none⟩) ex (World.block_lt_of_cell? w _ c1)]; exact c1
      have c2' : wr.cell? ⟨qb, qo + k, none⟩ = some (.int .i64 m1) := by rw [Below.cell (p := ⟨qb, qo + k, none⟩) ex (World.block_lt_of_cell? w _ c2)]; exact c2
      clear hc1 hc2 c1 c2 HV HU hm1 g1 g2
      go_wp2
      go_quiet (fail)
      go_wp2
      refine ⟨⟨k + 1, by omega, by go_num, belowN ex _⟩, by simp [intOf]; omega⟩
    · have i0 : ¬ ((k : Int) < (N : Int)) := by omega
      have d0 : decide ((k : Int) < (N : Int)) = false := by simp; omega
      clear hlt
      go_wp2
      go_ret
      exact ⟨rfl, ex⟩

/-- The places of the pages that are not this one. -/
def othL (p : Pg) : List Pg → Nat → List Int
  | [], _ => []
  | q :: r, i => (if sameP p q then [] else [(i : Int)]) ++ othL p r (i + 1)
theorem oth_step (p : Pg) (L : List Pg) (k : Nat) (q : Pg) (h : L[k]? = some q) : othL p (L.drop k) k = (if sameP p q then [] else [(k : Int)]) ++ othL p (L.drop (k + 1)) (k + 1) := by
  have hl : k < L.length := (List.getElem?_eq_some_iff.1 h).1
  rw [List.drop_eq_getElem_cons hl]
  have : L[k] = q := by rw [List.getElem?_eq_getElem hl] at h; injection h
  rw [this]
  rfl
def InvOt (w : World) (p : Pg) (L : List Pg) (R : List Int) (u v i : Value) (wr : World) : Prop :=
  ∃ (k : Nat) (ps : List (Value × Int)), k ≤ L.length ∧ i = .int .i64 k ∧ ps.length ≤ k ∧ ps.map (·.2) ++ othL p (L.drop k) k = R ∧ OwnI wr (w.heap.size + 1) v ps (fun _ => False) ∧ Ext w wr ∧ At wr w.heap.size #[.int .i64 p.1, u] 25

set_option maxHeartbeats 4000000 in
set_option maxRecDepth 100000 in
theorem others_any (v u : Value) (l : List PV) (p : Pg) (w : World) (h : PR w v l) (hu : Src w u p.2 w.heap.size) (hl : l.length ≤ 1000000) :
    Calls Tryd.prog 38 #[v, .agg #[.int .i64 p.1, u]] w (DPost w (othL p (vals l) 0)) := by
  obtain ⟨R, hR⟩ : ∃ R, othL p (vals l) 0 = R := ⟨_, rfl⟩
  rw [hR]
  obtain ⟨adu, capu, evu⟩ := hu.len
  obtain ⟨MU, hMU⟩ : ∃ n, n = p.2.length := ⟨_, rfl⟩
  rw [← hMU] at evu
  clear hMU
  subst evu
  obtain ⟨gp, mp⟩ := p
  simp only at hu ⊢
  obtain ⟨ad, cap, pb, po, ev, hcap, hpos, hcells⟩ := h
  subst ev
  obtain ⟨n, hn⟩ : ∃ n, n = l.length := ⟨_, rfl⟩
  rw [← hn] at hcap hpos hl ⊢
  have HN := Lib.hid hn
  have HC := Lib.hid hcells
  have HP := Lib.hid hpos
  have HU := Lib.hid hu
  have hL : (vals l).length = n := by unfold vals; rw [List.length_map]; exact hn.symm
  have HL := Lib.hid hL
  have zone : (#[.int .i64 0, .slice none 0 0] : Array Value).all (·.oneCell') = true := by simp [Value.oneCell']
  have e0 : Ext w (w.alloc (.cells #[.int .i64 gp, .slice adu MU capu] 25)) := Ext.alloc w _
  have a0 := At.new w #[.int .i64 gp, .slice adu MU capu] 25
  have H0 := Lib.hid (And.intro hR (And.intro e0 a0))
  clear hn hcells hpos hL e0 a0 hu hR hcap
  go_enter Tryd.func38, Tryd.ntmps38
  go_wp2
  go_loopw [5, 10] (fun v i wr => InvOt w (gp, mp) (vals l) R (.slice adu MU capu) v i wr) (fun _ i _ => n - (intOf i).toNat)
  case atStart => exact ⟨0, [], by omega, rfl, by simp, by rw [List.drop_zero]; exact H0.out.1, OwnG.nil _ _ _ _ _, H0.out.2.1, H0.out.2.2⟩
  case round =>
    clear H0
    obtain ⟨k, ps, hk, rfl, hpl, hR, ow, ex, a3⟩ := hrel
    simp only at a3
    rw [HL.out] at hk
    obtain ⟨ado, capo, evo⟩ := ow.len
    obtain ⟨q, hq⟩ : ∃ n, n = ps.length := ⟨_, rfl⟩
    rw [← hq] at evo hpl
    have Hq := Lib.hid hq
    clear hq
    subst evo
    have HR := Lib.hid hR
    clear hR
    by_cases hlt : k < n
    · have i0 : (k : Int) < (n : Int) := by omega
      have i1 : (0 : Int) ≤ (k : Int) := by omega
      have ea := HP.out (by omega)
      subst ea
      obtain ⟨x, hx⟩ : ∃ x, l[k]? = some x := ⟨_, List.getElem?_eq_getElem (by rw [← HN.out]; exact hlt)⟩
      obtain ⟨c0, c1, sx⟩ := HC.out k x hx
      have hvx := vals_get l k x hx
      have hst := oth_step (gp, mp) (vals l) k _ hvx
      obtain ⟨gx, vx, mx⟩ := x
      simp only at c0 c1 sx hst
      have HST := Lib.hid hst
      obtain ⟨adx, capx, evx⟩ := sx.len
      obtain ⟨MX, hMX⟩ : ∃ n, n = mx.length := ⟨_, rfl⟩
      rw [← hMX] at evx
      clear hMX
      subst evx
      have HSX := Lib.hid sx
      have c0' : wr.cell? ⟨pb, po + k * 2, none⟩ = some (.int .i64 gx) := by rw [Below.cell (p := ⟨pb, po + k * 2, none⟩) ex (World.block_lt_of_cell? w _ c0)]; exact c0
      have c1' : wr.cell? ⟨pb, po + k * 2 + 1, none⟩ = some (.slice adx MX capx) := by rw [Below.cell (p := ⟨pb, po + k * 2 + 1, none⟩) ex (World.block_lt_of_cell? w _ c1)]; exact c1
      have e4 : Ext wr (wr.alloc (.cells #[.int .i64 0, .slice none 0 0] 25)) := Ext.alloc wr _
      have a4 := At.new wr #[.int .i64 0, .slice none 0 0] 25
      have one : (#[.int .i64 gx, .slice adx MX capx] : Array Value).all (·.oneCell') = true := by simp [Value.oneCell']
      have sz2 : (Tryd.prog.info? 25).map (·.size) = some (#[.int .i64 gx, .slice adx MX capx] : Array Value).size := szPage
      have e5 := ext_only' e4 (Only.setRow wr.heap.size _ #[.int .i64 gx, .slice adx MX capx]) (Nat.le_refl _)
      have a5 : At ((wr.alloc (.cells #[.int .i64 0, .slice none 0 0] 25)).setRow wr.heap.size #[.int .i64 gx, .slice adx MX capx]) wr.heap.size #[.int .i64 gx, .slice adx MX capx] 25 := a4.row _
      have a35 := at_ext a3 e5
      have ow5 := ow.ext ri_kept e5
      clear c0 c1 sx hx hvx hst
      go_upto_region 5 with (refine wpList_store_row rfl 25 _ _ rfl wr.heap.size _ rfl rfl 25 _ a4 sz2 rfl one ?_)
      clear c0' c1' a3 e4 a4 ow
      generalize (wr.alloc (.cells #[.int .i64 0, .slice none 0 0] 25)).setRow wr.heap.size #[.int .i64 gx, .slice adx MX capx] = w5 at *
      obtain ⟨g5, hg5⟩ : ∃ g, g = wr.heap.size := ⟨_, rfl⟩
      rw [← hg5] at a5 ⊢
      have ex5 := ex.trans e5
      clear ex e5 hg5
      have SM := sameP_any gp gx mp mx _ _ w5 (HU.out.now ex5) (HSX.out.now ex5)
      obtain ⟨B, hB⟩ : ∃ B, sameP (gp, mp) (gx, mx) = B := ⟨_, rfl⟩
      rw [hB] at SM
      have HB := Lib.hid hB
      clear hB
      have f50 := a5.cell 0
      have f51 := a5.cell 1
      have f30 := a35.cell 0
      have f31 := a35.cell 1
      go_wp2_with fail
      refine SM.mono ?_
      rintro e w6 ⟨rfl, e6⟩
      clear f50 f51 f30 f31 SM a5
      have a36 := at_ext a35 e6
      have ow6 := ow5.ext ri_kept e6
      have ex6 := ex5.trans e6
      clear a35 ow5 ex5 e6
      cases B
      · have hn2 := HR.out
        rw [HST.out, HB.out] at hn2
        have lt6 := a36.lt
        have cI := cell_one w6 (.int .i64 (k : Int)) 3
        have e7 : Ext w6 (w6.alloc (.cells #[.int .i64 (k : Int)] 3)) := Ext.alloc w6 _
        have S3 := ex6.trans e7
        have a37 := at_ext a36 e7
        have sz7 : w.heap.size + 1 ≤ (w6.alloc (.cells #[.int .i64 (k : Int)] 3)).heap.size := a37.lt
        have F := Lib.hid (And.intro hn2 (And.intro S3 a37))
        clear hn2 a36 S3 a37 e7
        go_wp2_with (refine list_append_g ri_kept rfl (.tmp 19) (.tmp 21) 40 rfl (.int .i64 0) 8 Tryd.underlying40 u3zero rfl (by omega) (w.heap.size + 1) (.slice ado q capo) ps (fun _ => False) rfl (own_one ri_kept ow6 _ 3) w6.heap.size 1 _ (k : Int) rfl cI rfl (fun _ _ => rfl) (by have := Hq.out; omega) sz7 ?_; intro v3 w4 o3 b3)
        have b4 : Below w.heap.size _ w4 := ⟨b3.os, b3.tape, b3.output, b3.size, fun k hk => b3.block k (by omega)⟩
        exact ⟨⟨k + 1, _, by rw [HL.out]; omega, by go_num, by have := Hq.out; simp; omega, by have := F.out.1; rw [← this]; simp, o3, Below.trans F.out.2.1 b4, F.out.2.2.below b3 (by omega)⟩, by simp [intOf]; omega⟩
      · have hn2 := HR.out
        rw [HST.out, HB.out] at hn2
        have F := Lib.hid (And.intro hn2 (And.intro ow6 (And.intro ex6 a36)))
        clear hn2 ow6 ex6 a36
        go_wp2
        exact ⟨⟨k + 1, ps, by rw [HL.out]; omega, by go_num, by have := Hq.out; omega, by have := F.out.1; simpa using this, F.out.2.1, F.out.2.2.1, F.out.2.2.2⟩, by simp [intOf]; omega⟩
    · have i0 : ¬ ((k : Int) < (n : Int)) := by omega
      have d0 : decide ((k : Int) < (n : Int)) = false := by simp; omega
      obtain rfl : k = n := by omega
      have hR := HR.out
      rw [List.drop_of_length_le (by rw [HL.out]; exact Nat.le_refl _)] at hR
      have F := Lib.hid (And.intro (by simpa [othL] using hR : ps.map (·.2) = R) (And.intro (own_ir ow : IR wr (.slice ado q capo) (ps.map (·.2))) ex))
      clear hlt hR ow ex
      go_wp2
      go_ret
      exact ⟨_, rfl, F.out.2.2, F.out.1 ▸ F.out.2.1⟩
end Go.Proofs.YtblhipdcgdhmiaaDoor
