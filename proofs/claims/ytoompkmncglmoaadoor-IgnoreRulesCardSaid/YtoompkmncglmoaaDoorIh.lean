/- Rules in memory; the contract of New. -/
import Derived.Test.YtoompkmncglmoaaDoorIg
namespace Go.Proofs.YtoompkmncglmoaaDoor
open Go.RowKit Go.Pth

/-- Texts in memory, wherever in their block. -/
def TxO (w : World) (v : Value) (l : List B) : Prop :=
  ∃ ad cap b o, v = .slice ad l.length cap ∧ (0 < l.length → ad = some ⟨b, o, none⟩) ∧ ∀ j, j < l.length → w.cell? ⟨b, o + j, none⟩ = some (.string (tx (l[j]?.getD [])))
theorem TxO.ext {w w' : World} {v : Value} {l : List B} (h : TxO w v l) (he : Ext w w') : TxO w' v l := by
  obtain ⟨ad, cap, b, o, h1, h2, h3⟩ := h
  exact ⟨ad, cap, b, o, h1, h2, fun j hj => he.cell (h3 j hj)⟩
theorem _root_.Go.Proofs.Txt.o {w : World} {v : Value} {l : List B} (h : Txt w v l) : TxO w v l := by
  obtain ⟨ad, cap, b, h1, h2, h3⟩ := h
  exact ⟨ad, cap, b, 0, h1, h2, fun j hj => by rw [Nat.zero_add]; exact h3 j hj⟩

/-- the cells of some rules. -/
def rc (r : RL) : List Value := [.string (tx r.line), .string (tx r.pat), .bool r.nt, .bool r.dr, .bool r.wh]
def rcs : List RL → List Value
  | [] => []
  | x :: r => rc x ++ rcs r
theorem rc_len (x : RL) : (rc x).length = 5 := rfl
theorem rcs_len : ∀ l : List RL, (rcs l).length = l.length * 5
  | [] => rfl
  | x :: r => by simp only [rcs, List.length_append, rc_len, List.length_cons, rcs_len r]; omega
theorem rcs_app : ∀ a b : List RL, rcs (a ++ b) = rcs a ++ rcs b
  | [], _ => rfl
  | x :: r, b => by simp only [List.cons_append, rcs, rcs_app r b, List.append_assoc]
theorem rcs_get : ∀ (l : List RL) (j : Nat) (x : RL) (c : Nat) (u : Value), l[j]? = some x → (rc x)[c]? = some u → (rcs l)[j * 5 + c]? = some u
  | [], j, x, c, u, h, _ => by simp at h
  | y :: r, 0, x, c, u, h, k => by
    simp at h; subst h
    have hc : c < 5 := by have := (List.getElem?_eq_some_iff.1 k).1; simpa [rc_len] using this
    rw [show 0 * 5 + c = c by omega]
    simp only [rcs]
    rw [List.getElem?_append_left (by rw [rc_len]; omega)]
    exact k
  | y :: r, j + 1, x, c, u, h, k => by
    have := rcs_get r j x c u (by simpa using h) k
    rw [show (j + 1) * 5 + c = 5 + (j * 5 + c) by omega]
    simp only [rcs]
    rw [List.getElem?_append_right (by rw [rc_len]; omega), rc_len, Nat.add_sub_cancel_left]
    exact this

/-- Rules as they are read. -/
def Rul (w : World) (v : Value) (rs : List RL) : Prop :=
  ∃ rb ad cap b, v = .pointer (some ⟨rb, 0, none⟩) ∧ w.cell? ⟨rb, 0, none⟩ = some (.slice ad rs.length cap) ∧ (0 < rs.length → ad = some ⟨b, 0, none⟩) ∧
    ∀ j r, rs[j]? = some r → ∀ c u, (rc r)[c]? = some u → w.cell? ⟨b, j * 5 + c, none⟩ = some u
theorem Rul.ext {w w' : World} {v : Value} {rs : List RL} (h : Rul w v rs) (e : Ext w w') : Rul w' v rs := by
  obtain ⟨rb, ad, cap, b, h1, h2, h3, h4⟩ := h
  exact ⟨rb, ad, cap, b, h1, e.cell h2, h3, fun j r hj c u hu => e.cell (h4 j r hj c u hu)⟩
theorem Rul.of_row {w : World} {rb : Nat} {sv : Value} {rs : List RL} (ha : At w rb #[sv] 53) (h : Row w 55 5 sv rs.length (rcs rs)) : Rul w (.pointer (some ⟨rb, 0, none⟩)) rs := by
  obtain ⟨_, ⟨rfl, h0⟩ | ⟨g, cap, cur, rfl, hg, hw, hn, _, _, hx⟩⟩ := h
  · have : rs = [] := List.length_eq_zero_iff.1 h0
    subst this
    exact ⟨rb, none, 0, 0, rfl, by rw [ha.cell]; rfl, fun h => by simp at h, fun j r h => by simp at h⟩
  · refine ⟨rb, _, cap, g, rfl, by rw [ha.cell]; rfl, fun _ => rfl, fun j r hj c u hu => ?_⟩
    have hw' : w.heap[g]? = some (.cells cur 55 (0, 0)) := hw
    have hjl : j < rs.length := (List.getElem?_eq_some_iff.1 hj).1
    have hq : c < 5 := by have := (List.getElem?_eq_some_iff.1 hu).1; simpa [rc_len] using this
    have e : cur.toList[j * 5 + c]? = (rcs rs)[j * 5 + c]? := by rw [← hx, List.getElem?_take_of_lt (by omega)]
    simp only [World.cell?, hw']
    rw [← Array.getElem?_toList, e]
    exact rcs_get rs j r c u hj hu

/-- append of one rule. -/
theorem row_rule {w : World} {v : Value} {l : List RL} (h0 : Row w 55 5 v l.length (rcs l)) (r : RL) (g cap : Nat) (hg : At w g #[.string (tx r.line), .string (tx r.pat), .bool r.nt, .bool r.dr, .bool r.wh] 55) (hl : l.length ≤ 1000) :
    ∃ v' w', (Builtin.append_ #[51, 51] 51 #[v, .slice (some ⟨g, 0, none⟩) 1 cap]).run Tryd.prog w = .ok v' w' ∧ Row w' 55 5 v' (l ++ [r]).length (rcs (l ++ [r])) ∧ Grew w w' v v' := by
  obtain ⟨i, hi', hzz⟩ := Option.map_eq_some_iff.1 info_rule
  simp only [Prod.mk.injEq] at hzz
  obtain ⟨hz1, hz2, hz3⟩ := hzz
  have hsz : (Value.agg #[.string ByteArray.empty, .string ByteArray.empty, .bool false, .bool false, .bool false]).cells.size = i.size := by rw [hz2]; rfl
  have S : Src Tryd.prog i.size 51 (.slice (some ⟨g, 0, none⟩) 1 cap) 1 (rc r) w := by
    refine Src.ofSlice w Tryd.underlying51 ⟨g, 0, none⟩ 1 cap (rc r) (by rw [hz2]; rfl) (fun q u hu => by rw [Addr.add_lit, Nat.zero_add, hg.cell, ← hu]; simp [rc]) (by simp [rc, Value.oneCell'])
  obtain ⟨v', w', h1, h2, h3⟩ := run_append_row (P := Tryd.prog) w 51 51 51 55 i _ Tryd.underlying51 hi' hz1 hsz v l.length (rcs l) (by rw [hz2]; exact h0) (.slice (some ⟨g, 0, none⟩) 1 cap) 1 (rc r) S (by unfold maxLen; omega) (by rw [hz3]; omega)
  refine ⟨v', w', h1, ?_, h3⟩
  rw [hz2] at h2
  rw [List.length_append, rcs_app]
  simpa [rcs] using h2

/-- what New leaves. -/
def NewP (w : World) (ls : List B) (e : Ending) (w' : World) : Prop :=
  Ext w w' ∧ if 50 < ls.length then e = .returned (.tuple #[.pointer none, .int .i64 3]) else if (ls.map mkR).all okR then ∃ v, e = .returned (.tuple #[v, .int .i64 0]) ∧ Rul w' v (ls.map mkR) else e = .returned (.tuple #[.pointer none, .int .i64 1])
/-- between two lines. -/
def InvN (w : World) (rb : Nat) (ls : List B) (i : Value) (wr : World) : Prop :=
  ∃ (k : Nat) (sv : Value) (rs : List RL), rs = (ls.take k).map mkR ∧ rs.length = k ∧ k ≤ ls.length ∧ i = .int .i64 k ∧ At wr rb #[sv] 53 ∧ Row wr 55 5 sv rs.length (rcs rs) ∧ (∀ g, sv.ownBlock = some g → rb < g) ∧ Ext w wr ∧ rs.all okR = true
set_option maxRecDepth 100000 in
set_option maxHeartbeats 4000000 in
theorem new_any (lv : Value) (ls : List B) (w : World) (hx : TxO w lv ls) (hl : ls.length ≤ 1000000) (hs : ls.length ≤ 50 → ∀ l ∈ ls, l.length ≤ 1000000) (hk : ls.length ≤ 50 → ∀ l ∈ ls, AnyOk (mkR l).pat) :
    Calls Tryd.prog 12 #[lv] w (NewP w ls) := by
  obtain ⟨ad, cap, b, o, rfl, x2, x3⟩ := hx
  obtain ⟨L, hL⟩ : ∃ L, L = ls.length := ⟨_, rfl⟩
  by_cases h50 : 50 < L
  · have P0 : ∀ w', Ext w w' → NewP w ls (.returned (.tuple #[.pointer none, .int .i64 3])) w' := fun w' e => ⟨e, by rw [if_pos (by rw [← hL]; exact h50)]⟩
    have PP := Lib.hid P0
    rw [← hL] at hl ⊢
    clear P0 x2 x3 hL hs hk
    have d0 : decide ((50 : Int) < (L : Int)) = true := decide_eq_true (by omega)
    go_enter Tryd.func12, Tryd.ntmps12
    go_wp2_with fail
    go_ret2
    exact PP.out _ (Ext.refl w)
  · have hs_ := Lib.hid (hs (by omega))
    have hk_ := Lib.hid (hk (by omega))
    clear hs hk
    have P0 : ∀ w' v, Ext w w' → (ls.map mkR).all okR = true → Rul w' v (ls.map mkR) → NewP w ls (.returned (.tuple #[v, .int .i64 0])) w' := fun w' v e a r => ⟨e, by rw [if_neg (by rw [← hL]; exact h50), if_pos a]; exact ⟨v, rfl, r⟩⟩
    have P1 : ∀ w', Ext w w' → (ls.map mkR).all okR = false → NewP w ls (.returned (.tuple #[.pointer none, .int .i64 1])) w' := fun w' e a => ⟨e, by rw [if_neg (by rw [← hL]; exact h50), if_neg (by rw [a]; exact Bool.false_ne_true)]⟩
    have PP0 := Lib.hid P0; have PP1 := Lib.hid P1
    have HX2 := Lib.hid x2
    have HX3 := Lib.hid x3
    rw [← hL] at HX2 HX3 hl ⊢
    have HL := Lib.hid hL
    clear P0 P1 x2 x3 hL
    have d0 : decide ((50 : Int) < (L : Int)) = false := decide_eq_false (by omega)
    have a0 := At.new w #[.slice none 0 0] 53
    have E0 := Ext.alloc w (.cells #[.slice none 0 0] 53)
    go_enter Tryd.func12, Tryd.ntmps12
    go_wp2_with fail
    obtain ⟨rb, hrb⟩ : ∃ rb, rb = w.heap.size := ⟨_, rfl⟩
    have HRB := Lib.hid hrb
    rw [← hrb] at a0 ⊢
    clear hrb
    generalize w.alloc (.cells #[.slice none 0 0] 53) = w0 at *
    have l50 : L ≤ 50 := by omega
    go_loopw [15] (fun i wr => InvN w rb ls i wr) (fun i _ => L - (intOf i).toNat)
    case atStart => exact ⟨0, _, [], rfl, rfl, by omega, rfl, a0, World.ownsRow_nil w0 0 _ 5, fun g hg => (by cases hg), E0, rfl⟩
    case round =>
      clear a0 E0
      obtain ⟨k, sv, rs, hrs, hrl, hkl, rfl, at1, row1, own1, he, hok⟩ := hrel
      rw [← HL.out] at hkl
      have HRS := Lib.hid hrs; have HRL := Lib.hid hrl; have AT1 := Lib.hid at1; have ROW1 := Lib.hid row1; have OWN1 := Lib.hid own1; have HE := Lib.hid he; have HOK := Lib.hid hok
      clear hrs hrl at1 row1 own1 hok
      by_cases hlt : k < L
      · have i0 : (0 : Int) ≤ (k : Int) := by omega
        have i1 : (k : Int) < (L : Int) := by omega
        have ead := HX2.out (by omega)
        subst ead
        have cl := he.cell (HX3.out k hlt)
        have hkk : k < ls.length := by rw [← HL.out]; exact hlt
        obtain ⟨x, hx⟩ : ∃ x, x = ls[k] := ⟨_, rfl⟩
        have hmem : x ∈ ls := by rw [hx]; exact List.getElem_mem hkk
        have hx1 : ls[k]?.getD [] = x := by rw [List.getElem?_eq_getElem hkk, hx]; rfl
        have HT : Hid ((ls.take (k + 1)).map mkR = rs ++ [mkR x]) := Lib.hid (by rw [HRS.out, List.take_succ_eq_append_getElem hkk, List.map_append, hx]; rfl)
        have HMX : Hid (mkR x ∈ ls.map mkR) := Lib.hid (List.mem_map_of_mem hmem)
        rw [hx1] at cl
        have RO := Lib.hid (fun w' : World => ruleOf_any (tx x) (by rw [tx_size]; exact hs_.out _ hmem) w')
        rw [tx_list] at RO
        have MB := Lib.hid (fun w' : World => mayBe_any (mkR x) (hk_.out _ hmem) w')
        clear he hmem hx1 hx hkk
        have OKX : Hid (okR (mkR x) = okR (mkR x)) := Lib.hid rfl
        generalize hR : mkR x = R at *
        clear hR
        unfold rval at RO MB
        go_wp2_with fail
        refine (RO.out _).mono ?_
        rintro e w1 ⟨rfl, e1⟩
        have a2 := At.new w1 #[.string (tx R.line), .string (tx R.pat), .bool R.nt, .bool R.dr, .bool R.wh] 55
        have e2 := e1.trans (Ext.alloc w1 (.cells #[.string (tx R.line), .string (tx R.pat), .bool R.nt, .bool R.dr, .bool R.wh] 55))
        have A2 := Lib.hid a2; have E2 := Lib.hid e2
        have E1S := Lib.hid e1.size
        have RBG : Hid (rb < w1.heap.size) := Lib.hid (Nat.lt_of_lt_of_le AT1.out.lt e1.size)
        clear a2 e2 e1 cl
        go_wp2_with fail
        refine (MB.out _).mono ?_
        rintro e w3 ⟨rfl, e3⟩
        cases ho : okR R with
        | false =>
          have NB := Lib.hid (show (ls.map mkR).all okR = false by
            rw [← Bool.not_eq_true, List.all_eq_true]
            intro ha
            have := ha R HMX.out
            rw [ho] at this; cases this)
          go_wp2_with fail
          go_ret2
          exact PP1.out _ (HE.out.trans (E2.out.trans e3)) NB.out
        | true =>
          have HO := Lib.hid ho
          clear ho
          go_wp2_with fail
          generalize hg7 : w1.heap.size = g7 at *
          have a3 := A2.out.ext e3
          have e13 := E2.out.trans e3
          clear e3
          generalize w1.alloc (.cells #[.string (tx R.line), .string (tx R.pat), .bool R.nt, .bool R.dr, .bool R.wh] 55) = w2 at *
          have AT3 := AT1.out.ext e13
          have ROW3 := ROW1.out.ext e13
          have HRW3 : rb < w3.heap.size := AT3.lt
          have hown7 : ∀ g, sv.ownBlock = some g → g < g7 := fun g hg => by
            have h1 := ROW1.out.lt g hg
            have h2 := E1S.out
            omega
          have HA := Lib.hid (fun w' (hw' : Chg (fun i => i = rb ∨ sv.ownBlock = some i) w3 w') => hw'.at (b := g7) a3 (fun q => by
            rcases q with q | q
            · have := RBG.out; omega
            · have := hown7 g7 q; omega))
          have AD := Lib.hid (AT3.ext (Ext.drew w3))
          have LD := Lib.hid (fun w' (hw' : Ext w3.drew w') => ((AT3.ext (Ext.drew w3)).ext hw').cell 0)
          have OW := Lib.hid (fun w' (hw' : Ext w3.drew w') => (ROW3.ext (Ext.drew w3)).ext hw')
          have HRW := Lib.hid (show rb < w3.drew.heap.size from HRW3)
          have FINL := Lib.hid (show ∀ (W4 : World) adv capv, Chg (fun i => i = rb ∨ sv.ownBlock = some i) w3 W4 → At W4 rb #[.slice adv (rs ++ [R]).length capv] 53 → Row W4 55 5 (.slice adv (rs ++ [R]).length capv) (rs ++ [R]).length (rcs (rs ++ [R])) → (∀ g, (Value.slice adv (rs ++ [R]).length capv).ownBlock = some g → rb < g) → InvN w rb ls (.int .i64 ((k : Int) + 1)) W4 from by
            intro W4 adv capv c4 a4 r4 h4
            refine ⟨k + 1, _, rs ++ [R], HT.out.symm, by rw [List.length_append, HRL.out]; rfl, by have := HL.out; omega, by push_cast; rfl, a4, r4, h4, ?_, ?_⟩
            · have c0 : Chg (fun _ => False) w W4 := (Chg.of_ext (HE.out.trans e13)).trans c4 (fun i hi q => by
                have h1 := HRB.out
                rcases q with rfl | q
                · omega
                · have := OWN1.out i q; omega)
              exact c0.ext
            · rw [List.all_append, HOK.out, List.all_cons, HO.out]; rfl)
          have k50 : rs.length ≤ 1000 := by rw [HRL.out]; omega
          have SS : Chg (fun i => i = rb ∨ sv.ownBlock = some i) w3 w3.drew := Chg.of_ext (Ext.drew w3)
          clear AT3 ROW3 e13 a3 hown7
          refine wp_region_held (S := Chg (fun i => i = rb ∨ sv.ownBlock = some i) w3) (by kernel_rfl) ?_
          change wpAnyH _ _ _ _ _ _ _ _ w3.drew
          have S0 := SS
          clear SS
          generalize w3.drew = W0 at *
          refine takeS 0 (some 24) (.pointer (some ⟨rb, 0, none⟩)) rfl rfl (by kernel_rfl) (by kernel_rfl) (by kernel_rfl) (fun _ _ _ h => h) rfl S0 (fun w' hw' => by go_simp) ?_
          simp only [Act.put, List.setIfInBounds_toArray, List.set_cons_zero, List.set_cons_succ]
          refine takeS 1 (some 25) (.pointer (some ⟨rb, 0, none⟩)) rfl rfl (by kernel_rfl) (by kernel_rfl) (by kernel_rfl) (fun _ _ _ h => h) rfl S0 (fun w' hw' => by go_simp) ?_
          simp only [Act.put, List.setIfInBounds_toArray, List.set_cons_zero, List.set_cons_succ]
          refine takeS 2 (some 26) (.pointer (some ⟨rb, 0, none⟩)) rfl rfl (by kernel_rfl) (by kernel_rfl) (by kernel_rfl) (fun _ _ _ h => h) rfl S0 (fun w' hw' => by go_simp) ?_
          simp only [Act.put, List.setIfInBounds_toArray, List.set_cons_zero, List.set_cons_succ]
          refine takeS 3 (some 27) (.pointer (some ⟨rb, 0, none⟩)) rfl rfl (by kernel_rfl) (by kernel_rfl) (by kernel_rfl) (fun _ _ _ h => h) rfl S0 (fun w' hw' => by go_simp) ?_
          simp only [Act.put, List.setIfInBounds_toArray, List.set_cons_zero, List.set_cons_succ]
          refine takeS 5 (some 29) (.agg #[.string (tx R.line), .string (tx R.pat), .bool R.nt, .bool R.dr, .bool R.wh]) rfl rfl (by kernel_rfl) (by kernel_rfl) (by kernel_rfl) (fun _ _ _ h => h) rfl S0 (fun w' hw' => by have c0 := (HA.out w' hw').cell 0; have c1 := (HA.out w' hw').cell 1; have c2 := (HA.out w' hw').cell 2; have c3 := (HA.out w' hw').cell 3; have c4 := (HA.out w' hw').cell 4; go_simp) ?_
          simp only [Act.put, List.setIfInBounds_toArray, List.set_cons_zero, List.set_cons_succ]
          refine nextR2 4 6 rfl rfl (by kernel_rfl) rfl rfl ?_ ?_
          · have c1_ : (W0).cell? ⟨rb, 0, none⟩ = some sv := LD.out _ (by first | exact Ext.refl _ | exact Ext.alloc _ _)
            refine (makeR (some 28) rfl sv (w1 := W0) (by go_simp) ?_)
            simp only [Act.put, List.setIfInBounds_toArray, List.set_cons_zero, List.set_cons_succ]
            refine ⟨S0, ?_⟩
            refine nextS 6 rfl (by kernel_rfl) rfl ?_
            refine (makeR (some 30) rfl (.slice (some ⟨W0.heap.size, 0, none⟩) 1 1) (w1 := W0.alloc (.cells #[.string (tx R.line), .string (tx R.pat), .bool R.nt, .bool R.dr, .bool R.wh] 55)) (by go_simp) ?_)
            simp only [Act.put, List.setIfInBounds_toArray, List.set_cons_zero, List.set_cons_succ]
            have S1 := S0.trans (Chg.of_ext (X := fun _ => False) (Ext.alloc W0 (.cells #[.string (tx R.line), .string (tx R.pat), .bool R.nt, .bool R.dr, .bool R.wh] 55))) (fun _ _ q => q.elim)
            refine ⟨S1, ?_⟩
            obtain ⟨v', W2, hr, row2, gr⟩ := row_rule (OW.out _ (Ext.alloc W0 _)) R W0.heap.size 1 (At.new W0 #[.string (tx R.line), .string (tx R.pat), .bool R.nt, .bool R.dr, .bool R.wh] 55) (by omega)
            obtain ⟨adv, capv, ev, -⟩ := row2.shape
            subst ev
            refine nextS 7 rfl (by kernel_rfl) rfl (appR (some 31) rfl (.tmp 28) (.tmp 30) 51 51 rfl _ _ rfl rfl _ _ hr ?_)
            simp only [Act.put, List.setIfInBounds_toArray, List.set_cons_zero, List.set_cons_succ]
            have S2 := S1.trans gr.chg (fun i _ q => Or.inr q)
            refine ⟨S2, ?_⟩
            refine takeS 8 (some 32) (.pointer (some ⟨rb, 0, none⟩)) rfl rfl (by kernel_rfl) (by kernel_rfl) (by kernel_rfl) (fun _ _ _ h => h) rfl S2 (fun w' hw' => by go_simp) ?_
            simp only [Act.put, List.setIfInBounds_toArray, List.set_cons_zero, List.set_cons_succ]
            refine takeS 9 (some 33) (.pointer (some ⟨rb, 0, none⟩)) rfl rfl (by kernel_rfl) (by kernel_rfl) (by kernel_rfl) (fun _ _ _ h => h) rfl S2 (fun w' hw' => by go_simp) ?_
            simp only [Act.put, List.setIfInBounds_toArray, List.set_cons_zero, List.set_cons_succ]
            have at2 : At W2 rb #[sv] 53 := gr.chg.at (b := rb) (AD.out.ext (Ext.alloc W0 _)) (fun q => by have := OWN1.out rb q; omega)
            have cc_ := at2.cell 0
            have zz_ := at2.frozen 0
            refine nextS 10 rfl (by kernel_rfl) rfl (storeR (w1 := W2.setCell ⟨rb, 0, none⟩ (.slice adv (rs ++ [R]).length capv)) (by go_simp) ?_)
            simp only [Act.put]
            have hne : ∀ g, (Value.slice adv (rs ++ [R]).length capv).ownBlock = some g → rb < g := fun g hg => by
              rcases gr.own with q | ⟨g', q1, q2⟩
              · rw [q] at hg; exact OWN1.out g hg
              · rw [q1] at hg; injection hg with hg
                have h1 : W0.heap.size ≤ g' := Nat.le_trans (Ext.alloc W0 _).size q2
                have := HRW.out
                omega
            have S3 := S2.trans (Chg.setCell W2 rb 0 (.slice adv (rs ++ [R]).length capv)) (fun i _ q => Or.inl q)
            have at3 : At (W2.setCell ⟨rb, 0, none⟩ (.slice adv (rs ++ [R]).length capv)) rb #[.slice adv (rs ++ [R]).length capv] 53 := at2.set 0 _
            have row3 := row2.chg (Chg.setCell W2 rb 0 (.slice adv (rs ++ [R]).length capv)) (fun g hg e => by have := hne g hg; omega)
            have FIN := Lib.hid (FINL.out _ adv capv S3 at3 row3 hne)
            refine ⟨S3, ?_⟩
            clear cc_ zz_ at2 at3 row2 row3 S2 S3 hr gr hne
            generalize W2.setCell ⟨rb, 0, none⟩ (.slice adv (rs ++ [R]).length capv) = W4 at *
            refine wpAnyH_done (by kernel_rfl) ?_ _
            clear S1 S0
            go_wp2_with fail
            exact ⟨FIN.out, by simp [intOf]; omega⟩
          · refine (makeR (some 30) rfl (.slice (some ⟨W0.heap.size, 0, none⟩) 1 1) (w1 := W0.alloc (.cells #[.string (tx R.line), .string (tx R.pat), .bool R.nt, .bool R.dr, .bool R.wh] 55)) (by go_simp) ?_)
            simp only [Act.put, List.setIfInBounds_toArray, List.set_cons_zero, List.set_cons_succ]
            have S1 := S0.trans (Chg.of_ext (X := fun _ => False) (Ext.alloc W0 (.cells #[.string (tx R.line), .string (tx R.pat), .bool R.nt, .bool R.dr, .bool R.wh] 55))) (fun _ _ q => q.elim)
            refine ⟨S1, ?_⟩
            refine nextS 4 rfl (by kernel_rfl) rfl ?_
            have c1_ : (W0.alloc (.cells #[.string (tx R.line), .string (tx R.pat), .bool R.nt, .bool R.dr, .bool R.wh] 55)).cell? ⟨rb, 0, none⟩ = some sv := LD.out _ (by first | exact Ext.refl _ | exact Ext.alloc _ _)
            refine (makeR (some 28) rfl sv (w1 := W0.alloc (.cells #[.string (tx R.line), .string (tx R.pat), .bool R.nt, .bool R.dr, .bool R.wh] 55)) (by go_simp) ?_)
            simp only [Act.put, List.setIfInBounds_toArray, List.set_cons_zero, List.set_cons_succ]
            refine ⟨S1, ?_⟩
            obtain ⟨v', W2, hr, row2, gr⟩ := row_rule (OW.out _ (Ext.alloc W0 _)) R W0.heap.size 1 (At.new W0 #[.string (tx R.line), .string (tx R.pat), .bool R.nt, .bool R.dr, .bool R.wh] 55) (by omega)
            obtain ⟨adv, capv, ev, -⟩ := row2.shape
            subst ev
            refine nextS 7 rfl (by kernel_rfl) rfl (appR (some 31) rfl (.tmp 28) (.tmp 30) 51 51 rfl _ _ rfl rfl _ _ hr ?_)
            simp only [Act.put, List.setIfInBounds_toArray, List.set_cons_zero, List.set_cons_succ]
            have S2 := S1.trans gr.chg (fun i _ q => Or.inr q)
            refine ⟨S2, ?_⟩
            refine takeS 8 (some 32) (.pointer (some ⟨rb, 0, none⟩)) rfl rfl (by kernel_rfl) (by kernel_rfl) (by kernel_rfl) (fun _ _ _ h => h) rfl S2 (fun w' hw' => by go_simp) ?_
            simp only [Act.put, List.setIfInBounds_toArray, List.set_cons_zero, List.set_cons_succ]
            refine takeS 9 (some 33) (.pointer (some ⟨rb, 0, none⟩)) rfl rfl (by kernel_rfl) (by kernel_rfl) (by kernel_rfl) (fun _ _ _ h => h) rfl S2 (fun w' hw' => by go_simp) ?_
            simp only [Act.put, List.setIfInBounds_toArray, List.set_cons_zero, List.set_cons_succ]
            have at2 : At W2 rb #[sv] 53 := gr.chg.at (b := rb) (AD.out.ext (Ext.alloc W0 _)) (fun q => by have := OWN1.out rb q; omega)
            have cc_ := at2.cell 0
            have zz_ := at2.frozen 0
            refine nextS 10 rfl (by kernel_rfl) rfl (storeR (w1 := W2.setCell ⟨rb, 0, none⟩ (.slice adv (rs ++ [R]).length capv)) (by go_simp) ?_)
            simp only [Act.put]
            have hne : ∀ g, (Value.slice adv (rs ++ [R]).length capv).ownBlock = some g → rb < g := fun g hg => by
              rcases gr.own with q | ⟨g', q1, q2⟩
              · rw [q] at hg; exact OWN1.out g hg
              · rw [q1] at hg; injection hg with hg
                have h1 : W0.heap.size ≤ g' := Nat.le_trans (Ext.alloc W0 _).size q2
                have := HRW.out
                omega
            have S3 := S2.trans (Chg.setCell W2 rb 0 (.slice adv (rs ++ [R]).length capv)) (fun i _ q => Or.inl q)
            have at3 : At (W2.setCell ⟨rb, 0, none⟩ (.slice adv (rs ++ [R]).length capv)) rb #[.slice adv (rs ++ [R]).length capv] 53 := at2.set 0 _
            have row3 := row2.chg (Chg.setCell W2 rb 0 (.slice adv (rs ++ [R]).length capv)) (fun g hg e => by have := hne g hg; omega)
            have FIN := Lib.hid (FINL.out _ adv capv S3 at3 row3 hne)
            refine ⟨S3, ?_⟩
            clear cc_ zz_ at2 at3 row2 row3 S2 S3 hr gr hne
            generalize W2.setCell ⟨rb, 0, none⟩ (.slice adv (rs ++ [R]).length capv) = W4 at *
            refine wpAnyH_done (by kernel_rfl) ?_ _
            clear S1 S0
            go_wp2_with fail
            exact ⟨FIN.out, by simp [intOf]; omega⟩
      · obtain rfl : k = L := by omega
        have hz : rs = ls.map mkR := by rw [HRS.out, HL.out, List.take_length]
        have FIN := Lib.hid (PP0.out wr (.pointer (some ⟨rb, 0, none⟩)) HE.out (by rw [← hz]; exact HOK.out) (by rw [← hz]; exact Rul.of_row AT1.out ROW1.out))
        clear hz he hlt
        go_wp2_with fail
        go_ret2
        exact FIN.out
end Go.Proofs.YtoompkmncglmoaaDoor
