/- The contract of the document's own Rules. -/
import Derived.Test.YtoompkmncglmoaaDoorTa
import Derived.Test.YtoompkmncglmoaaDoorIh
namespace Go.Proofs.YtoompkmncglmoaaDoor
open Go.RowKit Go.Pth

def gcs : List RL → List Value
  | [] => []
  | x :: r => gc x ++ gcs r
theorem gc_len (x : RL) : (gc x).length = 4 := rfl
theorem gcs_app : ∀ a b : List RL, gcs (a ++ b) = gcs a ++ gcs b
  | [], _ => rfl
  | x :: r, b => by simp only [List.cons_append, gcs, gcs_app r b, List.append_assoc]
theorem gcs_get : ∀ (l : List RL) (j : Nat) (x : RL) (c : Nat) (u : Value), l[j]? = some x → (gc x)[c]? = some u → (gcs l)[j * 4 + c]? = some u
  | [], j, x, c, u, h, _ => by simp at h
  | y :: r, 0, x, c, u, h, k => by
    simp at h; subst h
    have hc : c < 4 := by have := (List.getElem?_eq_some_iff.1 k).1; simpa [gc_len] using this
    rw [show 0 * 4 + c = c by omega]
    simp only [gcs]
    rw [List.getElem?_append_left (by rw [gc_len]; omega)]
    exact k
  | y :: r, j + 1, x, c, u, h, k => by
    have := gcs_get r j x c u (by simpa using h) k
    rw [show (j + 1) * 4 + c = 4 + (j * 4 + c) by omega]
    simp only [gcs]
    rw [List.getElem?_append_right (by rw [gc_len]; omega), gc_len, Nat.add_sub_cancel_left]
    exact this

/-- The document's rules as they are read. -/
def Gul (w : World) (v : Value) (rs : List RL) : Prop :=
  ∃ ad cap b, v = .slice ad rs.length cap ∧ (0 < rs.length → ad = some ⟨b, 0, none⟩) ∧
    ∀ j r, rs[j]? = some r → ∀ c u, (gc r)[c]? = some u → w.cell? ⟨b, j * 4 + c, none⟩ = some u
theorem Gul.ext {w w' : World} {v : Value} {rs : List RL} (h : Gul w v rs) (e : Ext w w') : Gul w' v rs := by
  obtain ⟨ad, cap, b, h2, h3, h4⟩ := h
  exact ⟨ad, cap, b, h2, h3, fun j r hj c u hu => e.cell (h4 j r hj c u hu)⟩
theorem Gul.of_row {w : World} {v : Value} {rs : List RL} (h : Row w 58 4 v rs.length (gcs rs)) : Gul w v rs := by
  obtain ⟨_, ⟨rfl, h0⟩ | ⟨g, cap, cur, rfl, hg, hw, hn, _, _, hx⟩⟩ := h
  · have : rs = [] := List.length_eq_zero_iff.1 h0
    subst this
    exact ⟨none, 0, 0, rfl, fun h => by simp at h, fun j r h => by simp at h⟩
  · refine ⟨_, cap, g, rfl, fun _ => rfl, fun j r hj c u hu => ?_⟩
    have hw' : w.heap[g]? = some (.cells cur 58 (0, 0)) := hw
    have hjl : j < rs.length := (List.getElem?_eq_some_iff.1 hj).1
    have hq : c < 4 := by have := (List.getElem?_eq_some_iff.1 hu).1; simpa [gc_len] using this
    have e : cur.toList[j * 4 + c]? = (gcs rs)[j * 4 + c]? := by rw [← hx, List.getElem?_take_of_lt (by omega)]
    simp only [World.cell?, hw']
    rw [← Array.getElem?_toList, e]
    exact gcs_get rs j r c u hj hu
theorem info_gul : (Tryd.prog.info? 58).map (fun i => (i.zero, i.size, i.bytes)) = some (some (.agg #[.bool false, .bool false, .bool false, .string ByteArray.empty]), 4, 24) := by kernel_rfl
theorem row_gul {w : World} {v : Value} {l : List RL} (h0 : Row w 58 4 v l.length (gcs l)) (r : RL) (g cap : Nat) (hg : At w g #[.bool r.nt, .bool r.dr, .bool r.wh, .string (tx r.pat)] 58) (hl : l.length ≤ 1000) (ty : TypeId) :
    ∃ v' w', (Builtin.append_ #[30, 30] ty #[v, .slice (some ⟨g, 0, none⟩) 1 cap]).run Tryd.prog w = .ok v' w' ∧ Row w' 58 4 v' (l ++ [r]).length (gcs (l ++ [r])) ∧ Grew w w' v v' := by
  obtain ⟨i, hi', hzz⟩ := Option.map_eq_some_iff.1 info_gul
  simp only [Prod.mk.injEq] at hzz
  obtain ⟨hz1, hz2, hz3⟩ := hzz
  have hsz : (Value.agg #[.bool false, .bool false, .bool false, .string ByteArray.empty]).cells.size = i.size := by rw [hz2]; rfl
  have S : Src Tryd.prog i.size 30 (.slice (some ⟨g, 0, none⟩) 1 cap) 1 (gc r) w := by
    refine Src.ofSlice w Tryd.underlying30 ⟨g, 0, none⟩ 1 cap (gc r) (by rw [hz2]; rfl) (fun q u hu => by rw [Addr.add_lit, Nat.zero_add, hg.cell, ← hu]; simp [gc]) (by simp [gc, Value.oneCell'])
  obtain ⟨v', w', h1, h2, h3⟩ := run_append_row (P := Tryd.prog) w 30 30 ty 58 i _ Tryd.underlying30 hi' hz1 hsz v l.length (gcs l) (by rw [hz2]; exact h0) (.slice (some ⟨g, 0, none⟩) 1 cap) 1 (gc r) S (by unfold maxLen; omega) (by rw [hz3]; omega)
  refine ⟨v', w', h1, ?_, h3⟩
  rw [hz2] at h2
  rw [List.length_append, gcs_app]
  simpa [gcs] using h2
theorem list_append_gul {w : World} {ops : Array Oper} {rest : List Oper} {o : Oper} {a : Act} {Q : Exit → Act → World → Prop} (hgd : o.guard = none) (s x : Operand)
    (ho : o.op = .call { callee := .builtin .append, args := #[s, x], argTypes := #[30, 30] })
    (v : Value) (l : List RL) (hsv : a.eval s = v) (hown : Row w 58 4 v l.length (gcs l)) (g c : Nat) (p : RL) (hx : a.eval x = .slice (some ⟨g, 0, none⟩) 1 c)
    (hg : At w g #[.bool p.nt, .bool p.dr, .bool p.wh, .string (tx p.pat)] 58) (hl : l.length ≤ 1000)
    (h : ∀ v' w', Row w' 58 4 v' (l ++ [p]).length (gcs (l ++ [p])) → Grew w w' v v' → wpList Tryd.prog ops Q rest (a.put o.dst v') w') : wpList Tryd.prog ops Q (o :: rest) a w :=
  wpList_plain hgd fun _ hK => by
    obtain ⟨v', w', hr, h2, h3⟩ := row_gul hown p g c hg hl o.type
    unfold Oper.wp execOp
    simp only [ho, resolve, invoke, builtin, Sem.run_bind, Sem.run_pure, Result.andThen_ok, List.map_toArray, List.map_cons, List.map_nil, hsv, hx, hr]
    exact hK _ _ (h v' w' h2 h3)

/-- What grew out of a row that is new is new. -/
theorem _root_.Go.Proofs.Grew.fresh {w0 w w' : World} {v v' : Value} (g : Grew w w' v v') (e : Ext w0 w) (h : ∀ i, v.ownBlock = some i → w0.heap.size ≤ i) : Ext w0 w' ∧ ∀ i, v'.ownBlock = some i → w0.heap.size ≤ i := by
  refine ⟨?_, fun i hi => ?_⟩
  · have := (Chg.of_ext (X := fun _ => False) e).trans g.chg (fun i hi q => by have := h i q; omega)
    exact this.ext
  · rcases g.own with q | ⟨j, q1, q2⟩
    · rw [q] at hi; exact h i hi
    · rw [q1] at hi; injection hi with hi; have := e.size; omega

/-- what the document's Rules leaves. -/
def RulP (w : World) (ls : List B) (e : Ending) (w' : World) : Prop :=
  Ext w w' ∧ if 50 < ls.length then e = .returned (.tuple #[.slice none 0 0, .int .i64 3]) else if (ls.map mkR).all okR then ∃ v, e = .returned (.tuple #[v, .int .i64 0]) ∧ Gul w' v (ls.map mkR) else e = .returned (.tuple #[.slice none 0 0, .int .i64 1])
def InvG (w : World) (ls : List B) (v i : Value) (wr : World) : Prop :=
  ∃ (k : Nat) (rs : List RL), rs = (ls.take k).map mkR ∧ rs.length = k ∧ k ≤ ls.length ∧ i = .int .i64 k ∧ Row wr 58 4 v rs.length (gcs rs) ∧ (∀ g, v.ownBlock = some g → w.heap.size ≤ g) ∧ Ext w wr ∧ rs.all okR = true
set_option maxRecDepth 100000 in
set_option maxHeartbeats 4000000 in
theorem rrules_any (lv : Value) (ls : List B) (w : World) (hx : TxO w lv ls) (hl : ls.length ≤ 1000000) (hs : ls.length ≤ 50 → ∀ l ∈ ls, l.length ≤ 1000000) :
    Calls Tryd.prog 13 #[lv] w (RulP w ls) := by
  obtain ⟨ad, cap, b, o, rfl, x2, x3⟩ := hx
  obtain ⟨L, hL⟩ : ∃ L, L = ls.length := ⟨_, rfl⟩
  by_cases h50 : 50 < L
  · have P0 : ∀ w', Ext w w' → RulP w ls (.returned (.tuple #[.slice none 0 0, .int .i64 3])) w' := fun w' e => ⟨e, by rw [if_pos (by rw [← hL]; exact h50)]⟩
    have PP := Lib.hid P0
    rw [← hL] at hl ⊢
    clear P0 x2 x3 hL hs
    have d0 : decide ((50 : Int) < (L : Int)) = true := decide_eq_true (by omega)
    go_enter Tryd.func13, Tryd.ntmps13
    go_wp2_with fail
    go_ret2
    exact PP.out _ (Ext.refl w)
  · have hs_ := Lib.hid (hs (by omega))
    clear hs
    have P0 : ∀ w' v, Ext w w' → (ls.map mkR).all okR = true → Gul w' v (ls.map mkR) → RulP w ls (.returned (.tuple #[v, .int .i64 0])) w' := fun w' v e a r => ⟨e, by rw [if_neg (by rw [← hL]; exact h50), if_pos a]; exact ⟨v, rfl, r⟩⟩
    have P1 : ∀ w', Ext w w' → (ls.map mkR).all okR = false → RulP w ls (.returned (.tuple #[.slice none 0 0, .int .i64 1])) w' := fun w' e a => ⟨e, by rw [if_neg (by rw [← hL]; exact h50), if_neg (by rw [a]; exact Bool.false_ne_true)]⟩
    have PP0 := Lib.hid P0; have PP1 := Lib.hid P1
    have HX2 := Lib.hid x2
    have HX3 := Lib.hid x3
    rw [← hL] at HX2 HX3 hl ⊢
    have HL := Lib.hid hL
    clear P0 P1 x2 x3 hL
    have d0 : decide ((50 : Int) < (L : Int)) = false := decide_eq_false (by omega)
    go_enter Tryd.func13, Tryd.ntmps13
    go_wp2_with fail
    have l50 : L ≤ 50 := by omega
    go_loopw [4, 5] (fun v i wr => InvG w ls v i wr) (fun _ i _ => L - (intOf i).toNat)
    case atStart => exact ⟨0, [], rfl, rfl, by omega, rfl, World.ownsRow_nil w 0 _ 4, fun g hg => (by cases hg), Ext.refl w, rfl⟩
    case round =>
      obtain ⟨k, rs, hrs, hrl, hkl, rfl, row1, own1, he, hok⟩ := hrel
      rw [← HL.out] at hkl
      have HRS := Lib.hid hrs; have HRL := Lib.hid hrl; have ROW1 := Lib.hid row1; have OWN1 := Lib.hid own1; have HE := Lib.hid he; have HOK := Lib.hid hok
      by_cases hlt : k < L
      · have i0 : (0 : Int) ≤ (k : Int) := by omega
        have i1 : (k : Int) < (L : Int) := by omega
        have ead := HX2.out (by omega)
        subst ead
        have cl := he.cell (HX3.out k hlt)
        have hkk : k < ls.length := by rw [← HL.out]; exact hlt
        obtain ⟨x, hx⟩ : ∃ x, x = ls[k] := ⟨_, rfl⟩
        have hmem : x ∈ ls := by rw [hx]; exact List.getElem_mem hkk
        have hx1 : ls[k]?.getD [] = x := by rw [List.getElem?_eq_getElem hkk, hx]; rfl
        have HT : Hid ((ls.take (k + 1)).map mkR = rs ++ [mkR x]) := Lib.hid (by rw [HRS.out, List.take_succ_eq_append_getElem hkk, List.map_append, hx]; rfl)
        have HMX : Hid (mkR x ∈ ls.map mkR) := Lib.hid (List.mem_map_of_mem hmem)
        rw [hx1] at cl
        have RO := Lib.hid (fun w' : World => rrule_any (tx x) (by rw [tx_size]; exact hs_.out _ hmem) w')
        rw [tx_list] at RO
        obtain ⟨adv, capv, ev, -⟩ := row1.shape
        subst ev
        clear he hmem hx1 hx hkk hrs hrl row1 own1 hok
        generalize hR : mkR x = R at *
        clear hR
        go_wp2_with fail
        refine (RO.out _).mono ?_
        rintro e w1 ⟨e1, ⟨ho, rfl⟩ | ⟨ho, rfl⟩⟩
        · have HO := Lib.hid ho
          clear ho cl
          have E2 := Lib.hid (e1.trans ((Ext.alloc w1 (.cells #[.bool R.nt, .bool R.dr, .bool R.wh, .string (tx R.pat)] 58)).trans (Ext.alloc _ (.cells #[.bool R.nt, .bool R.dr, .bool R.wh, .string (tx R.pat)] 58))))
          have A2 := Lib.hid (show At ((w1.alloc (.cells #[.bool R.nt, .bool R.dr, .bool R.wh, .string (tx R.pat)] 58)).alloc (.cells #[.bool R.nt, .bool R.dr, .bool R.wh, .string (tx R.pat)] 58)) (w1.heap.size + 1) #[.bool R.nt, .bool R.dr, .bool R.wh, .string (tx R.pat)] 58 by
            have := At.new (w1.alloc (.cells #[.bool R.nt, .bool R.dr, .bool R.wh, .string (tx R.pat)] 58)) #[.bool R.nt, .bool R.dr, .bool R.wh, .string (tx R.pat)] 58
            rwa [size_alloc] at this)
          clear e1
          have ROW2 := Lib.hid (ROW1.out.ext E2.out)
          have K1000 : Hid (rs.length ≤ 1000) := Lib.hid (by rw [HRL.out]; omega)
          go_wp2_with (refine list_append_gul rfl (.tmp 27) (.tmp 29) rfl (.slice adv rs.length capv) rs rfl ROW2.out (w1.heap.size + 1) 1 R rfl A2.out K1000.out ?_; intro vx w4 row4 gr4)
          have F := Grew.fresh gr4 (HE.out.trans E2.out) OWN1.out
          refine ⟨⟨k + 1, rs ++ [R], HT.out.symm, by rw [List.length_append, HRL.out]; rfl, by rw [← HL.out]; omega, by first | rfl | go_num, row4, F.2, F.1, by rw [List.all_append, HOK.out, List.all_cons, HO.out]; rfl⟩, by simp [intOf]; omega⟩
        · have NB := Lib.hid (show (ls.map mkR).all okR = false by
            rw [← Bool.not_eq_true, List.all_eq_true]
            intro ha
            have := ha R HMX.out
            rw [ho] at this; cases this)
          have E2 := Lib.hid (HE.out.trans (e1.trans (Ext.alloc w1 (.cells #[.bool false, .bool false, .bool false, .string ⟨#[]⟩] 58))))
          clear ho cl e1
          go_wp2_with fail
          go_ret2
          exact PP1.out _ E2.out NB.out
      · obtain rfl : k = L := by omega
        have hz : rs = ls.map mkR := by rw [HRS.out, HL.out, List.take_length]
        rw [← hz] at PP0
        have FIN := Lib.hid (fun v (r : Gul wr v rs) => PP0.out wr v HE.out HOK.out r)
        have G := Lib.hid (Gul.of_row row1)
        clear hz he hlt row1 own1 hrs hrl hok
        go_wp2_with fail
        go_ret2
        exact FIN.out _ G.out
end Go.Proofs.YtoompkmncglmoaaDoor
