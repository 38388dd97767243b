/- Pages in memory, one behind the other; the contract of read (the code's). -/
import Derived.Test.YtblhipdcgdhmiaaDoorHe
namespace Go.Proofs.YtblhipdcgdhmiaaDoor
open Go.RowKit Go.Sha
set_option linter.unusedSimpArgs false
set_option linter.unusedVariables false

/-- A page in memory: its number, where its bytes lie, its bytes. -/
abbrev PV := Int × Value × List Int
def pcell : List PV → List Value
  | [] => []
  | x :: r => .int .i64 x.1 :: x.2.1 :: pcell r
theorem pcell_len : ∀ l : List PV, (pcell l).length = l.length * 2
  | [] => rfl
  | x :: r => by simp only [pcell, List.length_cons, pcell_len r]; omega
theorem pcell_app : ∀ a b : List PV, pcell (a ++ b) = pcell a ++ pcell b
  | [], _ => rfl
  | x :: r, b => by simp only [List.cons_append, pcell, pcell_app r b]
theorem pcell_get : ∀ (l : List PV) (j : Nat) (x : PV), l[j]? = some x → (pcell l)[j * 2]? = some (.int .i64 x.1) ∧ (pcell l)[j * 2 + 1]? = some x.2.1
  | [], j, x, h => by simp at h
  | y :: r, 0, x, h => by simp at h; subst h; exact ⟨rfl, rfl⟩
  | y :: r, j + 1, x, h => by
    have := pcell_get r j x (by simpa using h)
    rw [show (j + 1) * 2 = j * 2 + 1 + 1 by omega]
    simpa [pcell] using this
theorem pinfo : (Tryd.prog.info? 25).map (fun i => (i.zero, i.size, i.bytes)) = some (some (.agg #[.int .i64 0, .slice none 0 0]), 2, 32) := by kernel_rfl
/-- A row of pages of the call's own: nothing of what they hold lies in the row itself. -/
def OwnP (w : World) (base : Nat) (v : Value) (l : List PV) : Prop :=
  w.ownsRow base 25 2 v l.length (pcell l) ∧ ∀ x ∈ l, ∀ bh, (bh < base ∨ v.ownBlock = some bh ∨ w.heap.size ≤ bh) → Src w x.2.1 x.2.2 bh
theorem OwnP.nil (w : World) (base : Nat) : OwnP w base (.slice none 0 0) [] := ⟨World.ownsRow_nil w base _ 2, fun x hx => by simp at hx⟩
theorem OwnP.ext {w w' : World} {base : Nat} {v : Value} {l : List PV} (h : OwnP w base v l) (he : Ext w w') : OwnP w' base v l := by
  obtain ⟨⟨h1, h2⟩, h3⟩ := h
  refine ⟨⟨h1, ?_⟩, fun x hx bh hb => (h3 x hx bh (hb.imp_right (Or.imp_right fun h => Nat.le_trans he.size h))).ext he⟩
  rcases h2 with h2 | ⟨g, cap, cur, hv, hg, hw, r⟩
  · exact Or.inl h2
  · exact Or.inr ⟨g, cap, cur, hv, hg, At.below (c := cur) (t := 25) hw he (At.lt (c := cur) (t := 25) hw), r⟩
theorem OwnP.len {w : World} {base : Nat} {v : Value} {l : List PV} (h : OwnP w base v l) : ∃ ad cap, v = .slice ad l.length cap := by
  obtain ⟨⟨_, ⟨rfl, h0⟩ | ⟨g, cap, cur, rfl, _⟩⟩, _⟩ := h
  · exact ⟨none, 0, by rw [h0]⟩
  · exact ⟨_, cap, rfl⟩
theorem OwnP.block {w : World} {base : Nat} {v : Value} {l : List PV} (h : OwnP w base v l) : ∀ g, v.ownBlock = some g → base ≤ g ∧ g < w.heap.size := h.1.lt
theorem run_append_p (w : World) (t ty : TypeId) (ht : Tryd.prog.underlying t = some (.slice 25)) (base : Nat) (v : Value) (l : List PV) (hown : OwnP w base v l) (g c : Nat) (x : PV)
    (h0 : w.cell? ⟨g, 0, none⟩ = some (.int .i64 x.1)) (h1 : w.cell? ⟨g, 1, none⟩ = some x.2.1) (ho : x.2.1.oneCell' = true)
    (hs : ∀ bh, (bh < base ∨ v.ownBlock = some bh ∨ w.heap.size ≤ bh) → Src w x.2.1 x.2.2 bh) (hl : l.length < 1099511627776) (hbase : base ≤ w.heap.size) :
    ∃ v' w', (Builtin.append_ #[t, t] ty #[v, .slice (some ⟨g, 0, none⟩) 1 c]).run Tryd.prog w = .ok v' w' ∧ OwnP w' base v' (l ++ [x]) ∧ Below base w w' := by
  obtain ⟨i, hi', hzz⟩ := Option.map_eq_some_iff.1 pinfo
  simp only [Prod.mk.injEq] at hzz
  obtain ⟨hz1, hz2, hz3⟩ := hzz
  obtain ⟨v', w', hr, ho', hgr, _, hat⟩ := run_append_own_at (P := Tryd.prog) w base t ty 25 i (.agg #[.int .i64 0, .slice none 0 0]) 2 32 ht hi' hz1 hz2 hz3 rfl (by omega) v l.length (pcell l) hown.1 ⟨g, 0, none⟩ 1 c [.int .i64 x.1, x.2.1] rfl
    (fun j u hj => by
      match j, hj with
      | 0, hj => simp at hj; subst hj; exact h0
      | 1, hj => simp at hj; subst hj; exact h1) (by intro u hu; simp at hu; rcases hu with h | h <;> (subst h; first | rfl | exact ho)) (by unfold maxLen; omega) (by omega) hbase
  refine ⟨v', w', hr, ⟨?_, ?_⟩, ?_⟩
  · rw [List.length_append, pcell_app]
    exact ho'
  · have key : ∀ (y : Value) (q : List Int), (∀ bh, (bh < base ∨ v.ownBlock = some bh ∨ w.heap.size ≤ bh) → Src w y q bh) → ∀ bh, (bh < base ∨ v'.ownBlock = some bh ∨ w'.heap.size ≤ bh) → Src w' y q bh := by
      intro y q hq bh hbh
      have hw : bh < base ∨ v.ownBlock = some bh ∨ w.heap.size ≤ bh := by
        rcases hbh with h | h | h
        · exact Or.inl h
        · rcases hat with h' | h'
          · exact Or.inr (Or.inl (h' ▸ h))
          · rw [h'] at h; injection h with h; exact Or.inr (Or.inr (by omega))
        · exact Or.inr (Or.inr (Nat.le_trans hgr.size h))
      cases hv : v.ownBlock with
      | none => exact src_keep (hq bh hw) (hq bh hw) ⟨hgr.os, hgr.tape, hgr.output, hgr.size, fun k hk _ => hgr.block k hk (by rw [hv]; simp)⟩
      | some r => exact src_keep (hq r (Or.inr (Or.inl hv))) (hq bh hw) ⟨hgr.os, hgr.tape, hgr.output, hgr.size, fun k hk hne => hgr.block k hk (by rw [hv]; simpa using hne)⟩
    intro y hy bh hbh
    rcases List.mem_append.1 hy with hy | hy
    · exact key y.2.1 y.2.2 (hown.2 y hy) bh hbh
    · simp at hy; subst hy; exact key y.2.1 y.2.2 hs bh hbh
  · refine ⟨hgr.os, hgr.tape, hgr.output, hgr.size, fun k hk => hgr.block k (by omega) fun e => ?_⟩
    have := (hown.1.lt k e.symm).1
    omega
theorem list_append_p {w : World} {ops : Array Oper} {rest : List Oper} {o : Oper} {a : Act} {Q : Exit → Act → World → Prop} (hgd : o.guard = none) (s x : Operand) (t : TypeId)
    (ho : o.op = .call { callee := .builtin .append, args := #[s, x], argTypes := #[t, t] }) (ht : Tryd.prog.underlying t = some (.slice 25))
    (base : Nat) (v : Value) (l : List PV) (hsv : a.eval s = v) (hown : OwnP w base v l) (g c : Nat) (p : PV) (hx : a.eval x = .slice (some ⟨g, 0, none⟩) 1 c)
    (h0 : w.cell? ⟨g, 0, none⟩ = some (.int .i64 p.1)) (h1 : w.cell? ⟨g, 1, none⟩ = some p.2.1) (hone : p.2.1.oneCell' = true)
    (hs : ∀ bh, (bh < base ∨ v.ownBlock = some bh ∨ w.heap.size ≤ bh) → Src w p.2.1 p.2.2 bh) (hl : l.length < 1099511627776) (hbase : base ≤ w.heap.size)
    (h : ∀ v' w', OwnP w' base v' (l ++ [p]) → Below base w w' → wpList Tryd.prog ops Q rest (a.put o.dst v') w') : wpList Tryd.prog ops Q (o :: rest) a w :=
  wpList_plain hgd fun _ hK => by
    obtain ⟨v', w', hr, h2, h3⟩ := run_append_p w t o.type ht base v l hown g c p h0 h1 hone hs hl hbase
    unfold Oper.wp execOp
    simp only [ho, resolve, invoke, builtin, Sem.run_bind, Sem.run_pure, Result.andThen_ok, List.map_toArray, List.map_cons, List.map_nil, hsv, hx, hr]
    exact hK _ _ (h v' w' h2 h3)
/-- Pages that are read. -/
def PR (w : World) (v : Value) (l : List PV) : Prop := ∃ ad cap pb po, v = .slice ad l.length cap ∧ l.length ≤ cap ∧ (0 < l.length → ad = some ⟨pb, po, none⟩) ∧
  ∀ j x, l[j]? = some x → w.cell? ⟨pb, po + j * 2, none⟩ = some (.int .i64 x.1) ∧ w.cell? ⟨pb, po + j * 2 + 1, none⟩ = some x.2.1 ∧ Src w x.2.1 x.2.2 w.heap.size
theorem PR.len {w : World} {v : Value} {l : List PV} (h : PR w v l) : ∃ ad cap, v = .slice ad l.length cap := by
  obtain ⟨ad, cap, _, _, h, _⟩ := h
  exact ⟨ad, cap, h⟩
theorem PR.ext {w w' : World} {v : Value} {l : List PV} (h : PR w v l) (he : Ext w w') : PR w' v l := by
  obtain ⟨ad, cap, pb, po, h1, h2, h3, h4⟩ := h
  refine ⟨ad, cap, pb, po, h1, h2, h3, fun j x hj => ?_⟩
  obtain ⟨c0, c1, s⟩ := h4 j x hj
  exact ⟨by rw [Below.cell (p := ⟨pb, po + j * 2, none⟩) he (World.block_lt_of_cell? w _ c0)]; exact c0, by rw [Below.cell (p := ⟨pb, po + j * 2 + 1, none⟩) he (World.block_lt_of_cell? w _ c1)]; exact c1, s.now he⟩
theorem OwnP.pr {w : World} {base : Nat} {v : Value} {l : List PV} (h : OwnP w base v l) : PR w v l := by
  have h2 : ∀ x ∈ l, Src w x.2.1 x.2.2 w.heap.size := fun x hx => h.2 x hx _ (Or.inr (Or.inr (Nat.le_refl _)))
  obtain ⟨⟨_, ⟨rfl, h0⟩ | ⟨g, cap, cur, rfl, hg, hw, hn, _, _, hx⟩⟩, _⟩ := h
  · have : l = [] := List.length_eq_zero_iff.1 h0
    subst this
    exact ⟨none, 0, 0, 0, rfl, Nat.le_refl _, fun h => by simp at h, fun j m h => by simp at h⟩
  · refine ⟨_, cap, g, 0, rfl, hn, fun _ => rfl, fun j x hj => ?_⟩
    have hjl : j < l.length := (List.getElem?_eq_some_iff.1 hj).1
    have hw' : w.heap[g]? = some (.cells cur 25 (0, 0)) := hw
    have key : ∀ q, q < l.length * 2 → w.cell? ⟨g, q, none⟩ = (pcell l)[q]? := fun q hq => by
      have e : cur.toList[q]? = (pcell l)[q]? := by rw [← hx, List.getElem?_take_of_lt (by omega)]
      simp only [World.cell?, hw']
      rw [← Array.getElem?_toList, e]
      rfl
    obtain ⟨p0, p1⟩ := pcell_get l j x hj
    rw [Nat.zero_add]
    exact ⟨(key _ (by omega)).trans p0, (key _ (by omega)).trans p1, h2 x (List.mem_of_getElem? hj)⟩
/-- It stays though a block below it is written. -/
theorem OwnP.pr_only {w W : World} {base g : Nat} {v : Value} {l : List PV} (h : OwnP w base v l) (hg : g < base) (ho : Only g w W) : PR W v l := by
  have h3 : ∀ x ∈ l, Src W x.2.1 x.2.2 W.heap.size := fun x hx => src_keep (h.2 x hx g (Or.inl hg)) (h.2 x hx _ (Or.inr (Or.inr ho.size))) ho
  have hb := h.block
  obtain ⟨ad, cap, pb, po, rfl, h1, h2, h4⟩ := h.pr
  refine ⟨ad, cap, pb, po, rfl, h1, h2, fun j x hj => ?_⟩
  have hl : j < l.length := (List.getElem?_eq_some_iff.1 hj).1
  obtain rfl := h2 (by omega)
  have hne := hb pb rfl
  obtain ⟨c0, c1, _⟩ := h4 j x hj
  have key : ∀ q u, w.cell? ⟨pb, q, none⟩ = some u → W.cell? ⟨pb, q, none⟩ = some u := fun q u hc => (World.cell?_of_block (ho.block pb hne.2 (by omega))).trans hc
  exact ⟨key _ _ c0, key _ _ c1, h3 x (List.mem_of_getElem? hj)⟩
/-- A page of them, or none. -/
def InL (l : List PV) (v : Value) (m : List Int) : Prop := (v = .slice none 0 0 ∧ m = []) ∨ ∃ x ∈ l, x.2.1 = v ∧ x.2.2 = m
theorem PR.src {w : World} {u v : Value} {l : List PV} {m : List Int} (h : PR w u l) (i : InL l v m) : Src w v m w.heap.size := by
  rcases i with ⟨rfl, rfl⟩ | ⟨x, hx, rfl, rfl⟩
  · exact src_nil _ _
  · obtain ⟨_, _, _, _, _, _, _, h4⟩ := h
    obtain ⟨j, hj, rfl⟩ := List.mem_iff_getElem.1 hx
    exact (h4 j _ (List.getElem?_eq_getElem hj)).2.2
/-- What is read of the copies. -/
def pgs (ls : List (List Int)) : List Pg := ls.map fun b => pgO (decP b)
def vals (l : List PV) : List Pg := l.map fun x => (x.1, x.2.2)
def InvRd (w : World) (ls : List (List Int)) (v i : Value) (wr : World) : Prop :=
  ∃ (k : Nat) (l : List PV), k ≤ ls.length ∧ i = .int .i64 k ∧ OwnP wr w.heap.size v l ∧ vals l = pgs (ls.take k) ∧ Ext w wr
def RdPost (w : World) (ls : List (List Int)) (e : Ending) (w' : World) : Prop := ∃ v l, e = .returned v ∧ Ext w w' ∧ PR w' v l ∧ vals l = pgs ls ∧ ∀ g W, g < w.heap.size → Only g w' W → PR W v l
theorem pgs_step (ls : List (List Int)) (k : Nat) (m : List Int) (h : ls[k]? = some m) : pgs (ls.take (k + 1)) = pgs (ls.take k) ++ [pgO (decP m)] := by
  unfold pgs
  rw [List.take_add_one, h]
  simp
theorem vals_len {l : List PV} {q : List Pg} (h : vals l = q) : l.length = q.length := by rw [← h, vals, List.length_map]

set_option maxHeartbeats 2000000 in
set_option maxRecDepth 100000 in
theorem read_any (v : Value) (ls : List (List Int)) (w : World) (hK : KAt w) (h : LR w v ls w.heap.size) (hb : ∀ m ∈ ls, Byt m ∧ m.length ≤ 100000000) (hl : ls.length ≤ 1000000) :
    Calls Tryd.prog 36 #[v] w (RdPost w ls) := by
  obtain ⟨ad, cap, ev⟩ := h.len
  subst ev
  obtain ⟨N, hN⟩ : ∃ N, N = ls.length := ⟨_, rfl⟩
  have HV := Lib.hid h; clear h
  have Hb := Lib.hid hb; clear hb
  rw [← hN] at HV hl ⊢
  have HN := Lib.hid hN; clear hN
  have zone : (#[.int .i64 0, .slice none 0 0] : Array Value).all (·.oneCell') = true := by simp [Value.oneCell']
  have szz : (Tryd.prog.info? 25).map (·.size) = some (#[.int .i64 0, .slice none 0 0] : Array Value).size := szPage
  go_enter Tryd.func36, Tryd.ntmps36
  go_wp2
  go_loopw [3, 10] (fun v i wr => InvRd w ls v i wr) (fun _ i _ => N - (intOf i).toNat)
  case atStart => exact ⟨0, [], by omega, rfl, OwnP.nil w _, rfl, Ext.refl w⟩
  case round =>
    obtain ⟨k, l, hk, rfl, op, hv, ex⟩ := hrel
    rw [← HN.out] at hk
    have hll : l.length ≤ 1000000 := by have := vals_len hv; unfold pgs at this; rw [List.length_map, List.length_take] at this; omega
    by_cases hlt : k < N
    · have i0 : (k : Int) < (N : Int) := by omega
      have i1 : (0 : Int) ≤ (k : Int) := by omega
      obtain ⟨m1, hm1⟩ : ∃ m, ls[k]? = some m := ⟨_, List.getElem?_eq_getElem (by rw [← HN.out]; exact hlt)⟩
      have hvv := HV.out
      rw [HN.out] at hvv
      obtain ⟨cap1, pb, po, ev1, _, hc1⟩ := lr_at hvv (by rw [← HN.out]; omega)
      injection ev1 with a1 _ a2
      subst a1 a2
      obtain ⟨x1, c1, s1⟩ := hc1 k m1 hm1
      have c1' : wr.cell? ⟨pb, po + k, none⟩ = some x1 := by rw [Below.cell (p := ⟨pb, po + k, none⟩) ex (World.block_lt_of_cell? w _ c1)]; exact c1
      have D := decode_any x1 m1 wr (hK.below ex hK.lt) (s1.now ex) (Hb.out m1 (List.mem_of_getElem? hm1)).1 (Hb.out m1 (List.mem_of_getElem? hm1)).2
      have hst := pgs_step ls k m1 hm1
      obtain ⟨O, hO⟩ : ∃ O, pgO (decP m1) = O := ⟨_, rfl⟩
      rw [hO] at hst
      have HO := Lib.hid hO
      rw [← hv] at hst
      have Hst := Lib.hid hst
      obtain ⟨adl, capl, el⟩ := op.len
      subst el
      obtain ⟨LL, hLL⟩ : ∃ n, n = l.length := ⟨_, rfl⟩
      rw [← hLL] at op hll ⊢
      have HLL := Lib.hid hLL
      clear hLL
      clear hvv hc1 c1 s1 hm1 hst hO hv
      go_wp2_with fail
      refine D.mono ?_
      rintro e w1 ⟨vi, rfl, e1, F1⟩
      rw [HO.out] at F1 ⊢
      obtain ⟨g1, q1⟩ := O
      simp only at F1 ⊢
      obtain ⟨adi, capi, ei⟩ := (F1 _ (Or.inr (Nat.le_refl _))).len
      obtain ⟨M, hM⟩ : ∃ M, M = q1.length := ⟨_, rfl⟩
      rw [← hM] at ei
      have HM := Lib.hid hM
      subst ei
      have one : (#[.int .i64 g1, .slice adi M capi] : Array Value).all (·.oneCell') = true := by simp [Value.oneCell']
      have e2 : Ext w1 (w1.alloc (.cells #[.int .i64 0, .slice none 0 0] 25)) := Ext.alloc w1 _
      have a2 := At.new w1 #[.int .i64 0, .slice none 0 0] 25
      have e3 := ext_only' e2 (Only.setRow w1.heap.size _ #[.int .i64 g1, .slice adi M capi]) (Nat.le_refl _)
      have a3 : At ((w1.alloc (.cells #[.int .i64 0, .slice none 0 0] 25)).setRow w1.heap.size #[.int .i64 g1, .slice adi M capi]) w1.heap.size #[.int .i64 g1, .slice adi M capi] 25 := a2.row _
      have sz2 : (Tryd.prog.info? 25).map (·.size) = some (#[.int .i64 g1, .slice adi M capi] : Array Value).size := szPage
      clear D c1' hM
      go_upto_region 6 with (refine wpList_store_row rfl 25 _ _ rfl w1.heap.size _ rfl rfl 25 _ a2 sz2 rfl one ?_)
      generalize (w1.alloc (.cells #[.int .i64 0, .slice none 0 0] 25)).setRow w1.heap.size #[.int .i64 g1, .slice adi M capi] = w3 at *
      clear e2 a2
      have e4 : Ext w3 (w3.alloc (.cells #[.int .i64 g1, .slice adi M capi] 25)) := Ext.alloc w3 _
      have a4 := At.new w3 #[.int .i64 g1, .slice adi M capi] 25
      have e14 := e1.trans (e3.trans e4)
      have op4 := op.ext e14
      have k0 := a4.cell 0
      have k1 := a4.cell 1
      have S4 : ∀ bh, (bh < w.heap.size ∨ (.slice adl LL capl : Value).ownBlock = some bh ∨ (w3.alloc (.cells #[.int .i64 g1, .slice adi M capi] 25)).heap.size ≤ bh) → Src (w3.alloc (.cells #[.int .i64 g1, .slice adi M capi] 25)) (.slice adi M capi) q1 bh := fun bh hbh => by
        refine Src.ext (F1 bh ?_) (e3.trans e4)
        rcases hbh with h | h | h
        · exact Or.inl (Nat.lt_of_lt_of_le h ex.size)
        · exact Or.inl (op.block bh h).2
        · exact Or.inr (Nat.le_trans (e3.trans e4).size h)
      clear k0 k1
      have HS := Lib.hid S4
      have HC := Lib.hid (And.intro (a4.cell 0) (a4.cell 1))
      go_wp2_with (first | (refine wpList_load_row rfl 25 _ rfl w1.heap.size rfl 25 _ (0, 0) _ a3 Tryd.underlying25 rfl szPage ?_) | (refine list_append_p rfl (.tmp 19) (.tmp 21) 72 rfl Tryd.underlying72 w.heap.size (.slice adl LL capl) l rfl op4 w3.heap.size 1 (g1, .slice adi M capi, q1) rfl HC.out.1 HC.out.2 rfl HS.out (by rw [← HLL.out]; omega) (ex.trans e14).size ?_; intro v6 w6 op6 b6))
      exact ⟨⟨k + 1, l ++ [(g1, .slice adi M capi, q1)], by rw [← HN.out]; omega, by go_num, op6, by rw [Hst.out]; simp [vals], Below.trans (ex.trans e14) b6⟩, by simp [intOf]; omega⟩
    · have i0 : ¬ ((k : Int) < (N : Int)) := by omega
      have d0 : decide ((k : Int) < (N : Int)) = false := by simp; omega
      obtain rfl : k = N := by omega
      rw [List.take_of_length_le (by rw [← HN.out]; exact Nat.le_refl _)] at hv
      have F := Lib.hid (And.intro ex (And.intro op.pr (And.intro hv (fun (g : Nat) (W : World) (hg : g < w.heap.size) (ho : Only g wr W) => op.pr_only hg ho))))
      clear hlt hv op ex
      go_wp2
      go_ret
      exact ⟨_, l, rfl, F.out.1, F.out.2.1, F.out.2.2⟩
end Go.Proofs.YtblhipdcgdhmiaaDoor
