/- Steps in a region that draws its order and holds calls which make memory: operations are taken first where nothing below the world at hand has turned. No conditions: lemmas. -/
import Derived.Test.YtblhipdcgdhmiaaDoorSpec2
import Derived.OrdersHeld
import Derived.Laws.BytesArg
namespace Go.Sha
open Go.RowKit

/-- All that lies in w lies in w' as it did. -/
def Ext (w w' : World) : Prop := Below w.heap.size w w'
theorem Ext.refl (w : World) : Ext w w := Below.refl _ _
theorem Ext.trans {a b c : World} (h : Ext a b) (k : Ext b c) : Ext a c := Below.trans h (Below.mono k h.size)
theorem Ext.alloc (w : World) (o : Obj) : Ext w (w.alloc o) := (Below.refl _ _).alloc (Nat.le_refl _) o

section
variable {P : Program} {ops : Array Oper} {Q : Exit → Act → World → Prop} {md : Region.Mode}

theorem anyH_mono {S S' : World → Prop} (hS : ∀ w, S' w → S w) : ∀ (fuel : Nat) (listed : Array Bool) (a : Act) (w : World), wpAnyH P md ops Q S' fuel listed a w → wpAnyH P md ops Q S fuel listed a w
  | 0, _, _, _, h => h
  | fuel + 1, _, _, _, h => ⟨h.1, fun i hi => wpOp_mono (fun a' w' h' => ⟨hS _ h'.1, anyH_mono hS fuel _ a' w' h'.2⟩) (h.2 i hi)⟩

/-- From here on all that is there stays: the world at hand is the new ground. -/
theorem ground {w0 w : World} {fuel : Nat} {listed : Array Bool} {a : Act} (h0 : Ext w0 w) (h : wpAnyH P md ops Q (Ext w) fuel listed a w) : wpAnyH P md ops Q (Ext w0) fuel listed a w :=
  anyH_mono (fun _ h' => h0.trans h') fuel listed a w h

/-- An operation that yields the same in all worlds that follow is taken first. -/
theorem takeH (i : Nat) (d : Option Tmp) (v : Value) {oi : Oper} {fuel : Nat} {listed : Array Bool} {a : Act} {w : World} (hi : ops[i]? = some oi) (hd : oi.dst = d)
    (hs : Region.noSelect ops = true) (hf : Region.free md ops listed i = true) (hr : (Region.ready md ops listed).contains i = true)
    (hQ : ∀ c a w, Q (.panic c) (a.put d v) w → Q (.panic c) a w) (hw : Region.wanted oi (yielded ops a.tmps) = true) (hy : ∀ w', Ext w w' → (execOp a.eval oi).run P w' = .ok (.value v) w')
    (h : wpAnyH P md ops Q (Ext w) fuel (listed.setIfInBounds i true) (a.put d v) w) : wpAnyH P md ops Q (Ext w) (fuel + 1) listed a w := by
  subst hd
  exact wpAnyH_take hi hs hf hr hQ (Or.inl ⟨hw, hy⟩) (Ext.refl w) h
/-- Just one may come up. -/
theorem nextH (i : Nat) {oi : Oper} {fuel : Nat} {listed : Array Bool} {a : Act} {w : World} (hi : ops[i]? = some oi)
    (hr : Region.ready md ops listed = [i]) (hw : Region.wanted oi (yielded ops a.tmps) = true)
    (h : oi.wp P a w (fun a' w' => Ext w w' ∧ wpAnyH P md ops Q (Ext w') fuel (listed.setIfInBounds i true) a' w') Q) : wpAnyH P md ops Q (Ext w) (fuel + 1) listed a w := by
  refine wpAnyH_all hr (by simp) fun j hj => ?_
  have hj : j = i := by simpa using hj
  subst hj
  refine wpOp_step hi fun K hK => ?_
  rw [if_pos hw]
  exact Oper.wp_mono (fun a' w' h' => hK a' w' ⟨h'.1, ground h'.1 h'.2⟩) h
/-- One of two may come up. -/
theorem nextH_two (i j : Nat) {oi oj : Oper} {fuel : Nat} {listed : Array Bool} {a : Act} {w : World} (hi : ops[i]? = some oi) (hj : ops[j]? = some oj)
    (hr : Region.ready md ops listed = [i, j]) (hwi : Region.wanted oi (yielded ops a.tmps) = true) (hwj : Region.wanted oj (yielded ops a.tmps) = true)
    (h1 : oi.wp P a w (fun a' w' => Ext w w' ∧ wpAnyH P md ops Q (Ext w') fuel (listed.setIfInBounds i true) a' w') Q)
    (h2 : oj.wp P a w (fun a' w' => Ext w w' ∧ wpAnyH P md ops Q (Ext w') fuel (listed.setIfInBounds j true) a' w') Q) : wpAnyH P md ops Q (Ext w) (fuel + 1) listed a w := by
  refine wpAnyH_all hr (by simp) fun k hk => ?_
  have hk : k = i ∨ k = j := by simpa using hk
  rcases hk with rfl | rfl
  · refine wpOp_step hi fun K hK => ?_
    rw [if_pos hwi]
    exact Oper.wp_mono (fun a' w' h' => hK a' w' ⟨h'.1, ground h'.1 h'.2⟩) h1
  · refine wpOp_step hj fun K hK => ?_
    rw [if_pos hwj]
    exact Oper.wp_mono (fun a' w' h' => hK a' w' ⟨h'.1, ground h'.1 h'.2⟩) h2
end

/-- string(b) of bytes that lie in a block. -/
theorem conv_at {P : Program} (src dst e : TypeId) (hs : P.underlying src = some (.slice e)) (he : P.underlying e = some (.int .u8)) (hd : P.underlying dst = some .string) (w : World) (g : Nat) (m : List Int) (t : TypeId) (n c : Nat) (hn : m.length = n) (h : At w g (bs m) t) :
    (convert src dst (.slice (some ⟨g, 0, none⟩) n c)).run P w = .ok (.string (strOfNums m)) w :=
  run_convert_bytes_arg w src e hs he g 0 n c m hn (fun i hi => by rw [Nat.zero_add, h.get_bs i (by omega)]; rfl) dst hd

/-- A call of a Go function that makes memory alone. -/
theorem callH {P : Program} {op : Oper} {a : Act} {w : World} {Q : Exit → Act → World → Prop} (d : Option Tmp) (hd : op.dst = d) (f : FuncId) (args : Array Value)
    (hx : (execOp a.eval op).run P w = .ok (.enter f args) w) (R : Value → World → Prop) (hc : Calls P f args w fun e w' => ∃ v, e = .returned v ∧ Ext w w' ∧ R v w')
    {K : Act → World → Prop} (h : ∀ v w', Ext w w' → R v w' → K (a.put d v) w') : op.wp P a w (fun a' w' => Ext w w' ∧ K a' w') Q := by
  subst hd
  unfold Oper.wp
  rw [hx]
  exact hc.mono fun e w' he => by obtain ⟨v, rfl, he, hr⟩ := he; exact ⟨he, h v w' he hr⟩
/-- An operation that makes a block. -/
theorem makeH {P : Program} {op : Oper} {a : Act} {w w1 : World} {Q : Exit → Act → World → Prop} (d : Option Tmp) (hd : op.dst = d) (v : Value)
    (hx : (execOp a.eval op).run P w = .ok (.value v) w1) (h1 : Ext w w1)
    {K : Act → World → Prop} (h : K (a.put d v) w1) : op.wp P a w (fun a' w' => Ext w w' ∧ K a' w') Q := by
  subst hd
  unfold Oper.wp
  rw [hx]
  exact ⟨h1, h⟩

/-- A row of bytes from block B on that may be written. -/
def RowB (w : World) (v : Value) (n B : Nat) : Prop :=
  ∃ ad cap, v = .slice ad n cap ∧ (0 < n → ∃ g, ad = some ⟨g, 0, none⟩ ∧ B ≤ g ∧ ∀ j, j < n → (∃ x, w.cell? ⟨g, j, none⟩ = some (.int .u8 x)) ∧ w.frozen? ⟨g, j, none⟩ = false)
theorem OwnB.row {w : World} {base : Nat} {v : Value} {m : List Int} (h : OwnB w base v m) : RowB w v m.length base := by
  obtain ⟨_, ⟨rfl, h0⟩ | ⟨g, cap, cur, rfl, hg, hw, hn, _, _, hx⟩⟩ := h
  · exact ⟨none, 0, by rw [h0], fun hp => by omega⟩
  · refine ⟨_, cap, rfl, fun _ => ⟨g, rfl, hg, fun j hj => ⟨⟨m[j]?.getD 0, ?_⟩, ?_⟩⟩⟩
    · have hw' : w.heap[g]? = some (.cells cur 5 (0, 0)) := hw
      have e : cur.toList[j]? = (m.map (Value.int .u8))[j]? := by rw [← hx, List.getElem?_take_of_lt (by omega)]
      simp only [World.cell?, hw']
      rw [← Array.getElem?_toList, e, List.getElem?_map, List.getElem?_eq_getElem hj]; rfl
    · exact At.frozen (c := cur) (t := 5) hw j
theorem At.rowB {w : World} {g : Nat} {m : List Int} {t : TypeId} (h : At w g (bs m) t) (n c : Nat) (hn : m.length = n) : RowB w (.slice (some ⟨g, 0, none⟩) n c) n g :=
  ⟨_, c, rfl, fun _ => ⟨g, rfl, Nat.le_refl _, fun j hj => ⟨⟨_, h.get_bs j (by omega)⟩, h.frozen j⟩⟩⟩
theorem OwnB.only {w w' : World} {base b : Nat} {v : Value} {m : List Int} (h : OwnB w base v m) (ho : Only b w w') (hb : b < base) : OwnB w' base v m := by
  obtain ⟨h1, ⟨h2, h0⟩ | ⟨g, cap, cur, hv, hg, hw, r⟩⟩ := h
  · exact ⟨h1, Or.inl ⟨h2, h0⟩⟩
  · exact ⟨h1, Or.inr ⟨g, cap, cur, hv, hg, ho.at (c := g) (x := cur) (t := 5) hw (by omega), r⟩⟩
theorem Rep.belowB {w w' : World} {b B : Nat} {l : List Int} (h : Rep w b l) (ho : Below B w w') (hb : b < B) : Rep w' b l := by
  obtain ⟨bks, t, ch, h⟩ := h
  exact ⟨bks, t, ch, h.h64, h.hl, h.ht, h.hc, h.hat.h8, h.hat.h64, h.hat.at_.below ho hb⟩
/-- While each byte of the row is set anew. -/
def InvX (w : World) (v : Value) (n B : Nat) (i : Value) (wr : World) : Prop := ∃ k : Nat, k ≤ n ∧ i = .int .i64 k ∧ Below B w wr ∧ RowB wr v n B
theorem invX_step (w wr : World) (n B k g c : Nat) (y : Int) (hk : k < n) (hB : Below B w wr) (hg : B ≤ g) (hrow : ∀ j, j < n → (∃ x, wr.cell? ⟨g, j, none⟩ = some (.int .u8 x)) ∧ wr.frozen? ⟨g, j, none⟩ = false) :
    InvX w (.slice (some ⟨g, 0, none⟩) n c) n B (.int .i64 ((k + 1 : Nat) : Int)) (wr.setCell ⟨g, k, none⟩ (.int .u8 y)) := by
  refine ⟨k + 1, by omega, rfl, hB.setCell (p := ⟨g, k, none⟩) hg _, _, c, rfl, fun _ => ⟨g, rfl, hg, fun j hj => ?_⟩⟩
  obtain ⟨⟨x, hx⟩, hf⟩ := hrow j hj
  refine ⟨?_, by rw [World.frozen?_setCell]; exact hf⟩
  by_cases e : j = k
  · subst e; exact ⟨y, World.cell?_setCell_same _ _ _ hx⟩
  · exact ⟨x, by rw [World.cell?_setCell_other _ _ _ _ (by intro h; injection h with _ h2; exact e h2.symm)]; exact hx⟩

end Go.Sha
