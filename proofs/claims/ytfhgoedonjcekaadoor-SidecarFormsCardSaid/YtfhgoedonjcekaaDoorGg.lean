/- The contract of readList (the code's). -/
import Derived.Test.YtfhgoedonjcekaaDoorCzM
import Derived.Test.YtfhgoedonjcekaaDoorWs
namespace Go.Proofs.YtfhgoedonjcekaaDoor
open Go.RowKit Go.Sha
set_option linter.unusedSimpArgs false
set_option linter.unusedVariables false

theorem rCnt_byt (l : List Int) (e : Int) (most : Nat) (hb : Byt l) : Byt (rCnt l e most).1 ∧ Byt (rCnt l e most).2.1 := by
  have nb : Byt [] := fun x hx => by simp at hx
  unfold rCnt
  split
  · exact ⟨nb, nb⟩
  · split
    · exact ⟨nb, nb⟩
    · split
      · exact ⟨nb, nb⟩
      · exact ⟨(rNum_byt l e hb).take _, (rNum_byt l e hb).drop _⟩
/-- So many fields of so many bytes each. -/
def rList (sz : Nat) : Nat → List Int → Int → Option (List (List Int) × List Int × Int)
  | 0, l, e => some ([], l, e)
  | c + 1, l, e => if (rCnt l e sz).1.length = sz then (rList sz c (rCnt l e sz).2.1 (rCnt l e sz).2.2).map (fun p => ((rCnt l e sz).1 :: p.1, p.2)) else none
theorem rList_len (sz : Nat) : ∀ (c : Nat) (l : List Int) (e : Int) (ls : List (List Int)) (l2 : List Int) (e2 : Int), rList sz c l e = some (ls, l2, e2) → ls.length = c ∧ ∀ m ∈ ls, m.length = sz
  | 0, l, e, ls, l2, e2, h => by
    rw [rList] at h
    injection h with h
    injection h with h1 _
    subst h1
    exact ⟨rfl, fun m hm => by simp at hm⟩
  | c + 1, l, e, ls, l2, e2, h => by
    rw [rList] at h
    split at h
    · rename_i hx
      obtain ⟨⟨ls0, l0, e0⟩, hp, hq⟩ := Option.map_eq_some_iff.1 h
      injection hq with h1 h2
      subst h1
      obtain ⟨i1, i2⟩ := rList_len sz c _ _ ls0 l0 e0 hp
      refine ⟨by simp [i1], fun m hm => ?_⟩
      rcases List.mem_cons.1 hm with rfl | hm
      · exact hx
      · exact i2 m hm
    · cases h
theorem at_store_c {P : Program} {op : Oper} {a : Act} {w : World} {K : Act → World → Prop} {Q : Exit → Act → World → Prop} (hd : op.dst = none) (w1 : World) (hx : (execOp a.eval op).run P w = .ok .skip w1) (h : K a w1) : op.wp P a w K Q := by
  unfold Oper.wp
  rw [hx]
  show K (a.put op.dst undef) _
  rw [hd]
  exact h
theorem ownG_only {α : Type} {e : TypeId} {R : World → Value → α → Nat → Prop} (k : Kept R) {w w' : World} {base b : Nat} {v : Value} {ps : List (Value × α)} {A : Nat → Prop} (h : OwnG e R w base v ps A) (ho : Only b w w') (hA : A b) (hb : b < base) : OwnG e R w' base v ps A := by
  obtain ⟨⟨h1, h2⟩, h3⟩ := h
  refine ⟨⟨h1, ?_⟩, fun x hx bh hbh => k.keep (h3 x hx b (Or.inl hA)) (h3 x hx bh (hbh.imp_right (Or.imp_right fun h => Nat.le_trans ho.size h))) ho⟩
  rcases h2 with h2 | ⟨g, cap, cur, hv, hg, hw, r⟩
  · exact Or.inl h2
  · exact Or.inr ⟨g, cap, cur, hv, hg, ho.at (x := cur) (t := e) hw (by omega), r⟩
theorem only_below {b : Nat} {w a c : World} (h : Only b w a) (hb : Below w.heap.size a c) : Only b w c :=
  ⟨hb.os.trans h.os, hb.tape.trans h.tape, hb.output.trans h.output, Nat.le_trans h.size hb.size, fun k hk hkb => (hb.block k hk).trans (h.block k hk hkb)⟩
theorem rst_grow {B b : Nat} {w w' : World} {l : List Int} {e : Int} (h : RSt w b l e) (hb : Below B w w') (hB : b < B) : RSt w' b l e := by
  obtain ⟨v, h1, h2, h3⟩ := h
  refine ⟨v, h1.below hb hB, fun bh hbh => ?_, h3⟩
  obtain ⟨ad, cap, sb, so, e1, x2, x3, x4, x5, x6⟩ := h2 bh hbh
  by_cases h0 : 0 < l.length
  · have hsb : sb < b := by
      apply Nat.lt_of_not_le
      intro hn
      obtain ⟨ad', cap', sb', so', e1', _, x3', x4', _⟩ := h2 sb hn
      rw [e1] at e1'
      injection e1' with q1 _ _
      have q2 := x3 h0
      have q3 := x3' h0
      rw [q2, q3] at q1
      injection q1 with q1
      injection q1 with q1 _ _
      exact x4' q1.symm
    exact ⟨ad, cap, sb, so, e1, x2, x3, x4, fun j hj => by rw [hb.cell (p := ⟨sb, so + j, none⟩) (show sb < B by omega)]; exact x5 j hj, x6⟩
  · exact ⟨ad, cap, sb, so, e1, x2, x3, x4, fun j hj => by omega, x6⟩
def RLPost (w : World) (b : Nat) (o : Option (List (List Int) × List Int × Int)) (e : Ending) (w' : World) : Prop :=
  ∃ (v : Value) (ok : Bool), e = .returned (.tuple #[v, .bool ok]) ∧ Only b w w' ∧ (∀ ls l' e', o = some (ls, l', e') → ok = true ∧ RSt w' b l' e' ∧ Byt l' ∧ ∀ bh, (bh < w.heap.size ∨ w'.heap.size ≤ bh) → LR w' v ls bh) ∧ (o = none → ok = false ∧ v = .slice none 0 0)
def InvRl (w : World) (b sz count : Nat) (l0 : List Int) (e0 : Int) (v i : Value) (wr : World) : Prop :=
  ∃ (k : Nat) (ps : List (Value × List Int)) (lk : List Int) (ek : Int), k ≤ count ∧ i = .int .i64 k ∧ ps.length = k ∧ OwnL wr w.heap.size v ps (Old w) ∧ Only b w wr ∧ RSt wr b lk ek ∧ Byt lk ∧ rList sz count l0 e0 = (rList sz (count - k) lk ek).map (fun p => (ps.map (·.2) ++ p.1, p.2))

set_option maxHeartbeats 2000000 in
set_option maxRecDepth 100000 in
theorem readList_any (b : Nat) (l : List Int) (er : Int) (count sz : Nat) (w : World) (h : RSt w b l er) (hb : Byt l) (hc : count ≤ 1000000) (hsz : sz ≤ 1000000) :
    Calls Tryd.prog 79 #[.pointer (some ⟨b, 0, none⟩), .int .i64 (count : Int), .int .i64 (sz : Int)] w (RLPost w b (rList sz count l er)) := by
  have hlt0 := h.lt
  have I0 : InvRl w b sz count l er (.slice none 0 0) (.int .i64 0) w := ⟨0, [], l, er, by omega, rfl, rfl, OwnG.nil _ _ _ _ _, Only.refl b w, h, hb, by simp⟩
  have HI := Lib.hid I0
  clear h hb I0
  go_enter Tryd.func79, Tryd.ntmps79
  go_wp2
  go_loopw [8, 11] (fun v i wr => InvRl w b sz count l er v i wr) (fun _ i _ => count - (intOf i).toNat)
  case atStart => exact HI.out
  case round =>
    clear HI
    obtain ⟨k, ps, lk, ek, hk, rfl, hpl, ow, ho, hr, hbk, heq⟩ := hrel
    obtain ⟨adl, capl, el⟩ := ow.len
    subst el
    rw [hpl] at ow ⊢
    by_cases hlt : k < count
    · have i0 : (k : Int) < (count : Int) := by omega
      have ek1 : count - k = (count - (k + 1)) + 1 := by omega
      rw [ek1, rList] at heq
      have Hr := Lib.hid hr
      have Hb := Lib.hid hbk
      have Hbx := Lib.hid (rCnt_byt lk ek sz hbk).2
      have Heq := Lib.hid heq
      clear hr hbk heq ek1
      go_wp2_with fail
      refine (rbytes_any b lk ek sz wr Hr.out Hb.out (by omega)).mono ?_
      rintro e w2 ⟨v2, rfl, o2, r2, s2⟩
      obtain ⟨x, hx⟩ : ∃ x, x = rCnt lk ek sz := ⟨_, rfl⟩
      rw [← hx] at r2 s2 Heq Hbx
      obtain ⟨x1, x2, x3⟩ := x
      simp only at r2 s2 Heq Hbx
      have ow2 := ownG_only src_kept ow o2 hlt0 hlt0
      have ho2 := ho.trans o2
      have hsx : ∀ bh, (Old w bh ∨ (Value.slice adl k capl).ownBlock = some bh ∨ w2.heap.size ≤ bh) → Src w2 v2 x1 bh := fun bh hbh => by
        rcases hbh with hbh | hbh | hbh
        · exact s2 bh (Or.inl (Nat.lt_of_lt_of_le hbh ho.size))
        · exact s2 bh (Or.inl (ow.block bh hbh).2)
        · exact s2 bh (Or.inr hbh)
      obtain ⟨ad2, cap2, ev2⟩ := (s2 _ (Or.inr (Nat.le_refl _))).len
      subst ev2
      have R2 := Lib.hid r2
      clear hx s2 r2 Hr Hb ow o2
      obtain ⟨m, hm⟩ : ∃ m, m = x1.length := ⟨_, rfl⟩
      rw [← hm] at hsx ⊢
      by_cases hms : m = sz
      · have t1 : ((m : Int) == (sz : Int)) = true := by rw [hms]; simp
        have t2 : ((m : Int) != (sz : Int)) = false := by rw [hms]; simp
        rw [if_pos (by omega)] at Heq
        have Hm := Lib.hid (And.intro hm hms)
        clear hms hm
        have hsy := src_one_more (x := .slice ad2 m cap2) (t := 22) hsx
        have hz := ho2.size
        clear hsx
        go_wp2_with (refine list_append_g src_kept rfl (.tmp 20) (.tmp 22) 24 rfl (.slice none 0 0) 24 Tryd.underlying24 u22zero rfl (by omega) w.heap.size _ ps (Old w) rfl (own_one src_kept ow2 _ 22) w2.heap.size 1 _ x1 rfl (cell_one w2 _ 22) rfl hsy (by omega) (by rw [size_alloc]; omega) ?_; intro v3 w3 o3 b3)
        have o4 := only_below (ho2.trans (Only.of_below (Ext.alloc w2 (.cells #[.slice ad2 m cap2] 22)))) b3
        have r4 := rst_grow (R2.out.below (Ext.alloc w2 (.cells #[.slice ad2 m cap2] 22))) b3 hlt0
        refine ⟨⟨k + 1, _, x2, x3, by omega, by go_num, by simp [hpl], o3, o4, r4, Hbx.out, ?_⟩, by simp [intOf]; omega⟩
        rw [Heq.out, Option.map_map]
        congr 1
        funext p
        simp
      · have t1 : ((m : Int) == (sz : Int)) = false := by simp; omega
        have t2 : ((m : Int) != (sz : Int)) = true := by simp; omega
        rw [if_neg (by omega)] at Heq
        clear hms hm hsx
        go_wp2
        go_ret2
        exact ⟨_, _, rfl, ho2, fun ls l' e' h => by rw [Heq.out] at h; simp at h, fun _ => ⟨rfl, rfl⟩⟩
    · obtain rfl : count = k := by omega
      have i0 : ¬ ((count : Int) < (count : Int)) := by omega
      rw [Nat.sub_self, rList, Option.map_some, List.append_nil] at heq
      have Hx := Lib.hid (And.intro heq (And.intro hr hbk))
      have Hp := Lib.hid (fun bh hbh => ow.lr bh (hbh.imp_left fun h => ⟨h, h⟩) : ∀ bh, (bh < w.heap.size ∨ wr.heap.size ≤ bh) → LR wr _ (ps.map (·.2)) bh)
      clear heq hr hbk ow hlt
      go_wp2
      go_ret2
      refine ⟨_, _, rfl, ho, fun ls l' e' h => ?_, fun h => by rw [Hx.out.1] at h; simp at h⟩
      rw [Hx.out.1] at h
      injection h with h
      injection h with h1 h2
      injection h2 with h2 h3
      subst h1 h2 h3
      exact ⟨rfl, Hx.out.2.1, Hx.out.2.2, Hp.out⟩
end Go.Proofs.YtfhgoedonjcekaaDoor
