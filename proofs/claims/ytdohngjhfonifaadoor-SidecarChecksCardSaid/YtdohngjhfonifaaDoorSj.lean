/- The contracts of fitted (the code's) and Fit (the document's): bytes cut, or filled up with noughts. -/
import Derived.Test.YtdohngjhfonifaaDoorSc
import Derived.Test.YtdohngjhfonifaaDoorCz
namespace Go.Proofs.YtdohngjhfonifaaDoor
open Go.RowKit Go.Sha
set_option linter.unusedSimpArgs false

/-- Cut, or filled up. -/
def fitL (m : List Int) (n : Nat) : List Int := m.take n ++ List.replicate (n - m.length) 0
theorem fitL_length (m : List Int) (n : Nat) : (fitL m n).length = n := by simp [fitL]; omega
/-- copy of bytes that may be none into a block of one's own. -/
theorem list_copy_src {P : Program} {w : World} {ops : Array Oper} {rest : List Oper} {o : Oper} {a : Act} {Q : Exit → Act → World → Prop} (hgd : o.guard = none) (d s : Operand) (dT sT : TypeId)
    (ho : o.op = .call { callee := .builtin .copy, args := #[d, s], argTypes := #[dT, sT] }) (elem : TypeId) (hu : P.underlying dT = some (.slice elem)) (hsz : (P.info? elem).map (·.size) = some 1)
    (g dLen dCap : Nat) (hd : a.eval d = .slice (some ⟨g, 0, none⟩) dLen dCap) (v : Value) (hs : a.eval s = v) (m : List Int) (bh : Nat) (hS : Src w v m bh) (ht : w.there g 0 (Nat.min m.length dLen)) (cs : List Value) (hcs : cs = (m.take dLen).map (Value.int .u8))
    (h : wpList P ops Q rest (a.put o.dst (.int .i64 (Nat.min m.length dLen : Nat))) (w.setCells g 0 cs)) : wpList P ops Q (o :: rest) a w := by
  subst hcs
  obtain ⟨ad, cap, sb, so, rfl, h2, h3, h4, h5, h6⟩ := hS
  by_cases h0 : 0 < m.length
  · obtain rfl := h3 h0
    refine list_copy hgd d s dT sT ho elem hu hsz g 0 dLen dCap ⟨sb, so, none⟩ m.length cap hd hs _ (Nat.min m.length dLen) (by simp [Nat.min_comm]) rfl (fun j v hv => ?_) ht (fun v hv => by obtain ⟨x, _, rfl⟩ := List.mem_map.1 hv; rfl) h
    have hj : j < (m.take dLen).length := by simpa using (List.getElem?_eq_some_iff.1 hv).1
    rw [List.length_take] at hj
    rw [Addr.add_mid, h5 j (by omega), ← hv, List.getElem?_map, List.getElem?_take_of_lt (by omega), List.getElem?_eq_getElem (by omega)]
    rfl
  · have hm : m = [] := List.length_eq_zero_iff.1 (by omega)
    subst hm
    have hz : Nat.min ([] : List Int).length dLen = 0 := by simp
    rw [hz] at h
    simp only [List.take_nil, List.map_nil, World.setCells] at h
    refine wpList_plain hgd fun K hK => ?_
    have hrun := run_copy_none (P := P) w dT sT o.type elem (some ⟨g, 0, none⟩) ad dLen dCap 0 cap hu hsz (by simp)
    unfold Oper.wp
    simp [execOp, ho, resolve, invoke, builtin, hd, hs, hrun, Result.andThen]
    exact hK _ _ h
theorem fit_put {w : World} {g n : Nat} {m : List Int} (h : At w g (bs (List.replicate n 0)) 5) : At (w.setCells g 0 ((m.take n).map (Value.int .u8))) g (bs (fitL m n)) 5 := by
  have e : List.replicate n (0 : Int) = List.replicate (0 + (m.take n).length) 0 ++ List.replicate (n - m.length) 0 := by
    rw [List.replicate_append_replicate]; congr 1; simp; omega
  rw [e] at h
  have := At.put_new h
  simpa [fitL] using this

set_option maxHeartbeats 1000000 in
theorem fitted_any (v : Value) (m : List Int) (n : Nat) (w : World) (hs : Src w v m w.heap.size) (hn : n ≤ 1000000) : Calls Tryd.prog 59 #[v, .int .i64 (n : Int)] w (BPost w (fitL m n)) := by
  have mk := make_bytes n (by omega)
  have e1 : Ext w (w.alloc (.cells (bs (List.replicate n 0)) 5)) := Ext.alloc w _
  have a1 := At.new w (bs (List.replicate n 0)) 5
  have s1 := hs.now e1
  have t1 : (w.alloc (.cells (bs (List.replicate n 0)) 5)).there w.heap.size 0 (Nat.min m.length n) := a1.there_bs 0 _ (by rw [List.length_replicate, Nat.zero_add]; exact Nat.min_le_right _ _)
  have a2 := fit_put (m := m) a1
  have e2 : Ext w ((w.alloc (.cells (bs (List.replicate n 0)) 5)).setCells w.heap.size 0 ((m.take n).map (Value.int .u8))) := ext_cells e1 (Nat.le_refl _) _ _
  obtain ⟨T, hT⟩ : ∃ T, T = (m.take n).map (Value.int .u8) := ⟨_, rfl⟩
  rw [← hT] at a2 e2
  have HT := Lib.hid hT
  have Hf := Lib.hid (And.intro e2 a2)
  obtain ⟨ad, cap, ev⟩ := hs.len
  subst ev
  obtain ⟨N, hN⟩ : ∃ N, N = m.length := ⟨_, rfl⟩
  rw [← hN] at s1 ⊢
  have HN := Lib.hid hN
  clear e1 a1 a2 e2 hs hN hT
  go_enter Tryd.func59, Tryd.ntmps59
  go_wp2_with (refine list_copy_src rfl (.tmp 8) (.tmp 9) 22 22 rfl 5 Tryd.underlying22 sz5 w.heap.size n n rfl _ rfl m _ s1 t1 T HT.out ?_)
  go_ret
  exact ⟨_, rfl, Hf.out.1, own_of_at (Nat.le_refl _) Hf.out.2 (fitL_length m n) hn⟩

def InvFit (w : World) (m : List Int) (n : Nat) (v : Value) (wr : World) : Prop := ∃ j, (m.take n).length + j ≤ n ∧ OwnB wr w.heap.size v (m.take n ++ List.replicate j 0) ∧ Ext w wr
set_option maxHeartbeats 1000000 in
theorem rfit_any (v : Value) (m : List Int) (n : Nat) (w : World) (hs : Src w v m w.heap.size) (hn : n ≤ 1000000) : Calls Tryd.prog 21 #[v, .int .i64 (n : Int)] w (BPost w (fitL m n)) := by
  obtain ⟨ad, cap, ev⟩ := hs.len
  subst ev
  have hcap : m.length ≤ cap := by obtain ⟨_, _, _, _, e, h2, _⟩ := hs; injection e with _ _ e; subst e; exact h2
  have e1 : Ext w (w.alloc (.cells #[] 5)) := Ext.alloc w _
  have hown := OwnB.made w
  obtain ⟨c0, hc0⟩ : ∃ x, x = m.length := ⟨_, rfl⟩
  have fin : ∀ (vx : Value) (wr : World) (j : Nat), (m.take n).length + j = n → OwnB wr w.heap.size vx (m.take n ++ List.replicate j 0) → Ext w wr → BPost w (fitL m n) (.returned vx) wr := fun vx wr j hj ho he => by
    refine ⟨vx, rfl, he, ?_⟩
    have : fitL m n = m.take n ++ List.replicate j 0 := by
      unfold fitL
      congr 2
      rw [List.length_take] at hj
      omega
    rw [this]; exact ho
  have Fin := Lib.hid fin; clear fin
  have key : ∀ (q : Nat), q = min m.length n → Src w (.slice ad q cap) (m.take n) w.heap.size := fun q hq => by
    have := src_front (n := q) hs (by omega)
    have e : m.take q = m.take n := by
      rw [hq]
      rcases Nat.le_total m.length n with h | h
      · rw [Nat.min_eq_left h, List.take_of_length_le (Nat.le_refl _), List.take_of_length_le h]
      · rw [Nat.min_eq_right h]
    rwa [e] at this
  by_cases hle : m.length ≤ n
  · have s1 := (key c0 (by omega)).now e1
    rw [← hc0] at hle hcap ⊢
    have i0 : (c0 : Int) ≤ (n : Int) := by omega
    have i1 : ¬ ((n : Int) < (c0 : Int)) := by omega
    have d0 : decide ((n : Int) < (c0 : Int)) = false := by simp; omega
    have hmin : min (c0 : Int) (n : Int) = (c0 : Int) := by omega
    have HC := Lib.hid hc0
    clear key hs hc0
    go_enter Tryd.func21, Tryd.ntmps21
    go_wp2_with (refine list_append_bytes rfl (.tmp 6) (.tmp 12) 22 rfl Tryd.underlying22 u8zero w.heap.size (.slice (some ⟨w.heap.size, 0, none⟩) 0 0) [] rfl hown _ (m.take n) _ rfl s1 (by rw [List.length_take, List.length_nil]; omega) e1.size ?_; intro vx w4 ox gx)
    have b4 := hown.grown gx e1.size
    have e4 : Ext w w4 := Below.trans e1 b4
    rw [List.nil_append] at ox
    clear s1 hown gx b4 e1 i0 i1 d0 hmin hcap
    go_wp2
    go_loopw [5] (fun l wr => InvFit w m n l wr) (fun l _ => n - sliceLen l)
    case atStart => exact ⟨0, by rw [List.length_take]; omega, by rw [List.replicate_zero, List.append_nil]; exact ox, e4⟩
    case round =>
      clear ox e4
      obtain ⟨j, hj, oj, ex⟩ := hrel
      obtain ⟨adj, capj, el⟩ := oj.len
      subst el
      obtain ⟨c, hc⟩ : ∃ c, c = (m.take n ++ List.replicate j (0 : Int)).length := ⟨_, rfl⟩
      have hcj : c = (m.take n).length + j := by rw [hc]; simp
      rw [← hc] at oj ⊢
      have hzj := ex.size
      by_cases hlt : c < n
      · have i0 : (c : Int) < (n : Int) := by omega
        have d0 : decide ((c : Int) < (n : Int)) = true := by simp; omega
        have d1 : decide (c < n) = true := by simp; omega
        have Hc := Lib.hid (And.intro hc (And.intro hcj hj)); clear hc hcj hj
        go_wp2_with (refine list_append_bytes rfl (.tmp 18) (.tmp 19) 22 rfl Tryd.underlying22 u8zero w.heap.size (.slice adj c capj) (m.take n ++ List.replicate j 0) rfl (oj.ext (Ext.alloc wr (.cells #[.int .u8 0] 5))) _ [0] (wr.heap.size + 1) rfl (src_one wr 0 (wr.heap.size + 1) (by omega)) (by rw [← Hc.out.1, List.length_singleton]; omega) (by rw [size_alloc]; omega) ?_; intro vy w6 oy gy)
        have e6 : (m.take n ++ List.replicate j (0 : Int)) ++ [0] = m.take n ++ List.replicate (j + 1) 0 := by rw [List.replicate_succ']; simp
        rw [e6] at oy
        have b6 : Ext w w6 := Below.trans (ex.trans (Ext.alloc wr _)) ((oj.ext (Ext.alloc wr (.cells #[.int .u8 0] 5))).grown gy (by rw [size_alloc]; omega))
        obtain ⟨k1, k2, k3⟩ := Hc.out
        refine ⟨⟨j + 1, by omega, oy, b6⟩, ?_⟩
        obtain ⟨ay, cy, rfl⟩ := oy.len
        show _ - sliceLen (.slice ay _ cy) < _ - sliceLen (.slice adj c capj)
        simp only [sliceLen, List.length_append, List.length_replicate]
        omega
      · have i0 : ¬ ((c : Int) < (n : Int)) := by omega
        have d0 : decide ((c : Int) < (n : Int)) = false := by simp; omega
        have d1 : decide (c < n) = false := by simp; omega
        have hjn : (m.take n).length + j = n := by omega
        have HF := Lib.hid (Fin.out _ wr j hjn oj ex)
        clear hc hcj hj hjn oj ex hlt
        go_wp2
        go_ret
        exact HF.out
  · have s1 := (key n (by omega)).now e1
    rw [← hc0] at hle hcap ⊢
    have i0 : (n : Int) < (c0 : Int) := by omega
    have i1 : ¬ ((c0 : Int) ≤ (n : Int)) := by omega
    have i2 : (n : Int) ≤ (cap : Int) := by omega
    have d0 : decide ((n : Int) < (c0 : Int)) = true := by simp; omega
    have hmin : min (c0 : Int) (n : Int) = (n : Int) := by omega
    have HC := Lib.hid hc0
    clear key hs hc0 hle
    go_enter Tryd.func21, Tryd.ntmps21
    go_wp2_with (refine list_append_bytes rfl (.tmp 6) (.tmp 12) 22 rfl Tryd.underlying22 u8zero w.heap.size (.slice (some ⟨w.heap.size, 0, none⟩) 0 0) [] rfl hown _ (m.take n) _ rfl s1 (by rw [List.length_take, List.length_nil]; omega) e1.size ?_; intro vx w4 ox gx)
    have b4 := hown.grown gx e1.size
    have e4 : Ext w w4 := Below.trans e1 b4
    rw [List.nil_append] at ox
    clear s1 hown gx b4 e1 i0 i1 i2 d0 hmin hcap
    go_wp2
    go_loopw [5] (fun l wr => InvFit w m n l wr) (fun l _ => n - sliceLen l)
    case atStart => exact ⟨0, by rw [List.length_take]; omega, by rw [List.replicate_zero, List.append_nil]; exact ox, e4⟩
    case round =>
      clear ox e4
      obtain ⟨j, hj, oj, ex⟩ := hrel
      obtain ⟨adj, capj, el⟩ := oj.len
      subst el
      obtain ⟨c, hc⟩ : ∃ c, c = (m.take n ++ List.replicate j (0 : Int)).length := ⟨_, rfl⟩
      have hcj : c = (m.take n).length + j := by rw [hc]; simp
      rw [← hc] at oj ⊢
      have hzj := ex.size
      by_cases hlt : c < n
      · have i0 : (c : Int) < (n : Int) := by omega
        have d0 : decide ((c : Int) < (n : Int)) = true := by simp; omega
        have d1 : decide (c < n) = true := by simp; omega
        have Hc := Lib.hid (And.intro hc (And.intro hcj hj)); clear hc hcj hj
        go_wp2_with (refine list_append_bytes rfl (.tmp 18) (.tmp 19) 22 rfl Tryd.underlying22 u8zero w.heap.size (.slice adj c capj) (m.take n ++ List.replicate j 0) rfl (oj.ext (Ext.alloc wr (.cells #[.int .u8 0] 5))) _ [0] (wr.heap.size + 1) rfl (src_one wr 0 (wr.heap.size + 1) (by omega)) (by rw [← Hc.out.1, List.length_singleton]; omega) (by rw [size_alloc]; omega) ?_; intro vy w6 oy gy)
        have e6 : (m.take n ++ List.replicate j (0 : Int)) ++ [0] = m.take n ++ List.replicate (j + 1) 0 := by rw [List.replicate_succ']; simp
        rw [e6] at oy
        have b6 : Ext w w6 := Below.trans (ex.trans (Ext.alloc wr _)) ((oj.ext (Ext.alloc wr (.cells #[.int .u8 0] 5))).grown gy (by rw [size_alloc]; omega))
        obtain ⟨k1, k2, k3⟩ := Hc.out
        refine ⟨⟨j + 1, by omega, oy, b6⟩, ?_⟩
        obtain ⟨ay, cy, rfl⟩ := oy.len
        show _ - sliceLen (.slice ay _ cy) < _ - sliceLen (.slice adj c capj)
        simp only [sliceLen, List.length_append, List.length_replicate]
        omega
      · have i0 : ¬ ((c : Int) < (n : Int)) := by omega
        have d0 : decide ((c : Int) < (n : Int)) = false := by simp; omega
        have d1 : decide (c < n) = false := by simp; omega
        have hjn : (m.take n).length + j = n := by omega
        have HF := Lib.hid (Fin.out _ wr j hjn oj ex)
        clear hc hcj hj hjn oj ex hlt
        go_wp2
        go_ret
        exact HF.out
end Go.Proofs.YtdohngjhfonifaaDoor
