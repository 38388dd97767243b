/- Contracts of sort.Search with place's own question, place, find. -/
import Derived.Test.YtbneedmfpldpfaaDoorTa
import Derived.Deep.CutRange
namespace Go.Proofs.YtbneedmfpldpfaaDoor
open Go.RowKit Go.Pth

section
variable {P : Program} {ops : Array Oper} {Q : Exit → Act → World → Prop} {md : Region.Mode} {S : World → Prop}
/-- In a region that draws: an operation that yields the same in all worlds of S is taken first. -/
theorem takeS (i : Nat) (d : Option Tmp) (v : Value) {oi : Oper} {fuel : Nat} {listed : Array Bool} {a : Act} {w : World} (hi : ops[i]? = some oi) (hd : oi.dst = d)
    (hs : Region.noSelect ops = true) (hf : Region.free md ops listed i = true) (hr : (Region.ready md ops listed).contains i = true)
    (hQ : ∀ c a w, Q (.panic c) (a.put d v) w → Q (.panic c) a w) (hw : Region.wanted oi (yielded ops a.tmps) = true) (hS : S w) (hy : ∀ w', S w' → (execOp a.eval oi).run P w' = .ok (.value v) w')
    (h : wpAnyH P md ops Q S fuel (listed.setIfInBounds i true) (a.put d v) w) : wpAnyH P md ops Q S (fuel + 1) listed a w := by
  subst hd
  exact wpAnyH_take hi hs hf hr hQ (Or.inl ⟨hw, hy⟩) hS h
/-- Just one may come up. -/
theorem nextS (i : Nat) {oi : Oper} {fuel : Nat} {listed : Array Bool} {a : Act} {w : World} (hi : ops[i]? = some oi)
    (hr : Region.ready md ops listed = [i]) (hw : Region.wanted oi (yielded ops a.tmps) = true)
    (h : oi.wp P a w (fun a' w' => S w' ∧ wpAnyH P md ops Q S fuel (listed.setIfInBounds i true) a' w') Q) : wpAnyH P md ops Q S (fuel + 1) listed a w := by
  refine wpAnyH_all hr (by simp) fun j hj => ?_
  have hj : j = i := by simpa using hj
  subst hj
  refine wpOp_step hi fun K hK => ?_
  rw [if_pos hw]
  exact Oper.wp_mono (fun a' w' h' => hK a' w' h') h
end
/-- A call, whatever it makes. -/
theorem callS {P : Program} {op : Oper} {a : Act} {w : World} {K : Act → World → Prop} {Q : Exit → Act → World → Prop} (d : Option Tmp) (hd : op.dst = d) (f : FuncId) (args : Array Value)
    (hx : (execOp a.eval op).run P w = .ok (.enter f args) w) (R : Value → World → Prop) (hc : Calls P f args w fun e w' => ∃ v, e = .returned v ∧ R v w')
    (h : ∀ v w', R v w' → K (a.put d v) w') : op.wp P a w K Q := by
  subst hd
  unfold Oper.wp
  rw [hx]
  exact hc.mono fun e w' he => by obtain ⟨v, rfl, hr⟩ := he; exact h v w' hr

theorem less_acc (a b : ByteArray) {w0 w : World} (h : Ext w0 w) : Calls Tryd.prog 69 #[.string a, .string b] w fun e w' => e = .returned (.bool (less a.toList b.toList)) ∧ Ext w0 w' :=
  (less_any a b w).mono fun _ _ ⟨x, y⟩ => ⟨x, h.trans y⟩

set_option maxRecDepth 100000 in
set_option maxHeartbeats 4000000 in
/-- place's question: does the name at i not come first? -/
theorem asks_any (l : List Nm) (ad : Option Addr) (cap b o bt bx : Nat) (at_ : ByteArray) (v : Value) (w : World) (ht : TrR w v l ad cap b o) (hbt : w.cell? ⟨bt, 0, none⟩ = some v) (hbx : w.cell? ⟨bx, 0, none⟩ = some (.string at_)) (i : Nat) (hi : i < l.length) (hlen : l.length ≤ 1000000) :
    Calls Tryd.prog 68 #[.int .i64 i, ptr bt, ptr bx] w fun e w' => e = .returned (.bool (!less l[i].1 at_.toList)) ∧ Ext w w' := by
  obtain ⟨rfl, hadr, hnm, hnd⟩ := ht
  have had := hadr (by omega)
  subst had
  have c1 := hnm i hi
  clear hnm hnd hadr
  have HL := Lib.hid (less_any (tx l[i].1) at_)
  rw [tx_list] at HL
  obtain ⟨L, hL⟩ : ∃ L, L = l.length := ⟨_, rfl⟩
  obtain ⟨p, hp⟩ : ∃ p, p = l[i].1 := ⟨_, rfl⟩
  rw [← hp] at c1 HL ⊢
  rw [← hL] at hbt hi hlen
  clear hp hL
  have i0 : (0 : Int) ≤ (i : Int) := by omega
  have i1 : (i : Int) < (L : Int) := by omega
  unfold ptr
  go_enter Tryd.func68, Tryd.ntmps68
  go_upto_region 1 with fail
  refine wp_region_held (S := fun w' => Ext w w') (by kernel_rfl) ?_
  change wpAnyH _ _ _ _ _ _ _ _ (World.drew _)
  have hS : Ext w w.drew := Ext.drew w
  refine takeS 0 (some 5) (.slice (some ⟨b, o, none⟩) L cap) rfl rfl (by kernel_rfl) (by kernel_rfl) (by kernel_rfl) (fun _ _ _ h => h) rfl hS (fun w' hw' => by have := hw'.cell hbt; go_simp) ?_
  simp only [Act.put, List.setIfInBounds_toArray, List.set_cons_zero, List.set_cons_succ]
  refine takeS 1 (some 6) (.int .i64 i) rfl rfl (by kernel_rfl) (by kernel_rfl) (by kernel_rfl) (fun _ _ _ h => h) rfl hS (fun w' hw' => by go_simp) ?_
  simp only [Act.put, List.setIfInBounds_toArray, List.set_cons_zero, List.set_cons_succ]
  refine takeS 2 (some 7) (.pointer (some ⟨b, o + i * 2, none⟩)) rfl rfl (by kernel_rfl) (by kernel_rfl) (by kernel_rfl) (fun _ _ _ h => h) rfl hS (fun w' hw' => by go_simp) ?_
  simp only [Act.put, List.setIfInBounds_toArray, List.set_cons_zero, List.set_cons_succ]
  refine takeS 3 (some 8) (.pointer (some ⟨b, o + i * 2, none⟩)) rfl rfl (by kernel_rfl) (by kernel_rfl) (by kernel_rfl) (fun _ _ _ h => h) rfl hS (fun w' hw' => by go_simp) ?_
  simp only [Act.put, List.setIfInBounds_toArray, List.set_cons_zero, List.set_cons_succ]
  refine takeS 4 (some 9) (.string (tx p)) rfl rfl (by kernel_rfl) (by kernel_rfl) (by kernel_rfl) (fun _ _ _ h => h) rfl hS (fun w' hw' => by have := hw'.cell c1; go_simp) ?_
  simp only [Act.put, List.setIfInBounds_toArray, List.set_cons_zero, List.set_cons_succ]
  refine takeS 5 (some 10) (.string at_) rfl rfl (by kernel_rfl) (by kernel_rfl) (by kernel_rfl) (fun _ _ _ h => h) rfl hS (fun w' hw' => by have := hw'.cell hbx; go_simp) ?_
  simp only [Act.put, List.setIfInBounds_toArray, List.set_cons_zero, List.set_cons_succ]
  refine nextS 6 rfl (by kernel_rfl) rfl ?_
  refine callS (some 11) rfl 69 #[.string (tx p), .string at_] (by go_simp) (fun v w' => v = .bool (less p at_.toList) ∧ Ext w w') ((HL.out _).mono fun e w' he => ⟨_, he.1, rfl, hS.trans he.2⟩) ?_
  rintro v3 w3 ⟨rfl, hS3⟩
  refine ⟨hS3, ?_⟩
  simp only [Act.put, List.setIfInBounds_toArray, List.set_cons_zero, List.set_cons_succ]
  refine takeS 7 (some 12) (.bool (!less p at_.toList)) rfl rfl (by kernel_rfl) (by kernel_rfl) (by kernel_rfl) (fun _ _ _ h => h) rfl hS3 (fun w' hw' => by go_simp) ?_
  simp only [Act.put, List.setIfInBounds_toArray, List.set_cons_zero, List.set_cons_succ]
  refine takeS 8 (some 4) (.bool (!less p at_.toList)) rfl rfl (by kernel_rfl) (by kernel_rfl) (by kernel_rfl) (fun _ _ _ h => h) rfl hS3 (fun w' hw' => by go_simp) ?_
  simp only [Act.put, List.setIfInBounds_toArray, List.set_cons_zero, List.set_cons_succ]
  refine wpAnyH_done (by kernel_rfl) ?_ _
  go_wp2
  go_ret
  exact ⟨rfl, hS3⟩

def InvS (w : World) (n : Nat) (p : Nat → Bool) (kx : Nat) (s5 s6 : Value) (wr : World) : Prop :=
  ∃ lo hi : Nat, s5 = .int .i64 lo ∧ s6 = .int .i64 hi ∧ lo ≤ hi ∧ hi ≤ n ∧ hi - lo ≤ kx ∧ Ext w wr ∧ (∀ t, t < lo → p t = false) ∧ (∀ t, hi ≤ t → t < n → p t = true)
set_option maxHeartbeats 4000000 in
theorem search_any (cb : Array Value) (n : Nat) (p : Nat → Bool) (w : World) (hn : n ≤ 1000000)
    (hf : ∀ w', Ext w w' → ∀ i, i < n → Calls Tryd.prog 68 (#[.int .i64 i] ++ cb) w' fun e w'' => e = .returned (.bool (p i)) ∧ Ext w' w'') (hmono : ∀ a b, a ≤ b → b < n → p a = true → p b = true) :
    Calls Tryd.prog 67 #[.int .i64 n, .func (.func 68) #[] cb] w fun e w' => ∃ k : Nat, e = .returned (.int .i64 k) ∧ k ≤ n ∧ (∀ j, j < k → p j = false) ∧ (∀ j, k ≤ j → j < n → p j = true) ∧ Ext w w' := by
  have HF := Lib.hid hf
  have M := Lib.hid hmono
  have E0 := Lib.hid (Ext.refl w)
  clear hf hmono
  have eg : ∀ args w, (callFunc 68 args).run Tryd.prog w = .ok (.enter 68 args) w := enters_of Tryd.func68 (by kernel_rfl) rfl
  go_enter Tryd.func67, Tryd.ntmps67
  go_wp2
  go_loopg [5, 6] n (fun kx s5 s6 wr => InvS w n p kx s5 s6 wr)
  case atStart => exact ⟨0, n, rfl, rfl, Nat.zero_le _, Nat.le_refl _, by omega, E0.out, fun t ht => absurd ht (Nat.not_lt_zero _), fun t h1 h2 => by omega⟩
  case round =>
    obtain ⟨lo, hi, rfl, rfl, hlh, hin, hg, he, I1, I2⟩ := hrel
    have HE := Lib.hid he
    have J1 := Lib.hid I1
    have J2 := Lib.hid I2
    clear he I1 I2
    by_cases hlt : lo < hi
    · have hc := HF.out _ HE.out ((lo + hi) / 2) (by omega)
      rw [show (((lo + hi) / 2 : Nat) : Int) = ((lo : Int) + (hi : Int)) / 2 by omega] at hc
      have hmid : (lo + hi) / 2 < hi := by omega
      have hmid2 : lo ≤ (lo + hi) / 2 := by omega
      cases hp : p ((lo + hi) / 2) <;> rw [hp] at hc
      · have HP := Lib.hid hp
        clear hp
        go_wp2_with (go_at_fn 68; refine hc.mono ?_; rintro e w' ⟨rfl, hE⟩)
        have E2 := Lib.hid (HE.out.trans hE)
        go_roundg (hi - ((lo + hi) / 2 + 1))
        case measure => omega
        case rel =>
          refine ⟨(lo + hi) / 2 + 1, hi, by rw [show ((lo : Int) + (hi : Int)) / 2 + 1 = (((lo + hi) / 2 + 1 : Nat) : Int) by omega], rfl, by omega, hin, Nat.le_refl _, E2.out, fun t ht => ?_, J2.out⟩
          cases h : p t with
          | false => rfl
          | true => have := M.out t ((lo + hi) / 2) (by omega) (by omega) h; rw [HP.out] at this; cases this
      · have HP := Lib.hid hp
        clear hp
        go_wp2_with (go_at_fn 68; refine hc.mono ?_; rintro e w' ⟨rfl, hE⟩)
        have E2 := Lib.hid (HE.out.trans hE)
        go_roundg ((lo + hi) / 2 - lo)
        case measure => omega
        case rel =>
          exact ⟨lo, (lo + hi) / 2, rfl, by rw [show ((lo : Int) + (hi : Int)) / 2 = (((lo + hi) / 2 : Nat) : Int) by omega], by omega, by omega, Nat.le_refl _, E2.out, J1.out, fun t ht htn => M.out ((lo + hi) / 2) t ht htn HP.out⟩
    · obtain rfl : hi = lo := by omega
      clear hlt
      go_wp2
      go_ret
      exact ⟨hi, rfl, hin, J1.out, J2.out, HE.out⟩

set_option maxHeartbeats 4000000 in
theorem place_any (v : Value) (l : List Nm) (at_ : ByteArray) (w : World) (ht : Tr w v l) (hs : Srt l) (hlen : l.length ≤ 1000000) :
    Calls Tryd.prog 51 #[v, .string at_] w fun e w' => e = .returned (.int .i64 (place l at_.toList)) ∧ Ext w w' := by
  obtain ⟨ad, cap, b, o, ht⟩ := ht
  obtain ⟨W1, hW1⟩ : ∃ W1, W1 = w.alloc (.cells #[v] 60) := ⟨_, rfl⟩
  obtain ⟨W2, hW2⟩ : ∃ W2, W2 = W1.alloc (.cells #[.string at_] 9) := ⟨_, rfl⟩
  have e1 : Ext w W1 := by rw [hW1]; exact Ext.alloc _ _
  have e2 : Ext W1 W2 := by rw [hW2]; exact Ext.alloc _ _
  have s1 : W1.heap.size = w.heap.size + 1 := by rw [hW1]; exact size_alloc _ _
  have c1 : W2.cell? ⟨w.heap.size, 0, none⟩ = some v := e2.cell (by rw [hW1, (At.new w #[v] 60).cell]; rfl)
  have c2 : W2.cell? ⟨w.heap.size + 1, 0, none⟩ = some (.string at_) := by
    have := (At.new W1 #[.string at_] 9).cell 0
    rw [← hW2, s1] at this; rw [this]; rfl
  have hS := search_any #[ptr w.heap.size, ptr (w.heap.size + 1)] l.length (fun i => if h : i < l.length then !less l[i].1 at_.toList else false) W2 hlen
    (fun w' hw' i hi => by
      have := asks_any l ad cap b o w.heap.size (w.heap.size + 1) at_ v w' (ht.ext ((e1.trans e2).trans hw')) (hw'.cell c1) (hw'.cell c2) i hi hlen
      simpa [hi] using this)
    (fun a b' h1 h2 h3 => by
      have ha : a < l.length := by omega
      simp only [ha, h2, dif_pos, Bool.not_eq_true'] at h3 ⊢
      rcases Nat.eq_or_lt_of_le h1 with h | h
      · subst h; exact h3
      · have h4 : less l[a].1 l[b'].1 = true := (List.pairwise_iff_getElem.1 hs) _ _ ha h2 h
        cases hc : less l[b'].1 at_.toList with
        | false => rfl
        | true => rw [less_trans _ _ _ h4 hc] at h3; cases h3)
  have fin : ∀ k : Nat, k ≤ l.length → (∀ j, j < k → (if h : j < l.length then !less l[j].1 at_.toList else false) = false) → (∀ j, k ≤ j → j < l.length → (if h : j < l.length then !less l[j].1 at_.toList else false) = true) → k = place l at_.toList := by
    intro k hk h1 h2
    refine (place_uniq l _ k hk (fun j hj hjk => ?_) fun hj => ?_).symm
    · have := h1 j hjk; simpa [hj] using this
    · have := h2 k (Nat.le_refl _) hj; simpa [hj] using this
  have hS2 : Calls Tryd.prog 67 #[.int .i64 l.length, .func (.func 68) #[] #[ptr w.heap.size, ptr (w.heap.size + 1)]] W2 fun e w' => e = .returned (.int .i64 (place l at_.toList)) ∧ Ext W2 w' :=
    hS.mono fun e w' ⟨k, h0, h1, h2, h3, h4⟩ => ⟨by rw [h0, fin k h1 h2 h3], h4⟩
  have HS := Lib.hid hS2
  have EE := Lib.hid (e1.trans e2)
  have hv := ht.val
  have HC := Lib.hid c1
  clear hS hS2 fin e1 e2 c2 hs ht
  unfold ptr at HS
  subst hv
  generalize place l at_.toList = K at *
  generalize l.length = L at *
  rw [hW1] at hW2
  clear hW1 s1
  have C1 := HC.out
  go_enter Tryd.func51, Tryd.ntmps51
  go_wp2_with (go_at_call 67; rw [← hW2]; refine (HS.out).mono ?_; rintro e w' ⟨rfl, h4⟩)
  go_ret
  exact ⟨rfl, EE.out.trans h4⟩
end Go.Proofs.YtbneedmfpldpfaaDoor
