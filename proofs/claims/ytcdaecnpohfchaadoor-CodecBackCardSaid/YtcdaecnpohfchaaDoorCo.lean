/- The walk of CodecBack. -/
import Derived.Test.YtcdaecnpohfchaaDoorCm
namespace Go.Proofs.YtcdaecnpohfchaaDoor
open Go.RowKit Go.Sha

/-- One item's bytes. -/
def encOne (x : Itm) : List Int := if x.kind = 1 then lf x.n 4 else if x.kind = 2 then lf x.wd 8 else if x.kind = 3 then encB (nums x.s) else if x.kind = 4 then encB (nums x.s) else []
theorem encOne_byt (x : Itm) : Byt (encOne x) := by
  unfold encOne
  split
  · exact lf_byt _ _
  · split
    · exact lf_byt _ _
    · split
      · exact byt_app (lf_byt _ _) (nums_byt _)
      · split
        · exact byt_app (lf_byt _ _) (nums_byt _)
        · intro y hy; simp at hy
theorem flat_byt (l : List Itm) : Byt (l.flatMap encOne) := by
  intro y hy
  obtain ⟨x, _, h⟩ := List.mem_flatMap.1 hy
  exact encOne_byt x y h
def okI (x : Itm) : Prop := x.kind = 1 → 0 ≤ x.n ∧ x.n ≤ 2147483647
theorem encI_one (c : List Int) (x : Itm) (h : (encI (some c) x).isSome = true) : encI (some c) x = some (c ++ encOne x) ∧ okI x := by
  unfold encI at h ⊢
  unfold encOne okI
  split
  · rename_i k1
    rw [if_pos k1] at h
    unfold wNum at h ⊢
    split
    · rename_i hn; rw [if_pos hn] at h; cases h
    · exact ⟨rfl, fun _ => by omega⟩
  · rename_i k1
    refine ⟨?_, fun h => absurd h k1⟩
    split
    · rfl
    · split
      · rfl
      · split
        · rfl
        · simp
theorem fold_none (l : List Itm) : l.foldl encI none = none := by
  induction l with
  | nil => rfl
  | cons x r ih => rw [List.foldl_cons, encI_none]; exact ih
theorem fold_some (l : List Itm) : ∀ (a b : List Int), l.foldl encI (some a) = some b → b = a ++ l.flatMap encOne ∧ ∀ x ∈ l, okI x := by
  induction l with
  | nil => intro a b h; injection h with h; subst h; exact ⟨by simp, fun x hx => by simp at hx⟩
  | cons x r ih =>
    intro a b h
    rw [List.foldl_cons] at h
    cases hx : encI (some a) x with
    | none => rw [hx, fold_none] at h; cases h
    | some c =>
      obtain ⟨h1, h2⟩ := encI_one a x (by rw [hx]; rfl)
      rw [h1] at h
      obtain ⟨h3, h4⟩ := ih _ _ h
      refine ⟨by rw [h3, List.flatMap_cons, List.append_assoc], fun y hy => ?_⟩
      rcases List.mem_cons.1 hy with rfl | hy
      · exact h2
      · exact h4 y hy
theorem encAll_flat (l : List Itm) (b : List Int) (h : encAll l = some b) : b = l.flatMap encOne ∧ ∀ x ∈ l, okI x := by
  have := fold_some l [] b h
  simpa using this
theorem idrop (l : List Itm) (k : Nat) (h : k < l.length) (x : Itm) (hx : l[k]? = some x) : l.drop k = x :: l.drop (k + 1) := by
  rw [List.drop_eq_getElem_cons h]
  rw [List.getElem?_eq_getElem h] at hx
  injection hx with hx
  rw [hx]
def InvR (w : World) (l : List Itm) (g : Nat) (i : Value) (wr : World) : Prop := ∃ k : Nat, k ≤ l.length ∧ i = .int .i64 k ∧ RSt wr g ((l.drop k).flatMap encOne) 0 ∧ Ext w wr
theorem invR_step {w wr w1 w' : World} {l : List Itm} {g k L : Nat} {m : List Int} {e : Int} (hL : L = l.length) (hlt : k < L) (he : Ext w wr) (h1 : Ext wr w1) (ho : Only g w1 w') (hg : w.heap.size ≤ g) (hr : RSt w' g m e) (hm : m = (l.drop (k + 1)).flatMap encOne) (h0 : e = 0) :
    InvR w l g (.int .i64 ((k + 1 : Nat) : Int)) w' := by
  subst hm h0
  exact ⟨k + 1, by omega, rfl, hr, ext_only (he.trans h1) ho hg⟩

set_option maxHeartbeats 2000000 in
set_option maxRecDepth 100000 in
theorem back_any (v : Value) (l : List Itm) (w : World) (h : IAt w v l) (hl : l.length ≤ 9223372036854775807) : Calls Tryd.prog 5 #[v] w fun e w' => e = .returned (.bool true) ∧ Ext w w' := by
  have H := Lib.hid h; clear h
  obtain ⟨ad, cap, ev⟩ : ∃ ad cap, v = .slice ad l.length cap := by obtain ⟨ad, cap, _, _, h1, _⟩ := H.out; exact ⟨ad, cap, h1⟩
  subst ev
  obtain ⟨L, hL⟩ : ∃ L, L = l.length := ⟨_, rfl⟩
  rw [← hL] at H hl ⊢
  have HL := Lib.hid hL; clear hL
  go_enter Tryd.func5, Tryd.ntmps5
  go_wp2_with fail
  refine (small_any _ l w H.out (by rw [← HL.out]; exact hl)).mono ?_
  rintro e w1 ⟨⟨c, rfl, hc⟩, e1⟩
  cases c with
  | false =>
    clear hc
    go_wp2_with fail
    refine (awake_any w1).mono ?_
    rintro e w2 ⟨rfl, e2⟩
    go_wp2
    go_ret
    exact ⟨rfl, e1.trans e2⟩
  | true =>
    have hs := hc rfl
    have Hs := Lib.hid hs
    have Hl := Lib.hid (Nat.le_trans (isum_len l) hs)
    have H1 := Lib.hid (H.out.ext e1)
    clear hc hs
    go_wp2_with fail
    refine (written_any _ l w1 H1.out Hl.out Hs.out).mono ?_
    rintro e w2 ⟨v2, c2, rfl, e2, h2⟩
    cases ho : encAll l with
    | none =>
      obtain ⟨rfl, rfl⟩ := h2.2 ho
      have H2 := Lib.hid (H1.out.ext e2)
      have Ho := Lib.hid ho
      clear h2 ho
      go_wp2_with fail
      refine (made_any _ l w2 H2.out Hl.out Hs.out).mono ?_
      rintro e w3 ⟨v3, c3, rfl, e3, h3⟩
      obtain ⟨rfl, rfl⟩ := h3.2 Ho.out
      clear h3
      go_wp2_with fail
      refine (awake_any w3).mono ?_
      rintro e w4 ⟨rfl, e4⟩
      go_wp2
      go_ret
      exact ⟨rfl, ((e1.trans e2).trans e3).trans e4⟩
    | some b =>
      obtain ⟨rfl, o2⟩ := h2.1 b ho
      have hlen : b.length ≤ 1000 := by
        have h9 := encAll_len l l.length b (Nat.le_refl _) (by rw [List.take_length]; exact ho)
        rw [List.take_length] at h9
        have := Hs.out
        omega
      obtain ⟨hfl, hok⟩ := encAll_flat l b ho
      have S2 := Lib.hid (o2.srcs w2.heap.size (Or.inr (Nat.le_refl _)))
      have Hfl := Lib.hid hfl
      have Hok := Lib.hid hok
      have Hlen := Lib.hid hlen
      have E2 := e1.trans e2
      clear h2 ho o2 hfl hok hlen
      go_wp2_with fail
      refine (newr_any v2 b _ w2 S2.out (by have := Hlen.out; omega)).mono ?_
      rintro e w3 ⟨g, rfl, e3, r3, hg3⟩
      have hg : w.heap.size ≤ g := Nat.le_trans E2.size hg3
      have E3 := E2.trans e3
      have R3 := Lib.hid r3
      clear S2 r3 hg3 e1 e2 e3 E2
      go_wp2
      go_loopw [8] (fun i wr => InvR w l g i wr) (fun i _ => L - (intOf i).toNat)
      case atStart => exact ⟨0, by omega, rfl, by rw [List.drop_zero, ← Hfl.out]; exact R3.out, E3⟩
      case round =>
        clear R3 E3
        obtain ⟨k, hk, rfl, hr, he⟩ := hrel
        rw [← HL.out] at hk
        by_cases hlt : k < L
        · obtain ⟨x, hx, htk⟩ := itake l k (by rw [← HL.out]; exact hlt)
          have hdr := idrop l k (by rw [← HL.out]; exact hlt) x hx
          have hI := H.out.ext he
          obtain ⟨ad', cap', pb', po', e', h2', h3'⟩ := hI
          have e1 := h2' (by rw [← HL.out]; omega)
          subst e1
          injection e' with e1 e2 e3
          subst e1
          obtain ⟨c0, c1, c2, c3, r0, r1, _⟩ := h3' k x hx
          have i0 : (0 : Int) ≤ (k : Int) := by omega
          have i1 : (k : Int) < (L : Int) := by omega
          have hsz : x.s.size ≤ 1000 := by
            have h8 := isum_le l (k + 1)
            rw [htk, isum_snoc] at h8
            have := Hs.out
            omega
          have hokx : okI x := Hok.out x (List.mem_of_getElem? hx)
          rw [hdr, List.flatMap_cons] at hr
          have Hr := Lib.hid hr
          have Hsz := Lib.hid hsz
          have Hokx := Lib.hid hokx
          clear hr hsz hokx hdr htk hx h2' h3' e2 e3
          have e1 := Ext.alloc wr (.cells #[.int .i64 x.kind, .int .i64 x.n, .int .u64 x.wd, .string x.s] 48)
          have a1 := At.new wr #[.int .i64 x.kind, .int .i64 x.n, .int .u64 x.wd, .string x.s] 48
          have hne : wr.heap.size ≠ g := by have := Hr.out.lt; omega
          go_upto_region 14 with fail
          have c0' := a1.cell 0
          have c1' := a1.cell 1
          have c2' := a1.cell 2
          have c3' := a1.cell 3
          have R1 := Lib.hid (Hr.out.below e1)
          have heq : (wr.alloc (.cells #[.int .i64 x.kind, .int .i64 x.n, .int .u64 x.wd, .string x.s] 48)).heap.size = wr.heap.size + 1 := size_alloc _ _
          clear a1 c0 c1 c2 c3
          generalize wr.alloc (.cells #[.int .i64 x.kind, .int .i64 x.n, .int .u64 x.wd, .string x.s] 48) = W1 at *
          obtain ⟨XB, hXB⟩ : ∃ XB, XB = wr.heap.size := ⟨_, rfl⟩
          rw [← hXB] at c0' c1' c2' c3' hne ⊢
          have c0 : W1.cell? ⟨XB, 0, none⟩ = some (.int .i64 x.kind) := c0'
          have C1 := Lib.hid (show W1.cell? ⟨XB, 1, none⟩ = some (.int .i64 x.n) from c1')
          have C2 := Lib.hid (show W1.cell? ⟨XB, 2, none⟩ = some (.int .u64 x.wd) from c2')
          have C3 := Lib.hid (show W1.cell? ⟨XB, 3, none⟩ = some (.string x.s) from c3')
          have HB := Lib.hid (flat_byt (x :: l.drop (k + 1)))
          clear c0' c1' c2' c3' hXB heq Hr
          by_cases k1 : x.kind = 1
          · have t1 : (x.kind == 1) = true := beq_iff_eq.2 k1
            obtain ⟨n0, n1⟩ := Hokx.out k1
            obtain ⟨nn, hnn⟩ : ∃ nn : Nat, x.n = (nn : Int) := ⟨x.n.toNat, int_nat _ n0⟩
            have hq := (show rNum (encOne x ++ (l.drop (k + 1)).flatMap encOne) 0 = (x.n, (l.drop (k + 1)).flatMap encOne, 0) by rw [encOne, if_pos k1, hnn]; exact rNum_lf nn _ (by omega))
            have Hq := Lib.hid hq; clear hq
            go_upto_region 16 with fail
            refine wp_region_held (S := fun w' => w'.cell? ⟨XB, 1, none⟩ = some (.int .i64 x.n)) (by kernel_rfl) ?_
            change wpAnyH _ _ _ _ _ _ _ _ (World.drew _)
            have hS : W1.drew.cell? ⟨XB, 1, none⟩ = some (.int .i64 x.n) := C1.out
            refine takeS 0 (some 49) (.pointer (some ⟨g, 0, none⟩)) rfl rfl (by kernel_rfl) (by kernel_rfl) (by kernel_rfl) (fun _ _ _ h => h) rfl hS (fun w' hw' => by go_simp) ?_
            simp only [Act.put, List.setIfInBounds_toArray, List.set_cons_zero, List.set_cons_succ]
            refine takeS 2 (some 51) (.pointer (some ⟨XB, 1, none⟩)) rfl rfl (by kernel_rfl) (by kernel_rfl) (by kernel_rfl) (fun _ _ _ h => h) rfl hS (fun w' hw' => by go_simp) ?_
            simp only [Act.put, List.setIfInBounds_toArray, List.set_cons_zero, List.set_cons_succ]
            refine takeS 3 (some 52) (.int .i64 x.n) rfl rfl (by kernel_rfl) (by kernel_rfl) (by kernel_rfl) (fun _ _ _ h => h) rfl hS (fun w' hw' => by have cc : World.cell? w' _ = _ := hw'; go_simp) ?_
            simp only [Act.put, List.setIfInBounds_toArray, List.set_cons_zero, List.set_cons_succ]
            refine nextS 1 rfl (by kernel_rfl) rfl ?_
            refine callS (some 50) rfl 16 #[.pointer (some ⟨g, 0, none⟩)] (by go_simp) (fun v w' => v = .int .i64 x.n ∧ Only g W1.drew w' ∧ RSt w' g ((l.drop (k + 1)).flatMap encOne) 0) ((num_any g _ 0 W1.drew (R1.out.drewN 1) (by rw [← List.flatMap_cons]; exact HB.out)).mono fun e w' he => by rw [Hq.out] at he; exact ⟨_, he.1, rfl, he.2.1, he.2.2⟩) ?_
            rintro v4 w4 ⟨rfl, o4, r4⟩
            have hS4 : w4.cell? ⟨XB, 1, none⟩ = some (.int .i64 x.n) := by rw [← hS]; exact World.cell?_of_block (o4.block XB (World.block_lt_of_cell? _ _ hS) hne)
            refine ⟨hS4, ?_⟩
            simp only [Act.put, List.setIfInBounds_toArray, List.set_cons_zero, List.set_cons_succ]
            refine takeS 4 (some 53) (.bool false) rfl rfl (by kernel_rfl) (by kernel_rfl) (by kernel_rfl) (fun _ _ _ h => h) rfl hS4 (fun w' hw' => by go_simp) ?_
            simp only [Act.put, List.setIfInBounds_toArray, List.set_cons_zero, List.set_cons_succ]
            refine wpAnyH_done (by kernel_rfl) ?_ _
            have hend := invR_step HL.out hlt he (ext_drew e1) o4 hg r4 rfl rfl
            have Hend := Lib.hid hend; clear hend o4 r4 hS hS4
            go_wp2
            exact ⟨Hend.out, by simp [intOf]; omega⟩
          · have t1 : (x.kind == 1) = false := beq_eq_false_iff_ne.2 k1
            by_cases k2 : x.kind = 2
            · have t2 : (x.kind == 2) = true := beq_iff_eq.2 k2
              obtain ⟨nn, hnn⟩ : ∃ nn : Nat, x.wd = (nn : Int) := ⟨x.wd.toNat, int_nat _ r0⟩
              have hq := (show rWord (encOne x ++ (l.drop (k + 1)).flatMap encOne) 0 = (x.wd, (l.drop (k + 1)).flatMap encOne, 0) by rw [encOne, if_neg k1, if_pos k2, hnn]; exact rWord_lf nn _ (by omega))
              have Hq := Lib.hid hq; clear hq
              go_upto_region 19 with fail
              refine wp_region_held (S := fun w' => w'.cell? ⟨XB, 2, none⟩ = some (.int .u64 x.wd)) (by kernel_rfl) ?_
              change wpAnyH _ _ _ _ _ _ _ _ (World.drew _)
              have hS : W1.drew.cell? ⟨XB, 2, none⟩ = some (.int .u64 x.wd) := C2.out
              refine takeS 0 (some 56) (.pointer (some ⟨g, 0, none⟩)) rfl rfl (by kernel_rfl) (by kernel_rfl) (by kernel_rfl) (fun _ _ _ h => h) rfl hS (fun w' hw' => by go_simp) ?_
              simp only [Act.put, List.setIfInBounds_toArray, List.set_cons_zero, List.set_cons_succ]
              refine takeS 2 (some 58) (.pointer (some ⟨XB, 2, none⟩)) rfl rfl (by kernel_rfl) (by kernel_rfl) (by kernel_rfl) (fun _ _ _ h => h) rfl hS (fun w' hw' => by go_simp) ?_
              simp only [Act.put, List.setIfInBounds_toArray, List.set_cons_zero, List.set_cons_succ]
              refine takeS 3 (some 59) (.int .u64 x.wd) rfl rfl (by kernel_rfl) (by kernel_rfl) (by kernel_rfl) (fun _ _ _ h => h) rfl hS (fun w' hw' => by have cc : World.cell? w' _ = _ := hw'; go_simp) ?_
              simp only [Act.put, List.setIfInBounds_toArray, List.set_cons_zero, List.set_cons_succ]
              refine nextS 1 rfl (by kernel_rfl) rfl ?_
              refine callS (some 57) rfl 17 #[.pointer (some ⟨g, 0, none⟩)] (by go_simp) (fun v w' => v = .int .u64 x.wd ∧ Only g W1.drew w' ∧ RSt w' g ((l.drop (k + 1)).flatMap encOne) 0) ((word_any g _ 0 W1.drew (R1.out.drewN 1) (by rw [← List.flatMap_cons]; exact HB.out)).mono fun e w' he => by rw [Hq.out] at he; exact ⟨_, he.1, rfl, he.2.1, he.2.2⟩) ?_
              rintro v4 w4 ⟨rfl, o4, r4⟩
              have hS4 : w4.cell? ⟨XB, 2, none⟩ = some (.int .u64 x.wd) := by rw [← hS]; exact World.cell?_of_block (o4.block XB (World.block_lt_of_cell? _ _ hS) hne)
              refine ⟨hS4, ?_⟩
              simp only [Act.put, List.setIfInBounds_toArray, List.set_cons_zero, List.set_cons_succ]
              refine takeS 4 (some 60) (.bool false) rfl rfl (by kernel_rfl) (by kernel_rfl) (by kernel_rfl) (fun _ _ _ h => h) rfl hS4 (fun w' hw' => by go_simp) ?_
              simp only [Act.put, List.setIfInBounds_toArray, List.set_cons_zero, List.set_cons_succ]
              refine wpAnyH_done (by kernel_rfl) ?_ _
              have hend := invR_step HL.out hlt he (ext_drew e1) o4 hg r4 rfl rfl
              have Hend := Lib.hid hend; clear hend o4 r4 hS hS4
              go_wp2
              exact ⟨Hend.out, by simp [intOf]; omega⟩
            · have t2 : (x.kind == 2) = false := beq_eq_false_iff_ne.2 k2
              by_cases k3 : x.kind = 3
              · have t3 : (x.kind == 3) = true := beq_iff_eq.2 k3
                have hq := (show rCnt (encOne x ++ (l.drop (k + 1)).flatMap encOne) 0 1000 = (nums x.s, (l.drop (k + 1)).flatMap encOne, 0) by rw [encOne, if_neg k1, if_neg k2, if_pos k3]; exact rCnt_enc _ _ 1000 (by rw [nums_length]; have := Hsz.out; omega) (by rw [nums_length]; exact Hsz.out))
                have Hq := Lib.hid hq; clear hq
                go_upto_region 22 with fail
                refine wp_region_held (S := fun w' => w'.cell? ⟨XB, 3, none⟩ = some (.string x.s)) (by kernel_rfl) ?_
                change wpAnyH _ _ _ _ _ _ _ _ (World.drew _)
                have hS : W1.drew.cell? ⟨XB, 3, none⟩ = some (.string x.s) := C3.out
                refine takeS 0 (some 63) (.pointer (some ⟨g, 0, none⟩)) rfl rfl (by kernel_rfl) (by kernel_rfl) (by kernel_rfl) (fun _ _ _ h => h) rfl hS (fun w' hw' => by go_simp) ?_
                simp only [Act.put, List.setIfInBounds_toArray, List.set_cons_zero, List.set_cons_succ]
                refine takeS 3 (some 66) (.pointer (some ⟨XB, 3, none⟩)) rfl rfl (by kernel_rfl) (by kernel_rfl) (by kernel_rfl) (fun _ _ _ h => h) rfl hS (fun w' hw' => by go_simp) ?_
                simp only [Act.put, List.setIfInBounds_toArray, List.set_cons_zero, List.set_cons_succ]
                refine takeS 4 (some 67) (.string x.s) rfl rfl (by kernel_rfl) (by kernel_rfl) (by kernel_rfl) (fun _ _ _ h => h) rfl hS (fun w' hw' => by have cc : World.cell? w' _ = _ := hw'; go_simp) ?_
                simp only [Act.put, List.setIfInBounds_toArray, List.set_cons_zero, List.set_cons_succ]
                refine nextS 1 rfl (by kernel_rfl) rfl ?_
                refine callS (some 64) rfl 19 #[.pointer (some ⟨g, 0, none⟩), .int .i64 1000] (by go_simp) (fun v w' => Only g W1.drew w' ∧ RSt w' g ((l.drop (k + 1)).flatMap encOne) 0 ∧ Src w' v (nums x.s) w'.heap.size) ((rbytes_any g _ 0 1000 W1.drew (R1.out.drewN 1) (by rw [← List.flatMap_cons]; exact HB.out) (by omega)).mono fun e w' he => by rw [Hq.out] at he; obtain ⟨v, q1, q2, q3, q4⟩ := he; exact ⟨v, q1, q2, q3, q4⟩) ?_
                rintro v4 w4 ⟨o4, r4, s4⟩
                have hS4 : w4.cell? ⟨XB, 3, none⟩ = some (.string x.s) := by rw [← hS]; exact World.cell?_of_block (o4.block XB (World.block_lt_of_cell? _ _ hS) hne)
                refine ⟨hS4, ?_⟩
                simp only [Act.put, List.setIfInBounds_toArray, List.set_cons_zero, List.set_cons_succ]
                have cv := conv_src (P := Tryd.prog) 25 9 5 Tryd.underlying25 Tryd.underlying5 Tryd.underlying9 s4
                rw [nums_str] at cv
                refine nextS 2 rfl (by kernel_rfl) rfl ?_
                refine makeS (w1 := w4) (some 65) rfl (.string x.s) (by go_simp) ?_
                refine ⟨hS4, ?_⟩
                simp only [Act.put, List.setIfInBounds_toArray, List.set_cons_zero, List.set_cons_succ]
                refine takeS 5 (some 68) (.bool false) rfl rfl (by kernel_rfl) (by kernel_rfl) (by kernel_rfl) (fun _ _ _ h => h) rfl hS4 (fun w' hw' => by go_simp) ?_
                simp only [Act.put, List.setIfInBounds_toArray, List.set_cons_zero, List.set_cons_succ]
                refine wpAnyH_done (by kernel_rfl) ?_ _
                have hend := invR_step HL.out hlt he (ext_drew e1) o4 hg r4 rfl rfl
                have Hend := Lib.hid hend; clear hend o4 r4 hS hS4 cv s4
                go_wp2
                exact ⟨Hend.out, by simp [intOf]; omega⟩
              · have t3 : (x.kind == 3) = false := beq_eq_false_iff_ne.2 k3
                by_cases k4 : x.kind = 4
                · have t4 : (x.kind == 4) = true := beq_iff_eq.2 k4
                  have hq := (show rCnt (encOne x ++ (l.drop (k + 1)).flatMap encOne) 0 1000 = (nums x.s, (l.drop (k + 1)).flatMap encOne, 0) by rw [encOne, if_neg k1, if_neg k2, if_neg k3, if_pos k4]; exact rCnt_enc _ _ 1000 (by rw [nums_length]; have := Hsz.out; omega) (by rw [nums_length]; exact Hsz.out))
                  have Hq := Lib.hid hq; clear hq
                  go_upto_region 25 with fail
                  refine wp_region_held (S := fun w' => w'.cell? ⟨XB, 3, none⟩ = some (.string x.s)) (by kernel_rfl) ?_
                  change wpAnyH _ _ _ _ _ _ _ _ (World.drew _)
                  have hS : W1.drew.cell? ⟨XB, 3, none⟩ = some (.string x.s) := C3.out
                  refine takeS 0 (some 71) (.pointer (some ⟨g, 0, none⟩)) rfl rfl (by kernel_rfl) (by kernel_rfl) (by kernel_rfl) (fun _ _ _ h => h) rfl hS (fun w' hw' => by go_simp) ?_
                  simp only [Act.put, List.setIfInBounds_toArray, List.set_cons_zero, List.set_cons_succ]
                  refine takeS 2 (some 73) (.pointer (some ⟨XB, 3, none⟩)) rfl rfl (by kernel_rfl) (by kernel_rfl) (by kernel_rfl) (fun _ _ _ h => h) rfl hS (fun w' hw' => by go_simp) ?_
                  simp only [Act.put, List.setIfInBounds_toArray, List.set_cons_zero, List.set_cons_succ]
                  refine takeS 3 (some 74) (.string x.s) rfl rfl (by kernel_rfl) (by kernel_rfl) (by kernel_rfl) (fun _ _ _ h => h) rfl hS (fun w' hw' => by have cc : World.cell? w' _ = _ := hw'; go_simp) ?_
                  simp only [Act.put, List.setIfInBounds_toArray, List.set_cons_zero, List.set_cons_succ]
                  refine nextS 1 rfl (by kernel_rfl) rfl ?_
                  refine callS (some 72) rfl 20 #[.pointer (some ⟨g, 0, none⟩), .int .i64 1000] (by go_simp) (fun v w' => v = .string x.s ∧ Only g W1.drew w' ∧ RSt w' g ((l.drop (k + 1)).flatMap encOne) 0) ((text_any g _ 0 1000 W1.drew (R1.out.drewN 1) (by rw [← List.flatMap_cons]; exact HB.out)).mono fun e w' he => by rw [Hq.out, nums_str] at he; exact ⟨_, he.1, rfl, he.2.1, he.2.2⟩) ?_
                  rintro v4 w4 ⟨rfl, o4, r4⟩
                  have hS4 : w4.cell? ⟨XB, 3, none⟩ = some (.string x.s) := by rw [← hS]; exact World.cell?_of_block (o4.block XB (World.block_lt_of_cell? _ _ hS) hne)
                  refine ⟨hS4, ?_⟩
                  simp only [Act.put, List.setIfInBounds_toArray, List.set_cons_zero, List.set_cons_succ]
                  refine takeS 4 (some 75) (.bool false) rfl rfl (by kernel_rfl) (by kernel_rfl) (by kernel_rfl) (fun _ _ _ h => h) rfl hS4 (fun w' hw' => by go_simp) ?_
                  simp only [Act.put, List.setIfInBounds_toArray, List.set_cons_zero, List.set_cons_succ]
                  refine wpAnyH_done (by kernel_rfl) ?_ _
                  have hend := invR_step HL.out hlt he (ext_drew e1) o4 hg r4 rfl rfl
                  have Hend := Lib.hid hend; clear hend o4 r4 hS hS4
                  go_wp2
                  exact ⟨Hend.out, by simp [intOf]; omega⟩
                · have t4 : (x.kind == 4) = false := beq_eq_false_iff_ne.2 k4
                  have hz : encOne x ++ (l.drop (k + 1)).flatMap encOne = (l.drop (k + 1)).flatMap encOne := by rw [encOne, if_neg k1, if_neg k2, if_neg k3, if_neg k4]; rfl
                  have hend := invR_step HL.out hlt he e1 (Only.refl g W1) hg R1.out hz rfl
                  have Hend := Lib.hid hend; clear hend hz
                  go_wp2
                  exact ⟨Hend.out, by simp [intOf]; omega⟩
        · obtain rfl : k = L := by omega
          rw [HL.out, List.drop_length, List.flatMap_nil] at hr
          have Hr := Lib.hid hr
          clear hr hlt
          go_wp2_with fail
          refine (err_any g _ _ wr Hr.out).mono ?_
          rintro e w' ⟨rfl, rfl⟩
          go_wp2_with fail
          refine (left_any g _ _ wr Hr.out).mono ?_
          rintro e w' ⟨rfl, rfl⟩
          go_wp2_with fail
          refine (awake_any wr).mono ?_
          rintro e w5 ⟨rfl, e5⟩
          go_wp2
          go_ret
          exact ⟨rfl, he.trans e5⟩
end Go.Proofs.YtcdaecnpohfchaaDoor
