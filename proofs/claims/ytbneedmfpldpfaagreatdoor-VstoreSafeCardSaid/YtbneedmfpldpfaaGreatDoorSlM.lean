/- Contract of Crash where one name is held. Contract of awake. -/
import Derived.Test.YtbneedmfpldpfaaGreatDoorShM
import Derived.Test.YtbneedmfpldpfaaGreatDoorSjM
import Derived.Test.YtbneedmfpldpfaaGreatDoorSmM
import Derived.Lib.SlBytesConst
set_option linter.unusedSimpArgs false
namespace Go.Proofs.YtbneedmfpldpfaaGreatDoor
open Go.RowKit Go.Pth

theorem new_rep1 (w : World) (room clock : Int) : ∃ V L, Rep (w.alloc (.cells #[.int .i64 room, .int .u64 clock, .slice none 0 0, .slice none 0 0, .slice none 0 0, .int .i64 0, .int .i64 0, .int .i64 0] 57)) w.heap.size (SV.left1 room clock [] (fun _ => newN 0 0) [] []) V L ∧ (∀ i, L i ≠ none → w.heap.size ≤ i) ∧ V.n = .slice none 0 0 := by
  refine ⟨⟨.slice none 0 0, .slice none 0 0, .slice none 0 0, fun _ => nilV⟩, fun i => if i = w.heap.size then some .store else none, ?_, fun i hi => ?_, rfl⟩
  · refine ⟨At.new _ _ _, World.ownsRow_nil _ _ _ _, World.ownsRow_nil _ _ _ _, World.ownsRow_nil _ _ _ _, fun a ha => ?_, by simp, fun g hg => ?_, fun g hg => ?_, fun g hg => ?_, fun a ha => ?_, fun i hi => ?_, List.Pairwise.nil, List.Pairwise.nil, fun p hp => ?_, fun p hp => ?_⟩
    · cases ha
    · cases hg
    · cases hg
    · cases hg
    · cases ha
    · rw [size_alloc]
      by_cases e : i = w.heap.size
      · omega
      · simp [e] at hi
    · cases hp
    · cases hp
  · by_cases e : i = w.heap.size
    · omega
    · simp [e] at hi
/-- One name is taken into an empty store. -/
theorem took_rep {w w1 w2 w3 : World} {b a : Nat} {room clock : Int} {V : SW} {L : Nat → Option Role} {nd : Nat → NV} {p : B} {N : NV} {Vn : Vs} {v' : Value} (h : Rep w b (SV.left1 room clock [] nd [] []) V L) (he : Ext w w1) (hn : NdIn w1 a N Vn) (ok : N.Ok) (hf : ∀ i, Foot a Vn i → w.heap.size ≤ i) (he2 : Ext w1 w2)
    (hr : Row w3 78 2 v' 1 (ents [(p, a)])) (g : Grew w2 w3 V.n v') :
    ∃ V' L', Rep (w3.setCell ⟨b, 2, none⟩ v') b (SV.left1 room clock [a] (upd nd a N) [(p, a)] []) V' L' ∧ StTo w (w3.setCell ⟨b, 2, none⟩ v') L L' ∧ V'.n = v' := by
  obtain ⟨L1, r1, t1⟩ := h.more he a (hf a (Or.inl rfl)) N Vn hn ok hf
  have r2 := r1.ext he2
  have f := r2.setNames (l' := [(p, a)]) hr g (List.pairwise_singleton _ _) (fun x hx => by obtain rfl := List.mem_singleton.1 hx; exact List.mem_cons_self)
  exact ⟨_, _, f.1, (t1.trans (StTo.of_ext he2)).trans f.2, rfl⟩
set_option maxRecDepth 100000 in
set_option maxHeartbeats 8000000 in
theorem crash_one (b : Nat) (S : SV) (V : SW) (L : Nat → Option Role) (vp : Value) (x0 x1 : Int) (p : B) (a : Nat) (w : World) (h : Rep w b S V L) (hp : IntsIn w vp [x0, x1]) (ha : a ∈ S.ids) (hx : -9223372036854775808 ≤ x1 ∧ x1 ≤ 9223372036854775807)
    (hheld : ∀ w', Ext w w' → Calls Tryz.prog 47 #[ptr b, .int .i64 x0] w' fun e w'' => ∃ v, e = .returned v ∧ Tr w'' v [(p, a)] ∧ Ext w' w'') (hany : (S.nd a).loose.any id = true) :
    Calls Tryz.prog 15 #[ptr b, vp] w fun e w' => ∃ b' a' V' L', e = .returned (ptr b') ∧ Ext w w' ∧ Rep w' b' (SV.left1 S.room S.clock [a'] (upd (fun _ => newN 0 0) a' ((S.nd a).crash x1)) [(p, a')] [(p, a')]) V' L' := by
  have c0 := Lib.hid (show w.cell? ⟨b, 0, none⟩ = some (.int .i64 S.room) by rw [h.c 0]; rfl)
  have c1 := Lib.hid (show w.cell? ⟨b, 1, none⟩ = some (.int .u64 S.clock) by rw [h.c 1]; rfl)
  have ND := Lib.hid (h.nd a ha)
  obtain ⟨W1, hW1⟩ : ∃ W1, W1 = w.drew.alloc (.cells #[.int .i64 S.room, .int .u64 S.clock, .slice none 0 0, .slice none 0 0, .slice none 0 0, .int .i64 0, .int .i64 0, .int .i64 0] 57) := ⟨_, rfl⟩
  have NR := new_rep1 w.drew S.room S.clock
  rw [← hW1] at NR
  have E1 : Ext w W1 := by rw [hW1]; exact (Ext.drew w).trans (Ext.alloc _ _)
  obtain ⟨V1, L1, R1, hL1, hVn1⟩ := NR
  have hsz : w.drew.heap.size = w.heap.size := rfl
  rw [hsz] at R1 hL1
  have HR1 := Lib.hid R1
  have HW1 := Lib.hid hW1
  have HE1 := Lib.hid E1
  have HP := Lib.hid hp
  have HH := Lib.hid hheld
  have HN1 := Lib.hid (next_any vp [x0, x1] W1 (hp.ext E1))
  clear h hW1 R1 E1 hp hheld ha hsz hL1
  obtain ⟨adp, kp, bp, op_, hins⟩ := HP.out
  have hvp := hins.val
  clear hins
  subst hvp
  generalize S.room = rm at *
  generalize S.clock = ck at *
  unfold ptr at *
  go_enter Tryz.func15, Tryz.ntmps15
  go_upto_region 3 with fail
  have hS : Ext w w.drew := Ext.drew w
  have d0 := c0.out
  have d1 := c1.out
  refine wp_region_held (S := fun w' => Ext w w') (by kernel_rfl) ?_
  change wpAnyH _ _ _ _ _ _ _ _ (World.drew _)
  refine takeS 0 (some 11) (.pointer (some ⟨b, 0, none⟩)) rfl rfl (by kernel_rfl) (by kernel_rfl) (by kernel_rfl) (fun _ _ _ h => h) rfl hS (fun w' hw' => by go_simp) ?_
  simp only [Act.put, List.setIfInBounds_toArray, List.set_cons_zero, List.set_cons_succ]
  refine takeS 1 (some 12) (.pointer (some ⟨b, 0, none⟩)) rfl rfl (by kernel_rfl) (by kernel_rfl) (by kernel_rfl) (fun _ _ _ h => h) rfl hS (fun w' hw' => by go_simp) ?_
  simp only [Act.put, List.setIfInBounds_toArray, List.set_cons_zero, List.set_cons_succ]
  refine takeS 2 (some 13) (.pointer (some ⟨b, 0, none⟩)) rfl rfl (by kernel_rfl) (by kernel_rfl) (by kernel_rfl) (fun _ _ _ h => h) rfl hS (fun w' hw' => by go_simp) ?_
  simp only [Act.put, List.setIfInBounds_toArray, List.set_cons_zero, List.set_cons_succ]
  refine takeS 3 (some 14) (.int .i64 rm) rfl rfl (by kernel_rfl) (by kernel_rfl) (by kernel_rfl) (fun _ _ _ h => h) rfl hS (fun w' hw' => by have := hw'.cell d0; go_simp) ?_
  simp only [Act.put, List.setIfInBounds_toArray, List.set_cons_zero, List.set_cons_succ]
  refine takeS 4 (some 15) (.pointer (some ⟨b, 0, none⟩)) rfl rfl (by kernel_rfl) (by kernel_rfl) (by kernel_rfl) (fun _ _ _ h => h) rfl hS (fun w' hw' => by go_simp) ?_
  simp only [Act.put, List.setIfInBounds_toArray, List.set_cons_zero, List.set_cons_succ]
  refine takeS 5 (some 16) (.pointer (some ⟨b, 0, none⟩)) rfl rfl (by kernel_rfl) (by kernel_rfl) (by kernel_rfl) (fun _ _ _ h => h) rfl hS (fun w' hw' => by go_simp) ?_
  simp only [Act.put, List.setIfInBounds_toArray, List.set_cons_zero, List.set_cons_succ]
  refine takeS 6 (some 17) (.pointer (some ⟨b, 1, none⟩)) rfl rfl (by kernel_rfl) (by kernel_rfl) (by kernel_rfl) (fun _ _ _ h => h) rfl hS (fun w' hw' => by go_simp) ?_
  simp only [Act.put, List.setIfInBounds_toArray, List.set_cons_zero, List.set_cons_succ]
  refine takeS 7 (some 18) (.int .u64 ck) rfl rfl (by kernel_rfl) (by kernel_rfl) (by kernel_rfl) (fun _ _ _ h => h) rfl hS (fun w' hw' => by have := hw'.cell d1; go_simp) ?_
  simp only [Act.put, List.setIfInBounds_toArray, List.set_cons_zero, List.set_cons_succ]
  refine takeS 8 (some 19) (.agg #[.int .i64 rm, .int .u64 ck, .slice none 0 0, .slice none 0 0, .slice none 0 0, .int .i64 0, .int .i64 0, .int .i64 0]) rfl rfl (by kernel_rfl) (by kernel_rfl) (by kernel_rfl) (fun _ _ _ h => h) rfl hS (fun w' hw' => by go_simp) ?_
  simp only [Act.put, List.setIfInBounds_toArray, List.set_cons_zero, List.set_cons_succ]
  refine nextS 9 rfl (by kernel_rfl) rfl ?_
  refine runV (some 20) rfl (.pointer (some ⟨w.heap.size, 0, none⟩)) W1 (by have h1 := HW1.out; go_simp) ?_
  refine ⟨HE1.out, ?_⟩
  simp only [Act.put, List.setIfInBounds_toArray, List.set_cons_zero, List.set_cons_succ]
  refine takeS 10 (some 5) (.pointer (some ⟨w.heap.size, 0, none⟩)) rfl rfl (by kernel_rfl) (by kernel_rfl) (by kernel_rfl) (fun _ _ _ h => h) rfl HE1.out (fun w' hw' => by go_simp) ?_
  simp only [Act.put, List.setIfInBounds_toArray, List.set_cons_zero, List.set_cons_succ]
  refine wpAnyH_done (by kernel_rfl) ?_ _
  clear hS d0 d1 c0 c1
  go_wp2_with fail
  refine (HN1.out).mono ?_
  rintro e w2 ⟨vq, rfl, iq, e2⟩
  obtain ⟨adq, kq, bq, oq, hinq⟩ := iq
  have hvq := hinq.val
  have HQ := Lib.hid (⟨_, _, _, _, hinq⟩ : IntsIn w2 vq [x1])
  subst hvq
  have HE2 := Lib.hid (HE1.out.trans e2)
  have R2 := Lib.hid (HR1.out.ext e2)
  simp only [List.headD_cons]
  clear hinq e2 HN1 HR1
  go_wp2_with fail
  refine (HH.out _ HE2.out).mono ?_
  rintro e w3 ⟨vh, rfl, th, e3⟩
  obtain ⟨dh, kh, bh, oh, th⟩ := th
  have hvh := th.val
  have hadh := th.adr (by simp)
  have TH := Lib.hid th
  subst hadh hvh
  have HE3 := Lib.hid (HE2.out.trans e3)
  have R3 := Lib.hid (R2.out.ext e3)
  have Q3 := Lib.hid (IntsIn.ext HQ.out e3)
  clear th e3 R2 HQ HH
  have hE0 := Lib.hid (show Ext w w3 from HE3.out)
  go_wp2
  go_loopw [1, 6, 30] (fun s1 s6 s30 wr => (s30 = .int .i64 0 ∧ s1 = .slice adq 1 kq ∧ w3 = wr) ∨ (s30 = .int .i64 1 ∧ ∃ a' V' L', Ext w wr ∧ Rep wr w.heap.size (SV.left1 rm ck [a'] (upd (fun _ => newN 0 0) a' ((S.nd a).crash x1)) [(p, a')] []) V' L')) (fun _ _ s30 _ => 1 - (intOf s30).toNat)
  case atStart => exact Or.inl ⟨rfl, rfl, rfl⟩
  case round =>
    rcases hrel with ⟨rfl, rfl, rfl⟩ | ⟨rfl, a', V', L', hE9, hR9⟩
    · have n0 := TH.out.nm 0 (by simp)
      have n1 := TH.out.nd 0 (by simp)
      simp only [Nat.zero_mul, Nat.add_zero, List.getElem_cons_zero] at n0 n1
      unfold ptr at n1
      obtain ⟨W4, hW4⟩ : ∃ W4, W4 = w3.alloc (.cells #[.string (tx p), .pointer (some ⟨a, 0, none⟩)] 78) := ⟨_, rfl⟩
      have e4 : Ext w3 W4 := by rw [hW4]; exact Ext.alloc _ _
      have hat4 : At W4 w3.heap.size #[.string (tx p), .pointer (some ⟨a, 0, none⟩)] 78 := by rw [hW4]; exact At.new _ _ _
      have nd4 := ND.out.1.ext (HE3.out.trans e4)
      have R4 := Lib.hid (R3.out.ext e4)
      have c5 : W4.cell? ⟨a, 5, none⟩ = some (V.nv a).l := by rw [nd4.c 5]; rfl
      rw [hW4] at c5
      have CN := Lib.hid (contains_any (V.nv a).l (S.nd a).loose W4 nd4.l (by rw [ND.out.2.ll]; have := ND.out.2.len; unfold secs; omega))
      rw [hany] at CN
      have NX := Lib.hid (next_any (.slice adq 1 kq) [x1] W4 (IntsIn.ext Q3.out e4))
      have HW4 := Lib.hid hW4
      have N4 := Lib.hid nd4
      have HE4 := Lib.hid (HE3.out.trans e4)
      have X0 := Lib.hid (show W4.cell? ⟨w3.heap.size, 0, none⟩ = some (.string (tx p)) by rw [hat4.cell]; rfl)
      have X1 := Lib.hid (show W4.cell? ⟨w3.heap.size, 1, none⟩ = some (.pointer (some ⟨a, 0, none⟩)) by rw [hat4.cell]; rfl)
      clear hat4 e4 nd4 hW4 hany
      go_wp2_with fail
      rw [← HW4.out]
      refine (CN.out).mono ?_
      rintro e w' ⟨rfl, rfl⟩
      clear c5
      go_wp2_with fail
      refine (NX.out).mono ?_
      rintro e w5 ⟨vr, rfl, _, e5⟩
      simp only [List.headD_cons]
      have N5 := Lib.hid (N4.out.ext e5)
      have HE5 := Lib.hid (HE4.out.trans e5)
      have R5 := Lib.hid (R4.out.ext e5)
      have y0 := e5.cell X0.out
      have y1 := e5.cell X1.out
      have CR := Lib.hid (crashed_any a (S.nd a) (V.nv a) x1)
      have yb : w5.cell? ⟨w.heap.size, 2, none⟩ = some (.slice none 0 0) := by rw [R5.out.c 2]; simp only [scells]; rw [hVn1]; rfl
      have hbe : w.heap.size < w3.heap.size := R3.out.cell.lt
      clear X0 X1 N4 R4 R3 NX CN n0 n1 e5
      generalize w3.heap.size = be at *
      obtain ⟨gg, hg⟩ : ∃ gg, gg = w.heap.size := ⟨_, rfl⟩
      have HG := Lib.hid hg
      rw [← hg] at R5 yb hbe
      clear hg
      go_upto_region 11 with fail
      rw [← HG.out]
      have hS : w5.drew.cell? ⟨be, 0, none⟩ = some (.string (tx p)) ∧ w5.drew.cell? ⟨be, 1, none⟩ = some (.pointer (some ⟨a, 0, none⟩)) := ⟨y0, y1⟩
      have yb2 : w5.drew.cell? ⟨gg, 2, none⟩ = some (.slice none 0 0) := yb
      have N6 := Lib.hid (N5.out.ext (Ext.drew w5))
      have R6 := Lib.hid (R5.out.ext (Ext.drew w5))
      have CR2 := Lib.hid (CR.out w5.drew N6.out ND.out.2 hx)
      obtain ⟨ti, ti1, ti2, ti3, ti4⟩ := info_of info64
      have TI := Lib.hid (⟨ti1, ti2, ti3, ti4⟩ : _ ∧ _ ∧ _ ∧ _)
      have FN := Lib.hid (fun (a' : Nat) (V9 : Vs) (w6 : World) (n6 : NdIn w6 a' ((S.nd a).crash x1) V9) (e6 : Ext w5.drew w6) (f6 : ∀ i, Foot a' V9 i → w5.heap.size ≤ i) => by
        have hat7 : At (w6.alloc (.cells #[.string (tx p), .pointer (some ⟨a', 0, none⟩)] 78)) w6.heap.size #[.string (tx p), .pointer (some ⟨a', 0, none⟩)] 78 := At.new _ _ _
        obtain ⟨v8, W8, hrun, hrow, hg8⟩ := run_append_row (P := Tryz.prog) (w6.alloc (.cells #[.string (tx p), .pointer (some ⟨a', 0, none⟩)] 78)) 54 54 54 78 ti _ Tryz.underlying54 ti1 ti2 (by rw [ti3]; rfl) (.slice none 0 0) 0 [] (World.ownsRow_nil _ _ _ _) (.slice (some ⟨w6.heap.size, 0, none⟩) 1 1) 1 (ents [(p, a')]) (by
          rw [ti3]
          refine Src.ofSlice _ Tryz.underlying54 ⟨w6.heap.size, 0, none⟩ 1 1 _ rfl (fun q u hu => ?_) (ents_one _)
          rw [Addr.add_lit, Nat.zero_add, hat7.cell, ← hu]; simp [ents, ptr]) (by simp only [maxLen]; omega) (by rw [ti4]; omega)
        rw [ti3, Nat.zero_add, List.nil_append] at hrow
        obtain ⟨d8, k8, hv8, -⟩ := hrow.shape
        subst hv8
        have fr := Row.fresh hg8
        obtain ⟨V', L', r9, t9, _⟩ := took_rep (v' := .slice d8 1 k8) R6.out e6 n6 (crash_ok ND.out.2 x1) f6 (Ext.alloc w6 (.cells #[.string (tx p), .pointer (some ⟨a', 0, none⟩)] 78)) hrow (by rw [hVn1]; exact hg8)
        have e8 : Ext w W8 := ((HE5.out.trans (Ext.drew w5)).trans e6).trans ((Ext.alloc _ _).trans fr.1)
        have hgl : w.heap.size ≤ gg := by rw [HG.out]; exact Nat.le_refl _
        have ef : Ext w (W8.setCell ⟨gg, 2, none⟩ (.slice d8 1 k8)) := ((Chg.of_ext (X := fun _ => False) e8).trans (Chg.setCell W8 gg 2 _) (fun i hi e => by omega)).ext
        have at8 := (R6.out.cell.ext (e6.trans ((Ext.alloc _ _).trans fr.1)))
        exact (⟨d8, k8, W8, hrun, ((Ext.alloc _ _).trans fr.1), ef, ⟨V', L', r9⟩, at8.cell 2, at8.frozen 2⟩ : ∃ d8 k8 W8, (Builtin.append_ #[54, 54] 54 #[.slice none 0 0, .slice (some ⟨w6.heap.size, 0, none⟩) 1 1]).run Tryz.prog (w6.alloc (.cells #[.string (tx p), .pointer (some ⟨a', 0, none⟩)] 78)) = .ok (.slice d8 1 k8) W8 ∧ Ext w6 W8 ∧ Ext w (W8.setCell ⟨gg, 2, none⟩ (.slice d8 1 k8)) ∧ (∃ V' L', Rep (W8.setCell ⟨gg, 2, none⟩ (.slice d8 1 k8)) gg (SV.left1 rm ck [a'] (upd (fun _ => newN 0 0) a' ((S.nd a).crash x1)) [(p, a')] []) V' L') ∧ W8.cell? ⟨gg, 2, none⟩ = (scells (SV.left1 rm ck [] (fun _ => newN 0 0) [] []) V1)[2]? ∧ W8.frozen? ⟨gg, 2, none⟩ = false))
      clear CR N5 N6 R5 ti1 ti2 ti3 ti4 yb y0 y1
      refine wp_region_held (S := fun w' => w'.cell? ⟨be, 0, none⟩ = some (.string (tx p)) ∧ w'.cell? ⟨be, 1, none⟩ = some (.pointer (some ⟨a, 0, none⟩))) (by kernel_rfl) ?_
      change wpAnyH _ _ _ _ _ _ _ _ (World.drew _)
      refine takeS 0 (some 45) (.pointer (some ⟨gg, 0, none⟩)) rfl rfl (by kernel_rfl) (by kernel_rfl) (by kernel_rfl) (fun _ _ _ h => h) rfl hS (fun w' hw' => by go_simp) ?_
      simp only [Act.put, List.setIfInBounds_toArray, List.set_cons_zero, List.set_cons_succ]
      refine takeS 1 (some 46) (.pointer (some ⟨gg, 0, none⟩)) rfl rfl (by kernel_rfl) (by kernel_rfl) (by kernel_rfl) (fun _ _ _ h => h) rfl hS (fun w' hw' => by go_simp) ?_
      simp only [Act.put, List.setIfInBounds_toArray, List.set_cons_zero, List.set_cons_succ]
      refine takeS 2 (some 47) (.pointer (some ⟨gg, 0, none⟩)) rfl rfl (by kernel_rfl) (by kernel_rfl) (by kernel_rfl) (fun _ _ _ h => h) rfl hS (fun w' hw' => by go_simp) ?_
      simp only [Act.put, List.setIfInBounds_toArray, List.set_cons_zero, List.set_cons_succ]
      refine takeS 3 (some 48) (.pointer (some ⟨gg, 2, none⟩)) rfl rfl (by kernel_rfl) (by kernel_rfl) (by kernel_rfl) (fun _ _ _ h => h) rfl hS (fun w' hw' => by go_simp) ?_
      simp only [Act.put, List.setIfInBounds_toArray, List.set_cons_zero, List.set_cons_succ]
      refine takeS 5 (some 50) (.pointer (some ⟨be, 0, none⟩)) rfl rfl (by kernel_rfl) (by kernel_rfl) (by kernel_rfl) (fun _ _ _ h => h) rfl hS (fun w' hw' => by go_simp) ?_
      simp only [Act.put, List.setIfInBounds_toArray, List.set_cons_zero, List.set_cons_succ]
      refine takeS 6 (some 51) (.string (tx p)) rfl rfl (by kernel_rfl) (by kernel_rfl) (by kernel_rfl) (fun _ _ _ h => h) rfl hS (fun w' hw' => by have := hw'.1; go_simp) ?_
      simp only [Act.put, List.setIfInBounds_toArray, List.set_cons_zero, List.set_cons_succ]
      refine takeS 7 (some 52) (.pointer (some ⟨be, 1, none⟩)) rfl rfl (by kernel_rfl) (by kernel_rfl) (by kernel_rfl) (fun _ _ _ h => h) rfl hS (fun w' hw' => by go_simp) ?_
      simp only [Act.put, List.setIfInBounds_toArray, List.set_cons_zero, List.set_cons_succ]
      refine takeS 8 (some 53) (.pointer (some ⟨a, 0, none⟩)) rfl rfl (by kernel_rfl) (by kernel_rfl) (by kernel_rfl) (fun _ _ _ h => h) rfl hS (fun w' hw' => by have := hw'.2; go_simp) ?_
      simp only [Act.put, List.setIfInBounds_toArray, List.set_cons_zero, List.set_cons_succ]
      refine takeS 9 (some 54) (.int .i64 x1) rfl rfl (by kernel_rfl) (by kernel_rfl) (by kernel_rfl) (fun _ _ _ h => h) rfl hS (fun w' hw' => by go_simp) ?_
      simp only [Act.put, List.setIfInBounds_toArray, List.set_cons_zero, List.set_cons_succ]
      refine nextS2 4 10 rfl rfl (by kernel_rfl) rfl rfl ?_ ?_
      · skip
        refine runL (some 49) rfl (.slice none 0 0) (by have := yb2; go_simp) ?_
        refine ⟨hS, ?_⟩
        simp only [Act.put, List.setIfInBounds_toArray, List.set_cons_zero, List.set_cons_succ]
        refine nextS 10 rfl (by kernel_rfl) rfl ?_
        refine callS (some 55) rfl 49 #[.pointer (some ⟨a, 0, none⟩), .int .i64 x1] (by go_simp) (fun v w' => ∃ a' V9, v = .pointer (some ⟨a', 0, none⟩) ∧ NdIn w' a' ((S.nd a).crash x1) V9 ∧ Ext w5.drew w' ∧ ∀ i, Foot a' V9 i → w5.heap.size ≤ i) ((CR2.out).mono fun e w' ⟨a', V9, h1, h2, h3, h4⟩ => ⟨_, h1, a', V9, rfl, h2, h3, h4⟩) ?_
        rintro v6 w6 ⟨a', V9, rfl, n6, e6, f6⟩
        have hS6 := And.intro (e6.cell hS.1) (e6.cell hS.2)
        have yb6 := e6.cell yb2
        obtain ⟨d8, k8, W8, hrun, e68, hfE, hfR, c8, f8⟩ := FN.out a' V9 w6 n6 e6 f6
        refine ⟨hS6, ?_⟩
        simp only [Act.put, List.setIfInBounds_toArray, List.set_cons_zero, List.set_cons_succ]
        refine takeS 11 (some 56) (.agg #[.string (tx p), .pointer (some ⟨a', 0, none⟩)]) rfl rfl (by kernel_rfl) (by kernel_rfl) (by kernel_rfl) (fun _ _ _ h => h) rfl hS6 (fun w' hw' => by go_simp) ?_
        simp only [Act.put, List.setIfInBounds_toArray, List.set_cons_zero, List.set_cons_succ]
        refine nextS 12 rfl (by kernel_rfl) rfl ?_
        have e7 := Ext.alloc w6 (.cells #[.string (tx p), .pointer (some ⟨a', 0, none⟩)] 78)
        refine runV (some 57) rfl (.slice (some ⟨w6.heap.size, 0, none⟩) 1 1) (w6.alloc (.cells #[.string (tx p), .pointer (some ⟨a', 0, none⟩)] 78)) (by go_simp) ?_
        have hS7 := And.intro (e7.cell hS6.1) (e7.cell hS6.2)
        have yb7 := e7.cell yb6
        refine ⟨hS7, ?_⟩
        simp only [Act.put, List.setIfInBounds_toArray, List.set_cons_zero, List.set_cons_succ]
        refine nextS 13 rfl (by kernel_rfl) rfl ?_
        refine Lib.wp_append_run _ (.tmp 49) (.tmp 57) 54 54 rfl (.slice none 0 0) (.slice (some ⟨w6.heap.size, 0, none⟩) 1 1) rfl rfl _ _ hrun ?_
        have hS8 := And.intro (e68.cell hS6.1) (e68.cell hS6.2)
        refine ⟨hS8, ?_⟩
        simp only [Act.put, List.setIfInBounds_toArray, List.set_cons_zero, List.set_cons_succ]
        refine takeS 14 (some 59) (.pointer (some ⟨gg, 0, none⟩)) rfl rfl (by kernel_rfl) (by kernel_rfl) (by kernel_rfl) (fun _ _ _ h => h) rfl hS8 (fun w' hw' => by go_simp) ?_
        simp only [Act.put, List.setIfInBounds_toArray, List.set_cons_zero, List.set_cons_succ]
        refine takeS 15 (some 60) (.pointer (some ⟨gg, 2, none⟩)) rfl rfl (by kernel_rfl) (by kernel_rfl) (by kernel_rfl) (fun _ _ _ h => h) rfl hS8 (fun w' hw' => by go_simp) ?_
        simp only [Act.put, List.setIfInBounds_toArray, List.set_cons_zero, List.set_cons_succ]
        simp only [scells] at c8
        refine nextS 16 rfl (by kernel_rfl) rfl ?_
        refine runN rfl (W8.setCell ⟨gg, 2, none⟩ (.slice d8 1 k8)) (by go_simp) ?_
        have hcg := Chg.setCell W8 gg 2 (.slice d8 1 k8)
        refine ⟨⟨hcg.cell hS8.1 (fun e => by simp at e; omega), hcg.cell hS8.2 (fun e => by simp at e; omega)⟩, ?_⟩
        refine wpAnyH_done (by kernel_rfl) ?_ _
        obtain ⟨V', L', hR⟩ := hfR
        have HF1 := Lib.hid hfE
        have HF2 := Lib.hid hR
        clear hfE hR c8 f8 e68 hrun hcg hS8 n6 e6 f6
        go_wp2
        exact ⟨⟨_, _, _, _, Or.inr ⟨rfl, HF1.out, a', V', L', by rw [← HG.out]; exact HF2.out⟩, rfl, HG.out, rfl, rfl, HG.out, rfl⟩, by simp [intOf]⟩
      · skip
        refine callS (some 55) rfl 49 #[.pointer (some ⟨a, 0, none⟩), .int .i64 x1] (by go_simp) (fun v w' => ∃ a' V9, v = .pointer (some ⟨a', 0, none⟩) ∧ NdIn w' a' ((S.nd a).crash x1) V9 ∧ Ext w5.drew w' ∧ ∀ i, Foot a' V9 i → w5.heap.size ≤ i) ((CR2.out).mono fun e w' ⟨a', V9, h1, h2, h3, h4⟩ => ⟨_, h1, a', V9, rfl, h2, h3, h4⟩) ?_
        rintro v6 w6 ⟨a', V9, rfl, n6, e6, f6⟩
        have hS6 := And.intro (e6.cell hS.1) (e6.cell hS.2)
        have yb6 := e6.cell yb2
        obtain ⟨d8, k8, W8, hrun, e68, hfE, hfR, c8, f8⟩ := FN.out a' V9 w6 n6 e6 f6
        refine ⟨hS6, ?_⟩
        simp only [Act.put, List.setIfInBounds_toArray, List.set_cons_zero, List.set_cons_succ]
        refine takeS 11 (some 56) (.agg #[.string (tx p), .pointer (some ⟨a', 0, none⟩)]) rfl rfl (by kernel_rfl) (by kernel_rfl) (by kernel_rfl) (fun _ _ _ h => h) rfl hS6 (fun w' hw' => by go_simp) ?_
        simp only [Act.put, List.setIfInBounds_toArray, List.set_cons_zero, List.set_cons_succ]
        refine nextS2 4 12 rfl rfl (by kernel_rfl) rfl rfl ?_ ?_
        · skip
          refine runL (some 49) rfl (.slice none 0 0) (by have := yb6; go_simp) ?_
          refine ⟨hS6, ?_⟩
          simp only [Act.put, List.setIfInBounds_toArray, List.set_cons_zero, List.set_cons_succ]
          refine nextS 12 rfl (by kernel_rfl) rfl ?_
          have e7 := Ext.alloc w6 (.cells #[.string (tx p), .pointer (some ⟨a', 0, none⟩)] 78)
          refine runV (some 57) rfl (.slice (some ⟨w6.heap.size, 0, none⟩) 1 1) (w6.alloc (.cells #[.string (tx p), .pointer (some ⟨a', 0, none⟩)] 78)) (by go_simp) ?_
          have hS7 := And.intro (e7.cell hS6.1) (e7.cell hS6.2)
          have yb7 := e7.cell yb6
          refine ⟨hS7, ?_⟩
          simp only [Act.put, List.setIfInBounds_toArray, List.set_cons_zero, List.set_cons_succ]
          refine nextS 13 rfl (by kernel_rfl) rfl ?_
          refine Lib.wp_append_run _ (.tmp 49) (.tmp 57) 54 54 rfl (.slice none 0 0) (.slice (some ⟨w6.heap.size, 0, none⟩) 1 1) rfl rfl _ _ hrun ?_
          have hS8 := And.intro (e68.cell hS6.1) (e68.cell hS6.2)
          refine ⟨hS8, ?_⟩
          simp only [Act.put, List.setIfInBounds_toArray, List.set_cons_zero, List.set_cons_succ]
          refine takeS 14 (some 59) (.pointer (some ⟨gg, 0, none⟩)) rfl rfl (by kernel_rfl) (by kernel_rfl) (by kernel_rfl) (fun _ _ _ h => h) rfl hS8 (fun w' hw' => by go_simp) ?_
          simp only [Act.put, List.setIfInBounds_toArray, List.set_cons_zero, List.set_cons_succ]
          refine takeS 15 (some 60) (.pointer (some ⟨gg, 2, none⟩)) rfl rfl (by kernel_rfl) (by kernel_rfl) (by kernel_rfl) (fun _ _ _ h => h) rfl hS8 (fun w' hw' => by go_simp) ?_
          simp only [Act.put, List.setIfInBounds_toArray, List.set_cons_zero, List.set_cons_succ]
          simp only [scells] at c8
          refine nextS 16 rfl (by kernel_rfl) rfl ?_
          refine runN rfl (W8.setCell ⟨gg, 2, none⟩ (.slice d8 1 k8)) (by go_simp) ?_
          have hcg := Chg.setCell W8 gg 2 (.slice d8 1 k8)
          refine ⟨⟨hcg.cell hS8.1 (fun e => by simp at e; omega), hcg.cell hS8.2 (fun e => by simp at e; omega)⟩, ?_⟩
          refine wpAnyH_done (by kernel_rfl) ?_ _
          obtain ⟨V', L', hR⟩ := hfR
          have HF1 := Lib.hid hfE
          have HF2 := Lib.hid hR
          clear hfE hR c8 f8 e68 hrun hcg hS8 n6 e6 f6
          go_wp2
          exact ⟨⟨_, _, _, _, Or.inr ⟨rfl, HF1.out, a', V', L', by rw [← HG.out]; exact HF2.out⟩, rfl, HG.out, rfl, rfl, HG.out, rfl⟩, by simp [intOf]⟩
        · skip
          have e7 := Ext.alloc w6 (.cells #[.string (tx p), .pointer (some ⟨a', 0, none⟩)] 78)
          refine runV (some 57) rfl (.slice (some ⟨w6.heap.size, 0, none⟩) 1 1) (w6.alloc (.cells #[.string (tx p), .pointer (some ⟨a', 0, none⟩)] 78)) (by go_simp) ?_
          have hS7 := And.intro (e7.cell hS6.1) (e7.cell hS6.2)
          have yb7 := e7.cell yb6
          refine ⟨hS7, ?_⟩
          simp only [Act.put, List.setIfInBounds_toArray, List.set_cons_zero, List.set_cons_succ]
          refine nextS 4 rfl (by kernel_rfl) rfl ?_
          refine runL (some 49) rfl (.slice none 0 0) (by have := yb7; go_simp) ?_
          refine ⟨hS7, ?_⟩
          simp only [Act.put, List.setIfInBounds_toArray, List.set_cons_zero, List.set_cons_succ]
          refine nextS 13 rfl (by kernel_rfl) rfl ?_
          refine Lib.wp_append_run _ (.tmp 49) (.tmp 57) 54 54 rfl (.slice none 0 0) (.slice (some ⟨w6.heap.size, 0, none⟩) 1 1) rfl rfl _ _ hrun ?_
          have hS8 := And.intro (e68.cell hS6.1) (e68.cell hS6.2)
          refine ⟨hS8, ?_⟩
          simp only [Act.put, List.setIfInBounds_toArray, List.set_cons_zero, List.set_cons_succ]
          refine takeS 14 (some 59) (.pointer (some ⟨gg, 0, none⟩)) rfl rfl (by kernel_rfl) (by kernel_rfl) (by kernel_rfl) (fun _ _ _ h => h) rfl hS8 (fun w' hw' => by go_simp) ?_
          simp only [Act.put, List.setIfInBounds_toArray, List.set_cons_zero, List.set_cons_succ]
          refine takeS 15 (some 60) (.pointer (some ⟨gg, 2, none⟩)) rfl rfl (by kernel_rfl) (by kernel_rfl) (by kernel_rfl) (fun _ _ _ h => h) rfl hS8 (fun w' hw' => by go_simp) ?_
          simp only [Act.put, List.setIfInBounds_toArray, List.set_cons_zero, List.set_cons_succ]
          simp only [scells] at c8
          refine nextS 16 rfl (by kernel_rfl) rfl ?_
          refine runN rfl (W8.setCell ⟨gg, 2, none⟩ (.slice d8 1 k8)) (by go_simp) ?_
          have hcg := Chg.setCell W8 gg 2 (.slice d8 1 k8)
          refine ⟨⟨hcg.cell hS8.1 (fun e => by simp at e; omega), hcg.cell hS8.2 (fun e => by simp at e; omega)⟩, ?_⟩
          refine wpAnyH_done (by kernel_rfl) ?_ _
          obtain ⟨V', L', hR⟩ := hfR
          have HF1 := Lib.hid hfE
          have HF2 := Lib.hid hR
          clear hfE hR c8 f8 e68 hrun hcg hS8 n6 e6 f6
          go_wp2
          exact ⟨⟨_, _, _, _, Or.inr ⟨rfl, HF1.out, a', V', L', by rw [← HG.out]; exact HF2.out⟩, rfl, HG.out, rfl, rfl, HG.out, rfl⟩, by simp [intOf]⟩
    · have E9 := Lib.hid hE9
      have R9 := Lib.hid hR9
      have CT := Lib.hid (clonet_any V'.n [(p, a')] wr hR9.nm (by simp))
      obtain ⟨gg, hg⟩ : ∃ gg, gg = w.heap.size := ⟨_, rfl⟩
      have HG := Lib.hid hg
      rw [← hg] at R9
      have c2 := R9.out.c 2
      simp only [scells] at c2
      have c2b : wr.cell? ⟨w.heap.size, 2, none⟩ = some V'.n := by rw [← hg, c2]; rfl
      clear hE9 hR9 hg c2
      go_wp2_with fail
      refine (CT.out).mono ?_
      rintro e w9 ⟨v9, rfl, r9, e9, f9⟩
      have own9 : ∃ g c, v9 = .slice (some ⟨g, 0, none⟩) 1 c := by
        rcases r9.2 with ⟨_, h0⟩ | ⟨g, c, cur, hv, _⟩
        · cases h0
        · exact ⟨g, c, hv⟩
      obtain ⟨g9, c9, hv9⟩ := own9
      subst hv9
      have ST := R9.out.setKept (w1 := w9) (v' := .slice (some ⟨g9, 0, none⟩) 1 c9) (l' := [(p, a')]) r9 ⟨Chg.of_ext e9, Or.inr ⟨g9, rfl, f9 g9 rfl⟩⟩ (List.pairwise_singleton _ _) (fun x hx => by obtain rfl := List.mem_singleton.1 hx; exact List.mem_cons_self)
      have hgl : w.heap.size ≤ gg := by rw [HG.out]; exact Nat.le_refl _
      have EF := Lib.hid (show Ext w (w9.setCell ⟨gg, 3, none⟩ (.slice (some ⟨g9, 0, none⟩) 1 c9)) from ((Chg.of_ext (X := fun _ => False) (E9.out.trans e9)).trans (Chg.setCell w9 gg 3 _) (fun i hi e => by omega)).ext)
      have at9 := R9.out.cell.ext e9
      have k3 : w9.cell? ⟨gg, 3, none⟩ = some V'.k := by rw [at9.cell]; rfl
      have fz3 := at9.frozen 3
      have SR := Lib.hid ST.1
      rw [HG.out] at k3 fz3 SR EF
      clear ST at9 hgl r9 e9 f9 c2b CT R9 E9 HG
      go_wp2
      go_ret
      exact ⟨w.heap.size, a', _, _, rfl, EF.out, SR.out⟩
end Go.Proofs.YtbneedmfpldpfaaGreatDoor

set_option linter.unusedSimpArgs false
namespace Go.Proofs.YtbneedmfpldpfaaGreatDoor
open Go.RowKit Go.Pth

def SA (a : Nat) : SV := ((SV.new 100).beg.made a [97] 1).beg.wrote a 0 [120]
theorem SA_nd (a : Nat) : (SA a).nd a = ⟨1, 0, 2, [120], [0], [true]⟩ := by
  unfold SA SV.wrote
  simp only [upd_same]
  have b1 := beg_same ((SV.new 100).beg.made a [97] 1)
  have b0 := beg_same (SV.new 100)
  rw [b1.2.1, b1.2.2.2.1]
  have e1 : ((SV.new 100).beg.made a [97] 1).nd a = newN 1 1 := by unfold SV.made; simp only [upd_same]; rw [b0.2.2.2.1]; rfl
  have e2 : ((SV.new 100).beg.made a [97] 1).clock = 1 := by unfold SV.made; simp only []; rw [b0.2.2.2.1]; rfl
  rw [e1, e2, write_new 1 1 [120] (by simp)]
  rfl
theorem SA_names (a : Nat) : (SA a).names = [([97], a)] := by
  unfold SA SV.wrote
  simp only [(beg_same _).1]
  unfold SV.made
  simp only [(beg_same _).1]
  rfl
theorem SA_acts (a : Nat) : (SA a).acts = [⟨[], [97], some a⟩] := by
  unfold SA SV.wrote
  simp only [(beg_same _).2.2.2.2.1]
  unfold SV.made
  simp only [(beg_same _).2.2.2.2.1]
  rfl
theorem SA_kept (a : Nat) : (SA a).kept = [] := by
  unfold SA SV.wrote
  simp only [(beg_same _).2.2.2.2.2.2]
  unfold SV.made
  simp only [(beg_same _).2.2.2.2.2.2]
  rfl
theorem SA_ids (a : Nat) : (SA a).ids = [a] := by
  unfold SA SV.wrote
  simp only [(beg_same _).2.2.1]
  unfold SV.made
  simp only [(beg_same _).2.2.1]
  rfl
theorem SA_clock (a : Nat) : (SA a).clock = 2 := by
  unfold SA SV.wrote
  simp only [(beg_same _).2.2.2.1]
  unfold SV.made
  simp only [(beg_same _).2.2.2.1]
  rfl
theorem SM_power (a : Nat) (p : B) (room : Int) : ((SV.new room).beg.made a p 1).power = 0 := by
  unfold SV.made; simp only []; exact beg_power0 rfl
theorem SA_power (a : Nat) : (SA a).power = 0 := by
  unfold SA SV.wrote; simp only []; exact beg_power0 (SM_power a _ _)
theorem SA_fit (a : Nat) : (SA a).Fit := by
  refine ⟨?_, ?_, by rw [SA_clock]; omega, by rw [SA_names]; simp, by rw [SA_acts]; simp⟩
  · unfold SA SV.wrote
    simp only [beg_left (SM_power a _ _)]
    unfold SV.made
    simp only [beg_left (show (SV.new 100).power = 0 from rfl)]
    simp [SV.new]
  · unfold SA SV.wrote
    simp only [beg_ops (SM_power a _ _)]
    unfold SV.made
    simp only [beg_ops (show (SV.new 100).power = 0 from rfl)]
    simp [SV.new]
theorem SM_fit (a : Nat) (p : B) (room : Int) : ((SV.new room).beg.made a p 1).Fit := by
  refine ⟨?_, ?_, ?_, ?_, ?_⟩
  · unfold SV.made; simp only [beg_left (show (SV.new room).power = 0 from rfl)]; simp [SV.new]
  · unfold SV.made; simp only [beg_ops (show (SV.new room).power = 0 from rfl)]; simp [SV.new]
  · unfold SV.made; simp only [(beg_same _).2.2.2.1]; simp [SV.new]
  · unfold SV.made; simp only [(beg_same _).1]; simp [SV.new]
  · unfold SV.made; simp only [(beg_same _).2.2.2.2.1]; simp [SV.new]
theorem SM_used (a : Nat) (p : B) (room : Int) : used ((SV.new room).beg.made a p 1).nd ((SV.new room).beg.made a p 1).names = 0 ∧ (((SV.new room).beg.made a p 1).nd a).now.length = 0 ∧ ((SV.new room).beg.made a p 1).room = room := by
  unfold SV.made
  simp only [(beg_same _).1, (beg_same _).2.2.2.2.2.1]
  simp [SV.new, used, upd_same, newN]
theorem tl97 : (⟨#[97]⟩ : ByteArray).toList = [97] := ByteArray.toList_mk [97]
theorem tl979 : (⟨#[97, 47, 98]⟩ : ByteArray).toList = [97, 47, 98] := ByteArray.toList_mk [97, 47, 98]

theorem bin_one (w : World) (x : Int) : Bin (w.alloc (.cells #[.int .u8 x] 5 (1, 2))) (.slice (some ⟨w.heap.size, 0, none⟩) 1 1) [x] (some ⟨w.heap.size, 0, none⟩) 1 w.heap.size 0 :=
  ⟨rfl, fun _ => rfl, fun j u hu => by
    have : (w.alloc (.cells #[.int .u8 x] 5 (1, 2))).heap[w.heap.size]? = some (.cells #[.int .u8 x] 5 (1, 2)) := heap_alloc_last w _
    rw [Nat.zero_add]
    simp only [World.cell?, this]
    rw [← hu]; simp [bts]⟩
theorem ints_two (w : World) (x y : Int) : IntsIn (w.alloc (.cells #[.int .i64 x, .int .i64 y] 3)) (.slice (some ⟨w.heap.size, 0, none⟩) 2 2) [x, y] :=
  ⟨_, 2, w.heap.size, 0, rfl, by simp, fun _ => rfl, fun j hj => by
    rw [Nat.zero_add, (At.new w #[.int .i64 x, .int .i64 y] 3).cell]
    match j, hj with
    | 0, _ => rfl
    | 1, _ => rfl⟩
theorem SA_any (a : Nat) : ((SA a).nd a).loose.any id = true := by rw [SA_nd]; rfl
theorem SA_takes_ab (a : Nat) : takes (SA a).names (kinds (SA a)) [97, 47, 98] = 8 := by
  unfold takes
  rw [SA_names, look_other _ _ _ (by decide), pab, if_neg (by decide), look_one]
  simp [kinds, SA_nd]
theorem SA_takes_a (a : Nat) : takes (SA a).beg.names (kinds (SA a).beg) [97] = 6 := by
  unfold takes
  rw [(beg_same _).1, SA_names, look_one]
theorem SB_fit (a : Nat) : (SA a).beg.Fit := by
  have h := SA_fit a
  have b := beg_same (SA a)
  have hp := SA_power a
  refine ⟨by rw [beg_left hp]; exact h.left, ?_, by rw [b.2.2.2.1]; exact h.clock, by rw [b.1]; exact h.names, by rw [b.2.2.2.2.1]; exact h.acts⟩
  rw [beg_ops hp]
  have : (SA a).ops = 2 := by
    unfold SA SV.wrote
    simp only [beg_ops (SM_power a _ _)]
    unfold SV.made
    simp only [beg_ops (show (SV.new 100).power = 0 from rfl)]
    rfl
  omega
theorem S5_file (a' : Nat) (room clock : Int) (nd : Nat → NV) (N : NV) (hk : N.kind = 1) : (SV.left1 room clock [a'] (upd nd a' N) [([97], a')] [([97], a')]).file [97] = (some a', 0) := by
  unfold SV.file SV.left1
  simp only [look_one, upd_same, hk, if_true]
set_option maxRecDepth 100000 in
set_option maxHeartbeats 8000000 in
theorem awake_any (w : World) : Calls Tryz.prog 5 #[] w fun e w' => e = .returned (.bool true) ∧ Ext w w' := by
  have N0 := Lib.hid (fun w => new_ok 100 w (by omega) (by omega))
  have N1 := Lib.hid new_neg
  go_enter Tryz.func5, Tryz.ntmps5
  go_wp2_with fail
  refine (N0.out w).mono ?_
  rintro e w1 ⟨rfl, e1, V1, L1, r1, l1⟩
  have R1 := Lib.hid r1
  have E1 := Lib.hid e1
  have L1h := Lib.hid l1
  have hsz := r1.cell.lt
  obtain ⟨b, hb⟩ : ∃ b, b = w.heap.size := ⟨_, rfl⟩
  rw [← hb] at R1 ⊢
  clear r1 e1 l1 hb N0
  have CA := Lib.hid (create_of b ⟨#[97]⟩ 0 w1 (add_ok b (SV.new 100) V1 L1 ⟨#[97]⟩ 1 w1 R1.out (new_fit 100) (by rw [tl97]; exact begE_ok rfl _ va) (by rw [tl97]; exact new_takes 100 _ pa) rfl))
  simp only [tl97] at CA
  unfold ptr at *
  go_wp2_with (go_at_call 6; refine (N1.out _).mono ?_; rintro e w' ⟨rfl, rfl⟩)
  refine (CA.out).mono ?_
  rintro e w2 ⟨rfl, a, V2, L2, na, r2, t2⟩
  have O2 := Lib.hid (own_step E1.out L1h.out t2)
  have R2 := Lib.hid r2
  have WR := write_ok b ((SV.new 100).beg.made a [97] 1) V2 L2 ⟨#[97]⟩ 0 [120] _ _ _ _ _ a (w2.alloc (.cells #[.int .u8 120] 5 (1, 2))) (r2.ext (Ext.alloc _ _)) (SM_fit a _ _) (by rw [tl97]; exact begE_ok (SM_power a _ _) _ va) (by rw [tl97]; exact made_file a _ rfl) (bin_one w2 120) (none_new r2) (by simp) (by simp) (by rw [(SM_used a _ _).1, (SM_used a _ _).2.1, (SM_used a _ _).2.2]; decide)
  rw [show ((0 : Nat) : Int) = 0 from rfl] at WR
  have HWR := Lib.hid WR
  unfold ptr at HWR
  clear WR r2 t2 CA na R1 N1 hsz
  have cv := Lib.run_convert_bytes_const (P := Tryz.prog) w2 22 5 #[.int .u8 120] 1 1 Tryz.underlying22 Tryz.underlying5
  go_wp2_with fail
  refine (HWR.out).mono ?_
  rintro e w3 ⟨rfl, V3, L3, r3, t3⟩
  have O3 := Lib.hid (own_step (O2.out.1.trans (Ext.alloc w2 (.cells #[.int .u8 120] 5 (1, 2)))) O2.out.2 t3)
  have r3 : Rep w3 b (SA a) V3 L3 := r3
  have R3 := Lib.hid r3
  have CO := crash_one b (SA a) V3 L3 _ 1 0 [97] a (w3.alloc (.cells #[.int .i64 1, .int .i64 0] 3)) (r3.ext (Ext.alloc _ _)) (ints_two w3 1 0) (by rw [SA_ids]; simp) (by omega) (fun w' he => by
    have := held_one b (SA a) V3 L3 [97] a w' ((r3.ext (Ext.alloc _ _)).ext he) (SA_acts a) (by rw [SA_kept]; simp) (by rw [SA_kept]; rfl)
    rw [SA_kept] at this
    exact this) (SA_any a)
  have HCO := Lib.hid CO
  unfold ptr at HCO
  clear CO r3 t3 HWR O2 R2 cv
  go_wp2_with fail
  refine (HCO.out).mono ?_
  rintro e w5 ⟨b5, a5, V5, L5, rfl, e5, r5⟩
  have E5 := Lib.hid (O3.out.1.trans ((Ext.alloc w3 (.cells #[.int .i64 1, .int .i64 0] 3)).trans e5))
  have X5 := Lib.hid ((Ext.alloc w3 (.cells #[.int .i64 1, .int .i64 0] 3)).trans e5)
  have RD := read_ok b5 _ V5 L5 ⟨#[97]⟩ a5 w5 r5 (by simp [SV.left1]) (by rw [tl97]; exact S5_file _ _ _ _ _ (by rw [SA_nd]; rfl))
  have hnow : (((SA a).nd a).crash 0).now = [0] := by rw [SA_nd, crash_a]
  simp only [SV.left1, upd_same, hnow] at RD
  have HRD := Lib.hid RD
  unfold ptr at HRD
  clear RD r5 e5 HCO hnow
  go_wp2_with fail
  refine (HRD.out).mono ?_
  rintro e w6 ⟨v6, rfl, rv6, e6, f6⟩
  have rv6' : Row w6 5 1 v6 1 (bts [0]) := rv6
  obtain ⟨g6, c6, hv6, hc6, -⟩ := Row.own rv6' (by omega)
  subst hv6
  have cl6 : w6.cell? ⟨g6, 0, none⟩ = some (.int .u8 0) := by rw [(Row.cell rv6' 0 (by omega)).1]; rfl
  have R6 := Lib.hid (R3.out.ext (X5.out.trans e6))
  have E6 := Lib.hid (E5.out.trans e6)
  have CK := Lib.hid (clock_any b (SA a) V3 L3 w6 R6.out)
  rw [SA_clock] at CK
  have C8 := Lib.hid (create_of b ⟨#[97, 47, 98]⟩ 8 w6 (add_err b (SA a) V3 L3 ⟨#[97, 47, 98]⟩ 1 8 w6 R6.out (SA_fit a) (by rw [tl979]; exact begE_ok (SA_power a) _ vab) (by rw [tl979]; exact SA_takes_ab a) (by omega)))
  have C6 := Lib.hid (fun w7 (r : Rep w7 b (SA a).beg V3 L3) => create_of b ⟨#[97]⟩ 6 w7 (add_err b (SA a).beg V3 L3 ⟨#[97]⟩ 1 6 w7 r (SB_fit a) (by rw [tl97]; exact begE_ok (beg_power0 (SA_power a)) _ va) (by rw [tl97]; exact SA_takes_a a) (by omega)))
  unfold ptr at CK C8 C6
  clear rv6 rv6' e6 f6 HRD hc6
  go_wp2_with (first | (go_at_call 18; refine (CK.out).mono ?_; rintro e w' ⟨rfl, rfl⟩) | (go_at_call 8; first | (refine (C8.out).mono ?_; rintro e w7 ⟨rfl, r7, t7⟩; have O7 := Lib.hid (own_step E6.out O3.out.2 t7); have R7 := Lib.hid r7; clear r7 t7) | (refine (C6.out _ R7.out).mono ?_; rintro e w8 ⟨rfl, r8, t8⟩; have O8 := Lib.hid (own_step O7.out.1 O7.out.2 t8); clear r8 t8)))
  go_ret
  exact ⟨rfl, O8.out.1⟩
end Go.Proofs.YtbneedmfpldpfaaGreatDoor
