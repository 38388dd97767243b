/- Contract of Crash where one name is held. -/
import Derived.Test.YtbneedmfpldpfaaDoorSk
import Derived.Test.YtbneedmfpldpfaaDoorSj
set_option linter.unusedSimpArgs false
namespace Go.Proofs.YtbneedmfpldpfaaDoor
open Go.RowKit Go.Pth

theorem NV.Ok.crash {N : NV} (h : N.Ok) (pick : Int) (hb : ∀ y ∈ (crun N.now N.kept N.loose pick N.loose.length).1, 0 ≤ y ∧ y < 256) : (N.crash pick).Ok := by
  have hl := crun_len (pick := pick) h.kl h.ll N.loose.length (Nat.le_refl _)
  exact ⟨rfl, by simp only [NV.crash, List.length_replicate]; rw [hl.1]; exact h.ll, by simp only [NV.crash]; rw [hl.1]; exact h.len, hb, hb⟩
theorem crun_byt {N : NV} (h : N.Ok) (pick : Int) : ∀ k, ∀ y ∈ (crun N.now N.kept N.loose pick k).1, 0 ≤ y ∧ y < 256
  | 0 => h.bk
  | k + 1 => by
    rw [crun_succ]
    unfold cstep
    split
    · split
      · exact splice_byt (crun_byt h pick k) (fun y hy => h.bn y (List.mem_of_mem_drop (List.mem_of_mem_take hy))) _
      · exact crun_byt h pick k
    · exact crun_byt h pick k
theorem crash_ok {N : NV} (h : N.Ok) (pick : Int) : (N.crash pick).Ok := h.crash pick (crun_byt h pick _)
def SV.left1 (room clock : Int) (ids : List Nat) (nd : Nat → NV) (names kept : List Nm) : SV := ⟨room, clock, names, kept, [], 0, 0, 0, ids, nd⟩
theorem new_rep (w : World) (room clock : Int) : ∃ V L, Rep (w.alloc (.cells #[.int .i64 room, .int .u64 clock, .slice none 0 0, .slice none 0 0, .slice none 0 0, .int .i64 0, .int .i64 0, .int .i64 0] 68)) w.heap.size (SV.left1 room clock [] (fun _ => newN 0 0) [] []) V L ∧ (∀ i, L i ≠ none → w.heap.size ≤ i) ∧ V.n = .slice none 0 0 := by
  refine ⟨⟨.slice none 0 0, .slice none 0 0, .slice none 0 0, fun _ => nilV⟩, fun i => if i = w.heap.size then some .store else none, ?_, fun i hi => ?_, rfl⟩
  · refine ⟨At.new _ _ _, World.ownsRow_nil _ _ _ _, World.ownsRow_nil _ _ _ _, World.ownsRow_nil _ _ _ _, fun a ha => ?_, by simp, fun g hg => ?_, fun g hg => ?_, fun g hg => ?_, fun a ha => ?_, fun i hi => ?_, List.Pairwise.nil, List.Pairwise.nil, fun p hp => ?_, fun p hp => ?_⟩
    · cases ha
    · cases hg
    · cases hg
    · cases hg
    · cases ha
    · rw [size_alloc]
      by_cases e : i = w.heap.size
      · omega
      · simp [e] at hi
    · cases hp
    · cases hp
  · by_cases e : i = w.heap.size
    · omega
    · simp [e] at hi
/-- One name is taken into an empty store. -/
theorem took_rep {w w1 w2 w3 : World} {b a : Nat} {room clock : Int} {V : SW} {L : Nat → Option Role} {nd : Nat → NV} {p : B} {N : NV} {Vn : Vs} {v' : Value} (h : Rep w b (SV.left1 room clock [] nd [] []) V L) (he : Ext w w1) (hn : NdIn w1 a N Vn) (ok : N.Ok) (hf : ∀ i, Foot a Vn i → w.heap.size ≤ i) (he2 : Ext w1 w2)
    (hr : Row w3 64 2 v' 1 (ents [(p, a)])) (g : Grew w2 w3 V.n v') :
    ∃ V' L', Rep (w3.setCell ⟨b, 2, none⟩ v') b (SV.left1 room clock [a] (upd nd a N) [(p, a)] []) V' L' ∧ StTo w (w3.setCell ⟨b, 2, none⟩ v') L L' ∧ V'.n = v' := by
  obtain ⟨L1, r1, t1⟩ := h.more he a (hf a (Or.inl rfl)) N Vn hn ok hf
  have r2 := r1.ext he2
  have f := r2.setNames (l' := [(p, a)]) hr g (List.pairwise_singleton _ _) (fun x hx => by obtain rfl := List.mem_singleton.1 hx; exact List.mem_cons_self)
  exact ⟨_, _, f.1, (t1.trans (StTo.of_ext he2)).trans f.2, rfl⟩
set_option maxRecDepth 100000 in
set_option maxHeartbeats 8000000 in
theorem crash_one (b : Nat) (S : SV) (V : SW) (L : Nat → Option Role) (vp : Value) (x0 x1 : Int) (p : B) (a : Nat) (w : World) (h : Rep w b S V L) (hp : IntsIn w vp [x0, x1]) (ha : a ∈ S.ids) (hx : -9223372036854775808 ≤ x1 ∧ x1 ≤ 9223372036854775807)
    (hheld : ∀ w', Ext w w' → Calls Tryd.prog 35 #[ptr b, .int .i64 x0] w' fun e w'' => ∃ v, e = .returned v ∧ Tr w'' v [(p, a)] ∧ Ext w' w'') (hany : (S.nd a).loose.any id = true) :
    Calls Tryd.prog 17 #[ptr b, vp] w fun e w' => ∃ b' a' V' L', e = .returned (ptr b') ∧ Ext w w' ∧ Rep w' b' (SV.left1 S.room S.clock [a'] (upd (fun _ => newN 0 0) a' ((S.nd a).crash x1)) [(p, a')] [(p, a')]) V' L' := by
  have c0 := Lib.hid (show w.cell? ⟨b, 0, none⟩ = some (.int .i64 S.room) by rw [h.c 0]; rfl)
  have c1 := Lib.hid (show w.cell? ⟨b, 1, none⟩ = some (.int .u64 S.clock) by rw [h.c 1]; rfl)
  have ND := Lib.hid (h.nd a ha)
  obtain ⟨W1, hW1⟩ : ∃ W1, W1 = w.drew.alloc (.cells #[.int .i64 S.room, .int .u64 S.clock, .slice none 0 0, .slice none 0 0, .slice none 0 0, .int .i64 0, .int .i64 0, .int .i64 0] 68) := ⟨_, rfl⟩
  have NR := new_rep w.drew S.room S.clock
  rw [← hW1] at NR
  have E1 : Ext w W1 := by rw [hW1]; exact (Ext.drew w).trans (Ext.alloc _ _)
  obtain ⟨V1, L1, R1, hL1, hVn1⟩ := NR
  have hsz : w.drew.heap.size = w.heap.size := rfl
  rw [hsz] at R1 hL1
  have HR1 := Lib.hid R1
  have HW1 := Lib.hid hW1
  have HE1 := Lib.hid E1
  have HP := Lib.hid hp
  have HH := Lib.hid hheld
  have HN1 := Lib.hid (next_any vp [x0, x1] W1 (hp.ext E1))
  clear h hW1 R1 E1 hp hheld ha hsz hL1
  obtain ⟨adp, kp, bp, op_, hins⟩ := HP.out
  have hvp := hins.val
  clear hins
  subst hvp
  generalize S.room = rm at *
  generalize S.clock = ck at *
  unfold ptr at *
  go_enter Tryd.func17, Tryd.ntmps17
  go_upto_region 3 with fail
  have hS : Ext w w.drew := Ext.drew w
  have d0 := c0.out
  have d1 := c1.out
  refine wp_region_held (S := fun w' => Ext w w') (by kernel_rfl) ?_
  change wpAnyH _ _ _ _ _ _ _ _ (World.drew _)
  refine takeS 0 (some 11) (.pointer (some ⟨b, 0, none⟩)) rfl rfl (by kernel_rfl) (by kernel_rfl) (by kernel_rfl) (fun _ _ _ h => h) rfl hS (fun w' hw' => by go_simp) ?_
  simp only [Act.put, List.setIfInBounds_toArray, List.set_cons_zero, List.set_cons_succ]
  refine takeS 1 (some 12) (.pointer (some ⟨b, 0, none⟩)) rfl rfl (by kernel_rfl) (by kernel_rfl) (by kernel_rfl) (fun _ _ _ h => h) rfl hS (fun w' hw' => by go_simp) ?_
  simp only [Act.put, List.setIfInBounds_toArray, List.set_cons_zero, List.set_cons_succ]
  refine takeS 2 (some 13) (.pointer (some ⟨b, 0, none⟩)) rfl rfl (by kernel_rfl) (by kernel_rfl) (by kernel_rfl) (fun _ _ _ h => h) rfl hS (fun w' hw' => by go_simp) ?_
  simp only [Act.put, List.setIfInBounds_toArray, List.set_cons_zero, List.set_cons_succ]
  refine takeS 3 (some 14) (.int .i64 rm) rfl rfl (by kernel_rfl) (by kernel_rfl) (by kernel_rfl) (fun _ _ _ h => h) rfl hS (fun w' hw' => by have := hw'.cell d0; go_simp) ?_
  simp only [Act.put, List.setIfInBounds_toArray, List.set_cons_zero, List.set_cons_succ]
  refine takeS 4 (some 15) (.pointer (some ⟨b, 0, none⟩)) rfl rfl (by kernel_rfl) (by kernel_rfl) (by kernel_rfl) (fun _ _ _ h => h) rfl hS (fun w' hw' => by go_simp) ?_
  simp only [Act.put, List.setIfInBounds_toArray, List.set_cons_zero, List.set_cons_succ]
  refine takeS 5 (some 16) (.pointer (some ⟨b, 0, none⟩)) rfl rfl (by kernel_rfl) (by kernel_rfl) (by kernel_rfl) (fun _ _ _ h => h) rfl hS (fun w' hw' => by go_simp) ?_
  simp only [Act.put, List.setIfInBounds_toArray, List.set_cons_zero, List.set_cons_succ]
  refine takeS 6 (some 17) (.pointer (some ⟨b, 1, none⟩)) rfl rfl (by kernel_rfl) (by kernel_rfl) (by kernel_rfl) (fun _ _ _ h => h) rfl hS (fun w' hw' => by go_simp) ?_
  simp only [Act.put, List.setIfInBounds_toArray, List.set_cons_zero, List.set_cons_succ]
  refine takeS 7 (some 18) (.int .u64 ck) rfl rfl (by kernel_rfl) (by kernel_rfl) (by kernel_rfl) (fun _ _ _ h => h) rfl hS (fun w' hw' => by have := hw'.cell d1; go_simp) ?_
  simp only [Act.put, List.setIfInBounds_toArray, List.set_cons_zero, List.set_cons_succ]
  refine takeS 8 (some 19) (.agg #[.int .i64 rm, .int .u64 ck, .slice none 0 0, .slice none 0 0, .slice none 0 0, .int .i64 0, .int .i64 0, .int .i64 0]) rfl rfl (by kernel_rfl) (by kernel_rfl) (by kernel_rfl) (fun _ _ _ h => h) rfl hS (fun w' hw' => by go_simp) ?_
  simp only [Act.put, List.setIfInBounds_toArray, List.set_cons_zero, List.set_cons_succ]
  refine nextS 9 rfl (by kernel_rfl) rfl ?_
  refine runV (some 20) rfl (.pointer (some ⟨w.heap.size, 0, none⟩)) W1 (by have h1 := HW1.out; go_simp) ?_
  refine ⟨HE1.out, ?_⟩
  simp only [Act.put, List.setIfInBounds_toArray, List.set_cons_zero, List.set_cons_succ]
  refine takeS 10 (some 5) (.pointer (some ⟨w.heap.size, 0, none⟩)) rfl rfl (by kernel_rfl) (by kernel_rfl) (by kernel_rfl) (fun _ _ _ h => h) rfl HE1.out (fun w' hw' => by go_simp) ?_
  simp only [Act.put, List.setIfInBounds_toArray, List.set_cons_zero, List.set_cons_succ]
  refine wpAnyH_done (by kernel_rfl) ?_ _
  clear hS d0 d1 c0 c1
  go_wp2_with fail
  refine (HN1.out).mono ?_
  rintro e w2 ⟨vq, rfl, iq, e2⟩
  obtain ⟨adq, kq, bq, oq, hinq⟩ := iq
  have hvq := hinq.val
  have HQ := Lib.hid (⟨_, _, _, _, hinq⟩ : IntsIn w2 vq [x1])
  subst hvq
  have HE2 := Lib.hid (HE1.out.trans e2)
  have R2 := Lib.hid (HR1.out.ext e2)
  simp only [List.headD_cons]
  clear hinq e2 HN1 HR1
  go_wp2_with fail
  refine (HH.out _ HE2.out).mono ?_
  rintro e w3 ⟨vh, rfl, th, e3⟩
  obtain ⟨dh, kh, bh, oh, th⟩ := th
  have hvh := th.val
  have hadh := th.adr (by simp)
  have TH := Lib.hid th
  subst hadh hvh
  have HE3 := Lib.hid (HE2.out.trans e3)
  have R3 := Lib.hid (R2.out.ext e3)
  have Q3 := Lib.hid (IntsIn.ext HQ.out e3)
  clear th e3 R2 HQ HH
  have hE0 := Lib.hid (show Ext w w3 from HE3.out)
  go_wp2
  go_loopw [1, 6, 30] (fun s1 s6 s30 wr => (s30 = .int .i64 0 ∧ s1 = .slice adq 1 kq ∧ w3 = wr) ∨ (s30 = .int .i64 1 ∧ ∃ a' V' L', Ext w wr ∧ Rep wr w.heap.size (SV.left1 rm ck [a'] (upd (fun _ => newN 0 0) a' ((S.nd a).crash x1)) [(p, a')] []) V' L')) (fun _ _ s30 _ => 1 - (intOf s30).toNat)
  case atStart => exact Or.inl ⟨rfl, rfl, rfl⟩
  case round =>
    rcases hrel with ⟨rfl, rfl, rfl⟩ | ⟨rfl, a', V', L', hE9, hR9⟩
    · have n0 := TH.out.nm 0 (by simp)
      have n1 := TH.out.nd 0 (by simp)
      simp only [Nat.zero_mul, Nat.add_zero, List.getElem_cons_zero] at n0 n1
      unfold ptr at n1
      obtain ⟨W4, hW4⟩ : ∃ W4, W4 = w3.alloc (.cells #[.string (tx p), .pointer (some ⟨a, 0, none⟩)] 64) := ⟨_, rfl⟩
      have e4 : Ext w3 W4 := by rw [hW4]; exact Ext.alloc _ _
      have hat4 : At W4 w3.heap.size #[.string (tx p), .pointer (some ⟨a, 0, none⟩)] 64 := by rw [hW4]; exact At.new _ _ _
      have nd4 := ND.out.1.ext (HE3.out.trans e4)
      have R4 := Lib.hid (R3.out.ext e4)
      have c5 : W4.cell? ⟨a, 5, none⟩ = some (V.nv a).l := by rw [nd4.c 5]; rfl
      rw [hW4] at c5
      have CN := Lib.hid (contains_any (V.nv a).l (S.nd a).loose W4 nd4.l (by rw [ND.out.2.ll]; have := ND.out.2.len; unfold secs; omega))
      rw [hany] at CN
      have NX := Lib.hid (next_any (.slice adq 1 kq) [x1] W4 (IntsIn.ext Q3.out e4))
      have HW4 := Lib.hid hW4
      have N4 := Lib.hid nd4
      have HE4 := Lib.hid (HE3.out.trans e4)
      have X0 := Lib.hid (show W4.cell? ⟨w3.heap.size, 0, none⟩ = some (.string (tx p)) by rw [hat4.cell]; rfl)
      have X1 := Lib.hid (show W4.cell? ⟨w3.heap.size, 1, none⟩ = some (.pointer (some ⟨a, 0, none⟩)) by rw [hat4.cell]; rfl)
      clear hat4 e4 nd4 hW4 hany
      go_wp2_with fail
      rw [← HW4.out]
      refine (CN.out).mono ?_
      rintro e w' ⟨rfl, rfl⟩
      clear c5
      go_wp2_with fail
      refine (NX.out).mono ?_
      rintro e w5 ⟨vr, rfl, _, e5⟩
      simp only [List.headD_cons]
      have N5 := Lib.hid (N4.out.ext e5)
      have HE5 := Lib.hid (HE4.out.trans e5)
      have R5 := Lib.hid (R4.out.ext e5)
      have y0 := e5.cell X0.out
      have y1 := e5.cell X1.out
      have CR := Lib.hid (crashed_any a (S.nd a) (V.nv a) x1)
      have yb : w5.cell? ⟨w.heap.size, 2, none⟩ = some (.slice none 0 0) := by rw [R5.out.c 2]; simp only [scells]; rw [hVn1]; rfl
      have hbe : w.heap.size < w3.heap.size := R3.out.cell.lt
      clear X0 X1 N4 R4 R3 NX CN n0 n1 e5
      generalize w3.heap.size = be at *
      obtain ⟨gg, hg⟩ : ∃ gg, gg = w.heap.size := ⟨_, rfl⟩
      have HG := Lib.hid hg
      rw [← hg] at R5 yb hbe
      clear hg
      go_upto_region 11 with fail
      rw [← HG.out]
      have hS : w5.drew.cell? ⟨be, 0, none⟩ = some (.string (tx p)) ∧ w5.drew.cell? ⟨be, 1, none⟩ = some (.pointer (some ⟨a, 0, none⟩)) := ⟨y0, y1⟩
      have yb2 : w5.drew.cell? ⟨gg, 2, none⟩ = some (.slice none 0 0) := yb
      have N6 := Lib.hid (N5.out.ext (Ext.drew w5))
      have R6 := Lib.hid (R5.out.ext (Ext.drew w5))
      have CR2 := Lib.hid (CR.out w5.drew N6.out ND.out.2 hx)
      obtain ⟨ti, ti1, ti2, ti3, ti4⟩ := info_of info64
      have TI := Lib.hid (⟨ti1, ti2, ti3, ti4⟩ : _ ∧ _ ∧ _ ∧ _)
      have FN := Lib.hid (fun (a' : Nat) (V9 : Vs) (w6 : World) (n6 : NdIn w6 a' ((S.nd a).crash x1) V9) (e6 : Ext w5.drew w6) (f6 : ∀ i, Foot a' V9 i → w5.heap.size ≤ i) => by
        have hat7 : At (w6.alloc (.cells #[.string (tx p), .pointer (some ⟨a', 0, none⟩)] 64)) w6.heap.size #[.string (tx p), .pointer (some ⟨a', 0, none⟩)] 64 := At.new _ _ _
        obtain ⟨v8, W8, hrun, hrow, hg8⟩ := run_append_row (P := Tryd.prog) (w6.alloc (.cells #[.string (tx p), .pointer (some ⟨a', 0, none⟩)] 64)) 60 60 60 64 ti _ Tryd.underlying60 ti1 ti2 (by rw [ti3]; rfl) (.slice none 0 0) 0 [] (World.ownsRow_nil _ _ _ _) (.slice (some ⟨w6.heap.size, 0, none⟩) 1 1) 1 (ents [(p, a')]) (by
          rw [ti3]
          refine Src.ofSlice _ Tryd.underlying60 ⟨w6.heap.size, 0, none⟩ 1 1 _ rfl (fun q u hu => ?_) (ents_one _)
          rw [Addr.add_lit, Nat.zero_add, hat7.cell, ← hu]; simp [ents, ptr]) (by simp only [maxLen]; omega) (by rw [ti4]; omega)
        rw [ti3, Nat.zero_add, List.nil_append] at hrow
        obtain ⟨d8, k8, hv8, -⟩ := hrow.shape
        subst hv8
        have fr := Row.fresh hg8
        obtain ⟨V', L', r9, t9, _⟩ := took_rep (v' := .slice d8 1 k8) R6.out e6 n6 (crash_ok ND.out.2 x1) f6 (Ext.alloc w6 (.cells #[.string (tx p), .pointer (some ⟨a', 0, none⟩)] 64)) hrow (by rw [hVn1]; exact hg8)
        have e8 : Ext w W8 := ((HE5.out.trans (Ext.drew w5)).trans e6).trans ((Ext.alloc _ _).trans fr.1)
        have hgl : w.heap.size ≤ gg := by rw [HG.out]; exact Nat.le_refl _
        have ef : Ext w (W8.setCell ⟨gg, 2, none⟩ (.slice d8 1 k8)) := ((Chg.of_ext (X := fun _ => False) e8).trans (Chg.setCell W8 gg 2 _) (fun i hi e => by omega)).ext
        have at8 := (R6.out.cell.ext (e6.trans ((Ext.alloc _ _).trans fr.1)))
        exact (⟨d8, k8, W8, hrun, ((Ext.alloc _ _).trans fr.1), ef, ⟨V', L', r9⟩, at8.cell 2, at8.frozen 2⟩ : ∃ d8 k8 W8, (Builtin.append_ #[60, 60] 60 #[.slice none 0 0, .slice (some ⟨w6.heap.size, 0, none⟩) 1 1]).run Tryd.prog (w6.alloc (.cells #[.string (tx p), .pointer (some ⟨a', 0, none⟩)] 64)) = .ok (.slice d8 1 k8) W8 ∧ Ext w6 W8 ∧ Ext w (W8.setCell ⟨gg, 2, none⟩ (.slice d8 1 k8)) ∧ (∃ V' L', Rep (W8.setCell ⟨gg, 2, none⟩ (.slice d8 1 k8)) gg (SV.left1 rm ck [a'] (upd (fun _ => newN 0 0) a' ((S.nd a).crash x1)) [(p, a')] []) V' L') ∧ W8.cell? ⟨gg, 2, none⟩ = (scells (SV.left1 rm ck [] (fun _ => newN 0 0) [] []) V1)[2]? ∧ W8.frozen? ⟨gg, 2, none⟩ = false))
      clear CR N5 N6 R5 ti1 ti2 ti3 ti4 yb y0 y1
      refine wp_region_held (S := fun w' => w'.cell? ⟨be, 0, none⟩ = some (.string (tx p)) ∧ w'.cell? ⟨be, 1, none⟩ = some (.pointer (some ⟨a, 0, none⟩))) (by kernel_rfl) ?_
      change wpAnyH _ _ _ _ _ _ _ _ (World.drew _)
      refine takeS 0 (some 45) (.pointer (some ⟨gg, 0, none⟩)) rfl rfl (by kernel_rfl) (by kernel_rfl) (by kernel_rfl) (fun _ _ _ h => h) rfl hS (fun w' hw' => by go_simp) ?_
      simp only [Act.put, List.setIfInBounds_toArray, List.set_cons_zero, List.set_cons_succ]
      refine takeS 1 (some 46) (.pointer (some ⟨gg, 0, none⟩)) rfl rfl (by kernel_rfl) (by kernel_rfl) (by kernel_rfl) (fun _ _ _ h => h) rfl hS (fun w' hw' => by go_simp) ?_
      simp only [Act.put, List.setIfInBounds_toArray, List.set_cons_zero, List.set_cons_succ]
      refine takeS 2 (some 47) (.pointer (some ⟨gg, 0, none⟩)) rfl rfl (by kernel_rfl) (by kernel_rfl) (by kernel_rfl) (fun _ _ _ h => h) rfl hS (fun w' hw' => by go_simp) ?_
      simp only [Act.put, List.setIfInBounds_toArray, List.set_cons_zero, List.set_cons_succ]
      refine takeS 3 (some 48) (.pointer (some ⟨gg, 2, none⟩)) rfl rfl (by kernel_rfl) (by kernel_rfl) (by kernel_rfl) (fun _ _ _ h => h) rfl hS (fun w' hw' => by go_simp) ?_
      simp only [Act.put, List.setIfInBounds_toArray, List.set_cons_zero, List.set_cons_succ]
      refine takeS 5 (some 50) (.pointer (some ⟨be, 0, none⟩)) rfl rfl (by kernel_rfl) (by kernel_rfl) (by kernel_rfl) (fun _ _ _ h => h) rfl hS (fun w' hw' => by go_simp) ?_
      simp only [Act.put, List.setIfInBounds_toArray, List.set_cons_zero, List.set_cons_succ]
      refine takeS 6 (some 51) (.string (tx p)) rfl rfl (by kernel_rfl) (by kernel_rfl) (by kernel_rfl) (fun _ _ _ h => h) rfl hS (fun w' hw' => by have := hw'.1; go_simp) ?_
      simp only [Act.put, List.setIfInBounds_toArray, List.set_cons_zero, List.set_cons_succ]
      refine takeS 7 (some 52) (.pointer (some ⟨be, 1, none⟩)) rfl rfl (by kernel_rfl) (by kernel_rfl) (by kernel_rfl) (fun _ _ _ h => h) rfl hS (fun w' hw' => by go_simp) ?_
      simp only [Act.put, List.setIfInBounds_toArray, List.set_cons_zero, List.set_cons_succ]
      refine takeS 8 (some 53) (.pointer (some ⟨a, 0, none⟩)) rfl rfl (by kernel_rfl) (by kernel_rfl) (by kernel_rfl) (fun _ _ _ h => h) rfl hS (fun w' hw' => by have := hw'.2; go_simp) ?_
      simp only [Act.put, List.setIfInBounds_toArray, List.set_cons_zero, List.set_cons_succ]
      refine takeS 9 (some 54) (.int .i64 x1) rfl rfl (by kernel_rfl) (by kernel_rfl) (by kernel_rfl) (fun _ _ _ h => h) rfl hS (fun w' hw' => by go_simp) ?_
      simp only [Act.put, List.setIfInBounds_toArray, List.set_cons_zero, List.set_cons_succ]
      refine nextS2 4 10 rfl rfl (by kernel_rfl) rfl rfl ?_ ?_
      · skip
        refine runL (some 49) rfl (.slice none 0 0) (by have := yb2; go_simp) ?_
        refine ⟨hS, ?_⟩
        simp only [Act.put, List.setIfInBounds_toArray, List.set_cons_zero, List.set_cons_succ]
        refine nextS 10 rfl (by kernel_rfl) rfl ?_
        refine callS (some 55) rfl 37 #[.pointer (some ⟨a, 0, none⟩), .int .i64 x1] (by go_simp) (fun v w' => ∃ a' V9, v = .pointer (some ⟨a', 0, none⟩) ∧ NdIn w' a' ((S.nd a).crash x1) V9 ∧ Ext w5.drew w' ∧ ∀ i, Foot a' V9 i → w5.heap.size ≤ i) ((CR2.out).mono fun e w' ⟨a', V9, h1, h2, h3, h4⟩ => ⟨_, h1, a', V9, rfl, h2, h3, h4⟩) ?_
        rintro v6 w6 ⟨a', V9, rfl, n6, e6, f6⟩
        have hS6 := And.intro (e6.cell hS.1) (e6.cell hS.2)
        have yb6 := e6.cell yb2
        obtain ⟨d8, k8, W8, hrun, e68, hfE, hfR, c8, f8⟩ := FN.out a' V9 w6 n6 e6 f6
        refine ⟨hS6, ?_⟩
        simp only [Act.put, List.setIfInBounds_toArray, List.set_cons_zero, List.set_cons_succ]
        refine takeS 11 (some 56) (.agg #[.string (tx p), .pointer (some ⟨a', 0, none⟩)]) rfl rfl (by kernel_rfl) (by kernel_rfl) (by kernel_rfl) (fun _ _ _ h => h) rfl hS6 (fun w' hw' => by go_simp) ?_
        simp only [Act.put, List.setIfInBounds_toArray, List.set_cons_zero, List.set_cons_succ]
        refine nextS 12 rfl (by kernel_rfl) rfl ?_
        have e7 := Ext.alloc w6 (.cells #[.string (tx p), .pointer (some ⟨a', 0, none⟩)] 64)
        refine runV (some 57) rfl (.slice (some ⟨w6.heap.size, 0, none⟩) 1 1) (w6.alloc (.cells #[.string (tx p), .pointer (some ⟨a', 0, none⟩)] 64)) (by go_simp) ?_
        have hS7 := And.intro (e7.cell hS6.1) (e7.cell hS6.2)
        have yb7 := e7.cell yb6
        refine ⟨hS7, ?_⟩
        simp only [Act.put, List.setIfInBounds_toArray, List.set_cons_zero, List.set_cons_succ]
        refine nextS 13 rfl (by kernel_rfl) rfl ?_
        refine Lib.wp_append_run _ (.tmp 49) (.tmp 57) 60 60 rfl (.slice none 0 0) (.slice (some ⟨w6.heap.size, 0, none⟩) 1 1) rfl rfl _ _ hrun ?_
        have hS8 := And.intro (e68.cell hS6.1) (e68.cell hS6.2)
        refine ⟨hS8, ?_⟩
        simp only [Act.put, List.setIfInBounds_toArray, List.set_cons_zero, List.set_cons_succ]
        refine takeS 14 (some 59) (.pointer (some ⟨gg, 0, none⟩)) rfl rfl (by kernel_rfl) (by kernel_rfl) (by kernel_rfl) (fun _ _ _ h => h) rfl hS8 (fun w' hw' => by go_simp) ?_
        simp only [Act.put, List.setIfInBounds_toArray, List.set_cons_zero, List.set_cons_succ]
        refine takeS 15 (some 60) (.pointer (some ⟨gg, 2, none⟩)) rfl rfl (by kernel_rfl) (by kernel_rfl) (by kernel_rfl) (fun _ _ _ h => h) rfl hS8 (fun w' hw' => by go_simp) ?_
        simp only [Act.put, List.setIfInBounds_toArray, List.set_cons_zero, List.set_cons_succ]
        simp only [scells] at c8
        refine nextS 16 rfl (by kernel_rfl) rfl ?_
        refine runN rfl (W8.setCell ⟨gg, 2, none⟩ (.slice d8 1 k8)) (by go_simp) ?_
        have hcg := Chg.setCell W8 gg 2 (.slice d8 1 k8)
        refine ⟨⟨hcg.cell hS8.1 (fun e => by simp at e; omega), hcg.cell hS8.2 (fun e => by simp at e; omega)⟩, ?_⟩
        refine wpAnyH_done (by kernel_rfl) ?_ _
        obtain ⟨V', L', hR⟩ := hfR
        have HF1 := Lib.hid hfE
        have HF2 := Lib.hid hR
        clear hfE hR c8 f8 e68 hrun hcg hS8 n6 e6 f6
        go_wp2
        exact ⟨⟨_, _, _, _, Or.inr ⟨rfl, HF1.out, a', V', L', by rw [← HG.out]; exact HF2.out⟩, rfl, HG.out, rfl, rfl, HG.out, rfl⟩, by simp [intOf]⟩
      · skip
        refine callS (some 55) rfl 37 #[.pointer (some ⟨a, 0, none⟩), .int .i64 x1] (by go_simp) (fun v w' => ∃ a' V9, v = .pointer (some ⟨a', 0, none⟩) ∧ NdIn w' a' ((S.nd a).crash x1) V9 ∧ Ext w5.drew w' ∧ ∀ i, Foot a' V9 i → w5.heap.size ≤ i) ((CR2.out).mono fun e w' ⟨a', V9, h1, h2, h3, h4⟩ => ⟨_, h1, a', V9, rfl, h2, h3, h4⟩) ?_
        rintro v6 w6 ⟨a', V9, rfl, n6, e6, f6⟩
        have hS6 := And.intro (e6.cell hS.1) (e6.cell hS.2)
        have yb6 := e6.cell yb2
        obtain ⟨d8, k8, W8, hrun, e68, hfE, hfR, c8, f8⟩ := FN.out a' V9 w6 n6 e6 f6
        refine ⟨hS6, ?_⟩
        simp only [Act.put, List.setIfInBounds_toArray, List.set_cons_zero, List.set_cons_succ]
        refine takeS 11 (some 56) (.agg #[.string (tx p), .pointer (some ⟨a', 0, none⟩)]) rfl rfl (by kernel_rfl) (by kernel_rfl) (by kernel_rfl) (fun _ _ _ h => h) rfl hS6 (fun w' hw' => by go_simp) ?_
        simp only [Act.put, List.setIfInBounds_toArray, List.set_cons_zero, List.set_cons_succ]
        refine nextS2 4 12 rfl rfl (by kernel_rfl) rfl rfl ?_ ?_
        · skip
          refine runL (some 49) rfl (.slice none 0 0) (by have := yb6; go_simp) ?_
          refine ⟨hS6, ?_⟩
          simp only [Act.put, List.setIfInBounds_toArray, List.set_cons_zero, List.set_cons_succ]
          refine nextS 12 rfl (by kernel_rfl) rfl ?_
          have e7 := Ext.alloc w6 (.cells #[.string (tx p), .pointer (some ⟨a', 0, none⟩)] 64)
          refine runV (some 57) rfl (.slice (some ⟨w6.heap.size, 0, none⟩) 1 1) (w6.alloc (.cells #[.string (tx p), .pointer (some ⟨a', 0, none⟩)] 64)) (by go_simp) ?_
          have hS7 := And.intro (e7.cell hS6.1) (e7.cell hS6.2)
          have yb7 := e7.cell yb6
          refine ⟨hS7, ?_⟩
          simp only [Act.put, List.setIfInBounds_toArray, List.set_cons_zero, List.set_cons_succ]
          refine nextS 13 rfl (by kernel_rfl) rfl ?_
          refine Lib.wp_append_run _ (.tmp 49) (.tmp 57) 60 60 rfl (.slice none 0 0) (.slice (some ⟨w6.heap.size, 0, none⟩) 1 1) rfl rfl _ _ hrun ?_
          have hS8 := And.intro (e68.cell hS6.1) (e68.cell hS6.2)
          refine ⟨hS8, ?_⟩
          simp only [Act.put, List.setIfInBounds_toArray, List.set_cons_zero, List.set_cons_succ]
          refine takeS 14 (some 59) (.pointer (some ⟨gg, 0, none⟩)) rfl rfl (by kernel_rfl) (by kernel_rfl) (by kernel_rfl) (fun _ _ _ h => h) rfl hS8 (fun w' hw' => by go_simp) ?_
          simp only [Act.put, List.setIfInBounds_toArray, List.set_cons_zero, List.set_cons_succ]
          refine takeS 15 (some 60) (.pointer (some ⟨gg, 2, none⟩)) rfl rfl (by kernel_rfl) (by kernel_rfl) (by kernel_rfl) (fun _ _ _ h => h) rfl hS8 (fun w' hw' => by go_simp) ?_
          simp only [Act.put, List.setIfInBounds_toArray, List.set_cons_zero, List.set_cons_succ]
          simp only [scells] at c8
          refine nextS 16 rfl (by kernel_rfl) rfl ?_
          refine runN rfl (W8.setCell ⟨gg, 2, none⟩ (.slice d8 1 k8)) (by go_simp) ?_
          have hcg := Chg.setCell W8 gg 2 (.slice d8 1 k8)
          refine ⟨⟨hcg.cell hS8.1 (fun e => by simp at e; omega), hcg.cell hS8.2 (fun e => by simp at e; omega)⟩, ?_⟩
          refine wpAnyH_done (by kernel_rfl) ?_ _
          obtain ⟨V', L', hR⟩ := hfR
          have HF1 := Lib.hid hfE
          have HF2 := Lib.hid hR
          clear hfE hR c8 f8 e68 hrun hcg hS8 n6 e6 f6
          go_wp2
          exact ⟨⟨_, _, _, _, Or.inr ⟨rfl, HF1.out, a', V', L', by rw [← HG.out]; exact HF2.out⟩, rfl, HG.out, rfl, rfl, HG.out, rfl⟩, by simp [intOf]⟩
        · skip
          have e7 := Ext.alloc w6 (.cells #[.string (tx p), .pointer (some ⟨a', 0, none⟩)] 64)
          refine runV (some 57) rfl (.slice (some ⟨w6.heap.size, 0, none⟩) 1 1) (w6.alloc (.cells #[.string (tx p), .pointer (some ⟨a', 0, none⟩)] 64)) (by go_simp) ?_
          have hS7 := And.intro (e7.cell hS6.1) (e7.cell hS6.2)
          have yb7 := e7.cell yb6
          refine ⟨hS7, ?_⟩
          simp only [Act.put, List.setIfInBounds_toArray, List.set_cons_zero, List.set_cons_succ]
          refine nextS 4 rfl (by kernel_rfl) rfl ?_
          refine runL (some 49) rfl (.slice none 0 0) (by have := yb7; go_simp) ?_
          refine ⟨hS7, ?_⟩
          simp only [Act.put, List.setIfInBounds_toArray, List.set_cons_zero, List.set_cons_succ]
          refine nextS 13 rfl (by kernel_rfl) rfl ?_
          refine Lib.wp_append_run _ (.tmp 49) (.tmp 57) 60 60 rfl (.slice none 0 0) (.slice (some ⟨w6.heap.size, 0, none⟩) 1 1) rfl rfl _ _ hrun ?_
          have hS8 := And.intro (e68.cell hS6.1) (e68.cell hS6.2)
          refine ⟨hS8, ?_⟩
          simp only [Act.put, List.setIfInBounds_toArray, List.set_cons_zero, List.set_cons_succ]
          refine takeS 14 (some 59) (.pointer (some ⟨gg, 0, none⟩)) rfl rfl (by kernel_rfl) (by kernel_rfl) (by kernel_rfl) (fun _ _ _ h => h) rfl hS8 (fun w' hw' => by go_simp) ?_
          simp only [Act.put, List.setIfInBounds_toArray, List.set_cons_zero, List.set_cons_succ]
          refine takeS 15 (some 60) (.pointer (some ⟨gg, 2, none⟩)) rfl rfl (by kernel_rfl) (by kernel_rfl) (by kernel_rfl) (fun _ _ _ h => h) rfl hS8 (fun w' hw' => by go_simp) ?_
          simp only [Act.put, List.setIfInBounds_toArray, List.set_cons_zero, List.set_cons_succ]
          simp only [scells] at c8
          refine nextS 16 rfl (by kernel_rfl) rfl ?_
          refine runN rfl (W8.setCell ⟨gg, 2, none⟩ (.slice d8 1 k8)) (by go_simp) ?_
          have hcg := Chg.setCell W8 gg 2 (.slice d8 1 k8)
          refine ⟨⟨hcg.cell hS8.1 (fun e => by simp at e; omega), hcg.cell hS8.2 (fun e => by simp at e; omega)⟩, ?_⟩
          refine wpAnyH_done (by kernel_rfl) ?_ _
          obtain ⟨V', L', hR⟩ := hfR
          have HF1 := Lib.hid hfE
          have HF2 := Lib.hid hR
          clear hfE hR c8 f8 e68 hrun hcg hS8 n6 e6 f6
          go_wp2
          exact ⟨⟨_, _, _, _, Or.inr ⟨rfl, HF1.out, a', V', L', by rw [← HG.out]; exact HF2.out⟩, rfl, HG.out, rfl, rfl, HG.out, rfl⟩, by simp [intOf]⟩
    · have E9 := Lib.hid hE9
      have R9 := Lib.hid hR9
      have CT := Lib.hid (clonet_any V'.n [(p, a')] wr hR9.nm (by simp))
      obtain ⟨gg, hg⟩ : ∃ gg, gg = w.heap.size := ⟨_, rfl⟩
      have HG := Lib.hid hg
      rw [← hg] at R9
      have c2 := R9.out.c 2
      simp only [scells] at c2
      have c2b : wr.cell? ⟨w.heap.size, 2, none⟩ = some V'.n := by rw [← hg, c2]; rfl
      clear hE9 hR9 hg c2
      go_wp2_with fail
      refine (CT.out).mono ?_
      rintro e w9 ⟨v9, rfl, r9, e9, f9⟩
      have own9 : ∃ g c, v9 = .slice (some ⟨g, 0, none⟩) 1 c := by
        rcases r9.2 with ⟨_, h0⟩ | ⟨g, c, cur, hv, _⟩
        · cases h0
        · exact ⟨g, c, hv⟩
      obtain ⟨g9, c9, hv9⟩ := own9
      subst hv9
      have ST := R9.out.setKept (w1 := w9) (v' := .slice (some ⟨g9, 0, none⟩) 1 c9) (l' := [(p, a')]) r9 ⟨Chg.of_ext e9, Or.inr ⟨g9, rfl, f9 g9 rfl⟩⟩ (List.pairwise_singleton _ _) (fun x hx => by obtain rfl := List.mem_singleton.1 hx; exact List.mem_cons_self)
      have hgl : w.heap.size ≤ gg := by rw [HG.out]; exact Nat.le_refl _
      have EF := Lib.hid (show Ext w (w9.setCell ⟨gg, 3, none⟩ (.slice (some ⟨g9, 0, none⟩) 1 c9)) from ((Chg.of_ext (X := fun _ => False) (E9.out.trans e9)).trans (Chg.setCell w9 gg 3 _) (fun i hi e => by omega)).ext)
      have at9 := R9.out.cell.ext e9
      have k3 : w9.cell? ⟨gg, 3, none⟩ = some V'.k := by rw [at9.cell]; rfl
      have fz3 := at9.frozen 3
      have SR := Lib.hid ST.1
      rw [HG.out] at k3 fz3 SR EF
      clear ST at9 hgl r9 e9 f9 c2b CT R9 E9 HG
      go_wp2
      go_ret
      exact ⟨w.heap.size, a', _, _, rfl, EF.out, SR.out⟩
end Go.Proofs.YtbneedmfpldpfaaDoor
