/- Contracts of New, Write, Read. Contracts of slices.Clone (bytes; names), slices.Contains of bools, next. Contracts of apply of no act, held where there is none or one that makes a name. -/
import Derived.Test.YtbneedmfpldpfaaGreatDoorSfM
set_option linter.unusedSimpArgs false
namespace Go.Proofs.YtbneedmfpldpfaaGreatDoor
open Go.RowKit Go.Pth

def SV.new (room : Int) : SV := ⟨room, 0, [], [], [], 0, 0, 0, [], fun _ => newN 0 0⟩
set_option maxHeartbeats 4000000 in
theorem new_ok (room : Int) (w : World) (h0 : 0 ≤ room) (h1 : room ≤ 1099511627776) :
    Calls Tryz.prog 6 #[.int .i64 room] w fun e w' => e = .returned (.tuple #[ptr w.heap.size, .int .i64 0]) ∧ Ext w w' ∧ ∃ V L, Rep w' w.heap.size (SV.new room) V L ∧ ∀ i, L i ≠ none → w.heap.size ≤ i := by
  have R : Hid (Rep (w.alloc (.cells #[.int .i64 room, .int .u64 0, .slice none 0 0, .slice none 0 0, .slice none 0 0, .int .i64 0, .int .i64 0, .int .i64 0] 57)) w.heap.size (SV.new room) ⟨.slice none 0 0, .slice none 0 0, .slice none 0 0, fun _ => nilV⟩ (fun i => if i = w.heap.size then some .store else none)) := Lib.hid
    (by
      refine ⟨At.new _ _ _, World.ownsRow_nil _ _ _ _, World.ownsRow_nil _ _ _ _, World.ownsRow_nil _ _ _ _, fun a ha => ?_, by simp, fun g hg => ?_, fun g hg => ?_, fun g hg => ?_, fun a ha => ?_, fun i hi => ?_, List.Pairwise.nil, List.Pairwise.nil, fun p hp => ?_, fun p hp => ?_⟩
      · cases ha
      · cases hg
      · cases hg
      · cases hg
      · cases ha
      · rw [size_alloc]
        by_cases e : i = w.heap.size
        · omega
        · simp [e] at hi
      · cases hp
      · cases hp)
  have E := Lib.hid (Ext.alloc w (.cells #[.int .i64 room, .int .u64 0, .slice none 0 0, .slice none 0 0, .slice none 0 0, .int .i64 0, .int .i64 0, .int .i64 0] 57))
  have d0 : decide (room < 0) = false := decide_eq_false (by omega)
  have d1 : decide (1099511627776 < room) = false := decide_eq_false (by omega)
  go_enter Tryz.func6, Tryz.ntmps6
  go_wp2
  go_ret2
  refine ⟨rfl, E.out, _, _, R.out, fun i hi => ?_⟩
  by_cases e : i = w.heap.size
  · omega
  · simp [e] at hi
set_option maxHeartbeats 4000000 in
theorem new_neg (w : World) : Calls Tryz.prog 6 #[.int .i64 (-1)] w fun e w' => e = .returned (.tuple #[.pointer none, .int .i64 1]) ∧ w = w' := by
  go_enter Tryz.func6, Tryz.ntmps6
  go_wp2
  go_ret2
  exact ⟨rfl, rfl⟩

def SV.wrote (S : SV) (a off : Nat) (x : List Int) : SV := { S with clock := S.clock + 1, nd := upd S.nd a { (S.nd a).write off x with stamp := S.clock + 1 } }
theorem splice_byt {l x : List Int} (hl : ∀ y ∈ l, 0 ≤ y ∧ y < 256) (hx : ∀ y ∈ x, 0 ≤ y ∧ y < 256) (o : Nat) : ∀ y ∈ splice l o x, 0 ≤ y ∧ y < 256 := by
  intro y hy
  unfold splice at hy
  rcases List.mem_append.1 hy with hy | hy
  · rcases List.mem_append.1 hy with hy | hy
    · exact hl y (List.mem_of_mem_take hy)
    · exact hx y hy
  · exact hl y (List.mem_of_mem_drop hy)
theorem NV.Ok.write {N : NV} (h : N.Ok) (off : Nat) (x : List Int) (hx : ∀ y ∈ x, 0 ≤ y ∧ y < 256) (hsz : off + x.length ≤ 65536) : (N.write off x).Ok := by
  unfold NV.write
  split
  · exact h
  · have hr := h.resize (max (off + x.length) N.now.length) (by have := h.len; omega)
    have hl : (N.resize (max (off + x.length) N.now.length)).now.length = max (off + x.length) N.now.length := by simp [NV.resize, fitL_len]
    have sl : (splice (N.resize (max (off + x.length) N.now.length)).now off x).length = (N.resize (max (off + x.length) N.now.length)).now.length := splice_len _ _ _ (by rw [hl]; omega)
    exact ⟨by simp only []; rw [sl]; exact hr.kl, by simp only []; rw [mark_len, sl]; exact hr.ll, by simp only []; rw [sl]; exact hr.len, splice_byt hr.bn hx off, hr.bk⟩
set_option maxRecDepth 100000 in
set_option maxHeartbeats 8000000 in
theorem write_ok (b : Nat) (S : SV) (V : SW) (L : Nat → Option Role) (p : ByteArray) (off : Nat) (x : List Int) (vb : Value) (ad : Option Addr) (cap bb o a : Nat) (w : World) (h : Rep w b S V L) (hf : S.Fit) (hb : S.begE [p.toList] = 0) (hfile : S.file p.toList = (some a, 0))
    (hx : Bin w vb x ad cap bb o) (hxl : L bb = none) (hbyt : ∀ y ∈ x, 0 ≤ y ∧ y < 256) (hsz : off + x.length ≤ 65536) (hroom : (used S.nd S.names : Int) + max 0 ((off : Int) + x.length - (S.nd a).now.length) ≤ S.room) :
    Calls Tryz.prog 9 #[ptr b, .string p, .int .i64 off, vb] w fun e w' => e = .returned (.int .i64 0) ∧ ∃ V' L', Rep w' b (S.beg.wrote a off x) V' L' ∧ StTo w w' L L' := by
  have BG := Lib.hid (begin_one b S V L p w h hf)
  rw [hb] at BG
  have bs := beg_same S
  have hfb : S.beg.file p.toList = (some a, 0) := by unfold SV.file; rw [bs.1, bs.2.1]; exact hfile
  have hlook : look S.names p.toList = some a := by
    unfold SV.file at hfile
    split at hfile
    · cases hfile
    · rename_i q hq
      split at hfile
      · injection hfile with h1; rw [hq, h1]
      · cases hfile
  have ha : a ∈ S.beg.ids := by rw [bs.2.2.1]; exact h.rn _ (look_mem _ _ _ hlook)
  have FI := Lib.hid (fun w' (r : Rep w' b S.beg V L) => file_any b S.beg V L p w' r (by rw [bs.1]; have := hf.names; omega))
  simp only [hfb, optr] at FI
  have US := Lib.hid (fun w' (r : Rep w' b S.beg V L) => used_any b S.beg V L w' r (by rw [bs.1]; have := hf.names; omega))
  rw [bs.1, bs.2.1] at US
  have bx : bb < w.heap.size ∨ x = [] := by
    rcases Nat.lt_or_ge bb w.heap.size with h1 | h1
    · exact Or.inl h1
    · refine Or.inr ?_
      cases x with
      | nil => rfl
      | cons y ys =>
        have := hx.cell 0 (.int .u8 y) rfl
        have := World.block_lt_of_cell? _ _ this
        simp at this; omega
  have NW := Lib.hid (fun w' (r : Rep w' b S.beg V L) (t : StTo w w' L L) => nwrite_any a (S.beg.nd a) (V.nv a) off x vb ad cap bb o w' (r.nd a ha).1 (r.nd a ha).2 (hx.chg t.chg (by rw [hxl]; simp)) (fun hft => by have := r.ld a ha bb hft; rw [hxl] at this; cases this) hsz)
  have MK := Lib.hid (fun w' (r : Rep w' b S.beg V L) w2 (t : StTo w w' L L) V1 (n1 : NdIn w2 a ((S.beg.nd a).write off x) V1) (t1 : NdTo w' w2 a (V.nv a) V1) => by
    obtain ⟨L', r2, t2⟩ := r.node a ha _ V1 n1 ((r.nd a ha).2.write off x hbyt hsz) t1
    exact (mark_any b a _ _ L' w2 r2 ha (by show 0 ≤ S.beg.clock ∧ S.beg.clock ≤ 1000000; rw [bs.2.2.2.1]; have := hf.clock; omega)).mono fun e w3 ⟨h1, V', L2, r3, t3⟩ => (⟨h1, V', L2, by
      simp only [upd_upd, upd_same] at r3
      exact r3, t.trans (t2.trans t3)⟩ : e = Ending.returned (.tuple #[]) ∧ ∃ V' L2, Rep w3 b (S.beg.wrote a off x) V' L2 ∧ StTo w w3 L L2))
  have C3 := Lib.hid (fun w' (r : Rep w' b S.beg V L) => (show w'.cell? ⟨a, 3, none⟩ = some (V.nv a).n by rw [(r.nd a ha).1.c 3]; rfl))
  have C0 := Lib.hid (fun w' (r : Rep w' b S.beg V L) => (show w'.cell? ⟨b, 0, none⟩ = some (.int .i64 S.room) by rw [r.c 0]; simp [scells, bs.2.2.2.2.2.1]))
  have hn0 := (h.nd a (by rw [← bs.2.2.1]; exact ha)).1.n
  obtain ⟨dn, kn, hvn, -⟩ := hn0.shape
  have hlen := (h.nd a (by rw [← bs.2.2.1]; exact ha)).2.len
  rw [hvn] at C3
  have hvb := hx.val
  subst hvb
  have hu0 : used S.nd S.names ≤ 1000000000000 := by
    have := used_le S.nd S.names fun q hq => (h.nd _ (h.rn q hq)).2.len
    have := hf.names
    omega
  have HX := Lib.hid hx
  have HF := Lib.hid hf
  have HRM := Lib.hid hroom
  clear h hf hb hfile bs hfb hlook bx hx hn0 hvn hxl hbyt ha hroom
  generalize used S.nd S.names = U at *
  generalize (S.nd a).now.length = LN at *
  generalize hXL : x.length = X at *
  have HXL := Lib.hid hXL
  clear hXL
  unfold ptr at *
  have g1 : decide ((off : Int) < 0) = false := decide_eq_false (by omega)
  have g2 : decide ((65536 : Int) - (X : Int) < (off : Int)) = false := decide_eq_false (by omega)
  go_enter Tryz.func9, Tryz.ntmps9
  go_wp2_with fail
  refine (BG.out).mono ?_
  rintro e w1 ⟨rfl, r1, t1⟩
  have R1 := Lib.hid r1
  have T1 := Lib.hid t1
  clear r1 t1
  go_wp2_with fail
  refine (FI.out _ R1.out).mono ?_
  rintro e w2 ⟨rfl, hE⟩
  have R2 := Lib.hid (R1.out.ext hE)
  have T2 := Lib.hid (T1.out.trans (StTo.of_ext hE))
  clear R1 T1 hE
  go_upto_region 11 with fail
  have hS : Ext w2 w2.drew := Ext.drew w2
  have c3 := C3.out _ R2.out
  have c0 := C0.out _ R2.out
  refine wp_region_held (S := fun w' => Ext w2 w') (by kernel_rfl) ?_
  change wpAnyH _ _ _ _ _ _ _ _ (World.drew _)
  refine takeS 0 (some 38) (.pointer (some ⟨b, 0, none⟩)) rfl rfl (by kernel_rfl) (by kernel_rfl) (by kernel_rfl) (fun _ _ _ h => h) rfl hS (fun w' hw' => by go_simp) ?_
  simp only [Act.put, List.setIfInBounds_toArray, List.set_cons_zero, List.set_cons_succ]
  refine takeS 2 (some 40) (.int .i64 (off : Int)) rfl rfl (by kernel_rfl) (by kernel_rfl) (by kernel_rfl) (fun _ _ _ h => h) rfl hS (fun w' hw' => by go_simp) ?_
  simp only [Act.put, List.setIfInBounds_toArray, List.set_cons_zero, List.set_cons_succ]
  refine takeS 3 (some 41) (.slice ad X cap) rfl rfl (by kernel_rfl) (by kernel_rfl) (by kernel_rfl) (fun _ _ _ h => h) rfl hS (fun w' hw' => by go_simp) ?_
  simp only [Act.put, List.setIfInBounds_toArray, List.set_cons_zero, List.set_cons_succ]
  refine takeS 4 (some 42) (.int .i64 (X : Int)) rfl rfl (by kernel_rfl) (by kernel_rfl) (by kernel_rfl) (fun _ _ _ h => h) rfl hS (fun w' hw' => by go_simp) ?_
  simp only [Act.put, List.setIfInBounds_toArray, List.set_cons_zero, List.set_cons_succ]
  refine takeS 5 (some 43) (.int .i64 ((off : Int) + (X : Int))) rfl rfl (by kernel_rfl) (by kernel_rfl) (by kernel_rfl) (fun _ _ _ h => h) rfl hS (fun w' hw' => by go_simp; rw [IntKind.wrap_i64]; omega) ?_
  simp only [Act.put, List.setIfInBounds_toArray, List.set_cons_zero, List.set_cons_succ]
  refine takeS 6 (some 44) (.pointer (some ⟨a, 0, none⟩)) rfl rfl (by kernel_rfl) (by kernel_rfl) (by kernel_rfl) (fun _ _ _ h => h) rfl hS (fun w' hw' => by go_simp) ?_
  simp only [Act.put, List.setIfInBounds_toArray, List.set_cons_zero, List.set_cons_succ]
  refine takeS 7 (some 45) (.pointer (some ⟨a, 0, none⟩)) rfl rfl (by kernel_rfl) (by kernel_rfl) (by kernel_rfl) (fun _ _ _ h => h) rfl hS (fun w' hw' => by go_simp) ?_
  simp only [Act.put, List.setIfInBounds_toArray, List.set_cons_zero, List.set_cons_succ]
  refine takeS 8 (some 46) (.pointer (some ⟨a, 3, none⟩)) rfl rfl (by kernel_rfl) (by kernel_rfl) (by kernel_rfl) (fun _ _ _ h => h) rfl hS (fun w' hw' => by go_simp) ?_
  simp only [Act.put, List.setIfInBounds_toArray, List.set_cons_zero, List.set_cons_succ]
  refine takeS 9 (some 47) (.slice dn LN kn) rfl rfl (by kernel_rfl) (by kernel_rfl) (by kernel_rfl) (fun _ _ _ h => h) rfl hS (fun w' hw' => by have := hw'.cell c3; go_simp) ?_
  simp only [Act.put, List.setIfInBounds_toArray, List.set_cons_zero, List.set_cons_succ]
  refine takeS 10 (some 48) (.int .i64 (LN : Int)) rfl rfl (by kernel_rfl) (by kernel_rfl) (by kernel_rfl) (fun _ _ _ h => h) rfl hS (fun w' hw' => by go_simp) ?_
  simp only [Act.put, List.setIfInBounds_toArray, List.set_cons_zero, List.set_cons_succ]
  refine takeS 11 (some 49) (.int .i64 ((off : Int) + (X : Int) - (LN : Int))) rfl rfl (by kernel_rfl) (by kernel_rfl) (by kernel_rfl) (fun _ _ _ h => h) rfl hS (fun w' hw' => by go_simp; rw [IntKind.wrap_i64]; omega) ?_
  simp only [Act.put, List.setIfInBounds_toArray, List.set_cons_zero, List.set_cons_succ]
  refine takeS 12 (some 50) (.int .i64 (max 0 ((off : Int) + (X : Int) - (LN : Int)))) rfl rfl (by kernel_rfl) (by kernel_rfl) (by kernel_rfl) (fun _ _ _ h => h) rfl hS (fun w' hw' => by go_simp) ?_
  simp only [Act.put, List.setIfInBounds_toArray, List.set_cons_zero, List.set_cons_succ]
  refine takeS 14 (some 52) (.pointer (some ⟨b, 0, none⟩)) rfl rfl (by kernel_rfl) (by kernel_rfl) (by kernel_rfl) (fun _ _ _ h => h) rfl hS (fun w' hw' => by go_simp) ?_
  simp only [Act.put, List.setIfInBounds_toArray, List.set_cons_zero, List.set_cons_succ]
  refine takeS 15 (some 53) (.pointer (some ⟨b, 0, none⟩)) rfl rfl (by kernel_rfl) (by kernel_rfl) (by kernel_rfl) (fun _ _ _ h => h) rfl hS (fun w' hw' => by go_simp) ?_
  simp only [Act.put, List.setIfInBounds_toArray, List.set_cons_zero, List.set_cons_succ]
  refine takeS 16 (some 54) (.pointer (some ⟨b, 0, none⟩)) rfl rfl (by kernel_rfl) (by kernel_rfl) (by kernel_rfl) (fun _ _ _ h => h) rfl hS (fun w' hw' => by go_simp) ?_
  simp only [Act.put, List.setIfInBounds_toArray, List.set_cons_zero, List.set_cons_succ]
  refine takeS 17 (some 55) (.int .i64 S.room) rfl rfl (by kernel_rfl) (by kernel_rfl) (by kernel_rfl) (fun _ _ _ h => h) rfl hS (fun w' hw' => by have := hw'.cell c0; go_simp) ?_
  simp only [Act.put, List.setIfInBounds_toArray, List.set_cons_zero, List.set_cons_succ]
  refine nextS 1 rfl (by kernel_rfl) rfl ?_
  refine callS (some 39) rfl 22 #[.pointer (some ⟨b, 0, none⟩)] (by go_simp) (fun v w' => v = .int .i64 (U : Int) ∧ Ext w2 w') ((US.out _ (R2.out.ext hS)).mono fun e w' he => ⟨_, he.1, rfl, hS.trans he.2⟩) ?_
  rintro v3 w3 ⟨rfl, hS3⟩
  refine ⟨hS3, ?_⟩
  simp only [Act.put, List.setIfInBounds_toArray, List.set_cons_zero, List.set_cons_succ]
  have hmx : 0 ≤ max 0 ((off : Int) + (X : Int) - (LN : Int)) ∧ max 0 ((off : Int) + (X : Int) - (LN : Int)) ≤ 65536 := by omega
  have hroom := HRM.out
  generalize max 0 ((off : Int) + (X : Int) - (LN : Int)) = MX at *
  obtain ⟨mx1, mx2⟩ := hmx
  have g3 : decide (S.room < (U : Int) + MX) = false := decide_eq_false (by omega)
  clear hroom HRM
  refine takeS 13 (some 51) (.int .i64 ((U : Int) + MX)) rfl rfl (by kernel_rfl) (by kernel_rfl) (by kernel_rfl) (fun _ _ _ h => h) rfl hS3 (fun w' hw' => by go_simp; rw [IntKind.wrap_i64]; omega) ?_
  simp only [Act.put, List.setIfInBounds_toArray, List.set_cons_zero, List.set_cons_succ]
  refine takeS 18 (some 56) (.bool false) rfl rfl (by kernel_rfl) (by kernel_rfl) (by kernel_rfl) (fun _ _ _ h => h) rfl hS3 (fun w' hw' => by go_simp) ?_
  simp only [Act.put, List.setIfInBounds_toArray, List.set_cons_zero, List.set_cons_succ]
  refine takeS 19 (some 37) (.bool false) rfl rfl (by kernel_rfl) (by kernel_rfl) (by kernel_rfl) (fun _ _ _ h => h) rfl hS3 (fun w' hw' => by go_simp) ?_
  simp only [Act.put, List.setIfInBounds_toArray, List.set_cons_zero, List.set_cons_succ]
  refine wpAnyH_done (by kernel_rfl) ?_ _
  have R3 := Lib.hid (R2.out.ext hS3)
  have T3 := Lib.hid (T2.out.trans (StTo.of_ext hS3))
  clear R2 T2 c3 c0 US BG FI
  go_wp2_with fail
  refine (NW.out _ R3.out T3.out).mono ?_
  rintro e w4 ⟨rfl, V1, n1, t1⟩
  go_wp2_with fail
  refine (MK.out _ R3.out _ T3.out V1 n1 t1).mono ?_
  rintro e w5 ⟨rfl, hfin⟩
  have HFI := Lib.hid hfin
  clear hfin n1 t1
  go_wp2
  go_ret
  exact ⟨rfl, HFI.out⟩

theorem Row.fresh {w w' : World} {v' : Value} (g : Grew w w' (.slice none 0 0) v') : Ext w w' ∧ ∀ q, v'.ownBlock = some q → w.heap.size ≤ q :=
  ⟨(g.chg.mono fun i _ h => by cases h).ext, fun q hq => by
    rcases g.own with e | ⟨q', e1, e2⟩
    · rw [e] at hq; cases hq
    · rw [e1] at hq; injection hq with hq; omega⟩
theorem clone_run (w : World) (v : Value) (l : List Int) (ty : TypeId) (h : Row w 5 1 v l.length (bts l)) (hl : l.length ≤ 1000000) :
    ∃ v' w', (Builtin.append_ #[22, 22] ty #[.slice none 0 0, v]).run Tryz.prog w = .ok v' w' ∧ Row w' 5 1 v' l.length (bts l) ∧ Ext w w' ∧ ∀ q, v'.ownBlock = some q → w.heap.size ≤ q := by
  obtain ⟨i, hi1, hi2, hi3, hi4⟩ := info_of info5
  obtain ⟨v', w', h1, h2, h3⟩ := run_append_row (P := Tryz.prog) w 22 22 ty 5 i _ Tryz.underlying22 hi1 hi2 (by rw [hi3]; rfl) (.slice none 0 0) 0 [] (World.ownsRow_nil _ _ _ _) v l.length (bts l) (by rw [hi3]; exact Row.src h (bts_one l) Tryz.underlying22) (by simp only [maxLen]; omega) (by rw [hi4]; omega)
  rw [hi3, Nat.zero_add, List.nil_append] at h2
  have f := Row.fresh h3
  exact ⟨v', w', h1, h2, f.1, f.2⟩
set_option maxRecDepth 100000 in
set_option maxHeartbeats 8000000 in
theorem read_ok (b : Nat) (S : SV) (V : SW) (L : Nat → Option Role) (p : ByteArray) (a : Nat) (w : World) (h : Rep w b S V L) (hn : S.names.length ≤ 100000) (hfile : S.file p.toList = (some a, 0)) :
    Calls Tryz.prog 16 #[ptr b, .string p] w fun e w' => ∃ v, e = .returned (.tuple #[v, .int .i64 0]) ∧ Row w' 5 1 v (S.nd a).now.length (bts (S.nd a).now) ∧ Ext w w' ∧ ∀ q, v.ownBlock = some q → w.heap.size ≤ q := by
  have FI := Lib.hid (file_any b S V L p w h (by omega))
  simp only [hfile, optr] at FI
  have hlook : look S.names p.toList = some a := by
    unfold SV.file at hfile
    split at hfile
    · cases hfile
    · rename_i q hq
      split at hfile
      · injection hfile with h1; rw [hq, h1]
      · cases hfile
  have ha : a ∈ S.ids := h.rn _ (look_mem _ _ _ hlook)
  have nd := (h.nd a ha).1
  have hlen := (h.nd a ha).2.len
  have c3 := Lib.hid (show w.cell? ⟨a, 3, none⟩ = some (V.nv a).n by rw [nd.c 3]; rfl)
  have CR := Lib.hid (fun w' (he : Ext w w') => clone_run w' (V.nv a).n (S.nd a).now 22 (nd.n.ext he) (by omega))
  clear h hn hfile hlook ha nd hlen
  unfold ptr at *
  go_enter Tryz.func16, Tryz.ntmps16
  go_wp2_with fail
  refine (FI.out).mono ?_
  rintro e w1 ⟨rfl, hE⟩
  have d3 := hE.cell c3.out
  obtain ⟨v', w', hr, hrow, he, hfr⟩ := CR.out _ hE
  have HR := Lib.hid hr
  have HW := Lib.hid hrow
  have HE := Lib.hid (hE.trans he)
  have HFR := Lib.hid (fun q hq => Nat.le_trans hE.size (hfr q hq))
  clear hr hrow he hfr CR c3 FI hE
  go_wp2_with (at_builtin; refine Lib.wpList_append_run _ rfl _ _ _ _ rfl _ _ rfl rfl _ _ HR.out ?_)
  go_ret2
  exact ⟨_, rfl, HW.out, HE.out, HFR.out⟩
end Go.Proofs.YtbneedmfpldpfaaGreatDoor

set_option linter.unusedSimpArgs false
namespace Go.Proofs.YtbneedmfpldpfaaGreatDoor
open Go.RowKit Go.Pth

/-- append to an empty slice that is none of nothing: whatever comes is new. -/
theorem empty_row (w : World) (e : TypeId) (k : Nat) : Row (w.alloc (.cells #[] e)) e k (.slice (some ⟨w.heap.size, 0, none⟩) 0 0) 0 [] :=
  World.ownsRow_made w #[] 0 (Nat.zero_le _) (Nat.zero_le _) (by simp)
theorem fresh2 {w w' : World} {v' : Value} {o : Obj} (g : Grew (w.alloc o) w' (.slice (some ⟨w.heap.size, 0, none⟩) 0 0) v') : Ext w w' ∧ ∀ q, v'.ownBlock = some q → w.heap.size ≤ q := by
  refine ⟨?_, fun q hq => ?_⟩
  · have := (Chg.of_ext (X := fun _ => False) (Ext.alloc w o)).trans g.chg (fun i hi h => by
      have : some w.heap.size = some i := h
      injection this; omega)
    exact this.ext
  · rcases g.own with e | ⟨q', e1, e2⟩
    · rw [e] at hq
      have : some w.heap.size = some q := hq
      injection this; omega
    · rw [e1] at hq; injection hq with hq; rw [size_alloc] at e2; omega
set_option maxRecDepth 100000 in
set_option maxHeartbeats 4000000 in
theorem cloneb_any (v : Value) (l : List Int) (w : World) (h : Row w 5 1 v l.length (bts l)) (hl : l.length ≤ 1000000) :
    Calls Tryz.prog 75 #[v] w fun e w' => ∃ v', e = .returned v' ∧ Row w' 5 1 v' l.length (bts l) ∧ Ext w w' ∧ ∀ q, v'.ownBlock = some q → w.heap.size ≤ q := by
  rcases h.2 with ⟨rfl, h0⟩ | ⟨g, cap, cur, hv, _⟩
  · have hx : l = [] := List.length_eq_zero_iff.1 h0
    subst hx
    have E := Lib.hid (Ext.refl w)
    have R := Lib.hid (World.ownsRow_nil w 0 5 1)
    clear h
    have q := fun w => Lib.run_eql_slice_nil (P := Tryz.prog) w 22 5 none 0 0 0 0 Tryz.underlying22
    go_enter Tryz.func75, Tryz.ntmps75
    go_wp2
    go_ret
    exact ⟨_, rfl, R.out, E.out, fun q hq => by cases hq⟩
  · obtain ⟨i, hi1, hi2, hi3, hi4⟩ := info_of info5
    obtain ⟨v', w', h1, h2, h3⟩ := run_append_row (P := Tryz.prog) (w.alloc (.cells #[] 5)) 22 22 22 5 i _ Tryz.underlying22 hi1 hi2 (by rw [hi3]; rfl) (.slice (some ⟨w.heap.size, 0, none⟩) 0 0) 0 [] (empty_row _ _ _) v l.length (bts l) (by rw [hi3]; exact Row.src (h.ext (Ext.alloc _ _)) (bts_one l) Tryz.underlying22) (by simp only [maxLen]; omega) (by rw [hi4]; omega)
    rw [hi3, Nat.zero_add, List.nil_append] at h2
    have f := Lib.hid (fresh2 h3)
    have H1 := Lib.hid h1
    have H2 := Lib.hid h2
    subst hv
    clear h h1 h2 h3 hi1 hi2 hi3 hi4
    generalize bts l = X at *
    generalize l.length = n at *
    have q := fun w => Lib.run_eql_slice_nil (P := Tryz.prog) w 22 5 (some ⟨g, 0, none⟩) n cap 0 0 Tryz.underlying22
    go_enter Tryz.func75, Tryz.ntmps75
    go_wp2_with (at_builtin; refine Lib.wpList_append_run _ rfl _ _ _ _ rfl _ _ rfl rfl _ _ H1.out ?_)
    go_ret
    exact ⟨_, rfl, H2.out, f.out.1, f.out.2⟩
set_option maxRecDepth 100000 in
set_option maxHeartbeats 4000000 in
theorem clonet_any (v : Value) (l : List Nm) (w : World) (h : Row w 78 2 v l.length (ents l)) (hl : l.length ≤ 1000000) :
    Calls Tryz.prog 50 #[v] w fun e w' => ∃ v', e = .returned v' ∧ Row w' 78 2 v' l.length (ents l) ∧ Ext w w' ∧ ∀ q, v'.ownBlock = some q → w.heap.size ≤ q := by
  rcases h.2 with ⟨rfl, h0⟩ | ⟨g, cap, cur, hv, _⟩
  · have hx : l = [] := List.length_eq_zero_iff.1 h0
    subst hx
    have E := Lib.hid (Ext.refl w)
    have R := Lib.hid (World.ownsRow_nil w 0 78 2)
    clear h
    have q := fun w => Lib.run_eql_slice_nil (P := Tryz.prog) w 54 78 none 0 0 0 0 Tryz.underlying54
    go_enter Tryz.func50, Tryz.ntmps50
    go_wp2
    go_ret
    exact ⟨_, rfl, R.out, E.out, fun q hq => by cases hq⟩
  · obtain ⟨i, hi1, hi2, hi3, hi4⟩ := info_of info64
    obtain ⟨v', w', h1, h2, h3⟩ := run_append_row (P := Tryz.prog) (w.alloc (.cells #[] 78)) 54 54 54 78 i _ Tryz.underlying54 hi1 hi2 (by rw [hi3]; rfl) (.slice (some ⟨w.heap.size, 0, none⟩) 0 0) 0 [] (by rw [hi3]; exact empty_row _ _ _) v l.length (ents l) (by rw [hi3]; exact Row.src (h.ext (Ext.alloc _ _)) (ents_one l) Tryz.underlying54) (by simp only [maxLen]; omega) (by rw [hi4]; omega)
    rw [hi3, Nat.zero_add, List.nil_append] at h2
    have f := Lib.hid (fresh2 h3)
    have H1 := Lib.hid h1
    have H2 := Lib.hid h2
    subst hv
    clear h h1 h2 h3 hi1 hi2 hi3 hi4
    generalize ents l = X at *
    generalize l.length = n at *
    have q := fun w => Lib.run_eql_slice_nil (P := Tryz.prog) w 54 78 (some ⟨g, 0, none⟩) n cap 0 0 Tryz.underlying54
    go_enter Tryz.func50, Tryz.ntmps50
    go_wp2_with (at_builtin; refine Lib.wpList_append_run _ rfl _ _ _ _ rfl _ _ rfl rfl _ _ H1.out ?_)
    go_ret
    exact ⟨_, rfl, H2.out, f.out.1, f.out.2⟩

def InvX (l : List Bool) (s8 : Value) : Prop := ∃ k : Nat, k ≤ l.length ∧ s8 = .int .i64 k ∧ (l.take k).any id = false
set_option maxRecDepth 100000 in
set_option maxHeartbeats 4000000 in
theorem indexb_any (v : Value) (l : List Bool) (w : World) (h : Row w 4 1 v l.length (bls l)) (hl : l.length ≤ 1000000) :
    Calls Tryz.prog 74 #[v, .bool true] w fun e w' => (∃ i : Int, e = .returned (.int .i64 i) ∧ (decide (0 ≤ i) = l.any id)) ∧ w = w' := by
  obtain ⟨ad, cap, hv, -⟩ := h.shape
  have HC := Lib.hid (fun (k : Nat) (hk : k < l.length) => by
    obtain ⟨g, cap', hv', -⟩ := Row.own h (by omega : 0 < l.length)
    rw [hv'] at h
    have := (Row.cell h k hk).1
    exact (⟨g, cap', hv', by rw [this, bls, List.getElem?_map, List.getElem?_eq_getElem hk]; rfl⟩ : ∃ g cap', v = .slice (some ⟨g, 0, none⟩) l.length cap' ∧ w.cell? ⟨g, k, none⟩ = some (.bool l[k])))
  subst hv
  clear h
  obtain ⟨n, hN⟩ : ∃ n, n = l.length := ⟨_, rfl⟩
  have HN := Lib.hid hN
  rw [← hN] at hl ⊢
  clear hN
  go_enter Tryz.func74, Tryz.ntmps74
  go_wp2
  go_loop [8] (fun s8 => InvX l s8) (fun s8 => n - (intOf s8).toNat)
  case atStart => exact ⟨0, Nat.zero_le _, rfl, rfl⟩
  case round =>
    obtain ⟨k, hk, rfl, hany⟩ := hrel
    rw [← HN.out] at hk
    have HA := Lib.hid hany
    clear hany
    by_cases hlt : k < n
    · have hkl : k < l.length := by rw [← HN.out]; exact hlt
      obtain ⟨g, cap', hv', cl⟩ := HC.out k hkl
      rw [← HN.out] at hv'
      injection hv' with h1 h2 h3
      subst h1
      have i0 : (0 : Int) ≤ (k : Int) := by omega
      have i1 : (k : Int) < (n : Int) := by omega
      have st : (l.take (k + 1)).any id = l[k] := by rw [List.take_succ_eq_append_getElem hkl, List.any_append, HA.out]; simp
      have ST := Lib.hid st
      have LA := Lib.hid (show l[k] = true → l.any id = true from fun hb => List.any_eq_true.2 ⟨l[k], List.getElem_mem hkl, hb⟩)
      clear st h2 h3
      cases hb : l[k] with
      | true =>
        rw [hb] at cl
        go_wp2
        go_ret
        refine ⟨⟨k, rfl, ?_⟩, rfl⟩
        rw [LA.out hb]; exact decide_eq_true (by omega)
      | false =>
        rw [hb] at cl ST
        go_wp2
        exact ⟨⟨k + 1, by rw [← HN.out]; omega, rfl, ST.out⟩, by simp [intOf]; omega⟩
    · obtain rfl : k = n := by omega
      clear hlt
      have ha := HA.out
      rw [HN.out, List.take_length] at ha
      have HA2 := Lib.hid ha
      clear ha HA
      go_wp2
      go_ret
      exact ⟨⟨-1, rfl, by rw [HA2.out]; rfl⟩, rfl⟩
set_option maxRecDepth 100000 in
set_option maxHeartbeats 4000000 in
theorem contains_any (v : Value) (l : List Bool) (w : World) (h : Row w 4 1 v l.length (bls l)) (hl : l.length ≤ 1000000) :
    Calls Tryz.prog 48 #[v, .bool true] w fun e w' => e = .returned (.bool (l.any id)) ∧ w = w' := by
  have IX := Lib.hid (indexb_any v l w h hl)
  clear h
  go_enter Tryz.func48, Tryz.ntmps48
  go_wp2_with fail
  refine (IX.out).mono ?_
  rintro e w' ⟨⟨i, rfl, hi⟩, rfl⟩
  have HI := Lib.hid hi
  clear hi
  go_wp2
  go_ret
  exact ⟨retv (by rw [← HI.out] <;> rfl), rfl⟩
/-- Numbers in memory, to be read. -/
structure Ins (w : World) (v : Value) (l : List Int) (ad : Option Addr) (cap b o : Nat) : Prop where
  val : v = .slice ad l.length cap
  cap : l.length ≤ cap ∧ cap ≤ 9223372036854775807
  adr : 0 < l.length → ad = some ⟨b, o, none⟩
  cell : ∀ j (h : j < l.length), w.cell? ⟨b, o + j, none⟩ = some (.int .i64 l[j])
theorem Ins.ext {w w' : World} {v : Value} {l : List Int} {ad : Option Addr} {cap b o : Nat} (h : Ins w v l ad cap b o) (he : Ext w w') : Ins w' v l ad cap b o :=
  ⟨h.val, h.cap, h.adr, fun j hj => he.cell (h.cell j hj)⟩
def IntsIn (w : World) (v : Value) (l : List Int) : Prop := ∃ ad cap b o, Ins w v l ad cap b o
theorem IntsIn.ext {w w' : World} {v : Value} {l : List Int} (h : IntsIn w v l) (he : Ext w w') : IntsIn w' v l := by
  obtain ⟨ad, cap, b, o, h⟩ := h; exact ⟨ad, cap, b, o, h.ext he⟩
set_option maxRecDepth 100000 in
set_option maxHeartbeats 4000000 in
theorem next_any (v : Value) (l : List Int) (w : World) (h : IntsIn w v l) :
    Calls Tryz.prog 46 #[v] w fun e w' => ∃ v', e = .returned (.tuple #[.int .i64 (l.headD 0), v']) ∧ IntsIn w' v' l.tail ∧ Ext w w' := by
  obtain ⟨ad, cap, b, o, h⟩ := h
  have hv := h.val
  subst hv
  cases l with
  | nil =>
    have NI : Hid (IntsIn w (.slice none 0 0) []) := Lib.hid ⟨none, 0, 0, 0, rfl, by simp, fun h => by simp at h, fun j h => by simp at h⟩
    have E := Lib.hid (Ext.refl w)
    clear h
    go_enter Tryz.func46, Tryz.ntmps46
    go_wp2
    go_ret2
    exact ⟨_, rfl, NI.out, E.out⟩
  | cons x r =>
    have had := h.adr (by simp)
    subst had
    have c0 := h.cell 0 (by simp)
    simp only [Nat.add_zero, List.getElem_cons_zero] at c0
    obtain ⟨k1, k2⟩ := h.cap
    simp only [List.length_cons] at k1
    have NI : Hid (∀ dd : Option Addr, ∀ cc : Nat, (0 < r.length → dd = some ⟨b, o + 1, none⟩) → r.length ≤ cc → cc ≤ 9223372036854775807 → IntsIn w.drew (.slice dd r.length cc) r) := Lib.hid fun dd cc h1 h2 h3 =>
      ⟨dd, cc, b, o + 1, rfl, ⟨h2, h3⟩, h1, fun j hj => by
        have := h.cell (j + 1) (by simpa using hj)
        simp only [List.getElem_cons_succ] at this
        rw [show o + 1 + j = o + (j + 1) by omega]; exact this⟩
    have E := Lib.hid (Ext.drew w)
    simp only [List.length_cons]
    clear h
    generalize r.length = n at *
    have i0 : (0 : Int) < ((n + 1 : Nat) : Int) := by omega
    have z0 : (n + 1 == 0) = false := by simp
    have i1 : (1 : Int) ≤ (cap : Int) := by omega
    have i2 : ((n + 1 : Nat) : Int) ≤ (cap : Int) := by omega
    have i3 : (1 : Int) ≤ ((n + 1 : Nat) : Int) := by omega
    by_cases hc : cap = 1
    · have hn0 : n = 0 := by omega
      subst hc hn0
      go_enter Tryz.func46, Tryz.ntmps46
      go_wp2
      go_region
      all_goals go_wp2
      all_goals go_ret2
      all_goals exact ⟨_, rfl, NI.out _ _ (fun h => by omega) (Nat.zero_le _) (by omega), E.out⟩
    · go_enter Tryz.func46, Tryz.ntmps46
      go_wp2
      go_region
      all_goals go_wp2
      all_goals go_ret2
      all_goals exact ⟨_, rfl, NI.out _ _ (fun h => rfl) (by omega) (by omega), E.out⟩
end Go.Proofs.YtbneedmfpldpfaaGreatDoor

set_option linter.unusedSimpArgs false
namespace Go.Proofs.YtbneedmfpldpfaaGreatDoor
open Go.RowKit Go.Pth

set_option maxRecDepth 100000 in
set_option maxHeartbeats 8000000 in
/-- One act is not safe, and holds. -/
theorem held_one (b : Nat) (S : SV) (V : SW) (L : Nat → Option Role) (p : B) (a : Nat) (w : World) (h : Rep w b S V L) (ha : S.acts = [⟨[], p, some a⟩]) (hk : S.kept.length ≤ 100000) (hend : place S.kept p = S.kept.length) :
    Calls Tryz.prog 47 #[ptr b, .int .i64 1] w fun e w' => ∃ v, e = .returned v ∧ Tr w' v (S.kept ++ [(p, a)]) ∧ Ext w w' := by
  have hac := h.ac
  rw [ha] at hac
  obtain ⟨ga, ca, cura, hva, -, hga, hc1, hc2, hcs, hx⟩ : ∃ g cap cur, V.a = .slice (some ⟨g, 0, none⟩) 1 cap ∧ 0 ≤ g ∧ w.heap[g]? = some (.cells cur 95 (0, 0)) ∧ 1 ≤ cap ∧ cap ≤ maxLen ∧ cur.size = cap * 3 ∧ cur.toList.take (1 * 3) = acells [⟨[], p, some a⟩] := by
    rcases hac.2 with ⟨_, h0⟩ | h0
    · cases h0
    · exact h0
  have hat : At w ga cura 95 := hga
  have cx : ∀ j, j < 3 → w.cell? ⟨ga, j, none⟩ = (acells [⟨[], p, some a⟩])[j]? := fun j hj => by
    rw [hat.cell, ← hx, List.getElem?_take_of_lt (by omega), Array.getElem?_toList]
  have x0 := Lib.hid (show w.cell? ⟨ga, 0, none⟩ = some (.string ⟨#[]⟩) from cx 0 (by omega))
  have x1 := Lib.hid (show w.cell? ⟨ga, 0 + 1, none⟩ = some (.string (tx p)) from cx 1 (by omega))
  have x2 := Lib.hid (show w.cell? ⟨ga, 0 + 2, none⟩ = some (ptr a) from cx 2 (by omega))
  have C3 := Lib.hid (show w.cell? ⟨b, 3, none⟩ = some V.k by rw [h.c 3]; rfl)
  have C4 := Lib.hid (show w.cell? ⟨b, 4, none⟩ = some (.slice (some ⟨ga, 0, none⟩) 1 ca) by rw [h.c 4, ← hva]; rfl)
  have CT := Lib.hid (clonet_any V.k S.kept w h.kp (by omega))
  have SK := Lib.hid h.sk
  have HK := Lib.hid hend
  simp only [maxLen] at hc2
  clear h ha hva hac hat cx hga hcs hx hend
  have d4 := C4.out
  have d3 := C3.out
  have i0 : (1 : Int) ≤ (ca : Int) := by omega
  unfold ptr
  go_enter Tryz.func47, Tryz.ntmps47
  go_wp2_with fail
  refine (CT.out).mono ?_
  rintro e w1 ⟨v, rfl, rv, hE, hfr⟩
  obtain ⟨dv, kv, hvv, -⟩ := rv.shape
  subst hvv
  have eA := Ext.alloc w1 (.cells #[.slice dv S.kept.length kv] 54)
  have e4 := (hE.trans eA).cell C4.out
  have hatb : At (w1.alloc (.cells #[.slice dv S.kept.length kv] 54)) w1.heap.size #[.slice dv S.kept.length kv] 54 := At.new _ _ _
  have AP := apply_made w1.heap.size 0 #[.slice dv S.kept.length kv] 54 (.slice dv S.kept.length kv) S.kept p a ga 0 ca _ hatb rfl (rv.ext eA) (fun e => by have := rv.lt _ e; omega) SK.out (by omega) HK.out ((hE.trans eA).cell x0.out) ((hE.trans eA).cell x1.out) ((hE.trans eA).cell x2.out)
  have AP2 : Calls Tryz.prog 26 #[.pointer (some ⟨w1.heap.size, 0, none⟩), .slice (some ⟨ga, 0, none⟩) 1 ca] (w1.alloc (.cells #[.slice dv S.kept.length kv] 54)) fun e w' => e = .returned (.tuple #[]) ∧ ∃ v', w'.cell? ⟨w1.heap.size, 0, none⟩ = some v' ∧ Tr w' v' (S.kept ++ [(p, a)]) ∧ Ext w w' :=
    AP.mono fun e w' ⟨q1, v', w2, q2, q3, q4⟩ => by
      subst q4
      have nb : v'.ownBlock ≠ some w1.heap.size := grew_na q3 hatb.lt (fun e => by have := rv.lt _ e; omega)
      have hc := (q3.chg.at hatb (fun e => by have := rv.lt _ e; omega)).set 0 v'
      have sc := Chg.setCell w2 w1.heap.size 0 v'
      refine ⟨q1, v', by rw [hc.cell]; rfl, Tr.of_row (by rw [List.length_append]; exact q2.chg sc fun q hq e => nb (e ▸ hq)), ?_⟩
      have s1 := hE.size
      have s2 := eA.size
      rw [size_alloc] at s2
      have k1 := (Chg.of_ext (X := fun _ => False) (hE.trans eA)).trans q3.chg (fun i hi e => by have := hfr i e; omega)
      exact (k1.trans sc (fun i hi e => by omega)).ext
  have HP := Lib.hid AP2
  clear AP AP2 hatb eA rv hE hfr CT d3 d4 C3 C4 x0 x1 x2 SK HK
  go_wp2_with (go_at_call 26; refine (HP.out).mono ?_; rintro e w' ⟨rfl, v', hcv, htr, hEE⟩)
  go_ret
  exact ⟨_, rfl, htr, hEE⟩
end Go.Proofs.YtbneedmfpldpfaaGreatDoor
