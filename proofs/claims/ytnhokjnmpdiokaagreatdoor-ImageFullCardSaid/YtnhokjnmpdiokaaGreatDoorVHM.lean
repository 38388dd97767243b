/- Contracts of New, Write, Read. Contracts of a node's sync, and of Sync. Contracts of slices.Clone (bytes; names), slices.Contains of bools, next. Contracts of apply of no act, held where there is none or one that makes a name. Contracts of Sync and SyncDir. Calls of the store on what stands at one name, whatever they answer: SetMeta, Truncate. Contract of Stat of nothing. Contracts of stat, Stat. -/
import Derived.Test.YtnhokjnmpdiokaaGreatDoorVFM
import Derived.StillTailTactics
import Derived.Laws.ResultCell
set_option linter.unusedSimpArgs false
namespace Go.Proofs.YtnhokjnmpdiokaaGreatDoor.V
open Go.RowKit Go.Pth

def SV.new (room : Int) : SV := ⟨room, 0, [], [], [], 0, 0, 0, [], fun _ => newN 0 0⟩
set_option maxHeartbeats 4000000 in
theorem new_ok (room : Int) (w : World) (h0 : 0 ≤ room) (h1 : room ≤ 1099511627776) :
    Calls Tryz.prog 25 #[.int .i64 room] w fun e w' => e = .returned (.tuple #[ptr w.heap.size, .int .i64 0]) ∧ Ext w w' ∧ ∃ V L, Rep w' w.heap.size (SV.new room) V L ∧ ∀ i, L i ≠ none → w.heap.size ≤ i := by
  have R : Hid (Rep (w.alloc (.cells #[.int .i64 room, .int .u64 0, .slice none 0 0, .slice none 0 0, .slice none 0 0, .int .i64 0, .int .i64 0, .int .i64 0] 92)) w.heap.size (SV.new room) ⟨.slice none 0 0, .slice none 0 0, .slice none 0 0, fun _ => nilV⟩ (fun i => if i = w.heap.size then some .store else none)) := Lib.hid
    (by
      refine ⟨At.new _ _ _, World.ownsRow_nil _ _ _ _, World.ownsRow_nil _ _ _ _, World.ownsRow_nil _ _ _ _, fun a ha => ?_, by simp, fun g hg => ?_, fun g hg => ?_, fun g hg => ?_, fun a ha => ?_, fun i hi => ?_, List.Pairwise.nil, List.Pairwise.nil, fun p hp => ?_, fun p hp => ?_⟩
      · cases ha
      · cases hg
      · cases hg
      · cases hg
      · cases ha
      · rw [size_alloc]
        by_cases e : i = w.heap.size
        · omega
        · simp [e] at hi
      · cases hp
      · cases hp)
  have E := Lib.hid (Ext.alloc w (.cells #[.int .i64 room, .int .u64 0, .slice none 0 0, .slice none 0 0, .slice none 0 0, .int .i64 0, .int .i64 0, .int .i64 0] 92))
  have d0 : decide (room < 0) = false := decide_eq_false (by omega)
  have d1 : decide (1099511627776 < room) = false := decide_eq_false (by omega)
  go_enter Tryz.func25, Tryz.ntmps25
  go_wp2
  go_ret2
  refine ⟨rfl, E.out, _, _, R.out, fun i hi => ?_⟩
  by_cases e : i = w.heap.size
  · omega
  · simp [e] at hi
def SV.wrote (S : SV) (a off : Nat) (x : List Int) : SV := { S with clock := S.clock + 1, nd := upd S.nd a { (S.nd a).write off x with stamp := S.clock + 1 } }
theorem splice_byt {l x : List Int} (hl : ∀ y ∈ l, 0 ≤ y ∧ y < 256) (hx : ∀ y ∈ x, 0 ≤ y ∧ y < 256) (o : Nat) : ∀ y ∈ splice l o x, 0 ≤ y ∧ y < 256 := by
  intro y hy
  unfold splice at hy
  rcases List.mem_append.1 hy with hy | hy
  · rcases List.mem_append.1 hy with hy | hy
    · exact hl y (List.mem_of_mem_take hy)
    · exact hx y hy
  · exact hl y (List.mem_of_mem_drop hy)
theorem NV.Ok.write {N : NV} (h : N.Ok) (off : Nat) (x : List Int) (hx : ∀ y ∈ x, 0 ≤ y ∧ y < 256) (hsz : off + x.length ≤ 65536) : (N.write off x).Ok := by
  unfold NV.write
  split
  · exact h
  · have hr := h.resize (max (off + x.length) N.now.length) (by have := h.len; omega)
    have hl : (N.resize (max (off + x.length) N.now.length)).now.length = max (off + x.length) N.now.length := by simp [NV.resize, fitL_len]
    have sl : (splice (N.resize (max (off + x.length) N.now.length)).now off x).length = (N.resize (max (off + x.length) N.now.length)).now.length := splice_len _ _ _ (by rw [hl]; omega)
    exact ⟨by simp only []; rw [sl]; exact hr.kl, by simp only []; rw [mark_len, sl]; exact hr.ll, by simp only []; rw [sl]; exact hr.len, splice_byt hr.bn hx off, hr.bk⟩
set_option maxRecDepth 100000 in
set_option maxHeartbeats 8000000 in
theorem write_ok (b : Nat) (S : SV) (V : SW) (L : Nat → Option Role) (p : ByteArray) (off : Nat) (x : List Int) (vb : Value) (ad : Option Addr) (cap bb o a : Nat) (w : World) (h : Rep w b S V L) (hf : S.Fit) (hb : S.begE [p.toList] = 0) (hfile : S.file p.toList = (some a, 0))
    (hx : Bin w vb x ad cap bb o) (hxl : L bb = none) (hbyt : ∀ y ∈ x, 0 ≤ y ∧ y < 256) (hsz : off + x.length ≤ 65536) (hroom : (used S.nd S.names : Int) + max 0 ((off : Int) + x.length - (S.nd a).now.length) ≤ S.room) :
    Calls Tryz.prog 105 #[ptr b, .string p, .int .i64 off, vb] w fun e w' => e = .returned (.int .i64 0) ∧ ∃ V' L', Rep w' b (S.beg.wrote a off x) V' L' ∧ StTo w w' L L' := by
  have BG := Lib.hid (begin_one b S V L p w h hf)
  rw [hb] at BG
  have bs := beg_same S
  have hfb : S.beg.file p.toList = (some a, 0) := by unfold SV.file; rw [bs.1, bs.2.1]; exact hfile
  have hlook : look S.names p.toList = some a := by
    unfold SV.file at hfile
    split at hfile
    · cases hfile
    · rename_i q hq
      split at hfile
      · injection hfile with h1; rw [hq, h1]
      · cases hfile
  have ha : a ∈ S.beg.ids := by rw [bs.2.2.1]; exact h.rn _ (look_mem _ _ _ hlook)
  have FI := Lib.hid (fun w' (r : Rep w' b S.beg V L) => file_any b S.beg V L p w' r (by rw [bs.1]; have := hf.names; omega))
  simp only [hfb, optr] at FI
  have US := Lib.hid (fun w' (r : Rep w' b S.beg V L) => used_any b S.beg V L w' r (by rw [bs.1]; have := hf.names; omega))
  rw [bs.1, bs.2.1] at US
  have bx : bb < w.heap.size ∨ x = [] := by
    rcases Nat.lt_or_ge bb w.heap.size with h1 | h1
    · exact Or.inl h1
    · refine Or.inr ?_
      cases x with
      | nil => rfl
      | cons y ys =>
        have := hx.cell 0 (.int .u8 y) rfl
        have := World.block_lt_of_cell? _ _ this
        simp at this; omega
  have NW := Lib.hid (fun w' (r : Rep w' b S.beg V L) (t : StTo w w' L L) => nwrite_any a (S.beg.nd a) (V.nv a) off x vb ad cap bb o w' (r.nd a ha).1 (r.nd a ha).2 (hx.chg t.chg (by rw [hxl]; simp)) (fun hft => by have := r.ld a ha bb hft; rw [hxl] at this; cases this) hsz)
  have MK := Lib.hid (fun w' (r : Rep w' b S.beg V L) w2 (t : StTo w w' L L) V1 (n1 : NdIn w2 a ((S.beg.nd a).write off x) V1) (t1 : NdTo w' w2 a (V.nv a) V1) => by
    obtain ⟨L', r2, t2⟩ := r.node a ha _ V1 n1 ((r.nd a ha).2.write off x hbyt hsz) t1
    exact (mark_any b a _ _ L' w2 r2 ha (by show 0 ≤ S.beg.clock ∧ S.beg.clock ≤ 1000000; rw [bs.2.2.2.1]; have := hf.clock; omega)).mono fun e w3 ⟨h1, V', L2, r3, t3⟩ => (⟨h1, V', L2, by
      simp only [upd_upd, upd_same] at r3
      exact r3, t.trans (t2.trans t3)⟩ : e = Ending.returned (.tuple #[]) ∧ ∃ V' L2, Rep w3 b (S.beg.wrote a off x) V' L2 ∧ StTo w w3 L L2))
  have C3 := Lib.hid (fun w' (r : Rep w' b S.beg V L) => (show w'.cell? ⟨a, 3, none⟩ = some (V.nv a).n by rw [(r.nd a ha).1.c 3]; rfl))
  have C0 := Lib.hid (fun w' (r : Rep w' b S.beg V L) => (show w'.cell? ⟨b, 0, none⟩ = some (.int .i64 S.room) by rw [r.c 0]; simp [scells, bs.2.2.2.2.2.1]))
  have hn0 := (h.nd a (by rw [← bs.2.2.1]; exact ha)).1.n
  obtain ⟨dn, kn, hvn, -⟩ := hn0.shape
  have hlen := (h.nd a (by rw [← bs.2.2.1]; exact ha)).2.len
  rw [hvn] at C3
  have hvb := hx.val
  subst hvb
  have hu0 : used S.nd S.names ≤ 1000000000000 := by
    have := used_le S.nd S.names fun q hq => (h.nd _ (h.rn q hq)).2.len
    have := hf.names
    omega
  have HX := Lib.hid hx
  have HF := Lib.hid hf
  have HRM := Lib.hid hroom
  clear h hf hb hfile bs hfb hlook bx hx hn0 hvn hxl hbyt ha hroom
  generalize used S.nd S.names = U at *
  generalize (S.nd a).now.length = LN at *
  generalize hXL : x.length = X at *
  have HXL := Lib.hid hXL
  clear hXL
  unfold ptr at *
  have g1 : decide ((off : Int) < 0) = false := decide_eq_false (by omega)
  have g2 : decide ((65536 : Int) - (X : Int) < (off : Int)) = false := decide_eq_false (by omega)
  go_enter Tryz.func105, Tryz.ntmps105
  go_wp2_with fail
  refine (BG.out).mono ?_
  rintro e w1 ⟨rfl, r1, t1⟩
  have R1 := Lib.hid r1
  have T1 := Lib.hid t1
  clear r1 t1
  go_wp2_with fail
  refine (FI.out _ R1.out).mono ?_
  rintro e w2 ⟨rfl, hE⟩
  have R2 := Lib.hid (R1.out.ext hE)
  have T2 := Lib.hid (T1.out.trans (StTo.of_ext hE))
  clear R1 T1 hE
  go_upto_region 11 with fail
  have hS : Ext w2 w2.drew := Ext.drew w2
  have c3 := C3.out _ R2.out
  have c0 := C0.out _ R2.out
  refine wp_region_held (S := fun w' => Ext w2 w') (by kernel_rfl) ?_
  change wpAnyH _ _ _ _ _ _ _ _ (World.drew _)
  refine tkS 0 (some 38) (.pointer (some ⟨b, 0, none⟩)) hS ?_
  simp only [pt0, pt4, pt1, pt2, pt3]
  refine tkS 2 (some 40) (.int .i64 (off : Int)) hS ?_
  simp only [pt0, pt4, pt1, pt2, pt3]
  refine tkS 3 (some 41) (.slice ad X cap) hS ?_
  simp only [pt0, pt4, pt1, pt2, pt3]
  refine tkS 4 (some 42) (.int .i64 (X : Int)) hS ?_
  simp only [pt0, pt4, pt1, pt2, pt3]
  refine tkS 5 (some 43) (.int .i64 ((off : Int) + (X : Int))) hS ?_ (hy := fun w' hw' => by go_simp; rw [IntKind.wrap_i64]; omega)
  simp only [pt0, pt4, pt1, pt2, pt3]
  refine tkS 6 (some 44) (.pointer (some ⟨a, 0, none⟩)) hS ?_
  simp only [pt0, pt4, pt1, pt2, pt3]
  refine tkS 7 (some 45) (.pointer (some ⟨a, 0, none⟩)) hS ?_
  simp only [pt0, pt4, pt1, pt2, pt3]
  refine tkS 8 (some 46) (.pointer (some ⟨a, 3, none⟩)) hS ?_
  simp only [pt0, pt4, pt1, pt2, pt3]
  refine tkS 9 (some 47) (.slice dn LN kn) hS ?_ (hy := fun w' hw' => by have := hw'.cell c3; go_simp)
  simp only [pt0, pt4, pt1, pt2, pt3]
  refine tkS 10 (some 48) (.int .i64 (LN : Int)) hS ?_
  simp only [pt0, pt4, pt1, pt2, pt3]
  refine tkS 11 (some 49) (.int .i64 ((off : Int) + (X : Int) - (LN : Int))) hS ?_ (hy := fun w' hw' => by go_simp; rw [IntKind.wrap_i64]; omega)
  simp only [pt0, pt4, pt1, pt2, pt3]
  refine tkS 12 (some 50) (.int .i64 (max 0 ((off : Int) + (X : Int) - (LN : Int)))) hS ?_
  simp only [pt0, pt4, pt1, pt2, pt3]
  refine tkS 14 (some 52) (.pointer (some ⟨b, 0, none⟩)) hS ?_
  simp only [pt0, pt4, pt1, pt2, pt3]
  refine tkS 15 (some 53) (.pointer (some ⟨b, 0, none⟩)) hS ?_
  simp only [pt0, pt4, pt1, pt2, pt3]
  refine tkS 16 (some 54) (.pointer (some ⟨b, 0, none⟩)) hS ?_
  simp only [pt0, pt4, pt1, pt2, pt3]
  refine tkS 17 (some 55) (.int .i64 S.room) hS ?_ (hy := fun w' hw' => by have := hw'.cell c0; go_simp)
  simp only [pt0, pt4, pt1, pt2, pt3]
  refine nextS 1 rfl (by kernel_rfl) rfl ?_
  refine callS (some 39) rfl 128 #[.pointer (some ⟨b, 0, none⟩)] (by go_simp) (fun v w' => v = .int .i64 (U : Int) ∧ Ext w2 w') ((US.out _ (R2.out.ext hS)).mono fun e w' he => ⟨_, he.1, rfl, hS.trans he.2⟩) ?_
  rintro v3 w3 ⟨rfl, hS3⟩
  refine ⟨hS3, ?_⟩
  simp only [pt0, pt4, pt1, pt2, pt3]
  have hmx : 0 ≤ max 0 ((off : Int) + (X : Int) - (LN : Int)) ∧ max 0 ((off : Int) + (X : Int) - (LN : Int)) ≤ 65536 := by omega
  have hroom := HRM.out
  generalize max 0 ((off : Int) + (X : Int) - (LN : Int)) = MX at *
  obtain ⟨mx1, mx2⟩ := hmx
  have g3 : decide (S.room < (U : Int) + MX) = false := decide_eq_false (by omega)
  clear hroom HRM
  refine tkS 13 (some 51) (.int .i64 ((U : Int) + MX)) hS3 ?_ (hy := fun w' hw' => by go_simp; rw [IntKind.wrap_i64]; omega)
  simp only [pt0, pt4, pt1, pt2, pt3]
  refine tkS 18 (some 56) (.bool false) hS3 ?_
  simp only [pt0, pt4, pt1, pt2, pt3]
  refine tkS 19 (some 37) (.bool false) hS3 ?_
  simp only [pt0, pt4, pt1, pt2, pt3]
  refine wpAnyH_done (by kernel_rfl) ?_ _
  have R3 := Lib.hid (R2.out.ext hS3)
  have T3 := Lib.hid (T2.out.trans (StTo.of_ext hS3))
  clear R2 T2 c3 c0 US BG FI
  go_wp2_with fail
  refine (NW.out _ R3.out T3.out).mono ?_
  rintro e w4 ⟨rfl, V1, n1, t1⟩
  go_wp2_with fail
  refine (MK.out _ R3.out _ T3.out V1 n1 t1).mono ?_
  rintro e w5 ⟨rfl, hfin⟩
  have HFI := Lib.hid hfin
  clear hfin n1 t1
  go_wp2
  go_ret
  exact ⟨rfl, HFI.out⟩

theorem Row.fresh {w w' : World} {v' : Value} (g : Grew w w' (.slice none 0 0) v') : Ext w w' ∧ ∀ q, v'.ownBlock = some q → w.heap.size ≤ q :=
  ⟨(g.chg.mono fun i _ h => by cases h).ext, fun q hq => by
    rcases g.own with e | ⟨q', e1, e2⟩
    · rw [e] at hq; cases hq
    · rw [e1] at hq; injection hq with hq; omega⟩
theorem clone_run (w : World) (v : Value) (l : List Int) (ty : TypeId) (h : Row w 5 1 v l.length (bts l)) (hl : l.length ≤ 1000000) :
    ∃ v' w', (Builtin.append_ #[50, 50] ty #[.slice none 0 0, v]).run Tryz.prog w = .ok v' w' ∧ Row w' 5 1 v' l.length (bts l) ∧ Ext w w' ∧ ∀ q, v'.ownBlock = some q → w.heap.size ≤ q := by
  obtain ⟨i, hi1, hi2, hi3, hi4⟩ := info_of info5
  obtain ⟨v', w', h1, h2, h3⟩ := run_append_row (P := Tryz.prog) w 50 50 ty 5 i _ Tryz.underlying50 hi1 hi2 (by rw [hi3]; rfl) (.slice none 0 0) 0 [] (World.ownsRow_nil _ _ _ _) v l.length (bts l) (by rw [hi3]; exact Row.src h (bts_one l) Tryz.underlying50) (by simp only [maxLen]; omega) (by rw [hi4]; omega)
  rw [hi3, Nat.zero_add, List.nil_append] at h2
  have f := Row.fresh h3
  exact ⟨v', w', h1, h2, f.1, f.2⟩
set_option maxRecDepth 100000 in
set_option maxHeartbeats 8000000 in
theorem read_ok (b : Nat) (S : SV) (V : SW) (L : Nat → Option Role) (p : ByteArray) (a : Nat) (w : World) (h : Rep w b S V L) (hn : S.names.length ≤ 100000) (hfile : S.file p.toList = (some a, 0)) :
    Calls Tryz.prog 61 #[ptr b, .string p] w fun e w' => ∃ v, e = .returned (.tuple #[v, .int .i64 0]) ∧ Row w' 5 1 v (S.nd a).now.length (bts (S.nd a).now) ∧ Ext w w' ∧ ∀ q, v.ownBlock = some q → w.heap.size ≤ q := by
  have FI := Lib.hid (file_any b S V L p w h (by omega))
  simp only [hfile, optr] at FI
  have hlook : look S.names p.toList = some a := by
    unfold SV.file at hfile
    split at hfile
    · cases hfile
    · rename_i q hq
      split at hfile
      · injection hfile with h1; rw [hq, h1]
      · cases hfile
  have ha : a ∈ S.ids := h.rn _ (look_mem _ _ _ hlook)
  have nd := (h.nd a ha).1
  have hlen := (h.nd a ha).2.len
  have c3 := Lib.hid (show w.cell? ⟨a, 3, none⟩ = some (V.nv a).n by rw [nd.c 3]; rfl)
  have CR := Lib.hid (fun w' (he : Ext w w') => clone_run w' (V.nv a).n (S.nd a).now 50 (nd.n.ext he) (by omega))
  clear h hn hfile hlook ha nd hlen
  unfold ptr at *
  go_enter Tryz.func61, Tryz.ntmps61
  go_wp2_with fail
  refine (FI.out).mono ?_
  rintro e w1 ⟨rfl, hE⟩
  have d3 := hE.cell c3.out
  obtain ⟨v', w', hr, hrow, he, hfr⟩ := CR.out _ hE
  have HR := Lib.hid hr
  have HW := Lib.hid hrow
  have HE := Lib.hid (hE.trans he)
  have HFR := Lib.hid (fun q hq => Nat.le_trans hE.size (hfr q hq))
  clear hr hrow he hfr CR c3 FI hE
  go_wp2_with (at_builtin; refine Lib.wpList_append_run _ rfl _ _ _ _ rfl _ _ rfl rfl _ _ HR.out ?_)
  go_ret2
  exact ⟨_, rfl, HW.out, HE.out, HFR.out⟩
end Go.Proofs.YtnhokjnmpdiokaaGreatDoor.V

set_option linter.unusedSimpArgs false
namespace Go.Proofs.YtnhokjnmpdiokaaGreatDoor.V
open Go.RowKit Go.Pth

def NV.sync (N : NV) : NV := { N with kept := N.now, loose := List.replicate N.loose.length false }
theorem NV.Ok.sync {N : NV} (h : N.Ok) : N.sync.Ok := ⟨rfl, by simp only [NV.sync, List.length_replicate]; exact h.ll, h.len, h.bn, h.bn⟩
theorem splice_all {α : Type} (l x : List α) (h : x.length = l.length) : splice l 0 x = x := by
  unfold splice
  simp [h]
theorem NdIn.putK {w : World} {a : Nat} {N : NV} {V : Vs} (h : NdIn w a N V) {g cap : Nat} (hv : V.k = .slice (some ⟨g, 0, none⟩) N.kept.length cap) (x : List Int) (hl : x.length = N.kept.length) :
    NdIn (w.setCells g 0 (bts x)) a { N with kept := x } V ∧ NdTo w (w.setCells g 0 (bts x)) a V V := by
  have hg : V.k.ownBlock = some g := by rw [hv]; rfl
  have sc := Chg.sets g (bts x) 0 w
  have hr := h.k
  rw [hv] at hr
  have hr2 := Row.sets hr 0 (bts x) (by rw [bts_len, hl]; omega)
  rw [bts_splice, ← hv, splice_all _ _ hl] at hr2
  refine ⟨⟨sc.at h.cells fun e => h.ak (by rw [e]; exact hg), h.n.chg sc fun q hq e => h.nk q hq (by rw [e]; exact hg), by rw [hl]; exact hr2, h.l.chg sc fun q hq e => h.kl g hg (by rw [← e]; exact hq), h.an, h.ak, h.al, h.nk, h.nl, h.kl⟩, sc.mono fun i _ e => Or.inr (Or.inr (Or.inl (by rw [e]; exact hg))), fun i hi => Or.inl hi⟩
theorem NdIn.clearL {w : World} {a : Nat} {N : NV} {V : Vs} (h : NdIn w a N V) {g cap : Nat} (hv : V.l = .slice (some ⟨g, 0, none⟩) N.loose.length cap) :
    NdIn (w.setCells g 0 (List.replicate N.loose.length (.bool false))) a { N with loose := List.replicate N.loose.length false } V ∧ NdTo w (w.setCells g 0 (List.replicate N.loose.length (.bool false))) a V V := by
  have hg : V.l.ownBlock = some g := by rw [hv]; rfl
  have sc := Chg.sets g (List.replicate N.loose.length (.bool false)) 0 w
  have hr := h.l
  rw [hv] at hr
  have hr2 := Row.sets hr 0 (List.replicate N.loose.length (.bool false)) (by simp)
  have e : (bls N.loose).take 0 ++ List.replicate N.loose.length (.bool false) ++ (bls N.loose).drop (0 + (List.replicate N.loose.length (Value.bool false)).length) = bls (List.replicate N.loose.length false) := by
    simp [bls]
  rw [e, ← hv] at hr2
  refine ⟨⟨sc.at h.cells fun e => h.al (by rw [e]; exact hg), h.n.chg sc fun q hq e => h.nl q hq (by rw [e]; exact hg), h.k.chg sc fun q hq e => h.kl q hq (by rw [e]; exact hg), by rw [List.length_replicate]; exact hr2, h.an, h.ak, h.al, h.nk, h.nl, h.kl⟩, sc.mono fun i _ e => Or.inr (Or.inr (Or.inr (by rw [e]; exact hg))), fun i hi => Or.inl hi⟩

theorem ndrew {w : World} {a : Nat} {N : NV} {V : Vs} (h : NdIn w a N V) : NdIn w.drew a N V := h.ext (Ext.drew w)
set_option maxRecDepth 100000 in
set_option maxHeartbeats 4000000 in
theorem nsync_any (a : Nat) (N : NV) (V : Vs) (w : World) (h : NdIn w a N V) (ok : N.Ok) :
    Calls Tryz.prog 111 #[ptr a] w fun e w' => e = .returned (.tuple #[]) ∧ NdIn w' a N.sync V ∧ NdTo w w' a V V := by
  have sz : (Tryz.prog.info? 5).map (·.size) = some 1 := by kernel_rfl
  have c3 : w.cell? ⟨a, 3, none⟩ = some V.n := by rw [h.c 3]; rfl
  have c4 : w.cell? ⟨a, 4, none⟩ = some V.k := by rw [h.c 4]; rfl
  have c5 : w.cell? ⟨a, 5, none⟩ = some V.l := by rw [h.c 5]; rfl
  have hkl := ok.kl
  have hll := ok.ll
  have D := Lib.hid (ndrew h)
  have TD : NdTo w w.drew a V V := ⟨Chg.of_ext (Ext.drew w), fun i hi => Or.inl hi⟩
  by_cases h0 : 0 < N.now.length
  · have hs0 : 0 < N.loose.length := by rw [hll]; unfold secs; omega
    obtain ⟨gn, kn, hvn, n1, n2⟩ := Row.own h.n h0
    obtain ⟨gk, kk, hvk, k1, k2⟩ := Row.own h.k (by omega)
    obtain ⟨gl, kl, hvl, l1, l2⟩ := Row.own h.l hs0
    simp only [maxLen] at n2 k2 l2
    have B : Bin w.drew (.slice (some ⟨gn, 0, none⟩) N.now.length kn) N.now (some ⟨gn, 0, none⟩) kn gn 0 := by
      have hr := D.out.n
      rw [hvn] at hr
      exact ⟨rfl, fun _ => rfl, fun j u hu => by
        have hj := (List.getElem?_eq_some_iff.1 hu).1
        rw [bts_len] at hj
        rw [Nat.zero_add, (Row.cell hr j hj).1, hu]⟩
    have hck : (Builtin.copy_ #[50, 50] 3 #[.slice (some ⟨gk, 0, none⟩) N.now.length kk, .slice (some ⟨gn, 0, none⟩) N.now.length kn]).run Tryz.prog w.drew = .ok (.int .i64 N.now.length) (w.drew.setCells gk 0 (bts N.now)) := by
      have hr := D.out.k
      rw [hvk, hkl] at hr
      have := run_copy_cells (P := Tryz.prog) w.drew 50 50 3 5 gk 0 N.now.length kk ⟨gn, 0, none⟩ N.now.length kn (bts N.now) Tryz.underlying50 sz (by rw [bts_len]; exact (Nat.min_self _).symm) (fun j u hu => by rw [Addr.add_lit]; exact B.cell j u hu) (fun j hj => by rw [bts_len] at hj; rw [Nat.zero_add, (Row.cell hr j hj).1]; simp [bts]; omega) (fun j hj => by rw [bts_len] at hj; rw [Nat.zero_add]; exact (Row.cell hr j hj).2) (by simp [bts, Value.oneCell'])
      rw [bts_len] at this
      exact this
    obtain ⟨p1, p2⟩ := D.out.putK (N := N) (g := gk) (cap := kk) hvk N.now hkl.symm
    obtain ⟨q1, q2⟩ := p1.clearL (g := gl) (cap := kl) hvl
    have hcl : ∀ ty, (Builtin.clear_ #[83] ty #[.slice (some ⟨gl, 0, none⟩) N.loose.length kl]).run Tryz.prog (w.drew.setCells gk 0 (bts N.now)) = .ok (.tuple #[]) ((w.drew.setCells gk 0 (bts N.now)).setCells gl 0 (List.replicate N.loose.length (.bool false))) := fun ty => by
      have hr := p1.l
      rw [hvl] at hr
      have hr' : Row (w.drew.setCells gk 0 (bts N.now)) 4 1 (.slice (some ⟨gl, 0, none⟩) N.loose.length kl) N.loose.length (bls N.loose) := hr
      exact Lib.run_clear_slice (P := Tryz.prog) _ 83 4 ty (.bool false) Tryz.underlying83 (fun _ => by kernel_rfl) rfl rfl gl 0 N.loose.length kl hs0 (fun j hj => by rw [Nat.zero_add, (Row.cell hr' j hj).1]; simp [bls]; omega) (fun j hj => by rw [Nat.zero_add]; exact (Row.cell hr' j hj).2)
    have e5 : (w.drew.setCells gk 0 (bts N.now)).cell? ⟨a, 5, none⟩ = some (.slice (some ⟨gl, 0, none⟩) N.loose.length kl) := by rw [p1.c 5, ← hvl]; rfl
    have Q := Lib.hid (⟨q1, (TD.trans p2).trans q2⟩ : _ ∧ _)
    rw [hvn] at c3
    rw [hvk, hkl] at c4
    generalize N.now.length = L at *
    clear p1 p2 q1 q2 B D TD h ok hkl hll hvn hvk hvl
    unfold ptr
    go_enter Tryz.func111, Tryz.ntmps111
    go_wp2
    go_still_tail 8, (by kernel_rfl)
    change wpList _ _ _ _ _ w.drew
    go_wp2
    go_end0
    exact ⟨rfl, Q.out.1, Q.out.2⟩
  · have hn0 : N.now = [] := List.length_eq_zero_iff.1 (by omega)
    have hk0 : N.kept = [] := List.length_eq_zero_iff.1 (by omega)
    have hl0 : N.loose = [] := List.length_eq_zero_iff.1 (by rw [hll, hn0]; rfl)
    have hsy : N.sync = N := by
      unfold NV.sync
      rw [hn0, hl0]
      cases N
      simp at hn0 hk0 hl0
      simp [hn0, hk0, hl0]
    obtain ⟨dn, kn, hvn, -⟩ := h.n.shape
    obtain ⟨dk, kk, hvk, -⟩ := h.k.shape
    obtain ⟨dl, kl, hvl, -⟩ := h.l.shape
    rw [hn0] at hvn
    rw [hk0] at hvk
    rw [hl0] at hvl
    simp only [List.length_nil] at hvn hvk hvl
    rw [hvn] at c3
    rw [hvk] at c4
    rw [hvl] at c5
    have hck : (Builtin.copy_ #[50, 50] 3 #[.slice dk 0 kk, .slice dn 0 kn]).run Tryz.prog w.drew = .ok (.int .i64 0) w.drew := run_copy_none (P := Tryz.prog) w.drew 50 50 3 5 dk dn 0 kk 0 kn Tryz.underlying50 sz (by simp)
    have hcl : ∀ ty, (Builtin.clear_ #[83] ty #[.slice dl 0 kl]).run Tryz.prog w.drew = .ok (.tuple #[]) w.drew := fun ty => by
      cases dl <;> simp [Builtin.clear_, run_underlying Tryz.underlying83]
    have e5 : w.drew.cell? ⟨a, 5, none⟩ = some (.slice dl 0 kl) := c5
    have Q := Lib.hid (⟨by rw [hsy]; exact D.out, TD⟩ : NdIn w.drew a N.sync V ∧ NdTo w w.drew a V V)
    clear D TD h ok hkl hll hn0 hk0 hl0 hvn hvk hvl h0 hsy
    unfold ptr
    go_enter Tryz.func111, Tryz.ntmps111
    go_wp2
    go_still_tail 8, (by kernel_rfl)
    change wpList _ _ _ _ _ w.drew
    go_wp2
    go_end0
    exact ⟨rfl, Q.out.1, Q.out.2⟩
end Go.Proofs.YtnhokjnmpdiokaaGreatDoor.V

set_option linter.unusedSimpArgs false
namespace Go.Proofs.YtnhokjnmpdiokaaGreatDoor.V
open Go.RowKit Go.Pth

theorem empty_row (w : World) (e : TypeId) (k : Nat) : Row (w.alloc (.cells #[] e)) e k (.slice (some ⟨w.heap.size, 0, none⟩) 0 0) 0 [] :=
  World.ownsRow_made w #[] 0 (Nat.zero_le _) (Nat.zero_le _) (by simp)
theorem fresh2 {w w' : World} {v' : Value} {o : Obj} (g : Grew (w.alloc o) w' (.slice (some ⟨w.heap.size, 0, none⟩) 0 0) v') : Ext w w' ∧ ∀ q, v'.ownBlock = some q → w.heap.size ≤ q := by
  refine ⟨?_, fun q hq => ?_⟩
  · have := (Chg.of_ext (X := fun _ => False) (Ext.alloc w o)).trans g.chg (fun i hi h => by
      have : some w.heap.size = some i := h
      injection this; omega)
    exact this.ext
  · rcases g.own with e | ⟨q', e1, e2⟩
    · rw [e] at hq
      have : some w.heap.size = some q := hq
      injection this; omega
    · rw [e1] at hq; injection hq with hq; rw [size_alloc] at e2; omega
structure Ins (w : World) (v : Value) (l : List Int) (ad : Option Addr) (cap b o : Nat) : Prop where
  val : v = .slice ad l.length cap
  cap : l.length ≤ cap ∧ cap ≤ 9223372036854775807
  adr : 0 < l.length → ad = some ⟨b, o, none⟩
  cell : ∀ j (h : j < l.length), w.cell? ⟨b, o + j, none⟩ = some (.int .i64 l[j])
theorem Ins.ext {w w' : World} {v : Value} {l : List Int} {ad : Option Addr} {cap b o : Nat} (h : Ins w v l ad cap b o) (he : Ext w w') : Ins w' v l ad cap b o :=
  ⟨h.val, h.cap, h.adr, fun j hj => he.cell (h.cell j hj)⟩
def IntsIn (w : World) (v : Value) (l : List Int) : Prop := ∃ ad cap b o, Ins w v l ad cap b o
theorem IntsIn.ext {w w' : World} {v : Value} {l : List Int} (h : IntsIn w v l) (he : Ext w w') : IntsIn w' v l := by
  obtain ⟨ad, cap, b, o, h⟩ := h; exact ⟨ad, cap, b, o, h.ext he⟩
end Go.Proofs.YtnhokjnmpdiokaaGreatDoor.V

set_option linter.unusedSimpArgs false
namespace Go.Proofs.YtnhokjnmpdiokaaGreatDoor.V
open Go.RowKit Go.Pth

set_option maxHeartbeats 4000000 in
theorem apply_none (p : Value) (ad : Option Addr) (cap : Nat) (w : World) : Calls Tryz.prog 112 #[p, .slice ad 0 cap] w fun e w' => e = .returned (.tuple #[]) ∧ w = w' := by
  go_enter Tryz.func112, Tryz.ntmps112
  go_wp2
  go_loopw [8] (fun s8 wr => s8 = .int .i64 0 ∧ w = wr) (fun _ _ => 0)
  case atStart => exact ⟨rfl, rfl⟩
  case round =>
    obtain ⟨rfl, rfl⟩ := hrel
    go_wp2
    go_end0
    exact ⟨rfl, rfl⟩
end Go.Proofs.YtnhokjnmpdiokaaGreatDoor.V

set_option linter.unusedSimpArgs false
namespace Go.Proofs.YtnhokjnmpdiokaaGreatDoor.V
open Go.RowKit Go.Pth

def SV.synced (S : SV) (a : Nat) : SV := { S with nd := upd S.nd a (S.nd a).sync }
set_option maxRecDepth 100000 in
set_option maxHeartbeats 8000000 in
theorem sync_ok (b : Nat) (S : SV) (V : SW) (L : Nat → Option Role) (p : ByteArray) (a : Nat) (w : World) (h : Rep w b S V L) (hf : S.Fit) (hb : S.begE [p.toList] = 0) (hfile : S.file p.toList = (some a, 0)) :
    Calls Tryz.prog 83 #[ptr b, .string p] w fun e w' => e = .returned (.int .i64 0) ∧ ∃ V' L', Rep w' b (S.beg.synced a) V' L' ∧ StTo w w' L L' := by
  have BG := Lib.hid (begin_one b S V L p w h hf)
  rw [hb] at BG
  have bs := beg_same S
  have hfb : S.beg.file p.toList = (some a, 0) := by unfold SV.file; rw [bs.1, bs.2.1]; exact hfile
  have hlook : look S.names p.toList = some a := by
    unfold SV.file at hfile
    split at hfile
    · cases hfile
    · rename_i q hq
      split at hfile
      · injection hfile with h1; rw [hq, h1]
      · cases hfile
  have ha : a ∈ S.beg.ids := by rw [bs.2.2.1]; exact h.rn _ (look_mem _ _ _ hlook)
  have FI := Lib.hid (fun w' (r : Rep w' b S.beg V L) => file_any b S.beg V L p w' r (by rw [bs.1]; have := hf.names; omega))
  simp only [hfb, optr] at FI
  have HA := Lib.hid ha
  clear bs hfb hlook ha hb h hfile
  unfold ptr at *
  go_enter Tryz.func83, Tryz.ntmps83
  go_wp2_with fail
  refine (BG.out).mono ?_
  rintro e w1 ⟨rfl, r1, t1⟩
  have R1 := Lib.hid r1
  have T1 := Lib.hid t1
  clear r1 t1 BG
  go_wp2_with fail
  refine (FI.out w1 R1.out).mono ?_
  rintro e w2 ⟨rfl, e2⟩
  have R2 := Lib.hid (R1.out.ext e2)
  have T2 := Lib.hid (T1.out.trans (StTo.of_ext e2))
  have NS := Lib.hid (nsync_any a (S.beg.nd a) (V.nv a) w2 (R2.out.nd a HA.out).1 (R2.out.nd a HA.out).2)
  clear e2 FI R1 T1
  unfold ptr at NS
  go_wp2_with fail
  refine (NS.out).mono ?_
  rintro e w3 ⟨rfl, n3, t3⟩
  obtain ⟨L', r4, t4⟩ := R2.out.node a HA.out _ (V.nv a) n3 ((R2.out.nd a HA.out).2.sync) t3
  have F := Lib.hid (⟨r4, T2.out.trans t4⟩ : _ ∧ _)
  clear n3 t3 r4 t4 NS R2 T2
  go_wp2
  go_ret
  exact ⟨rfl, _, _, F.out.1, F.out.2⟩

theorem Rep.noActs {w : World} {b : Nat} {S : SV} {V : SW} {L : Nat → Option Role} (h : Rep w b S V L) :
    Rep (w.setCell ⟨b, 4, none⟩ (.slice none 0 0)) b { S with acts := [] } { V with a := .slice none 0 0 } L ∧ StTo w (w.setCell ⟨b, 4, none⟩ (.slice none 0 0)) L L := by
  have sc := Chg.setCell w b 4 (.slice none 0 0)
  have ne : ∀ i r, L i = some r → r ≠ .store → ¬ i = b := fun i r hi hr e => by subst e; rw [h.lb] at hi; injection hi with hi; exact hr hi.symm
  refine ⟨⟨?_, ?_, ?_, World.ownsRow_nil _ _ _ _, ?_, h.lb, h.ln, h.lk, fun g hg => (by cases hg), h.ld, fun i hi => (by rw [size_setCell]; exact h.lt i hi), h.sn, h.sk, h.rn, h.rk⟩, sc.mono fun i _ e => by rw [e, h.lb]; simp, fun i hi => Or.inl hi⟩
  · exact h.cell.set 4 _
  · exact h.nm.chg sc fun g hg => ne g _ (h.ln g hg) (by simp)
  · exact h.kp.chg sc fun g hg => ne g _ (h.lk g hg) (by simp)
  · exact fun a ha => ⟨(h.nd a ha).1.chg sc fun i hi => ne i _ (h.ld a ha i hi) (by simp), (h.nd a ha).2⟩

def SV.dirred (S : SV) (l : List Nm) : SV := { S with kept := l, acts := [] }
theorem txt_nil (w : World) : Txt w (.slice none 0 0) [] := ⟨none, 0, 0, rfl, fun h => by simp at h, fun j hj => by simp at hj⟩
end Go.Proofs.YtnhokjnmpdiokaaGreatDoor.V

namespace Go.Proofs.YtnhokjnmpdiokaaGreatDoor.V
open Go.RowKit Go.Pth
set_option linter.unusedSimpArgs false
set_option linter.unusedVariables false

end Go.Proofs.YtnhokjnmpdiokaaGreatDoor.V

namespace Go.Proofs.YtnhokjnmpdiokaaGreatDoor.V
open Go.RowKit Go.Pth

def zstat : Array Value := #[.string ⟨#[]⟩, .int .i64 0, .int .i64 0, .int .i64 0, .int .u64 0]
end Go.Proofs.YtnhokjnmpdiokaaGreatDoor.V

set_option linter.unusedSimpArgs false
namespace Go.Proofs.YtnhokjnmpdiokaaGreatDoor.V
open Go.RowKit Go.Pth

theorem results_cell1 {fn : Func} {p : Tmp} {ty : TypeId} (h : fn.results = #[.cell p ty]) (tmps : Array Value) (P : Program) (w : World) :
    (results fn tmps).run P w = ((asAddr (tmps.getD p undef)).run P w).andThen fun a w₁ => (loadVar ty a).run P w₁ := by
  simp only [results, h]
  simp [Sem.run_bind, Result.andThen]
def statC (p : B) (N : NV) : Array Value := #[.string (tx p), .int .i64 N.kind, .int .i64 N.now.length, .int .i64 N.mt, .int .u64 N.stamp]
theorem set5 {w : World} {g : Nat} (v0 v1 v2 v3 v4 u0 u1 u2 u3 u4 : Value) (h : At w g #[u0, u1, u2, u3, u4] 40) :
    At (((((w.setCell ⟨g, 0, none⟩ v0).setCell ⟨g, 1, none⟩ v1).setCell ⟨g, 2, none⟩ v2).setCell ⟨g, 3, none⟩ v3).setCell ⟨g, 4, none⟩ v4) g #[v0, v1, v2, v3, v4] 40 ∧
    Chg (fun i => i = g) w (((((w.setCell ⟨g, 0, none⟩ v0).setCell ⟨g, 1, none⟩ v1).setCell ⟨g, 2, none⟩ v2).setCell ⟨g, 3, none⟩ v3).setCell ⟨g, 4, none⟩ v4) := by
  refine ⟨?_, ?_⟩
  · have a5 := ((((h.set 0 v0).set 1 v1).set 2 v2).set 3 v3).set 4 v4
    simpa using a5
  · exact ((((Chg.setCell w g 0 v0).trans (Chg.setCell _ g 1 v1) fun _ _ x => x).trans (Chg.setCell _ g 2 v2) fun _ _ x => x).trans (Chg.setCell _ g 3 v3) fun _ _ x => x).trans (Chg.setCell _ g 4 v4) fun _ _ x => x

set_option maxRecDepth 100000 in
set_option maxHeartbeats 8000000 in
theorem stat_any (p : B) (a : Nat) (N : NV) (V : Vs) (w : World) (h : NdIn w a N V) : Calls Tryz.prog 39 #[.agg #[.string (tx p), ptr a]] w fun e w' => e = .returned (.agg (statC p N)) ∧ Ext w w' := by
  obtain ⟨W1, hW1⟩ : ∃ W1, W1 = w.alloc (.cells #[.string (tx p), ptr a] 79) := ⟨_, rfl⟩
  obtain ⟨W2, hW2⟩ : ∃ W2, W2 = W1.alloc (.cells zstat 40) := ⟨_, rfl⟩
  have s1 : W1.heap.size = w.heap.size + 1 := by rw [hW1]; exact size_alloc _ _
  have e1 : Ext w W1 := by rw [hW1]; exact Ext.alloc _ _
  have e2 : Ext W1 W2 := by rw [hW2]; exact Ext.alloc _ _
  have a1 : At W2 w.heap.size #[.string (tx p), ptr a] 79 := by
    have : At W1 w.heap.size #[.string (tx p), ptr a] 79 := by rw [hW1]; exact At.new _ _ _
    exact this.ext e2
  have a2 : At W2 (w.heap.size + 1) zstat 40 := by rw [hW2, ← s1]; exact At.new _ _ _
  have n2 := h.cells.ext (e1.trans e2)
  have x0 := a1.cell 0
  have x1 := a1.cell 1
  have y0 := n2.cell 0
  have y1 := n2.cell 1
  have y2 := n2.cell 2
  have y3 := n2.cell 3
  obtain ⟨dn, kn, hvn, -⟩ := h.n.shape
  simp only [ncells, hvn] at y0 y1 y2 y3
  unfold zstat at a2
  obtain ⟨W3, hW3⟩ : ∃ W3, W3 = W2.drew := ⟨_, rfl⟩
  have a2d : At W3 (w.heap.size + 1) #[.string ⟨#[]⟩, .int .i64 0, .int .i64 0, .int .i64 0, .int .u64 0] 40 := by rw [hW3]; exact a2
  have e3 : Ext W2 W3 := by rw [hW3]; exact Ext.drew W2
  obtain ⟨f1, f2⟩ := set5 (.string (tx p)) (.int .i64 N.kind) (.int .i64 N.now.length) (.int .i64 N.mt) (.int .u64 N.stamp) _ _ _ _ _ a2d
  have F1 := Lib.hid f1
  have F2 := Lib.hid (((Chg.of_ext (X := fun _ => False) ((e1.trans e2).trans e3)).trans f2 (fun i hi e => by omega)).ext)
  have k0 := a2d.cell 0
  have k1 := a2d.cell 1
  have k2 := a2d.cell 2
  have k3 := a2d.cell 3
  have k4 := a2d.cell 4
  have z0 := a2d.frozen 0
  have z1 := a2d.frozen 1
  have z2 := a2d.frozen 2
  have z3 := a2d.frozen 3
  have z4 := a2d.frozen 4
  have HW2 := Lib.hid (show (w.alloc (.cells #[.string (tx p), ptr a] 79)).alloc (.cells #[.string ⟨#[]⟩, .int .i64 0, .int .i64 0, .int .i64 0, .int .u64 0] 40) = W2 by rw [hW2, hW1]; rfl)
  have HW3 := Lib.hid hW3.symm
  unfold ptr at *
  clear hW3 e3 hW1 hW2 a1 a2 a2d n2 f1 f2 e1 e2 s1 hvn h
  unfold statC
  generalize N.now.length = nl at *
  go_enter Tryz.func39, Tryz.ntmps39
  go_upto_region 1 with fail
  rw [HW2.out]
  go_upto_region 2 with fail
  go_still_tail 20, (by kernel_rfl)
  change wpList _ _ _ _ _ W2.drew
  rw [HW3.out]
  clear HW2 HW3 x0 x1 y0 y1 y2 y3
  go_wp2
  clear k0 k1 k2 k3 k4 z0 z1 z2 z3 z4
  generalize (((((W3.setCell ⟨w.heap.size + 1, 0, none⟩ (.string (tx p))).setCell ⟨w.heap.size + 1, 1, none⟩ (.int .i64 N.kind)).setCell ⟨w.heap.size + 1, 2, none⟩ (.int .i64 nl)).setCell ⟨w.heap.size + 1, 3, none⟩ (.int .i64 N.mt)).setCell ⟨w.heap.size + 1, 4, none⟩ (.int .u64 N.stamp)) = W5 at *
  have k0 := F1.out.cell 0
  have k1 := F1.out.cell 1
  have k2 := F1.out.cell 2
  have k3 := F1.out.cell 3
  have k4 := F1.out.cell 4
  refine bodyPost_ret (v := .agg #[.string (tx p), .int .i64 N.kind, .int .i64 nl, .int .i64 N.mt, .int .u64 N.stamp]) ?_ rfl ?_
  · rw [results_cell1 rfl]
    go_simp
  · exact ⟨rfl, F2.out⟩

set_option maxRecDepth 100000 in
set_option maxHeartbeats 8000000 in
theorem stat_none (b : Nat) (S : SV) (V : SW) (L : Nat → Option Role) (p : ByteArray) (w : World) (h : Rep w b S V L) (hn : S.names.length ≤ 1000000) (hl : look S.names p.toList = none) :
    Calls Tryz.prog 16 #[ptr b, .string p] w fun e w' => e = .returned (.tuple #[.agg (zstat), .int .i64 5]) ∧ Ext w w' := by
  have TH := Lib.hid (there_any b S V L _ (h.ext (Ext.alloc w (.cells zstat 40))))
  have FI := Lib.hid (find_any V.n S.names p (w.alloc (.cells zstat 40)) (Tr.of_row (h.ext (Ext.alloc w (.cells zstat 40))).nm) h.sn hn)
  rw [hl] at FI
  simp only [optr] at FI
  have hat : At (w.alloc (.cells zstat 40)) w.heap.size zstat 40 := At.new _ _ _
  have E0 := Lib.hid (Ext.alloc w (.cells zstat 40))
  unfold zstat at FI hat TH E0
  unfold ptr at *
  clear h hn hl
  go_enter Tryz.func16, Tryz.ntmps16
  go_wp2_with fail
  refine (TH.out).mono ?_
  rintro e w' ⟨rfl, rfl⟩
  clear TH
  go_wp2_with fail
  refine (FI.out).mono ?_
  rintro e w1 ⟨rfl, hE⟩
  clear FI
  have h1 := hat.ext hE
  obtain ⟨f1, f2⟩ := set5 (.string ⟨#[]⟩) (.int .i64 0) (.int .i64 0) (.int .i64 0) (.int .u64 0) _ _ _ _ _ h1
  have F1 := Lib.hid f1
  have F2 := Lib.hid (((Chg.of_ext (X := fun _ => False) (E0.out.trans hE)).trans f2 (fun i hi e => by omega)).ext)
  have k0 := h1.cell 0
  have k1 := h1.cell 1
  have k2 := h1.cell 2
  have k3 := h1.cell 3
  have k4 := h1.cell 4
  have z0 := h1.frozen 0
  have z1 := h1.frozen 1
  have z2 := h1.frozen 2
  have z3 := h1.frozen 3
  have z4 := h1.frozen 4
  clear hat h1 hE f1 f2 E0
  go_wp2
  clear k0 k1 k2 k3 k4 z0 z1 z2 z3 z4
  generalize (((((w1.setCell ⟨w.heap.size, 0, none⟩ (.string ⟨#[]⟩)).setCell ⟨w.heap.size, 1, none⟩ (.int .i64 0)).setCell ⟨w.heap.size, 2, none⟩ (.int .i64 0)).setCell ⟨w.heap.size, 3, none⟩ (.int .i64 0)).setCell ⟨w.heap.size, 4, none⟩ (.int .u64 0)) = W5 at *
  have k0 := F1.out.cell 0
  have k1 := F1.out.cell 1
  have k2 := F1.out.cell 2
  have k3 := F1.out.cell 3
  have k4 := F1.out.cell 4
  refine bodyPost_ret (v := .tuple #[.agg #[.string ⟨#[]⟩, .int .i64 0, .int .i64 0, .int .i64 0, .int .u64 0], .int .i64 5]) ?_ rfl ?_
  · rw [results_cell_tmp rfl]
    go_simp
  · exact ⟨rfl, F2.out⟩

set_option maxRecDepth 100000 in
set_option maxHeartbeats 8000000 in
theorem stat_some (b : Nat) (S : SV) (V : SW) (L : Nat → Option Role) (p : ByteArray) (a : Nat) (w : World) (h : Rep w b S V L) (hn : S.names.length ≤ 1000000) (hl : look S.names p.toList = some a) :
    Calls Tryz.prog 16 #[ptr b, .string p] w fun e w' => e = .returned (.tuple #[.agg (statC p.toList (S.nd a)), .int .i64 0]) ∧ Ext w w' := by
  have TH := Lib.hid (there_any b S V L _ (h.ext (Ext.alloc w (.cells zstat 40))))
  have FI := Lib.hid (find_any V.n S.names p (w.alloc (.cells zstat 40)) (Tr.of_row (h.ext (Ext.alloc w (.cells zstat 40))).nm) h.sn hn)
  rw [hl] at FI
  simp only [optr] at FI
  have ST := Lib.hid (fun w' (he : Ext w w') => by have := stat_any p.toList a (S.nd a) (V.nv a) w' ((h.ext he).nd a (h.rn _ (look_mem _ _ _ hl))).1; rw [list_tx] at this; exact this)
  unfold statC at ST ⊢
  rw [list_tx] at ST ⊢
  generalize (S.nd a).now.length = nl at *
  have hat : At (w.alloc (.cells zstat 40)) w.heap.size zstat 40 := At.new _ _ _
  have E0 := Lib.hid (Ext.alloc w (.cells zstat 40))
  unfold zstat at FI hat TH E0
  unfold ptr at *
  clear h hn hl
  go_enter Tryz.func16, Tryz.ntmps16
  go_wp2_with fail
  refine (TH.out).mono ?_
  rintro e w' ⟨rfl, rfl⟩
  clear TH
  go_wp2_with fail
  refine (FI.out).mono ?_
  rintro e w1 ⟨rfl, hE⟩
  clear FI
  have hEw := E0.out.trans hE
  go_wp2_with fail
  refine (ST.out _ hEw).mono ?_
  rintro e w2 ⟨rfl, hE2⟩
  have hE := hE.trans hE2
  clear ST hEw hE2
  have h1 := hat.ext hE
  obtain ⟨f1, f2⟩ := set5 (.string p) (.int .i64 (S.nd a).kind) (.int .i64 nl) (.int .i64 (S.nd a).mt) (.int .u64 (S.nd a).stamp) _ _ _ _ _ h1
  have F1 := Lib.hid f1
  have F2 := Lib.hid (((Chg.of_ext (X := fun _ => False) (E0.out.trans hE)).trans f2 (fun i hi e => by omega)).ext)
  have k0 := h1.cell 0
  have k1 := h1.cell 1
  have k2 := h1.cell 2
  have k3 := h1.cell 3
  have k4 := h1.cell 4
  have z0 := h1.frozen 0
  have z1 := h1.frozen 1
  have z2 := h1.frozen 2
  have z3 := h1.frozen 3
  have z4 := h1.frozen 4
  clear hat h1 hE f1 f2 E0
  go_wp2
  clear k0 k1 k2 k3 k4 z0 z1 z2 z3 z4
  generalize (((((w2.setCell ⟨w.heap.size, 0, none⟩ (.string p)).setCell ⟨w.heap.size, 1, none⟩ (.int .i64 (S.nd a).kind)).setCell ⟨w.heap.size, 2, none⟩ (.int .i64 nl)).setCell ⟨w.heap.size, 3, none⟩ (.int .i64 (S.nd a).mt)).setCell ⟨w.heap.size, 4, none⟩ (.int .u64 (S.nd a).stamp)) = W5 at *
  have k0 := F1.out.cell 0
  have k1 := F1.out.cell 1
  have k2 := F1.out.cell 2
  have k3 := F1.out.cell 3
  have k4 := F1.out.cell 4
  refine bodyPost_ret (v := .tuple #[.agg #[.string p, .int .i64 (S.nd a).kind, .int .i64 nl, .int .i64 (S.nd a).mt, .int .u64 (S.nd a).stamp], .int .i64 0]) ?_ rfl ?_
  · rw [results_cell_tmp rfl]
    go_simp
  · exact ⟨rfl, F2.out⟩
end Go.Proofs.YtnhokjnmpdiokaaGreatDoor.V
