/- Contracts of add, Create, Mkdir. -/
import Derived.Test.YtbneedmfpldpfaaDoorSf
import Derived.Test.YtbneedmfpldpfaaDoorSc
namespace Go.Proofs.YtbneedmfpldpfaaDoor
open Go.RowKit Go.Pth

theorem upd_upd {α : Type} (f : Nat → α) (a : Nat) (x y : α) : upd (upd f a x) a y = upd f a y := by
  funext i; unfold upd; by_cases h : i = a <;> simp [h]
def newN (k st : Int) : NV := ⟨k, 0, st, [], [], []⟩
def SV.made (S : SV) (a : Nat) (p : B) (k : Int) : SV :=
  { S with clock := S.clock + 1, ids := a :: S.ids, nd := upd S.nd a (newN k (S.clock + 1)), names := S.names ++ [(p, a)], acts := S.acts ++ [⟨[], p, some a⟩] }
def kinds (S : SV) : Nat → Int := fun a => (S.nd a).kind
theorem newN_ok (k st : Int) : (newN k st).Ok := ⟨rfl, by simp [newN, secs], by simp [newN], by simp [newN], by simp [newN]⟩
def nilV : Vs := ⟨.slice none 0 0, .slice none 0 0, .slice none 0 0⟩
theorem newN_in (w : World) (k st : Int) : NdIn (w.alloc (.cells #[.int .i64 k, .int .i64 0, .int .u64 st, .slice none 0 0, .slice none 0 0, .slice none 0 0] 58)) w.heap.size (newN k st) nilV :=
  ⟨At.new _ _ _, World.ownsRow_nil _ _ _ _, World.ownsRow_nil _ _ _ _, World.ownsRow_nil _ _ _ _, by simp [nilV, Value.ownBlock], by simp [nilV, Value.ownBlock], by simp [nilV, Value.ownBlock], by simp [nilV, Value.ownBlock], by simp [nilV, Value.ownBlock], by simp [nilV, Value.ownBlock]⟩
theorem Rep.kindc {w : World} {b : Nat} {S : SV} {V : SW} {L : Nat → Option Role} (h : Rep w b S V L) : ∀ p ∈ S.names, w.cell? ⟨p.2, 0, none⟩ = some (.int .i64 (kinds S p.2)) := fun p hp => by
  rw [(h.nd _ (h.rn p hp)).1.c 0]; rfl
theorem txt_one (w : World) (p : ByteArray) : Txt (w.alloc (.cells #[.string p] 9)) (.slice (some ⟨w.heap.size, 0, none⟩) 1 1) [p.toList] :=
  ⟨_, _, w.heap.size, rfl, fun _ => rfl, fun j hj => by
    obtain rfl : j = 0 := by simpa using hj
    rw [(At.new w #[.string p] 9).cell]; simp [list_tx]⟩
/-- What a store may hold here. -/
structure SV.Fit (S : SV) : Prop where
  left : 0 ≤ S.left ∧ S.left ≤ 9223372036854775807
  ops : 0 ≤ S.ops ∧ S.ops ≤ 100000
  clock : 0 ≤ S.clock ∧ S.clock ≤ 100000
  names : S.names.length ≤ 10000
  acts : S.acts.length ≤ 10000
theorem begin_one (b : Nat) (S : SV) (V : SW) (L : Nat → Option Role) (p : ByteArray) (w : World) (h : Rep w b S V L) (hf : S.Fit) :
    Calls Tryd.prog 30 #[ptr b, .slice (some ⟨w.heap.size, 0, none⟩) 1 1] (w.alloc (.cells #[.string p] 9)) fun e w' => e = .returned (.int .i64 (S.begE [p.toList])) ∧ Rep w' b S.beg V L ∧ StTo w w' L L :=
  (begin_any b S V L _ [p.toList] _ (h.ext (Ext.alloc _ _)) hf.left ⟨hf.ops.1, by have := hf.ops.2; omega⟩ (txt_one w p) (by simp) (fun ad n c hv => by
    injection hv with h1; injection h1 with h1; rw [← h1]
    cases hc : L w.heap.size with
    | none => rfl
    | some r => have := h.lt w.heap.size (by rw [hc]; simp); omega)).mono fun e w' ⟨h1, h2, h3⟩ => ⟨h1, h2, (StTo.of_ext (Ext.alloc _ _)).trans h3⟩
theorem beg_same (S : SV) : S.beg.names = S.names ∧ S.beg.nd = S.nd ∧ S.beg.ids = S.ids ∧ S.beg.clock = S.clock ∧ S.beg.acts = S.acts ∧ S.beg.room = S.room ∧ S.beg.kept = S.kept := by
  unfold SV.beg SV.spend
  by_cases h1 : S.power = 1
  · by_cases h2 : S.left = 0 <;> simp [h1, h2]
  · simp [h1]

set_option maxRecDepth 100000 in
set_option maxHeartbeats 8000000 in
theorem add_err (b : Nat) (S : SV) (V : SW) (L : Nat → Option Role) (p : ByteArray) (k c : Int) (w : World) (h : Rep w b S V L) (hf : S.Fit) (hb : S.begE [p.toList] = 0) (ht : takes S.names (kinds S) p.toList = c) (hc : c ≠ 0) :
    Calls Tryd.prog 29 #[ptr b, .string p, .int .i64 k] w fun e w' => e = .returned (.int .i64 c) ∧ Rep w' b S.beg V L ∧ StTo w w' L L := by
  have BG := Lib.hid (begin_one b S V L p w h hf)
  rw [hb] at BG
  have bs := beg_same S
  have TK := Lib.hid (fun w' (r : Rep w' b S.beg V L) => takes_any V.n S.beg.names (kinds S.beg) p w' (Tr.of_row r.nm) r.sn (by rw [bs.1]; have := hf.names; omega) r.kindc)
  rw [show takes S.beg.names (kinds S.beg) p.toList = c by unfold kinds; rw [bs.1, bs.2.1]; exact ht] at TK
  have q : (c == 0) = false := by simpa using hc
  clear h hf hb ht hc bs
  unfold ptr at *
  go_enter Tryd.func29, Tryd.ntmps29
  go_wp2_with fail
  refine (BG.out).mono ?_
  rintro e w1 ⟨rfl, r1, t1⟩
  have c2 := r1.c 2
  simp only [scells] at c2
  have R1 := Lib.hid r1
  clear r1
  go_wp2_with (go_at_call 42; refine (TK.out _ R1.out).mono ?_; rintro e w' ⟨rfl, hE⟩)
  go_ret
  exact ⟨rfl, R1.out.ext hE, t1.trans (StTo.of_ext hE)⟩
theorem mk_node (b : Nat) (S : SV) (V : SW) (L : Nat → Option Role) (k : Int) (w : World) (r : Rep w b S V L) (hck : 0 ≤ S.clock ∧ S.clock ≤ 1000000) :
    Calls Tryd.prog 32 #[ptr b, ptr w.heap.size] (w.alloc (.cells #[.int .i64 k, .int .i64 0, .int .u64 0, .slice none 0 0, .slice none 0 0, .slice none 0 0] 58)) fun e w' => e = .returned (.tuple #[]) ∧
      ∃ V' L', Rep w' b { S with clock := S.clock + 1, ids := w.heap.size :: S.ids, nd := upd S.nd w.heap.size (newN k (S.clock + 1)) } V' L' ∧ StTo w w' L L' := by
  obtain ⟨L', r2, t2⟩ := r.more (Ext.alloc w (.cells #[.int .i64 k, .int .i64 0, .int .u64 0, .slice none 0 0, .slice none 0 0, .slice none 0 0] 58)) w.heap.size (Nat.le_refl _) (newN k 0) nilV (newN_in w k 0) (newN_ok k 0) (fun i hi => by
    rcases hi with e | e | e | e
    · omega
    · cases e
    · cases e
    · cases e)
  refine (mark_any b w.heap.size _ _ L' _ r2 (List.mem_cons_self) hck).mono ?_
  rintro e w' ⟨h1, V', L2, r3, t3⟩
  refine ⟨h1, V', L2, ?_, t2.trans t3⟩
  simp only [upd_upd, upd_same] at r3
  exact r3
set_option maxRecDepth 100000 in
set_option maxHeartbeats 8000000 in
theorem add_ok (b : Nat) (S : SV) (V : SW) (L : Nat → Option Role) (p : ByteArray) (k : Int) (w : World) (h : Rep w b S V L) (hf : S.Fit) (hb : S.begE [p.toList] = 0) (ht : takes S.names (kinds S) p.toList = 0) (hend : place S.names p.toList = S.names.length) :
    Calls Tryd.prog 29 #[ptr b, .string p, .int .i64 k] w fun e w' => e = .returned (.int .i64 0) ∧ ∃ a V' L', a ∉ S.ids ∧ Rep w' b (S.beg.made a p.toList k) V' L' ∧ StTo w w' L L' := by
  have BG := Lib.hid (begin_one b S V L p w h hf)
  rw [hb] at BG
  have bs := beg_same S
  have TK := Lib.hid (fun w' (r : Rep w' b S.beg V L) => takes_any V.n S.beg.names (kinds S.beg) p w' (Tr.of_row r.nm) r.sn (by rw [bs.1]; have := hf.names; omega) r.kindc)
  rw [show takes S.beg.names (kinds S.beg) p.toList = 0 by unfold kinds; rw [bs.1, bs.2.1]; exact ht] at TK
  have hck : 0 ≤ S.beg.clock ∧ S.beg.clock ≤ 1000000 := by rw [bs.2.2.2.1]; have := hf.clock; omega
  have MK := Lib.hid (fun w' (r : Rep w' b S.beg V L) => mk_node b S.beg V L k w' r hck)
  have CH := Lib.hid (fun (w' : World) (a : Nat) (V' : SW) (L' : Nat → Option Role) (S' : SV) (r : Rep w' b S' V' L') (h1 : S'.names = S.names) (h2 : S'.acts = S.acts) (h3 : a ∈ S'.ids) => change_made b S' V' L' p.toList a w' r (by rw [h1]; have := hf.names; omega) (by rw [h2]; have := hf.acts; omega) (by rw [h1]; exact hend) h3)
  have NI := Lib.hid (fun (w' : World) (r : Rep w' b S.beg V L) => (fun e => by have := (r.nd w'.heap.size (by rw [bs.2.2.1]; exact e)).1.cells.lt; omega : w'.heap.size ∉ S.ids))
  have BS := Lib.hid bs
  clear h hf hb ht bs hck hend
  rw [list_tx] at CH
  unfold ptr at *
  go_enter Tryd.func29, Tryd.ntmps29
  go_wp2_with fail
  refine (BG.out).mono ?_
  rintro e w1 ⟨rfl, r1, t1⟩
  have c2 := r1.c 2
  simp only [scells] at c2
  have R1 := Lib.hid r1
  clear r1
  go_wp2_with fail
  refine (TK.out _ R1.out).mono ?_
  rintro e w2 ⟨rfl, hE⟩
  have R2 := Lib.hid (R1.out.ext hE)
  have T2 := Lib.hid (t1.trans (StTo.of_ext hE))
  clear R1 t1 c2
  go_wp2_with fail
  refine (MK.out _ R2.out).mono ?_
  rintro e w3 ⟨rfl, V3, L3, r3, t3⟩
  have R3 := Lib.hid r3
  have T3 := Lib.hid (T2.out.trans t3)
  clear r3 t3
  go_wp2_with fail
  refine (CH.out w3 w2.heap.size V3 L3 _ R3.out BS.out.1 BS.out.2.2.2.2.1 List.mem_cons_self).mono ?_
  rintro e w4 ⟨rfl, V4, L4, r4, t4⟩
  have R4 := Lib.hid r4
  have T4 := Lib.hid (T3.out.trans t4)
  clear r4 t4
  go_wp2
  go_ret
  refine ⟨rfl, w2.heap.size, V4, L4, NI.out _ R2.out, ?_, T4.out⟩
  exact R4.out
set_option maxHeartbeats 4000000 in
theorem create_of {R : World → Prop} (b : Nat) (p : ByteArray) (c : Int) (w : World) (h : Calls Tryd.prog 29 #[ptr b, .string p, .int .i64 1] w fun e w' => e = .returned (.int .i64 c) ∧ R w') : Calls Tryd.prog 10 #[ptr b, .string p] w fun e w' => e = .returned (.int .i64 c) ∧ R w' := by
  have H := Lib.hid h
  clear h
  unfold ptr at *
  go_enter Tryd.func10, Tryd.ntmps10
  go_wp2_with (go_at_call 29; refine (H.out).mono ?_; rintro e w' ⟨rfl, hE⟩)
  go_ret
  exact ⟨rfl, hE⟩
set_option maxHeartbeats 4000000 in
theorem mkdir_of {R : World → Prop} (b : Nat) (p : ByteArray) (c : Int) (w : World) (h : Calls Tryd.prog 29 #[ptr b, .string p, .int .i64 2] w fun e w' => e = .returned (.int .i64 c) ∧ R w') : Calls Tryd.prog 19 #[ptr b, .string p] w fun e w' => e = .returned (.int .i64 c) ∧ R w' := by
  have H := Lib.hid h
  clear h
  unfold ptr at *
  go_enter Tryd.func19, Tryd.ntmps19
  go_wp2_with (go_at_call 29; refine (H.out).mono ?_; rintro e w' ⟨rfl, hE⟩)
  go_ret
  exact ⟨rfl, hE⟩
end Go.Proofs.YtbneedmfpldpfaaDoor
