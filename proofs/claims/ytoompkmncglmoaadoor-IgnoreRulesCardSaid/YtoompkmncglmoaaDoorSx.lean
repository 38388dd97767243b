/- strings.IndexAny and strings.ContainsAny of whatever bytes, asked for a blank and a byte 10. No conditions but those typed. -/
import Derived.Test.YtoompkmncglmoaaDoorIg
import Derived.Laws.RangeAny
import Derived.Laws.Runes
import Derived.Lib.OthersKept
import Derived.Lib.SpaceUEq
import Derived.Lib.QuoteLoop
import Derived.Lib.MapLaws
import Derived.WalkMore
import Derived.Handy
namespace Go.Proofs.YtoompkmncglmoaaDoor
open Go.RowKit Go.Pth

theorem valid_rune (r : Int) (h : Lib.validRune r = true) : Utf8.valid r = true := by
  unfold Lib.validRune at h
  unfold Utf8.valid
  have := of_decide_eq_true h
  simp
  omega
theorem ext_iter (w : World) (s : ByteArray) (p : Nat) : Ext w (w.iter s p) := Ext.alloc w _

set_option maxRecDepth 1000000 in
set_option maxHeartbeats 8000000 in
theorem rune_err (w : World) : Calls Tryd.prog 52 #[.string ⟨#[32, 10]⟩, .int .i32 65533] w fun e w' => e = .returned (.int .i64 (-1)) ∧ Ext w w' := by
  have n0 : ∀ ty, (Instr.next (.pointer (some ⟨w.heap.size, 0, none⟩)) true ty).run Tryd.prog (w.iter ⟨#[32, 10]⟩ 0) = .ok (.tuple #[.bool true, .int .i64 0, .int .i32 32]) (w.iter ⟨#[32, 10]⟩ 1) := fun ty => run_next_ascii (P := Tryd.prog) w ⟨#[32, 10]⟩ 0 ty (by decide) (by decide)
  have n1 : ∀ ty, (Instr.next (.pointer (some ⟨w.heap.size, 0, none⟩)) true ty).run Tryd.prog (w.iter ⟨#[32, 10]⟩ 1) = .ok (.tuple #[.bool true, .int .i64 1, .int .i32 10]) (w.iter ⟨#[32, 10]⟩ 2) := fun ty => run_next_ascii (P := Tryd.prog) w ⟨#[32, 10]⟩ 1 ty (by decide) (by decide)
  have n2 := fun ty => run_next_end (P := Tryd.prog) w ⟨#[32, 10]⟩ 2 ty (by decide)
  go_enter Tryd.func52, Tryd.ntmps52
  go_wp2_with fail
  go_rounds 3
  go_ret
  exact ⟨rfl, ext_iter w _ _⟩
set_option maxRecDepth 1000000 in
set_option maxHeartbeats 8000000 in
theorem rune_far (r : Int) (h0 : 128 ≤ r) (h1 : Lib.validRune r = true) (h2 : r ≠ 65533) (w : World) : Calls Tryd.prog 52 #[.string ⟨#[32, 10]⟩, .int .i32 r] w fun e w' => e = .returned (.int .i64 (-1)) ∧ Ext w w' := by
  obtain ⟨f1, f2, f3⟩ := encode_facts r (valid_rune r h1) h0
  have V := Lib.hid (fun w' : World => Tryd.utf8_ValidRune r w')
  rw [h1] at V
  have d0 : decide ((0 : Int) ≤ r) = true := decide_eq_true (by omega)
  have d1 : decide (r < 128) = false := decide_eq_false (by omega)
  have d2 : (r == 65533) = false := beq_eq_false_iff_ne.mpr h2
  go_enter Tryd.func52, Tryd.ntmps52
  go_wp2_with fail
  refine (V.out _).mono ?_
  rintro e w1 ⟨rfl, rfl⟩
  clear V
  generalize hE : Utf8.encode r = E at f1 f2 f3
  by_cases h3 : E.size = 2
  · obtain ⟨y, hy, hy2⟩ : ∃ y : UInt8, E[1]'(by omega) = y ∧ 128 ≤ y.toNat := by
      refine ⟨_, rfl, ?_⟩
      have := f3 (by omega)
      simp only [h3] at this
      exact this
    clear f1 f2 f3
    have IB := Lib.hid (fun (z : ByteArray) (w' : World) => Tryd.strings_IndexByte z (y.toNat : Int) w')
    have hten : ((⟨#[32, 10]⟩ : ByteArray)[1]'(by decide)).toNat = 10 := by decide
    have hw2 : IntKind.i64.wrap 2 = 2 := by rfl
    have j0 : (1 : Int) < (E.size : Int) := by omega
    have j1 : (E.size : Int) - 1 = 1 := by omega
    have j2 : (1 : Nat) < E.size := by omega
    have j3 : ((10 : Int) != (y.toNat : Int)) = true := by rw [bne_iff_ne]; omega
    go_wp2; go_step3; go_wp2
    go_loopw [9] (fun i wr => i = .int .i64 1 ∧ wr = w1) (fun _ _ => 1)
    case atStart => exact ⟨rfl, rfl⟩
    case round =>
      obtain ⟨rfl, rfl⟩ := hrel
      go_wp2_with fail
      go_step3
      go_upto_region 6 with fail
      go_quiet (fail)
      clear hE
      have E1 := Lib.hid (Ext.drewN wr nq)
      generalize wr.drewN nq = wq at *
      go_wp2_with fail
      go_quiet ((go_at_call 64; exact Calls.quiet_of_same (IB.out _ _)))
      have E2 := Lib.hid (E1.out.trans (Ext.drewN wq nq))
      generalize wq.drewN nq = wz at *
      rw [show Lib.indexByte ByteArray.empty.data.toList ((y.toNat : Int)).toNat.toUInt8 = -1 from rfl]
      go_wp2_with fail
      rw [Exit.noGoto_ret]
      simp only [Exit.inBlock]
      show Exit.noGoto _ Exit.ret _ _
      rw [Exit.noGoto_ret]
      simp only [Exit.inBlock, Exit.then]
      rw [Exit.noGoto_ret]
      go_ret
      exact ⟨rfl, E2.out⟩
  · have h4 : 3 ≤ E.size := by omega
    clear h3 f3
    have l0 : decide ((E.size : Int) - 1 < 2) = false := decide_eq_false (by omega)
    have l1 : ¬ ((E.size : Int) - 1 < 2) := by omega
    go_wp2; go_step3; go_wp2
    go_loopw [9] (fun i wr => i = .int .i64 ((E.size : Int) - 1) ∧ wr = w1) (fun _ _ => 1)
    case atStart => exact ⟨rfl, rfl⟩
    case round =>
      obtain ⟨rfl, rfl⟩ := hrel
      go_wp2_with fail
      rw [Exit.noGoto_ret]
      go_ret
      exact ⟨rfl, Ext.refl _⟩

theorem rune_no (r : Int) (h0 : 128 ≤ r) (h1 : Lib.validRune r = true) (w : World) : Calls Tryd.prog 52 #[.string ⟨#[32, 10]⟩, .int .i32 r] w fun e w' => e = .returned (.int .i64 (-1)) ∧ Ext w w' := by
  by_cases h : r = 65533
  · subst h; exact rune_err w
  · exact rune_far r h0 h1 h w

/-- what is read at a place: a byte below 128, or a rune from 128 on, behind whose first byte none is below 128. -/
theorem decode_two (s : ByteArray) (i : Nat) (hi : i < s.size) : 1 ≤ (Utf8.decode s i).2 ∧ i + (Utf8.decode s i).2 ≤ s.size ∧
    ((s[i].toNat < 128 ∧ Utf8.decode s i = (s[i].toNat, 1)) ∨ (128 ≤ (Utf8.decode s i).1 ∧ Lib.validRune ((Utf8.decode s i).1 : Int) = true ∧ ∀ j, j < (Utf8.decode s i).2 → ∀ b, s.toList[i + j]? = some b → 128 ≤ b.toNat)) := by
  have g : ∀ k, i + k < s.size → (s.get! (i + k)).toNat = (s.toList[i + k]?.getD 0).toNat := fun k hk => by
    have e : s.get! (i + k) = s[i + k] := by
      simp [ByteArray.get!, getElem!_pos, hk]
      rfl
    rw [e, tx_get s _ hk]; rfl
  have g0 := g 0 (by omega)
  rw [Nat.add_zero] at g0
  have gi : s.toList[i]? = some s[i] := tx_get s i hi
  rw [gi] at g0
  simp only [Option.getD_some] at g0
  rw [Lib.decode_at]
  have hb0 : (s.get! i).toNat < 256 := UInt8.toNat_lt _
  have hc := Lib.decodeN_conts (s.size - i) (s.get! i).toNat (s.get! (i + 1)).toNat (s.get! (i + 2)).toNat (s.get! (i + 3)).toNat
  have hw := Lib.decodeN_width_le (s.size - i) (s.get! i).toNat (s.get! (i + 1)).toNat (s.get! (i + 2)).toNat (s.get! (i + 3)).toNat (by omega)
  have h1 := Lib.decodeN_ge1 (s.size - i) (s.get! i).toNat (s.get! (i + 1)).toNat (s.get! (i + 2)).toNat (s.get! (i + 3)).toNat
  have hv := Lib.decodeN_valid (s.size - i) (s.get! i).toNat (s.get! (i + 1)).toNat (s.get! (i + 2)).toNat (s.get! (i + 3)).toNat hb0
  have hs := Lib.decodeN_shape (s.size - i) (s.get! i).toNat (s.get! (i + 1)).toNat (s.get! (i + 2)).toNat (s.get! (i + 3)).toNat
  have ha : ¬ (s.get! i).toNat < 128 → 128 ≤ (Lib.decodeN (s.size - i) (s.get! i).toNat (s.get! (i + 1)).toNat (s.get! (i + 2)).toNat (s.get! (i + 3)).toNat).1 := by
    intro hn
    rcases hs with ⟨h, _⟩ | ⟨_, _, _, h, e⟩ | ⟨_, _, _, _, h, _, e⟩ | ⟨_, _, _, _, _, h, _, e⟩ | e
    · exact absurd h hn
    all_goals (rw [e]; simp only; omega)
  have hl : (s.get! i).toNat < 128 → Lib.decodeN (s.size - i) (s.get! i).toNat (s.get! (i + 1)).toNat (s.get! (i + 2)).toNat (s.get! (i + 3)).toNat = ((s.get! i).toNat, 1) := fun h => by
    unfold Lib.decodeN; rw [if_pos h]
  generalize Lib.decodeN (s.size - i) (s.get! i).toNat (s.get! (i + 1)).toNat (s.get! (i + 2)).toNat (s.get! (i + 3)).toNat = D at *
  refine ⟨h1, by omega, ?_⟩
  by_cases h : (s.get! i).toNat < 128
  · left
    refine ⟨by omega, ?_⟩
    rw [hl h, g0]
  · right
    refine ⟨ha h, ?_, fun j hj b hb => ?_⟩
    · simp only [Lib.validRune, decide_eq_true_eq]; omega
    · obtain ⟨c2, c3, c4, c5⟩ := hc
      have hin : i + j < s.size := by rw [size_list]; exact (List.getElem?_eq_some_iff.1 hb).1
      have gj := g j hin
      rw [hb] at gj
      simp only [Option.getD_some] at gj
      rcases j with _ | _ | _ | _ | j
      · rw [Nat.add_zero] at gj; omega
      · have := (c2 (by omega)).1; simp only [Nat.zero_add] at gj; omega
      · have := (c3 (by omega)).1; simp only [Nat.zero_add, Nat.reduceAdd] at gj; omega
      · have := (c4 (by omega)).1; simp only [Nat.zero_add, Nat.reduceAdd] at gj; omega
      · omega
end Go.Proofs.YtoompkmncglmoaaDoor
