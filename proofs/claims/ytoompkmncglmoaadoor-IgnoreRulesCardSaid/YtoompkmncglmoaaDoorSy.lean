/- strings.IndexAny and strings.ContainsAny of whatever bytes, asked for a blank and a byte 10: all roads. No conditions but those typed. -/
import Derived.Test.YtoompkmncglmoaaDoorSx
import Derived.Deep.LoopGhost
namespace Go.Proofs.YtoompkmncglmoaaDoor
open Go.RowKit Go.Pth

def asked : B := [32, 10]
def InvA (w : World) (s : ByteArray) (g : Nat) (wr : World) : Prop :=
  ∃ i : Nat, i + g = s.size ∧ wr.heap[w.heap.size]? = some (.stringIter s i) ∧ Ext w wr ∧ Lib.NoAny s.toList asked i
theorem noany_far {s : B} {i n : Nat} (h : Lib.NoAny s asked i) (hn : ∀ j, j < n → ∀ b, s[i + j]? = some b → 128 ≤ b.toNat) : Lib.NoAny s asked (i + n) := fun j b hj hb => by
  by_cases h1 : j < i
  · exact h j b h1 hb
  · have h2 := hn (j - i) (by omega) b (by rw [show i + (j - i) = j by omega]; exact hb)
    unfold asked
    simp only [List.contains_cons, List.contains_nil, Bool.or_false, Bool.or_eq_false_iff, beq_eq_false_iff_ne]
    exact ⟨fun e => by subst e; simp at h2, fun e => by subst e; simp at h2⟩
set_option maxRecDepth 1000000 in
set_option maxHeartbeats 8000000 in
theorem indexAny_few (s : ByteArray) (w : World) (h8 : s.size ≤ 8) : Calls Tryd.prog 45 #[.string s, .string ⟨#[32, 10]⟩] w fun e w' => e = .returned (.int .i64 (Lib.indexAny s.toList asked)) ∧ Ext w w' := by
  have h8z : decide ((8 : Int) < (s.size : Int)) = false := decide_eq_false (by omega)
  have HSZ := Lib.hid (size_list s)
  have U := Lib.hid (fun w' : World => Tryd.strings_shouldUseASCIISet (s.size : Int) w')
  rw [h8z] at U
  go_enter Tryd.func45, Tryd.ntmps45
  go_wp2_with fail
  refine (U.out _).mono ?_
  rintro e w1 ⟨rfl, rfl⟩
  clear U h8z
  go_wp2_with fail
  go_loopg [9, 10] s.size (fun g _ _ wx => InvA w1 s g wx)
  case atStart => exact ⟨0, by omega, World.iter_heap w1 s 0, ext_iter w1 s 0, Lib.NoAny.zero _ _⟩
  case round =>
    obtain ⟨i, hig, hk, he, hno⟩ := hrel
    have HN := Lib.hid hno; have HE := Lib.hid he
    clear hno
    cases gk with
    | zero =>
      obtain rfl : i = s.size := by omega
      have hnx := fun ty => Lib.run_next_end_at (P := Tryd.prog) wr w1.heap.size s s.size ty hk (by omega)
      have R : Hid (Lib.indexAny s.toList asked = -1) := Lib.hid (Lib.indexAny_none (by rw [← HSZ.out]; exact HN.out))
      clear he hk
      go_wp2_with fail
      go_ret
      exact ⟨by rw [R.out]; rfl, HE.out⟩
    | succ g =>
      have hi : i < s.size := by omega
      obtain ⟨d1, d2, d3⟩ := decode_two s i hi
      have hnx := fun ty => Lib.run_next_any_at (P := Tryd.prog) wr w1.heap.size s i ty hk hi
      have hk2 := Lib.iterAt_heap wr w1.heap.size s i (i + (Utf8.decode s i).2) hk
      have he2 : Ext w1 (wr.iterAt w1.heap.size s (i + (Utf8.decode s i).2)) := Lib.below_iterAt he (Nat.le_refl _) s _
      have NX := Lib.hid (fun w' (e : Ext (wr.iterAt w1.heap.size s (i + (Utf8.decode s i).2)) w') (hn : Lib.NoAny s.toList asked (i + (Utf8.decode s i).2)) => (show InvA w1 s (s.size - (i + (Utf8.decode s i).2)) w' from
        ⟨_, by omega, (e.block _ (by rw [Lib.iterAt_size]; exact Nat.lt_of_lt_of_le (Array.getElem?_eq_some_iff.1 hk).1 (Nat.le_refl _))).trans hk2, he2.trans e, hn⟩))
      have DEC := Lib.hid (show s.size - (i + (Utf8.decode s i).2) < g + 1 by omega)
      have HE2 := Lib.hid he2
      clear he hk hk2 he2
      rcases d3 with ⟨h128, hd⟩ | ⟨h128, hv, hc⟩
      · obtain ⟨x, hx⟩ : ∃ x : UInt8, s[i] = x := ⟨_, rfl⟩
        have Hx : Hid (s.toList[i]? = some x) := Lib.hid (by rw [tx_get s i hi, hx])
        rw [hx] at hd h128
        rw [hd] at hnx NX DEC HE2
        have hcon := Lib.contains_iff_indexByte asked x
        have hback : ((x.toNat : Int)).toNat.toUInt8 = x := by simp
        have IR := Lib.hid (fun w' : World => Tryd.strings_IndexRune_ascii ⟨#[32, 10]⟩ (x.toNat : Int) w' (by omega) (by omega))
        rw [hback, show (⟨#[32, 10]⟩ : ByteArray).data.toList = asked from rfl] at IR
        clear hd hx hback d1 d2
        generalize wr.iterAt w1.heap.size s (i + 1) = W at *
        cases hin : asked.contains x with
        | false =>
          rw [hin] at hcon
          have hlt : ¬ ((0 : Int) ≤ Lib.indexByte asked x) := of_decide_eq_false hcon.symm
          generalize Lib.indexByte asked x = o at *
          clear hcon
          go_wp2_with fail
          refine (IR.out _).mono ?_
          rintro e w3 ⟨rfl, rfl⟩
          go_wp2_with fail
          have HNX := Lib.hid (HN.out.succ Hx.out hin)
          go_roundg (s.size - (i + 1))
          case measure => exact DEC.out
          case rel => exact NX.out _ (Ext.refl _) HNX.out
        | true =>
          rw [hin] at hcon
          have hlt : ((0 : Int) ≤ Lib.indexByte asked x) := of_decide_eq_true hcon.symm
          generalize Lib.indexByte asked x = o at *
          clear hcon
          have R : Hid (Lib.indexAny s.toList asked = i) := Lib.hid (Lib.indexAny_hit HN.out Hx.out hin)
          go_wp2_with fail
          refine (IR.out _).mono ?_
          rintro e w3 ⟨rfl, rfl⟩
          go_wp2_with fail
          go_ret
          exact ⟨by rw [R.out]; rfl, HE2.out⟩
      · have RN := Lib.hid (fun w' : World => rune_no ((Utf8.decode s i).1 : Int) (by omega) hv w')
        have HNX := Lib.hid (noany_far HN.out hc)
        clear hc d1 d2 hv h128
        generalize wr.iterAt w1.heap.size s (i + (Utf8.decode s i).2) = W at *
        generalize (Utf8.decode s i).1 = D1 at *
        generalize (Utf8.decode s i).2 = D2 at *
        go_wp2_with fail
        refine (RN.out _).mono ?_
        rintro e w3 ⟨rfl, e3⟩
        go_wp2_with fail
        go_roundg (s.size - (i + D2))
        case measure => exact DEC.out
        case rel => exact NX.out _ e3 HNX.out

theorem indexAny_any (s : ByteArray) (w : World) (hs : s.size ≤ 1000000) : Calls Tryd.prog 45 #[.string s, .string ⟨#[32, 10]⟩] w fun e w' => e = .returned (.int .i64 (Lib.indexAny s.toList asked)) ∧ Ext w w' := by
  by_cases h8 : s.size ≤ 8
  · exact indexAny_few s w h8
  · have h := Tryd.strings_IndexAny_long (zero_of_info (n := 256) (by kernel_rfl)).1 s ⟨#[32, 10]⟩ w (by decide) (by omega) (by omega) (by decide) (fun j b hj => by
      have : b ∈ [(32 : UInt8), 10] := List.mem_of_getElem? hj
      simp only [List.mem_cons, List.not_mem_nil, or_false] at this
      rcases this with rfl | rfl <;> decide)
    refine h.mono fun e w' ⟨h1, h2⟩ => ⟨by rw [ByteArray.toList_eq]; exact h1, ?_⟩
    rw [h2]
    exact (Ext.alloc w _).trans (Ext.alloc _ _)
set_option maxHeartbeats 1000000 in
theorem anyOk_all (p : B) (hp : p.length ≤ 1000000) : AnyOk p := fun w => by
  have IA := indexAny_any (tx p) w (by rw [tx_size]; exact hp)
  rw [tx_list] at IA
  have R : Hid (Lib.containsAny p [32, 10] = decide (0 ≤ Lib.indexAny p asked)) := Lib.hid rfl
  generalize Lib.indexAny p asked = o at *
  generalize tx p = s at *
  go_enter Tryd.func37, Tryd.ntmps37
  go_wp2_with fail
  refine IA.mono ?_
  rintro e w1 ⟨rfl, e1⟩
  go_wp2_with fail
  go_ret
  exact ⟨retbb R.out.symm, e1⟩
end Go.Proofs.YtoompkmncglmoaaDoor
