/- What image's functions that only read, or make new memory, answer: Copies, cloned, held, All, Gen, Dead. No conditions but those named: contracts. -/
import Derived.Test.YtnhokjnmpdiokaaGreatDoorIcM
import Derived.Test.YtnhokjnmpdiokaaGreatDoorCbM
namespace Go.Proofs.YtnhokjnmpdiokaaGreatDoor
open Go.RowKit Go.Sha Go.Pth
set_option linter.unusedSimpArgs false
set_option linter.unusedVariables false

theorem ext_cell {w w' : World} (h : Ext w w') {p : Addr} {v : Value} (hp : w.cell? p = some v) : w'.cell? p = some v := V.Ext.cell (v_ext h) hp
def cpT (j : Nat) : ByteArray := V.tx (V.cpB j)
theorem copies_any (w : World) : Calls Tryz.prog 14 #[] w fun e w' => e = .returned (.slice (some ⟨w.heap.size, 0, none⟩) 3 3) ∧ w' = w.alloc (.cells #[.string (cpT 0), .string (cpT 1), .string (cpT 2)] 9) := by
  go_enter Tryz.func14, Tryz.ntmps14
  go_wp2
  go_ret
  exact ⟨rfl, rfl⟩
theorem gen_any (w : World) (ab g : Nat) (h : w.cell? ⟨ab, 1, none⟩ = some (.int .i64 (g : Int))) : Calls Tryz.prog 23 #[V.ptr ab] w fun e w' => e = .returned (.int .i64 (g : Int)) ∧ w = w' := by
  unfold V.ptr
  go_enter Tryz.func23, Tryz.ntmps23
  go_wp2
  go_ret
  exact ⟨rfl, rfl⟩
theorem dead_any (w : World) (ab : Nat) (h : w.cell? ⟨ab, 3, none⟩ = some (.bool false)) : Calls Tryz.prog 24 #[V.ptr ab] w fun e w' => e = .returned (.bool false) ∧ w = w' := by
  unfold V.ptr
  go_enter Tryz.func24, Tryz.ntmps24
  go_wp2
  go_ret
  exact ⟨rfl, rfl⟩
theorem held_any (w : World) (ab : Nat) (ad : Option Addr) (n cap : Nat) (h : w.cell? ⟨ab, 2, none⟩ = some (.slice ad n cap)) : Calls Tryz.prog 45 #[V.ptr ab] w fun e w' => e = .returned (.slice ad n cap) ∧ w = w' := by
  unfold V.ptr
  go_enter Tryz.func45, Tryz.ntmps45
  go_wp2
  go_ret
  exact ⟨rfl, rfl⟩

theorem szRef : (Tryz.prog.info? 52).map (·.size) = some 6 := by kernel_rfl
def ClPost (w : World) (ds : List RD) (e : Ending) (w' : World) : Prop := ∃ v l', e = .returned v ∧ Ext w w' ∧ OwnR w' w.heap.size v l' ∧ l'.map RV.d = ds
def InvCl (w : World) (l : List RV) (v i : Value) (wr : World) : Prop := ∃ (k : Nat) (l' : List RV), k ≤ l.length ∧ i = .int .i64 k ∧ OwnR wr w.heap.size v l' ∧ l'.map RV.d = (l.take k).map RV.d ∧ Ext w wr

set_option maxRecDepth 100000 in
set_option maxHeartbeats 8000000 in
theorem cloned_any (X : Nat → Prop) (v : Value) (l : List RV) (w : World) (h : RR X w v l) (hl : l.length ≤ 1000000) (hr : ∀ x ∈ l, x.r.length ≤ 1000000) : Calls Tryz.prog 34 #[v] w (ClPost w (l.map RV.d)) := by
  obtain ⟨ad, cap, b, o, h⟩ := h
  have ev := h.val
  subst ev
  have HR := Lib.hid h
  have HB := Lib.hid hr
  have hcap := h.cap_
  have hadr := Lib.hid h.adr
  clear h hr
  obtain ⟨n, hn⟩ : ∃ n, n = l.length := ⟨_, rfl⟩
  have HN := Lib.hid hn
  rw [← hn] at hcap hl ⊢
  clear hn
  go_enter Tryz.func34, Tryz.ntmps34
  go_wp2
  go_loopw [3, 8] (fun v i wr => InvCl w l v i wr) (fun _ i _ => n - (intOf i).toNat)
  case atStart => exact ⟨0, [], by omega, rfl, OwnR.nil w _, rfl, Ext.refl w⟩
  case round =>
    obtain ⟨k, l', hk, rfl, op, hd, ex⟩ := hrel
    rw [← HN.out] at hk
    by_cases hlt : k < n
    · have i0 : (k : Int) < (n : Int) := by omega
      have i1 : (0 : Int) ≤ (k : Int) := by omega
      obtain ⟨x, hx⟩ : ∃ x, l[k]? = some x := ⟨_, List.getElem?_eq_getElem (by rw [← HN.out]; exact hlt)⟩
      have ea := hadr.out (by rw [← HN.out]; omega)
      subst ea
      obtain ⟨c0, c1, c2, c3, c4, c5⟩ := HR.out.cells k x hx
      have hxm := List.mem_of_getElem? hx
      have S1 := HR.out.src x hxm
      have hxl := HB.out x hxm
      have hst : (l.take (k + 1)).map RV.d = (l.take k).map RV.d ++ [x.d] := by rw [List.take_add_one, hx]; simp
      have HST := Lib.hid hst
      obtain ⟨p, xk, z, m, t, vv, r⟩ := x
      simp only at c0 c1 c2 c3 c4 c5 S1 hxl
      obtain ⟨adx, capx, evx, -⟩ := S1.val
      obtain ⟨R, hR⟩ : ∃ n, n = r.length := ⟨_, rfl⟩
      rw [← hR] at evx hxl
      have HRr := Lib.hid hR
      clear hR
      subst evx
      replace c0 := ext_cell ex c0
      replace c1 := ext_cell ex c1
      replace c2 := ext_cell ex c2
      replace c3 := ext_cell ex c3
      replace c4 := ext_cell ex c4
      replace c5 := ext_cell ex c5
      have hll : l'.length ≤ 1000000 := by
        have := congrArg List.length hd
        simp only [List.length_map, List.length_take] at this
        omega
      obtain ⟨adl, capl, el⟩ := op.len
      subst el
      obtain ⟨LL, hLL⟩ : ∃ n, n = l'.length := ⟨_, rfl⟩
      rw [← hLL] at op hll ⊢
      have HLL := Lib.hid hLL
      have HD := Lib.hid hd
      clear hLL hd hst hx hxm
      have e4 : Ext wr (wr.alloc (.cells #[.string ⟨#[]⟩, .int .i64 0, .int .i64 0, .int .i64 0, .int .u64 0, .slice none 0 0] 52)) := Ext.alloc wr _
      have a4 := At.new wr #[.string ⟨#[]⟩, .int .i64 0, .int .i64 0, .int .i64 0, .int .u64 0, .slice none 0 0] 52
      have one : (#[.string p, .int .i64 xk, .int .i64 z, .int .i64 m, .int .u64 t, .slice adx R capx] : Array Value).all (·.oneCell') = true := by simp [Value.oneCell']
      have sz2 : (Tryz.prog.info? 52).map (·.size) = some (#[.string p, .int .i64 xk, .int .i64 z, .int .i64 m, .int .u64 t, .slice adx R capx] : Array Value).size := szRef
      have e5 := ext_only' e4 (Only.setRow wr.heap.size _ #[.string p, .int .i64 xk, .int .i64 z, .int .i64 m, .int .u64 t, .slice adx R capx]) (Nat.le_refl _)
      have a5 : At ((wr.alloc (.cells #[.string ⟨#[]⟩, .int .i64 0, .int .i64 0, .int .i64 0, .int .u64 0, .slice none 0 0] 52)).setRow wr.heap.size #[.string p, .int .i64 xk, .int .i64 z, .int .i64 m, .int .u64 t, .slice adx R capx]) wr.heap.size #[.string p, .int .i64 xk, .int .i64 z, .int .i64 m, .int .u64 t, .slice adx R capx] 52 := a4.row _
      clear hlt
      go_upto_region 5 with (refine wpList_store_row rfl 52 _ _ rfl wr.heap.size _ rfl rfl 52 _ a4 sz2 rfl one ?_)
      generalize (wr.alloc (.cells #[.string ⟨#[]⟩, .int .i64 0, .int .i64 0, .int .i64 0, .int .u64 0, .slice none 0 0] 52)).setRow wr.heap.size #[.string p, .int .i64 xk, .int .i64 z, .int .i64 m, .int .u64 t, .slice adx R capx] = w5 at *
      obtain ⟨g5, hg5⟩ : ∃ g, g = wr.heap.size := ⟨_, rfl⟩
      rw [← hg5] at a5 ⊢
      have hg5' : wr.heap.size ≤ g5 := by omega
      have ex5 := ex.trans e5
      have f55 := a5.cell 5
      have S5 := S1.ext ex5
      clear e4 a4 c0 c1 c2 c3 c4 c5 hg5 S1 one sz2
      go_wp2_with fail
      refine (clone_at _ r w5.heap.size w5 S5.now (by rw [← HRr.out]; omega)).mono ?_
      rintro e w6 ⟨v6, rfl, e6, o6⟩
      obtain ⟨ad6, cap6, ev6⟩ := o6.len
      rw [← HRr.out] at ev6
      subst ev6
      have a6 := at_ext a5 e6
      have f65 := a6.cell 5
      have z65 := a6.frozen 5
      have a7 : At (w6.setCell ⟨g5, 5, none⟩ (.slice ad6 R cap6)) g5 #[.string p, .int .i64 xk, .int .i64 z, .int .i64 m, .int .u64 t, .slice ad6 R cap6] 52 := a6.set 5 (.slice ad6 R cap6)
      have o7 := Only.set g5 5 w6 (.slice ad6 R cap6)
      have e7 : Ext wr (w6.setCell ⟨g5, 5, none⟩ (.slice ad6 R cap6)) := ext_only' (e5.trans e6) o7 hg5'
      have e8 : Ext (w6.setCell ⟨g5, 5, none⟩ (.slice ad6 R cap6)) ((w6.setCell ⟨g5, 5, none⟩ (.slice ad6 R cap6)).alloc (.cells #[.string p, .int .i64 xk, .int .i64 z, .int .i64 m, .int .u64 t, .slice ad6 R cap6] 52)) := Ext.alloc _ _
      have a8 := At.new (w6.setCell ⟨g5, 5, none⟩ (.slice ad6 R cap6)) #[.string p, .int .i64 xk, .int .i64 z, .int .i64 m, .int .u64 t, .slice ad6 R cap6] 52
      rw [V.size_setCell] at a8
      have op8 := op.ext (e7.trans e8)
      have l5 : wr.heap.size ≤ w5.heap.size := e5.size
      have HC := Lib.hid (show ∀ j u, (rcs ⟨p, xk, z, m, t, .slice ad6 R cap6, r⟩)[j]? = some u → ((w6.setCell ⟨g5, 5, none⟩ (.slice ad6 R cap6)).alloc (.cells #[.string p, .int .i64 xk, .int .i64 z, .int .i64 m, .int .u64 t, .slice ad6 R cap6] 52)).cell? ⟨w6.heap.size, j, none⟩ = some u from fun j u hu => by
        rw [a8.cell]; simpa [rcs] using hu)
      have HS := Lib.hid (show ∀ bh, (bh < w.heap.size ∨ (.slice adl LL capl : Value).ownBlock = some bh ∨ ((w6.setCell ⟨g5, 5, none⟩ (.slice ad6 R cap6)).alloc (.cells #[.string p, .int .i64 xk, .int .i64 z, .int .i64 m, .int .u64 t, .slice ad6 R cap6] 52)).heap.size ≤ bh) → Sha.Src ((w6.setCell ⟨g5, 5, none⟩ (.slice ad6 R cap6)).alloc (.cells #[.string p, .int .i64 xk, .int .i64 z, .int .i64 m, .int .u64 t, .slice ad6 R cap6] 52)) (.slice ad6 R cap6) r bh from fun bh hbh => by
        refine Sha.Src.ext (src_keep (o6.srcs g5 (Or.inl a5.lt)) (o6.srcs bh ?_) o7) e8
        rcases hbh with h | h | h
        · exact Or.inl (Nat.lt_of_lt_of_le h (Nat.le_trans ex.size l5))
        · exact Or.inl (Nat.lt_of_lt_of_le (op.block bh h).2 l5)
        · exact Or.inr (Nat.le_trans (Nat.le_trans o7.size e8.size) h))
      have HB2 := Lib.hid (ex.trans (e7.trans e8))
      have HL5 := Lib.hid (show LL < 1099511627776 by omega)
      clear e7 e8 o7 o6 a6 S5 ex5 e5 e6 a5 op ex hll
      go_wp2_with (first | (refine wpList_load_row rfl 52 _ rfl g5 rfl 52 _ (0, 0) _ a7 Tryz.underlying52 rfl szRef ?_) | (refine list_append_r rfl (.tmp 16) (.tmp 18) 22 rfl Tryz.underlying22 w.heap.size (.slice adl LL capl) l' rfl op8 w6.heap.size 1 ⟨p, xk, z, m, t, .slice ad6 R cap6, r⟩ rfl HC.out rfl HS.out (by rw [← HLL.out]; exact HL5.out) HB2.out.size ?_; intro v9 w9 op9 b9))
      exact ⟨⟨k + 1, l' ++ [⟨p, xk, z, m, t, .slice ad6 R cap6, r⟩], by rw [← HN.out]; omega, by go_num, op9, by rw [HST.out, List.map_append, HD.out]; rfl, Below.trans HB2.out b9⟩, by simp [intOf]; omega⟩
    · have d0 : decide ((k : Int) < (n : Int)) = false := by simp; omega
      obtain rfl : k = n := by omega
      rw [List.take_of_length_le (by rw [← HN.out]; exact Nat.le_refl _)] at hd
      have F := Lib.hid (And.intro ex (And.intro op hd))
      clear hlt hd op ex
      go_wp2
      go_ret
      exact ⟨_, l', rfl, F.out.1, F.out.2.1, F.out.2.2⟩
end Go.Proofs.YtnhokjnmpdiokaaGreatDoor
