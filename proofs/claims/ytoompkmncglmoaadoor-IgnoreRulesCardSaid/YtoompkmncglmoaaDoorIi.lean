/- The contracts of tell and Ignored. -/
import Derived.Test.YtoompkmncglmoaaDoorIh
import Derived.WalkMore
namespace Go.Proofs.YtoompkmncglmoaaDoor
open Go.RowKit Go.Pth

/-- what is left to be asked says nothing. -/
def InvT12 (w : World) (rs : List RL) (p : B) (dir : Bool) (i : Value) (wr : World) : Prop :=
  ∃ k : Nat, k ≤ rs.length ∧ i = .int .i64 ((k : Int) - 1) ∧ Ext w wr ∧ ∀ q ∈ rs.drop k, hit q p dir = false
set_option maxRecDepth 100000 in
set_option maxHeartbeats 4000000 in
theorem tell_any (v : Value) (rs : List RL) (s : ByteArray) (dir : Bool) (w : World) (h : Rul w v rs) (hl : rs.length ≤ 1000) :
    Calls Tryd.prog 30 #[v, .string s, .bool dir] w fun e w' => e = .returned (.bool (tell rs s.toList dir)) ∧ Ext w w' := by
  obtain ⟨rb, ad, cap, b, rfl, x1, x2, x3⟩ := h
  obtain ⟨n, hn⟩ : ∃ n, n = rs.length := ⟨_, rfl⟩
  have HN := Lib.hid hn
  rw [← hn] at x1 x2 hl
  have HX1 := Lib.hid x1; have HX2 := Lib.hid x2; have HX3 := Lib.hid x3
  clear hn x2 x3
  go_enter Tryd.func30, Tryd.ntmps30
  go_wp2; go_step3; go_wp2; go_step3; go_wp2
  go_loopw [7, 8] (fun y i wr => y = .bool false ∧ InvT12 w rs s.toList dir i wr) (fun _ i _ => (intOf i + 1).toNat)
  case atStart => exact ⟨rfl, n, by rw [HN.out]; exact Nat.le_refl _, rfl, Ext.refl w, fun q hq => by rw [HN.out, List.drop_length] at hq; cases hq⟩
  case round =>
    obtain ⟨rfl, k, hk, rfl, he, hd⟩ := hrel
    rw [← HN.out] at hk
    have HE := Lib.hid he; have HD := Lib.hid hd
    clear hd
    rcases k with _ | k
    · have g0 : decide ((0 : Int) ≤ (((0 : Nat) : Int) - 1)) = false := decide_eq_false (by omega)
      have T := Lib.hid (tell_none (p := s.toList) (dir := dir) (rs := rs) (fun r hr => HD.out r (by simpa using hr)))
      go_wp2_with fail
      rw [Exit.noGoto_ret]
      go_ret
      exact ⟨retbb T.out.symm, HE.out⟩
    · have ek : (((k + 1 : Nat) : Int) - 1) = (k : Int) := by omega
      rw [ek]
      clear ek
      have i0 : (0 : Int) ≤ (k : Int) := by omega
      have i1 : (k : Int) < (n : Int) := by omega
      have ead := HX2.out (by omega)
      subst ead
      have hkk : k < rs.length := by rw [← HN.out]; omega
      obtain ⟨r, hr⟩ : ∃ r, r = rs[k] := ⟨_, rfl⟩
      have hr' : rs[k]? = some r := by rw [List.getElem?_eq_getElem hkk, hr]
      have xx := he.cell x1
      have c0 := he.cell (HX3.out k r hr' 0 _ rfl)
      have c1 := he.cell (HX3.out k r hr' 1 _ rfl)
      have c2 := he.cell (HX3.out k r hr' 2 _ rfl)
      have c3 := he.cell (HX3.out k r hr' 3 _ rfl)
      have c4 := he.cell (HX3.out k r hr' 4 _ rfl)
      rw [Nat.add_zero] at c0
      have MT := Lib.hid (fun w' : World => matches_any r s dir w')
      have HR := Lib.hid hr'
      have HDR : Hid (rs.drop k = r :: rs.drop (k + 1)) := Lib.hid (by rw [List.drop_eq_getElem_cons hkk, hr])
      clear he hr hr' hkk
      unfold rval at MT
      go_wp2_with fail
      refine (MT.out _).mono ?_
      rintro e w1 ⟨rfl, e1⟩
      have d2 : w1.cell? ⟨wr.heap.size, 2, none⟩ = some (.bool r.nt) := e1.cell (by rw [(At.new wr #[.string (tx r.line), .string (tx r.pat), .bool r.nt, .bool r.dr, .bool r.wh] 55).cell]; rfl)
      have E1 := Lib.hid (HE.out.trans ((Ext.alloc wr _).trans e1))
      clear e1 c0 c1 c2 c3 c4 xx
      cases hh : hit r s.toList dir with
      | true =>
        have T := Lib.hid (tell_at HR.out hh HD.out)
        clear hh
        go_wp2_with fail
        rw [Exit.noGoto_ret]
        go_ret
        exact ⟨retbb T.out.symm, E1.out⟩
      | false =>
        have HH := Lib.hid hh
        clear hh d2
        go_wp2_with fail
        refine ⟨⟨rfl, k, by rw [← HN.out]; omega, rfl, E1.out, fun q hq => ?_⟩, by simp [intOf]⟩
        rw [HDR.out] at hq
        rcases List.mem_cons.1 hq with h | h
        · rw [h]; exact HH.out
        · exact HD.out q h

def strLen : Value → Nat
  | .string x => x.size
  | _ => 0
theorem ign_next (rs : List RL) (q : B) (d : Bool) (h : valid q = true) : ign (q.length + 1) rs q d = (tell rs q d || ign ((parent q).length + 1) rs (parent q) true) := by
  obtain ⟨h1, h2⟩ := parent_ok h
  conv => lhs; unfold ign
  rw [if_neg (valid_ne h), ign_more rs q.length ((parent q).length + 1) (parent q) true h2 (by omega) h1]
def InvI (w : World) (rs : List RL) (R : Bool) (s d : Value) (wr : World) : Prop :=
  ∃ (q : ByteArray) (b : Bool), s = .string q ∧ d = .bool b ∧ Ext w wr ∧ (q.toList = [] ∨ valid q.toList = true) ∧ R = ign (q.toList.length + 1) rs q.toList b
set_option maxRecDepth 100000 in
set_option maxHeartbeats 4000000 in
theorem ignored_any (v : Value) (rs : List RL) (s : ByteArray) (dir : Bool) (w : World) (h : Rul w v rs) (hl : rs.length ≤ 1000) :
    Calls Tryd.prog 14 #[v, .string s, .bool dir] w fun e w' => e = .returned (.bool (ignored rs s.toList dir)) ∧ Ext w w' := by
  have TA := Lib.hid (fun (q : ByteArray) (b : Bool) (wr : World) (he : Ext w wr) => tell_any v rs q b wr (h.ext he) hl)
  obtain ⟨rb, ad, cap, b, rfl, -⟩ := h
  go_enter Tryd.func14, Tryd.ntmps14
  go_wp2_with fail
  refine (valid_any s w).mono ?_
  rintro e w1 ⟨rfl, e1⟩
  cases hv : valid s.toList with
  | false =>
    have T := Lib.hid (ignored_not rs s.toList dir hv)
    go_wp2_with fail
    go_ret
    exact ⟨retbb T.out.symm, e1⟩
  | true =>
    have T : Hid (ignored rs s.toList dir = ign (s.toList.length + 1) rs s.toList dir) := Lib.hid (by unfold ignored; rw [hv, Bool.true_and])
    have E1 := Lib.hid e1
    clear e1
    go_wp2_with fail
    go_loopw [1, 2] (fun y d wr => InvI w rs (ignored rs s.toList dir) y d wr) (fun y _ _ => strLen y)
    case atStart => exact ⟨s, dir, rfl, rfl, E1.out, Or.inr hv, T.out⟩
    case round =>
      obtain ⟨q, b, rfl, rfl, he, hq, hr⟩ := hrel
      have HE := Lib.hid he; have HR := Lib.hid hr
      clear he hr
      cases hc : q.toList == [] with
      | true =>
        have h0 : q.toList = [] := by simpa using hc
        have T2 : Hid (ignored rs s.toList dir = false) := Lib.hid (by rw [HR.out, h0]; rfl)
        go_wp2_with fail
        go_ret
        exact ⟨retbb T2.out.symm, HE.out⟩
      | false =>
        have h0 : q.toList ≠ [] := by simpa using hc
        have hvq := hq.resolve_left h0
        have HVQ := Lib.hid hvq
        have HN := Lib.hid (ign_next rs q.toList b hvq)
        have HP := Lib.hid (parent_ok hvq)
        have HS := Lib.hid (size_list q)
        clear h0 hvq hq
        go_wp2_with fail
        refine (TA.out q b _ HE.out).mono ?_
        rintro e w2 ⟨rfl, e2⟩
        have E2 := Lib.hid (HE.out.trans e2)
        clear e2
        cases ht : tell rs q.toList b with
        | true =>
          have T2 : Hid (ignored rs s.toList dir = true) := Lib.hid (by rw [HR.out, HN.out, ht]; rfl)
          go_wp2_with fail
          go_ret
          exact ⟨retbb T2.out.symm, E2.out⟩
        | false =>
          have T2 : Hid (ignored rs s.toList dir = ign ((parent q.toList).length + 1) rs (parent q.toList) true) := Lib.hid (by rw [HR.out, HN.out, ht]; rfl)
          go_wp2_with fail
          refine (parent_any q w2).mono ?_
          rintro e w3 ⟨rfl, e3⟩
          have E3 := Lib.hid (E2.out.trans e3)
          clear e3
          go_wp2_with fail
          refine ⟨⟨tx (parent q.toList), true, rfl, rfl, E3.out, by rw [tx_list]; exact HP.out.1, by rw [tx_list]; exact T2.out⟩, ?_⟩
          show (tx (parent q.toList)).size < q.size
          rw [tx_size, HS.out]; exact HP.out.2
set_option maxHeartbeats 1000000 in
theorem ignored_nil (s : ByteArray) (dir : Bool) (w : World) :
    Calls Tryd.prog 14 #[.pointer none, .string s, .bool dir] w fun e w' => e = .returned (.bool false) ∧ Ext w w' := by
  go_enter Tryd.func14, Tryd.ntmps14
  go_wp2_with fail
  go_ret
  exact ⟨rfl, Ext.refl w⟩
end Go.Proofs.YtoompkmncglmoaaDoor
