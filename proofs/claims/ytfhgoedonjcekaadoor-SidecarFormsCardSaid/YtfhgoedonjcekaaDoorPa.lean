/- The contracts of addBlock, addGroup and Groups. -/
import Derived.Test.YtfhgoedonjcekaaDoorPu
namespace Go.Proofs.YtfhgoedonjcekaaDoor
open Go.RowKit Go.Sha

/-- A block that begins with these bytes, and may be written. -/
def Buf (w : World) (g : Nat) (s : List Int) : Prop := ∃ cur : Array Value, At w g cur 5 ∧ s.length ≤ cur.size ∧ ∀ j, j < s.length → cur[j]? = some (.int .u8 (s[j]?.getD 0))
theorem Buf.cell {w : World} {g : Nat} {s : List Int} (h : Buf w g s) (j : Nat) (hj : j < s.length) : w.cell? ⟨g, j, none⟩ = some (.int .u8 (s[j]?.getD 0)) := by
  obtain ⟨cur, a, _, c⟩ := h
  rw [a.cell]; exact c j hj
theorem Buf.frozen {w : World} {g : Nat} {s : List Int} (h : Buf w g s) (j : Nat) : w.frozen? ⟨g, j, none⟩ = false := by
  obtain ⟨cur, a, _⟩ := h
  exact a.frozen j
theorem Buf.lt {w : World} {g : Nat} {s : List Int} (h : Buf w g s) : g < w.heap.size := by
  obtain ⟨cur, a, _⟩ := h
  exact a.lt
theorem Buf.set {w : World} {g : Nat} {s : List Int} (h : Buf w g s) (j : Nat) (y : Int) (hj : j < s.length) : Buf (w.setCell ⟨g, j, none⟩ (.int .u8 y)) g (s.set j y) := by
  obtain ⟨cur, a, b, c⟩ := h
  refine ⟨_, a.set j (.int .u8 y), by simpa using b, fun i hi => ?_⟩
  rw [List.length_set] at hi
  by_cases e : i = j
  · subst e
    rw [Array.getElem?_setIfInBounds_self_of_lt (by omega)]
    rw [List.getElem?_set_self hi]; rfl
  · rw [Array.getElem?_setIfInBounds_ne (fun h => e h.symm), c i hi, List.getElem?_set_ne (fun h => e h.symm)]
theorem Buf.only {w w' : World} {g b : Nat} {s : List Int} (h : Buf w g s) (ho : Only b w w') (hb : g ≠ b) : Buf w' g s := by
  obtain ⟨cur, a, r⟩ := h
  exact ⟨cur, ho.at a hb, r⟩
theorem Buf.ext {w w' : World} {g : Nat} {s : List Int} (h : Buf w g s) (he : Ext w w') : Buf w' g s := by
  have hl := h.lt
  obtain ⟨cur, a, r⟩ := h
  exact ⟨cur, a.below he hl, r⟩
theorem Buf.src {w : World} {g : Nat} {s : List Int} (h : Buf w g s) (bh : Nat) (hb : g ≠ bh) (n cap : Nat) (hn : s.length = n) (hc : s.length ≤ cap) : Src w (.slice (some ⟨g, 0, none⟩) n cap) s bh := by
  subst hn
  exact ⟨_, cap, g, 0, rfl, hc, fun _ => rfl, hb, fun j hj => by rw [Nat.zero_add]; exact h.cell j hj, fun h => by cases h⟩
theorem Buf.new (w : World) (m : List Int) : Buf (w.alloc (.cells (bs m) 5)) w.heap.size m :=
  ⟨bs m, At.new w _ 5, by rw [bs_size]; omega, fun j hj => by rw [bs_get m j hj]; rfl⟩
theorem OwnB.buf {w : World} {base : Nat} {v : Value} {m : List Int} (h : OwnB w base v m) (h0 : 0 < m.length) : ∃ g cap, v = .slice (some ⟨g, 0, none⟩) m.length cap ∧ base ≤ g ∧ m.length ≤ cap ∧ Buf w g m := by
  obtain ⟨_, ⟨rfl, h1⟩ | ⟨g, cap, cur, rfl, hg, hw, hn, _, hs, hx⟩⟩ := h
  · omega
  · have hw' : At w g cur 5 := hw
    refine ⟨g, cap, rfl, hg, hn, cur, hw', ?_, fun j hj => ?_⟩
    · have := congrArg List.length hx
      simp at this
      omega
    · have e : cur.toList[j]? = (m.map (Value.int .u8))[j]? := by rw [← hx, List.getElem?_take_of_lt (by omega)]
      rw [← Array.getElem?_toList, e, List.getElem?_map, List.getElem?_eq_getElem hj]; rfl

/-- While a block is xored in. -/
def InvX1 (w : World) (g : Nat) (s o : List Int) (i : Value) (wr : World) : Prop := ∃ k : Nat, k ≤ o.length ∧ i = .int .i64 k ∧ Only g w wr ∧ Buf wr g (xorL s (o.take k))
def XPost (w : World) (g : Nat) (s : List Int) (e : Ending) (w' : World) : Prop := e = .returned (.tuple #[]) ∧ Only g w w' ∧ Buf w' g s

set_option maxHeartbeats 1000000 in
theorem addBlock_any (g n cap : Nat) (s o : List Int) (v : Value) (w : World) (hb : Buf w g s) (hn : s.length = n) (hs : Src w v o g) (hl : o.length ≤ s.length) (hm : n ≤ 1048576) :
    Calls Tryd.prog 86 #[.slice (some ⟨g, 0, none⟩) n cap, v] w (XPost w g (xorL s o)) := by
  obtain ⟨ad, capv, sb, so, rfl, x2, x3, x4, x5, x6⟩ := hs
  have X3 := Lib.hid x3; clear x3
  have X5 := Lib.hid x5; clear x5
  obtain ⟨L, hL⟩ : ∃ L, L = o.length := ⟨_, rfl⟩
  have HL := Lib.hid hL
  have HN := Lib.hid hn
  have hLn : L ≤ n := by omega
  rw [← hL] at x2 ⊢
  clear hL hn hl x6
  go_enter Tryd.func86, Tryd.ntmps86
  go_wp2
  go_loopw [8] (fun i wr => InvX1 w g s o i wr) (fun i _ => L - (intOf i).toNat)
  case atStart => exact ⟨0, by omega, rfl, Only.refl _ _, by simpa [xorL_nil] using hb⟩
  case round =>
    obtain ⟨k, hk, rfl, ho, hr⟩ := hrel
    rw [← HL.out] at hk
    by_cases hlt : k < L
    · have e := X3.out (by rw [← HL.out]; omega)
      subst e
      have c0 := X5.out k (by rw [← HL.out]; omega)
      have c1 : wr.cell? ⟨sb, so + k, none⟩ = some (.int .u8 (o[k]?.getD 0)) := by rw [← c0]; exact World.cell?_of_block (ho.block sb (World.block_lt_of_cell? w _ c0) x4)
      obtain ⟨t1, t2⟩ := xorL_take s o k (by rw [← HL.out]; omega) (by rw [← HL.out, HN.out]; omega)
      have hjl : k < (xorL s (o.take k)).length := by rw [xorL_length, HN.out]; omega
      have c2 : wr.cell? ⟨g, k, none⟩ = some (.int .u8 (s[k]?.getD 0)) := by rw [← t1]; exact hr.cell k hjl
      have c3 := hr.frozen k
      have b2 := hr.set k (xb (s[k]?.getD 0) (o[k]?.getD 0)) hjl
      rw [t2] at b2
      have o2 := ho.trans (Only.set g k wr (.int .u8 (xb (s[k]?.getD 0) (o[k]?.getD 0))))
      have B2 := Lib.hid b2; clear b2 t1 t2 hr c0 hjl
      unfold xb at B2 o2
      generalize o[k]?.getD 0 = y at *
      generalize s[k]?.getD 0 = x at *
      have i0 : (k : Int) < (L : Int) := by omega
      have i1 : (k : Int) < (n : Int) := by omega
      go_wp2
      exact ⟨⟨k + 1, by rw [← HL.out]; omega, by go_num, o2, B2.out⟩, by simp [intOf]; omega⟩
    · obtain rfl : k = L := by omega
      have hr' : Buf wr g (xorL s o) := by rw [List.take_of_length_le (by rw [← HL.out]; omega)] at hr; exact hr
      clear hr
      go_wp2
      go_end0
      exact ⟨rfl, ho, hr'⟩

/-- While a group is xored in. -/
def InvX2 (w : World) (g : Nat) (s m : List Int) (B : Int) (K q : Nat) (i : Value) (wr : World) : Prop :=
  ∃ j : Nat, j ≤ K ∧ i = .int .i64 ((q * K + j : Nat) : Int) ∧ Only g w wr ∧ Buf wr g (grp s ((List.range j).map fun i => blockT m B ((q * K + i : Nat) : Int)))

set_option maxHeartbeats 1000000 in
theorem addGroup_any (g n cap : Nat) (s m : List Int) (v : Value) (B : Int) (K q : Nat) (w : World) (hb : Buf w g s) (hn : s.length = n) (hs : Src w v m g) (hm : m.length ≤ 1048576) (hB : B.toNat ≤ n) (hn2 : n ≤ 1048576) (hK : K ≤ 8) (hq : q ≤ 2000000) :
    Calls Tryd.prog 69 #[.slice (some ⟨g, 0, none⟩) n cap, v, .int .i64 B, .int .i64 K, .int .i64 q] w (XPost w g (grp s (gb m B K q))) := by
  obtain ⟨ad, capv, ev⟩ := hs.len
  subst ev
  have HS := Lib.hid hs
  have HN := Lib.hid hn; clear hn
  have HB := Lib.hid hB; clear hB
  have hqk : q * K ≤ 16000000 := Nat.le_trans (Nat.mul_le_mul hq hK) (by omega)
  obtain ⟨T, hT⟩ : ∃ T, T = q * K := ⟨_, rfl⟩
  have hT' : (q : Int) * (K : Int) = (T : Int) := by rw [hT]; push_cast; rfl
  have HT := Lib.hid hT
  rw [← hT] at hqk
  clear hT hs
  obtain ⟨L, hL⟩ : ∃ L, L = m.length := ⟨_, rfl⟩
  have HL := Lib.hid hL
  rw [← hL] at HS hm ⊢
  clear hL
  go_enter Tryd.func69, Tryd.ntmps69
  go_wp2
  go_loopw [10] (fun i wr => InvX2 w g s m B K q i wr) (fun i _ => T + K - (intOf i).toNat)
  case atStart => exact ⟨0, by omega, by rw [← HT.out]; rfl, Only.refl _ _, by simpa [grp] using hb⟩
  case round =>
    obtain ⟨j, hj, rfl, ho, hr⟩ := hrel
    rw [← HT.out]
    by_cases hlt : j < K
    · have hle := hr.lt
      have hs2 : Src wr (.slice ad L capv) m g := HS.out.only ho
      have hs3 := hs2.other (Nat.le_refl wr.heap.size)
      have hbl := blockT_length m B ((T + j : Nat) : Int)
      have Hsucc := Lib.hid (gb_succ m B K q j)
      have hlen : (grp s ((List.range j).map fun i => blockT m B ((q * K + i : Nat) : Int))).length = n := by rw [grp_length, HN.out]
      have i0 : ((T + j : Nat) : Int) < (T : Int) + (K : Int) := by omega
      go_wp2_with fail
      refine (block_any _ m B ((T + j : Nat) : Int) wr (by rw [HL.out] at hs3 ⊢; exact hs3) (by rw [← HL.out]; exact hm)).mono ?_
      rintro e w2 ⟨v2, rfl, e2, o2⟩
      have s2 := o2.srcs g (Or.inl hle)
      go_wp2_with fail
      refine (addBlock_any g n cap _ _ v2 w2 (hr.ext e2) hlen s2 (by rw [hlen]; have := HB.out; omega) hn2).mono ?_
      rintro e w3 ⟨rfl, o3, b3⟩
      go_wp2
      refine ⟨⟨j + 1, by omega, ?_, (ho.trans (Only.of_below e2)).trans o3, ?_⟩, by simp [intOf]; omega⟩
      · rw [← HT.out]; go_num
      · rw [Hsucc.out, grp_snoc, ← HT.out]
        rw [← HT.out] at b3
        exact b3
    · obtain rfl : j = K := by omega
      have i0 : ¬ (((T + j : Nat) : Int) < (T : Int) + (j : Int)) := by omega
      go_wp2
      go_end0
      exact ⟨rfl, ho, hr⟩

theorem groups_any (s B K : Int) (w : World) : Calls Tryd.prog 68 #[.int .i64 s, .int .i64 B, .int .i64 K] w fun e w' => e = .returned (.int .i64 (grpsN s B K)) ∧ w = w' := by
  have h0 := cntL_nonneg s B
  have h1 := cntL_le s B
  have C1 := cntM s B w
  unfold grpsN
  generalize cntL s B = c at *
  by_cases a1 : K < 1
  · rw [if_pos (by omega)]
    have d1 : decide (K < 1) = true := by simpa using a1
    go_enter Tryd.func68, Tryd.ntmps68
    go_wp2
    go_ret
    exact ⟨rfl, rfl⟩
  have d1 : decide (K < 1) = false := by simpa using a1
  by_cases a2 : 8 < K
  · rw [if_pos (by omega)]
    have d2 : decide (8 < K) = true := by simpa using a2
    go_enter Tryd.func68, Tryd.ntmps68
    go_wp2
    go_ret
    exact ⟨rfl, rfl⟩
  have d2 : decide (8 < K) = false := by simpa using a2
  rw [if_neg (by omega)]
  have b0 : ¬ K = 0 := by omega
  have w1 : IntKind.i64.wrap (c + K) = c + K := IntWalk.i64_in _ (by omega)
  have w2 : IntKind.i64.wrap (c + K - 1) = c + K - 1 := IntWalk.i64_in _ (by omega)
  have q0 : (c + K - 1).tdiv K = (c + K - 1) / K := Int.tdiv_eq_ediv_of_nonneg (by omega)
  have q1 : 0 ≤ (c + K - 1) / K := Int.ediv_nonneg (by omega) (by omega)
  have q2 : (c + K - 1) / K ≤ c + K - 1 := Int.ediv_le_self _ (by omega)
  have w3 : IntKind.i64.wrap ((c + K - 1) / K) = (c + K - 1) / K := IntWalk.i64_in _ (by omega)
  go_enter Tryd.func68, Tryd.ntmps68
  go_wp2_with fail
  refine C1.mono ?_
  rintro e w' ⟨rfl, rfl⟩
  go_wp2
  go_ret
  exact ⟨rfl, rfl⟩
theorem rgroups_any (s B K : Int) (w : World) : Calls Tryd.prog 53 #[.int .i64 s, .int .i64 B, .int .i64 K] w fun e w' => e = .returned (.int .i64 (grpsN s B K)) ∧ w = w' := by
  have h0 := cntL_nonneg s B
  have h1 := cntL_le s B
  have C1 := cntR s B w
  unfold grpsN
  generalize cntL s B = c at *
  by_cases a1 : K < 1
  · rw [if_pos (by omega)]
    have d1 : decide (K < 1) = true := by simpa using a1
    go_enter Tryd.func53, Tryd.ntmps53
    go_wp2
    go_ret
    exact ⟨rfl, rfl⟩
  have d1 : decide (K < 1) = false := by simpa using a1
  by_cases a2 : 8 < K
  · rw [if_pos (by omega)]
    have d2 : decide (8 < K) = true := by simpa using a2
    go_enter Tryd.func53, Tryd.ntmps53
    go_wp2
    go_ret
    exact ⟨rfl, rfl⟩
  have d2 : decide (8 < K) = false := by simpa using a2
  rw [if_neg (by omega)]
  have b0 : ¬ K = 0 := by omega
  have w1 : IntKind.i64.wrap (c + K) = c + K := IntWalk.i64_in _ (by omega)
  have w2 : IntKind.i64.wrap (c + K - 1) = c + K - 1 := IntWalk.i64_in _ (by omega)
  have q0 : (c + K - 1).tdiv K = (c + K - 1) / K := Int.tdiv_eq_ediv_of_nonneg (by omega)
  have q1 : 0 ≤ (c + K - 1) / K := Int.ediv_nonneg (by omega) (by omega)
  have q2 : (c + K - 1) / K ≤ c + K - 1 := Int.ediv_le_self _ (by omega)
  have w3 : IntKind.i64.wrap ((c + K - 1) / K) = (c + K - 1) / K := IntWalk.i64_in _ (by omega)
  go_enter Tryd.func53, Tryd.ntmps53
  go_wp2_with fail
  refine C1.mono ?_
  rintro e w' ⟨rfl, rfl⟩
  go_wp2
  go_ret
  exact ⟨rfl, rfl⟩
end Go.Proofs.YtfhgoedonjcekaaDoor
