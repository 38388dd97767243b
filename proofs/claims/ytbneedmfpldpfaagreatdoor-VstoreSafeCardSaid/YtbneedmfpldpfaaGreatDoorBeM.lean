/- Contract of the document's own apply, whatever names: acts that make a name, or take one away. Contract of the document's own apply, whatever names: an act that moves names. -/
import Derived.Test.YtbneedmfpldpfaaGreatDoorBd
set_option linter.unusedSimpArgs false
set_option linter.unusedVariables false
namespace Go.Proofs.YtbneedmfpldpfaaGreatDoor
open Go.RowKit Go.Pth

theorem row_more (w : World) {v : Value} {m : List Nm} (hr : Row w 111 2 v m.length (rns m)) (z : ByteArray) (q : Nat) (hm : m.length ≤ 100000) :
    ∃ v' w', (Builtin.append_ #[59, 59] 59 #[v, .slice (some ⟨w.heap.size, 0, none⟩) 1 1]).run Tryz.prog (w.alloc (.cells #[.string z, .int .i64 q] 111)) = .ok v' w' ∧ Row w' 111 2 v' (m ++ [(z.toList, q)]).length (rns (m ++ [(z.toList, q)])) ∧
      ∀ w0, Ext w0 w → (∀ i, v.ownBlock = some i → w0.heap.size ≤ i) → Ext w0 w' ∧ ∀ i, v'.ownBlock = some i → w0.heap.size ≤ i := by
  have hat := At.new w #[.string z, .int .i64 q] 111
  obtain ⟨v', w', h1, h2, h3⟩ := row_copy 59 Tryz.underlying59 info113 rfl (hr.ext (Ext.alloc w (.cells #[.string z, .int .i64 q] 111))) (Src.ofSlice (w.alloc (.cells #[.string z, .int .i64 q] 111)) Tryz.underlying59 ⟨w.heap.size, 0, none⟩ 1 1 [.string z, .int .i64 q] rfl (fun u x hx => by rw [Addr.add_lit, Nat.zero_add, hat.cell, ← hx]; simp) (by simp [Value.oneCell'])) (by omega) (by omega)
  have e : rns m ++ [.string z, .int .i64 q] = rns (m ++ [(z.toList, q)]) := by
    unfold rns
    rw [List.flatMap_append]
    have e1 : List.flatMap rnc [(z.toList, q)] = [Value.string z, .int .i64 q] := by
      rw [List.flatMap_cons, List.flatMap_nil, List.append_nil]
      unfold rnc
      rw [list_tx]
    rw [e1]
  rw [e] at h2
  refine ⟨v', w', h1, by rw [List.length_append]; exact h2, fun w0 e0 hz => Grew.fresh h3 (e0.trans (Ext.alloc w _)) hz⟩
/-- What apply leaves. -/
def ApR (w : World) (Q : Nm → Prop) (n : Nat) (e : Ending) (w' : World) : Prop := ∃ v' m, e = .returned v' ∧ Row w' 111 2 v' m.length (rns m) ∧ Ext w w' ∧ (∀ i, v'.ownBlock = some i → w.heap.size ≤ i) ∧ m.length ≤ n ∧ ∀ x ∈ m, Q x

set_option maxRecDepth 100000 in
set_option maxHeartbeats 4000000 in
theorem rapply_one (v : Value) (l : List Nm) (Q : Nm → Prop) (p b : ByteArray) (fn : Nat) (w : World) (hr : Row w 111 2 v l.length (rns l)) (hl : l.length ≤ 100000) (hq : ∀ x ∈ l, Q x) (hp : Q (p.toList, fn)) :
    Calls Tryz.prog 87 #[v, .agg #[.int .i64 1, .string p, .string b, .int .i64 fn]] w (ApR w Q (l.length + 1)) := by
  have e0 : Ext w (w.alloc (.cells #[.int .i64 1, .string p, .string b, .int .i64 fn] 109)) := Ext.alloc w _
  have a0 := At.new w #[.int .i64 1, .string p, .string b, .int .i64 fn] 109
  have c0 := a0.cell 0
  have c1 := a0.cell 1
  have c2 := a0.cell 2
  have c3 := a0.cell 3
  have W1 := Lib.hid ((rwith_any v l p fn _ (hr.ext e0) hl).mono fun e w' h => (show ApR w Q (l.length + 1) e w' from by
    obtain ⟨v', k, h1, h2, h3, h4⟩ := h
    have hm : (l.take k ++ [(p.toList, fn)] ++ l.drop k).length = l.length + 1 := by
      simp only [List.length_append, List.length_take, List.length_drop, List.length_cons, List.length_nil]
      omega
    refine ⟨v', _, h1, by rw [hm]; exact h2, e0.trans h3, fun i hi => Nat.le_trans e0.size (h4 i hi), by omega, fun x hx => ?_⟩
    rcases List.mem_append.1 hx with hx | hx
    · rcases List.mem_append.1 hx with hx | hx
      · exact hq x (List.mem_of_mem_take hx)
      · rw [List.mem_singleton.1 hx]; exact hp
    · exact hq x (List.mem_of_mem_drop hx)))
  obtain ⟨ad, cap, rfl, -⟩ := hr.shape
  clear hr hq hp e0
  generalize l.length = n at *
  generalize ((fn : Nat) : Int) = f at *
  go_enter Tryz.func87, Tryz.ntmps87
  go_wp2_with fail
  refine (W1.out).mono ?_
  rintro e w1 ⟨v', m, rfl, h2, h3, h4, h5, h6⟩
  obtain ⟨ad2, cap2, rfl, -⟩ := h2.shape
  have F := Lib.hid (show ApR w Q (n + 1) (.returned (.slice ad2 m.length cap2)) w1 from ⟨_, m, rfl, h2, h3, h4, h5, h6⟩)
  clear h2 h3 h4 h5 h6
  generalize m.length = mm at *
  go_wp2
  go_ret
  exact F.out

def InvGo (w0 : World) (l : List Nm) (n : Nat) (s8 s9 : Value) (wr : World) : Prop :=
  ∃ (j mm : Nat) (m : List Nm) (ad : Option Addr) (cap : Nat), mm = m.length ∧ j ≤ n ∧ s9 = .int .i64 j ∧ s8 = .slice ad mm cap ∧ Row wr 111 2 (.slice ad mm cap) m.length (rns m) ∧ (∀ i, (Value.slice ad mm cap).ownBlock = some i → w0.heap.size ≤ i) ∧ mm ≤ j ∧ (∀ x ∈ m, x ∈ l) ∧ Ext w0 wr
/-- One more name, in a loop that keeps names. -/
theorem InvGo.more {w0 wr : World} {l m : List Nm} {n j mm : Nat} {ad : Option Addr} {cap q : Nat} {z : ByteArray} (hmm : mm = m.length) (hj : j < n) (hn : n ≤ 100000) (hr : Row wr 111 2 (.slice ad mm cap) m.length (rns m)) (hz : ∀ i, (Value.slice ad mm cap).ownBlock = some i → w0.heap.size ≤ i) (hmj : mm ≤ j) (hl : ∀ x ∈ m, x ∈ l) (he : Ext w0 wr) (hx : (z.toList, q) ∈ l) :
    ∃ d4 n4 c4 w4, (Builtin.append_ #[59, 59] 59 #[.slice ad mm cap, .slice (some ⟨wr.heap.size, 0, none⟩) 1 1]).run Tryz.prog (wr.alloc (.cells #[.string z, .int .i64 q] 111)) = .ok (.slice d4 n4 c4) w4 ∧ InvGo w0 l n (.slice d4 n4 c4) (.int .i64 ((j : Int) + 1)) w4 := by
  obtain ⟨v', w', h1, h2, h3⟩ := row_more wr hr z q (by omega)
  obtain ⟨d4, c4, rfl, -⟩ := h2.shape
  obtain ⟨f1, f2⟩ := h3 w0 he hz
  have hlen : (m ++ [(z.toList, q)]).length = mm + 1 := by rw [List.length_append, hmm]; rfl
  refine ⟨_, _, _, _, h1, j + 1, _, m ++ [(z.toList, q)], d4, c4, rfl, by omega, by rw [Int.natCast_add]; rfl, rfl, h2, f2, by omega, fun x hx' => ?_, f1⟩
  rcases List.mem_append.1 hx' with hx' | hx'
  · exact hl x hx'
  · rw [List.mem_singleton.1 hx']; exact hx

set_option maxRecDepth 100000 in
set_option maxHeartbeats 8000000 in
theorem rapply_gone (v : Value) (l : List Nm) (Q : Nm → Prop) (p b : ByteArray) (f : Int) (w : World) (hr : Row w 111 2 v l.length (rns l)) (hl : l.length ≤ 100000) (hq : ∀ x ∈ l, Q x) :
    Calls Tryz.prog 87 #[v, .agg #[.int .i64 3, .string p, .string b, .int .i64 f]] w (ApR w Q l.length) := by
  obtain ⟨ad, cap, bb, o, rfl, hadr, hnm, hnf⟩ := RNs.of_row hr
  have HQ := Lib.hid hq
  have HAD := Lib.hid hadr
  have CM : Hid (∀ wr, Ext w wr → ∀ j, j < l.length → ∃ (z : ByteArray) (q : Nat), (z.toList, q) ∈ l ∧ wr.cell? ⟨bb, o + j * 2, none⟩ = some (.string z) ∧ wr.cell? ⟨bb, o + j * 2 + 1, none⟩ = some (.int .i64 q)) := Lib.hid fun wr e j hj => ⟨tx l[j].1, l[j].2, by rw [tx_list]; exact List.getElem_mem hj, e.cell (hnm j hj), e.cell (hnf j hj)⟩
  obtain ⟨n, hn⟩ : ∃ n, n = l.length := ⟨_, rfl⟩
  rw [← hn] at CM HAD hl ⊢
  have e0 : Ext w (w.alloc (.cells #[.int .i64 3, .string p, .string b, .int .i64 f] 109)) := Ext.alloc w _
  have a0 := At.new w #[.int .i64 3, .string p, .string b, .int .i64 f] 109
  have c0 := a0.cell 0
  clear hr hq hadr hnm hnf hn
  go_enter Tryz.func87, Tryz.ntmps87
  go_wp2
  clear c0
  generalize w.alloc (.cells #[.int .i64 3, .string p, .string b, .int .i64 f] 109) = w0 at *
  generalize w.heap.size = g0 at *
  have E0 := Lib.hid e0
  have A0 := Lib.hid (fun (wr : World) (ex : Ext w0 wr) => a0.ext ex)
  clear e0 a0
  have I0 : InvGo w0 l n (.slice none 0 0) (.int .i64 0) w0 := ⟨0, 0, [], none, 0, rfl, by omega, rfl, rfl, World.ownsRow_nil _ _ _ _, (fun i hi => by cases hi), by omega, (fun x hx => by cases hx), Ext.refl _⟩
  go_loopw [8, 9] (fun s8 s9 wr => InvGo w0 l n s8 s9 wr) (fun _ s9 _ => n - (intOf s9).toNat)
  case atStart => exact I0
  case round =>
    obtain ⟨j, mm, m, d8, k8, hmm, hj, rfl, rfl, hrow, hz, hmj, hml, he⟩ := hrel
    have HMM := Lib.hid hmm
    clear hmm
    by_cases hlt : j < n
    · obtain ⟨z, q, hx, cz, cq⟩ := CM.out wr (E0.out.trans he) j hlt
      have a1 := (A0.out wr he).cell 1
      have ha := HAD.out (by omega)
      subst ha
      have i0 : (0 : Int) ≤ (j : Int) := by omega
      have i1 : (j : Int) < (n : Int) := by omega
      cases hb : z.toList == p.toList with
      | true =>
        have F := Lib.hid (fun (w4 : World) (e : Ext wr w4) => (⟨j + 1, mm, m, d8, k8, HMM.out, by omega, by rw [Int.natCast_add]; rfl, rfl, hrow.ext e, hz, by omega, hml, he.trans e⟩ : InvGo w0 l n (.slice d8 mm k8) (.int .i64 ((j : Int) + 1)) w4))
        clear hrow hz hml he I0 hx
        go_wp2_with fail
        go_quiet (fail)
        go_wp2
        refine ⟨F.out _ ?_, by simp [intOf]; omega⟩
        first | exact Ext.refl _ | exact Ext.drew _ | exact Ext.drewN _ _
      | false =>
        have AP := Lib.hid (fun (w4 : World) (e : Ext wr w4) => InvGo.more (q := q) (z := z) HMM.out hlt hl (hrow.ext e) hz hmj hml (he.trans e) hx)
        have CZ := Lib.hid (fun (w4 : World) (e : Ext wr w4) => And.intro (e.cell cz) (e.cell cq))
        clear hrow hz hml he I0 hx
        go_wp2_with fail
        go_quiet (fail)
        have ew : Ext wr (wr.drewN nq) := Ext.drewN _ _
        obtain ⟨cz2, cq2⟩ := CZ.out _ ew
        obtain ⟨d4, n4, c4, w4, hrun, hinv⟩ := AP.out _ ew
        have R1 := Lib.hid hrun
        have F := Lib.hid hinv
        clear hrun hinv AP CZ ew a1 cz cq
        generalize wr.drewN nq = wq at *
        generalize ((q : Nat) : Int) = qi at *
        go_wp2_with (at_builtin; refine Lib.wpList_append_run _ rfl _ _ _ _ rfl _ _ rfl rfl _ _ R1.out ?_)
        exact ⟨F.out, by (try simp [intOf]); omega⟩
    · obtain rfl : j = n := by omega
      have F := Lib.hid (show ApR w Q j (.returned (.slice d8 mm k8)) wr from ⟨_, m, rfl, by rw [← HMM.out] at hrow ⊢; exact hrow, E0.out.trans he, fun i hi => Nat.le_trans E0.out.size (hz i hi), by have := HMM.out; omega, fun x hx => HQ.out x (hml x hx)⟩)
      clear hrow hz hml he I0 hlt
      go_wp2
      go_ret
      exact F.out
end Go.Proofs.YtbneedmfpldpfaaGreatDoor

set_option linter.unusedSimpArgs false
set_option linter.unusedVariables false
namespace Go.Proofs.YtbneedmfpldpfaaGreatDoor
open Go.RowKit Go.Pth

def runQ (f : B) (x : Nm) : Bool := (x.1 == f) || under x.1 f
theorem runQ_len {f : B} {x : Nm} (h : runQ f x = true) : f.length ≤ x.1.length := by
  unfold runQ at h
  rw [Bool.or_eq_true] at h
  rcases h with h | h
  · rw [eq_of_beq h]; exact Nat.le_refl _
  · unfold under at h
    rw [Bool.and_eq_true, Bool.or_eq_true, Bool.and_eq_true] at h
    rcases h.2 with h3 | h3
    · rw [eq_of_beq h3]; exact Nat.zero_le _
    · have h4 := h3.2
      have := (List.isPrefixOf_iff_prefix.1 h4).length_le
      simp at this; omega
theorem countP_snoc {f : Nm → Bool} {l : List Nm} {j : Nat} (h : j < l.length) : (l.take (j + 1)).countP f = (l.take j).countP f + (if f l[j] then 1 else 0) := by
  rw [List.take_succ_eq_append_getElem h, List.countP_append, List.countP_singleton]
def InvG1 (w0 : World) (l : List Nm) (f : B) (n : Nat) (s5 s6 : Value) (wr : World) : Prop :=
  ∃ (j mm : Nat) (m : List Nm) (ad : Option Addr) (cap : Nat), mm = m.length ∧ j ≤ n ∧ s6 = .int .i64 j ∧ s5 = .slice ad mm cap ∧ Row wr 111 2 (.slice ad mm cap) m.length (rns m) ∧ (∀ i, (Value.slice ad mm cap).ownBlock = some i → w0.heap.size ≤ i) ∧ mm ≤ (l.take j).countP (fun x => !runQ f x) ∧ (∀ x ∈ m, x ∈ l) ∧ Ext w0 wr
def InvG2 (w0 : World) (l : List Nm) (Q : Nm → Prop) (f : B) (n : Nat) (s5 s7 : Value) (wr : World) : Prop :=
  ∃ (j mm : Nat) (m : List Nm) (ad : Option Addr) (cap : Nat), mm = m.length ∧ j ≤ n ∧ s7 = .int .i64 j ∧ s5 = .slice ad mm cap ∧ Row wr 111 2 (.slice ad mm cap) m.length (rns m) ∧ (∀ i, (Value.slice ad mm cap).ownBlock = some i → w0.heap.size ≤ i) ∧ mm ≤ l.countP (fun x => !runQ f x) + (l.take j).countP (fun x => runQ f x) ∧ (∀ x ∈ m, Q x) ∧ Ext w0 wr
theorem InvG1.more {w0 wr : World} {l m : List Nm} {f : B} {n j mm : Nat} {ad : Option Addr} {cap q : Nat} {z : ByteArray} (hmm : mm = m.length) (hnl : n = l.length) (hj : j < n) (hn : n ≤ 100000) (hr : Row wr 111 2 (.slice ad mm cap) m.length (rns m)) (hz : ∀ i, (Value.slice ad mm cap).ownBlock = some i → w0.heap.size ≤ i) (hmj : mm ≤ (l.take j).countP (fun x => !runQ f x)) (hl : ∀ x ∈ m, x ∈ l) (he : Ext w0 wr) (hx : ∀ h : j < l.length, l[j] = (z.toList, q)) (hb : runQ f (z.toList, q) = false) :
    ∃ d4 n4 c4 w4, (Builtin.append_ #[59, 59] 59 #[.slice ad mm cap, .slice (some ⟨wr.heap.size, 0, none⟩) 1 1]).run Tryz.prog (wr.alloc (.cells #[.string z, .int .i64 q] 111)) = .ok (.slice d4 n4 c4) w4 ∧ InvG1 w0 l f n (.slice d4 n4 c4) (.int .i64 ((j : Int) + 1)) w4 := by
  have hcl := List.countP_le_length (p := fun x => !runQ f x) (l := l.take j)
  have htl : (l.take j).length ≤ l.length := by rw [List.length_take]; omega
  obtain ⟨v', w', h1, h2, h3⟩ := row_more wr hr z q (by omega)
  obtain ⟨d4, c4, rfl, -⟩ := h2.shape
  obtain ⟨f1, f2⟩ := h3 w0 he hz
  have hlen : (m ++ [(z.toList, q)]).length = mm + 1 := by rw [List.length_append, hmm]; rfl
  have hxl := hx (by omega)
  refine ⟨_, _, _, _, h1, j + 1, _, m ++ [(z.toList, q)], d4, c4, rfl, by omega, by rw [Int.natCast_add]; rfl, rfl, h2, f2, ?_, fun x hx' => ?_, f1⟩
  · rw [countP_snoc (by omega), hxl, hb, hlen]; simp; omega
  · rcases List.mem_append.1 hx' with hx' | hx'
    · exact hl x hx'
    · rw [List.mem_singleton.1 hx', ← hxl]; exact List.getElem_mem _
theorem InvG2.more {w0 wr : World} {l m : List Nm} {Q : Nm → Prop} {f : B} {n j mm : Nat} {ad : Option Addr} {cap q : Nat} {z : ByteArray} (y : ByteArray) (hmm : mm = m.length) (hnl : n = l.length) (hj : j < n) (hn : n ≤ 50000) (hr : Row wr 111 2 (.slice ad mm cap) m.length (rns m)) (hz : ∀ i, (Value.slice ad mm cap).ownBlock = some i → w0.heap.size ≤ i) (hmj : mm ≤ l.countP (fun x => !runQ f x) + (l.take j).countP (fun x => runQ f x)) (hl : ∀ x ∈ m, Q x) (he : Ext w0 wr) (hx : ∀ h : j < l.length, l[j] = (z.toList, q)) (hb : runQ f (z.toList, q) = true) (hy : Q (y.toList, q)) :
    Calls Tryz.prog 97 #[.slice ad mm cap, .agg #[.string y, .int .i64 q]] wr fun e w' => ∃ v, e = .returned v ∧ (∃ d4 n4 c4, v = .slice d4 n4 c4 ∧ InvG2 w0 l Q f n v (.int .i64 ((j : Int) + 1)) w') ∧ Ext wr w' := by
  have hcl := List.countP_le_length (p := fun x => runQ f x) (l := l.take j)
  have hcl2 := List.countP_le_length (p := fun x => !runQ f x) (l := l)
  have htl : (l.take j).length ≤ l.length := by rw [List.length_take]; omega
  have hr' : Row wr 111 2 (.slice ad mm cap) m.length (rns m) := hr
  refine (rwith_any _ m y q wr hr' (by omega)).mono ?_
  rintro e w' ⟨v', k, rfl, h2, h3, h4⟩
  obtain ⟨d4, c4, rfl, -⟩ := h2.shape
  have hlen : (m.take k ++ [(y.toList, q)] ++ m.drop k).length = m.length + 1 := by
    simp only [List.length_append, List.length_take, List.length_drop, List.length_cons, List.length_nil]
    omega
  have hxl := hx (by omega)
  refine ⟨_, rfl, ⟨_, _, _, rfl, j + 1, _, m.take k ++ [(y.toList, q)] ++ m.drop k, d4, c4, hlen.symm, by omega, by rw [Int.natCast_add]; rfl, rfl, by rw [hlen]; exact h2, fun i hi => Nat.le_trans he.size (h4 i hi), ?_, fun x hx' => ?_, he.trans h3⟩, h3⟩
  · rw [countP_snoc (by omega), hxl, hb, ← hmm]; simp; omega
  · rcases List.mem_append.1 hx' with hx' | hx'
    · rcases List.mem_append.1 hx' with hx' | hx'
      · exact hl x (List.mem_of_mem_take hx')
      · rw [List.mem_singleton.1 hx']; exact hy
    · exact hl x (List.mem_of_mem_drop hx')

set_option maxRecDepth 100000 in
set_option maxHeartbeats 8000000 in
theorem rapply_moved (v : Value) (l : List Nm) (Q : Nm → Prop) (p b : ByteArray) (f : Int) (w : World) (hr : Row w 111 2 v l.length (rns l)) (hl : l.length ≤ 50000) (hp : p.size ≤ 1000000) (hbs : b.size ≤ 1000000) (hzs : ∀ x ∈ l, x.1.length ≤ 1000000) (hq : ∀ x ∈ l, Q x) (hqm : ∀ x ∈ l, runQ p.toList x = true → Q (b.toList ++ x.1.drop p.toList.length, x.2)) :
    Calls Tryz.prog 87 #[v, .agg #[.int .i64 2, .string p, .string b, .int .i64 f]] w (ApR w Q l.length) := by
  obtain ⟨ad, cap, bb, o, rfl, hadr, hnm, hnf⟩ := RNs.of_row hr
  have HQ := Lib.hid hq
  have HQM := Lib.hid hqm
  have HAD := Lib.hid hadr
  have CM : Hid (∀ wr, Ext w wr → ∀ j, j < l.length → ∃ (z : ByteArray) (q : Nat), (z.toList, q) ∈ l ∧ (∀ h : j < l.length, l[j] = (z.toList, q)) ∧ z.size ≤ 1000000 ∧ wr.cell? ⟨bb, o + j * 2, none⟩ = some (.string z) ∧ wr.cell? ⟨bb, o + j * 2 + 1, none⟩ = some (.int .i64 q)) := Lib.hid fun wr e j hj => ⟨tx l[j].1, l[j].2, by rw [tx_list]; exact List.getElem_mem hj, fun h => by rw [tx_list], by rw [tx_size]; exact hzs _ (List.getElem_mem hj), e.cell (hnm j hj), e.cell (hnf j hj)⟩
  have HTOT := Lib.hid (List.length_eq_countP_add_countP (fun x => runQ p.toList x) (l := l))
  have UN := Lib.hid (fun a b (w1 w2 : World) (h : Ext w1 w2) => ((runder_any a b w2).mono fun _ _ (h' : _ ∧ _) => (⟨h'.1, h.trans h'.2⟩ : _ ∧ Ext w1 _)))
  obtain ⟨n, hn⟩ : ∃ n, n = l.length := ⟨_, rfl⟩
  rw [← hn] at HAD hl ⊢
  have HN := Lib.hid hn
  have e0 : Ext w (w.alloc (.cells #[.int .i64 2, .string p, .string b, .int .i64 f] 109)) := Ext.alloc w _
  have a0 := At.new w #[.int .i64 2, .string p, .string b, .int .i64 f] 109
  have c0 := a0.cell 0
  clear hr hq hadr hnm hnf hn hqm hzs
  go_enter Tryz.func87, Tryz.ntmps87
  go_wp2
  clear c0
  generalize w.alloc (.cells #[.int .i64 2, .string p, .string b, .int .i64 f] 109) = w0 at *
  generalize w.heap.size = g0 at *
  have E0 := Lib.hid e0
  have A0 := Lib.hid (fun (wr : World) (ex : Ext w0 wr) => a0.ext ex)
  clear e0 a0
  have I0 : InvG1 w0 l p.toList n (.slice none 0 0) (.int .i64 0) w0 := ⟨0, 0, [], none, 0, rfl, by omega, rfl, rfl, World.ownsRow_nil _ _ _ _, (fun i hi => by cases hi), by omega, (fun x hx => by cases hx), Ext.refl _⟩
  go_loopw [5, 6] (fun s5 s6 wr => InvG1 w0 l p.toList n s5 s6 wr) (fun _ s6 _ => n - (intOf s6).toNat)
  case atStart => exact I0
  case round =>
    obtain ⟨j, mm, m, d8, k8, hmm, hj, rfl, rfl, hrow, hz, hmj, hml, he⟩ := hrel
    have HMM := Lib.hid hmm
    clear hmm
    by_cases hlt : j < n
    · obtain ⟨z, q, hx, hxj, hzl, cz, cq⟩ := CM.out wr (E0.out.trans he) j (by rw [← HN.out]; exact hlt)
      have a1 := A0.out wr he
      have a1c := a1.cell 1
      have ha := HAD.out (by omega)
      subst ha
      have i0 : (0 : Int) ≤ (j : Int) := by omega
      have i1 : (j : Int) < (n : Int) := by omega
      have RD := Lib.hid (show runQ p.toList (z.toList, q) = ((z.toList == p.toList) || under z.toList p.toList) from rfl)
      have SKIP := Lib.hid (fun (w4 : World) (e : Ext wr w4) => (⟨j + 1, mm, m, d8, k8, HMM.out, by omega, by rw [Int.natCast_add]; rfl, rfl, hrow.ext e, hz, Nat.le_trans hmj (by rw [countP_snoc (by rw [← HN.out]; exact hlt)]; omega), hml, he.trans e⟩ : InvG1 w0 l p.toList n (.slice d8 mm k8) (.int .i64 ((j : Int) + 1)) w4))
      have AP := Lib.hid (fun (w4 : World) (e : Ext wr w4) (hb : runQ p.toList (z.toList, q) = false) => InvG1.more (q := q) (z := z) HMM.out HN.out hlt (by omega) (hrow.ext e) hz hmj hml (he.trans e) hxj hb)
      have CY := Lib.hid (fun (w4 : World) (e : Ext wr w4) => And.intro (e.cell cz) (e.cell cq))
      clear hrow hz hml he I0 hx hxj hmj
      cases hb : z.toList == p.toList with
      | true =>
        clear AP
        go_wp2_with fail
        go_quiet (fail)
        go_wp2
        refine ⟨SKIP.out _ ?_, by (try simp [intOf]); omega⟩
        first | exact Ext.refl _ | exact Ext.drew _ | exact Ext.drewN _ _
      | false =>
        rw [hb, Bool.false_or] at RD
        clear a1c
        go_wp2_with fail
        refine wp_region_held (S := Ext wr.drew) (by kernel_rfl) ?_
        change wpAnyH _ _ _ _ _ _ _ _ wr.drew
        have S1 : Ext wr.drew wr.drew := Ext.refl _
        have CZ := Lib.hid (fun (w' : World) (hw' : Ext wr.drew w') => And.intro (hw'.cell (show wr.drew.cell? ⟨bb, o + j * 2, none⟩ = some (.string z) from cz)) (hw'.cell (show wr.drew.cell? ⟨bb, o + j * 2 + 1, none⟩ = some (.int .i64 q) from cq)))
        have A1 := Lib.hid (fun (w' : World) (hw' : Ext wr.drew w') => (At.ext (w := wr.drew) a1 hw'))
        have ED : Ext wr wr.drew := Ext.drew wr
        clear cz cq a1
        generalize wr.drew = W0 at *
        refine takeS 0 (some 29) (.slice (some ⟨bb, o, none⟩) n cap) rfl rfl (by kernel_rfl) (by kernel_rfl) (by kernel_rfl) (fun _ _ _ h => h) rfl S1 (fun w' hw' => by go_simp) ?_
        simp only [Act.put, List.setIfInBounds_toArray, List.set_cons_zero, List.set_cons_succ]
        refine takeS 1 (some 30) (.int .i64 j) rfl rfl (by kernel_rfl) (by kernel_rfl) (by kernel_rfl) (fun _ _ _ h => h) rfl S1 (fun w' hw' => by go_simp) ?_
        simp only [Act.put, List.setIfInBounds_toArray, List.set_cons_zero, List.set_cons_succ]
        refine takeS 2 (some 31) (.pointer (some ⟨bb, o + j * 2, none⟩)) rfl rfl (by kernel_rfl) (by kernel_rfl) (by kernel_rfl) (fun _ _ _ h => h) rfl S1 (fun w' hw' => by go_simp) ?_
        simp only [Act.put, List.setIfInBounds_toArray, List.set_cons_zero, List.set_cons_succ]
        refine takeS 3 (some 32) (.pointer (some ⟨bb, o + j * 2, none⟩)) rfl rfl (by kernel_rfl) (by kernel_rfl) (by kernel_rfl) (fun _ _ _ h => h) rfl S1 (fun w' hw' => by go_simp) ?_
        simp only [Act.put, List.setIfInBounds_toArray, List.set_cons_zero, List.set_cons_succ]
        refine takeS 4 (some 33) (.string z) rfl rfl (by kernel_rfl) (by kernel_rfl) (by kernel_rfl) (fun _ _ _ h => h) rfl S1 (fun w' hw' => by have := (CZ.out w' hw').1; go_simp) ?_
        simp only [Act.put, List.setIfInBounds_toArray, List.set_cons_zero, List.set_cons_succ]
        refine takeS 5 (some 34) (.pointer (some ⟨g0, 1, none⟩)) rfl rfl (by kernel_rfl) (by kernel_rfl) (by kernel_rfl) (fun _ _ _ h => h) rfl S1 (fun w' hw' => by go_simp) ?_
        simp only [Act.put, List.setIfInBounds_toArray, List.set_cons_zero, List.set_cons_succ]
        refine takeS 6 (some 35) (.string p) rfl rfl (by kernel_rfl) (by kernel_rfl) (by kernel_rfl) (fun _ _ _ h => h) rfl S1 (fun w' hw' => by have := (A1.out w' hw').cell 1; go_simp) ?_
        simp only [Act.put, List.setIfInBounds_toArray, List.set_cons_zero, List.set_cons_succ]
        refine takeS 7 (some 36) (.bool true) rfl rfl (by kernel_rfl) (by kernel_rfl) (by kernel_rfl) (fun _ _ _ h => h) rfl S1 (fun w' hw' => by go_simp) ?_
        simp only [Act.put, List.setIfInBounds_toArray, List.set_cons_zero, List.set_cons_succ]
        refine takeS 8 (some 37) (.bool true) rfl rfl (by kernel_rfl) (by kernel_rfl) (by kernel_rfl) (fun _ _ _ h => h) rfl S1 (fun w' hw' => by go_simp) ?_
        simp only [Act.put, List.setIfInBounds_toArray, List.set_cons_zero, List.set_cons_succ]
        refine takeS 9 (some 38) (.slice (some ⟨bb, o, none⟩) n cap) rfl rfl (by kernel_rfl) (by kernel_rfl) (by kernel_rfl) (fun _ _ _ h => h) rfl S1 (fun w' hw' => by go_simp) ?_
        simp only [Act.put, List.setIfInBounds_toArray, List.set_cons_zero, List.set_cons_succ]
        refine takeS 10 (some 39) (.int .i64 j) rfl rfl (by kernel_rfl) (by kernel_rfl) (by kernel_rfl) (fun _ _ _ h => h) rfl S1 (fun w' hw' => by go_simp) ?_
        simp only [Act.put, List.setIfInBounds_toArray, List.set_cons_zero, List.set_cons_succ]
        refine takeS 11 (some 40) (.pointer (some ⟨bb, o + j * 2, none⟩)) rfl rfl (by kernel_rfl) (by kernel_rfl) (by kernel_rfl) (fun _ _ _ h => h) rfl S1 (fun w' hw' => by go_simp) ?_
        simp only [Act.put, List.setIfInBounds_toArray, List.set_cons_zero, List.set_cons_succ]
        refine takeS 12 (some 41) (.pointer (some ⟨bb, o + j * 2, none⟩)) rfl rfl (by kernel_rfl) (by kernel_rfl) (by kernel_rfl) (fun _ _ _ h => h) rfl S1 (fun w' hw' => by go_simp) ?_
        simp only [Act.put, List.setIfInBounds_toArray, List.set_cons_zero, List.set_cons_succ]
        refine takeS 13 (some 42) (.string z) rfl rfl (by kernel_rfl) (by kernel_rfl) (by kernel_rfl) (fun _ _ _ h => h) rfl S1 (fun w' hw' => by have := (CZ.out w' hw').1; go_simp) ?_
        simp only [Act.put, List.setIfInBounds_toArray, List.set_cons_zero, List.set_cons_succ]
        refine takeS 14 (some 43) (.pointer (some ⟨g0, 1, none⟩)) rfl rfl (by kernel_rfl) (by kernel_rfl) (by kernel_rfl) (fun _ _ _ h => h) rfl S1 (fun w' hw' => by go_simp) ?_
        simp only [Act.put, List.setIfInBounds_toArray, List.set_cons_zero, List.set_cons_succ]
        refine takeS 15 (some 44) (.string p) rfl rfl (by kernel_rfl) (by kernel_rfl) (by kernel_rfl) (fun _ _ _ h => h) rfl S1 (fun w' hw' => by have := (A1.out w' hw').cell 1; go_simp) ?_
        simp only [Act.put, List.setIfInBounds_toArray, List.set_cons_zero, List.set_cons_succ]
        refine nextS 16 rfl (by kernel_rfl) rfl ?_
        refine callS (some 45) rfl 71 #[.string z, .string p] (by go_simp) (fun v w' => v = .bool (under z.toList p.toList) ∧ Ext W0 w') ((UN.out _ _ _ _ S1).mono fun e w' he => ⟨_, he.1, rfl, he.2⟩) ?_
        rintro v3 w3 ⟨rfl, hS3⟩
        refine ⟨hS3, ?_⟩
        simp only [Act.put, List.setIfInBounds_toArray, List.set_cons_zero, List.set_cons_succ]
        refine takeS 17 (some 46) (.bool (!under z.toList p.toList)) rfl rfl (by kernel_rfl) (by kernel_rfl) (by kernel_rfl) (fun _ _ _ h => h) rfl hS3 (fun w' hw' => by go_simp) ?_
        simp only [Act.put, List.setIfInBounds_toArray, List.set_cons_zero, List.set_cons_succ]
        refine takeS 18 (some 47) (.bool (!under z.toList p.toList)) rfl rfl (by kernel_rfl) (by kernel_rfl) (by kernel_rfl) (fun _ _ _ h => h) rfl hS3 (fun w' hw' => by go_simp) ?_
        simp only [Act.put, List.setIfInBounds_toArray, List.set_cons_zero, List.set_cons_succ]
        refine wpAnyH_done (by kernel_rfl) ?_ _
        cases hu : under z.toList p.toList with
        | true =>
          have ew := Lib.hid (ED.trans hS3)
          clear AP hS3 CZ A1 S1 ED
          go_wp2
          exact ⟨SKIP.out _ ew.out, by (try simp [intOf]); omega⟩
        | false =>
          have ew := ED.trans hS3
          obtain ⟨cz2, cq2⟩ := CY.out _ ew
          obtain ⟨d4, n4, c4, w4, hrun, hinv⟩ := AP.out _ ew (by rw [RD.out, hu])
          have R1 := Lib.hid hrun
          have F := Lib.hid hinv
          clear hrun hinv AP CY ew CZ A1 S1 hS3 ED SKIP
          generalize ((q : Nat) : Int) = qi at *
          go_wp2_with (at_builtin; refine Lib.wpList_append_run _ rfl _ _ _ _ rfl _ _ rfl rfl _ _ R1.out ?_)
          exact ⟨F.out, by (try simp [intOf]); omega⟩
    · obtain rfl : j = n := by omega
      have I2 : InvG2 w0 l Q p.toList j (.slice d8 mm k8) (.int .i64 0) wr := ⟨0, mm, m, d8, k8, HMM.out, by omega, rfl, rfl, hrow, hz, by rw [HN.out, List.take_length] at hmj; simp; omega, (fun x hx => HQ.out x (hml x hx)), he⟩
      clear hrow hz hml he I0 hlt hmj HMM hj
      generalize j = n at *
      go_wp2
      go_loopw [5, 7] (fun s5 s7 wr => InvG2 w0 l Q p.toList n s5 s7 wr) (fun _ s7 _ => n - (intOf s7).toNat)
      case atStart => exact I2
      case round =>
        clear I2
        obtain ⟨j, mm, m, d8, k8, hmm, hj, rfl, rfl, hrow, hz, hmj, hml, he⟩ := hrel
        have HMM := Lib.hid hmm
        clear hmm
        by_cases hlt : j < n
        · obtain ⟨z, q, hx, hxj, hzl, cz, cq⟩ := CM.out _ (E0.out.trans he) j (by rw [← HN.out]; exact hlt)
          have a1 := A0.out _ he
          have a1c := a1.cell 1
          have ha := HAD.out (by omega)
          subst ha
          have i0 : (0 : Int) ≤ (j : Int) := by omega
          have i1 : (j : Int) < (n : Int) := by omega
          have RD := Lib.hid (show runQ p.toList (z.toList, q) = ((z.toList == p.toList) || under z.toList p.toList) from rfl)
          have SKIP := Lib.hid (fun (w4 : World) (e : Ext wr w4) (hb : runQ p.toList (z.toList, q) = false) => (⟨j + 1, mm, m, d8, k8, HMM.out, by omega, by rw [Int.natCast_add]; rfl, rfl, hrow.ext e, hz, Nat.le_trans hmj (by rw [countP_snoc (by rw [← HN.out]; exact hlt)]; omega), hml, he.trans e⟩ : InvG2 w0 l Q p.toList n (.slice d8 mm k8) (.int .i64 ((j : Int) + 1)) w4))
          have PS := Lib.hid (fun (hb : runQ p.toList (z.toList, q) = true) => (show p.size ≤ z.size from by have := runQ_len hb; rw [size_list, size_list]; exact this))
          have WY0 := Lib.hid (fun (hb : runQ p.toList (z.toList, q) = true) (w4 : World) (e : Ext wr w4) => InvG2.more (q := q) (z := z) (b ++ z.extract p.size z.size) HMM.out HN.out hlt hl (hrow.ext e) hz hmj hml (he.trans e) hxj hb (by
            have h1 := HQM.out _ hx hb
            have h2 : (b ++ z.extract p.size z.size).toList = b.toList ++ z.toList.drop p.toList.length := by
              rw [tx_app, tx_cut, ← size_list, List.take_of_length_le]
              rw [List.length_drop, ← size_list]; omega
            rw [h2]; exact h1))
          have CY := Lib.hid (fun (w4 : World) (e : Ext wr w4) => And.intro (e.cell cz) (e.cell cq))
          have AY := Lib.hid (fun (w4 : World) (e : Ext wr w4) => At.ext a1 e)
          clear hrow hz hml he hx hxj hmj
          cases hb : z.toList == p.toList with
          | true =>
            rw [hb, Bool.true_or] at RD
            have WY := Lib.hid (WY0.out RD.out)
            have hps := PS.out RD.out
            have hps2 : (p.size : Int) ≤ (z.size : Int) := by omega
            have hcat : b.size + (z.size - p.size) ≤ 9223372036854775807 := by omega
            clear WY0 SKIP
            go_wp2_with fail
            go_quiet (fail)
            have eq_ : Ext wr (wr.drewN nq) := Ext.drewN _ _
            clear cz cq a1 a1c
            generalize wr.drewN nq = wq at *
            have cz := (CY.out wq eq_).1
            have cq := (CY.out wq eq_).2
            have a1 := AY.out wq eq_
            have WY2 := WY.out wq.drew (eq_.trans (Ext.drew wq))
            go_wp2_with fail
            refine wp_region_held (S := Ext wq.drew) (by kernel_rfl) ?_
            change wpAnyH _ _ _ _ _ _ _ _ wq.drew
            have S1 : Ext wq.drew wq.drew := Ext.refl _
            have CZ := Lib.hid (fun (w' : World) (hw' : Ext wq.drew w') => And.intro (hw'.cell (show wq.drew.cell? ⟨bb, o + j * 2, none⟩ = some (.string z) from cz)) (hw'.cell (show wq.drew.cell? ⟨bb, o + j * 2 + 1, none⟩ = some (.int .i64 q) from cq)))
            have A1 := Lib.hid (fun (w' : World) (hw' : Ext wq.drew w') => (At.ext (w := wq.drew) a1 hw'))
            have WY3 := Lib.hid WY2
            clear cz cq a1 WY2
            generalize wq.drew = W0 at *
            refine takeS 0 (some 79) (.slice d8 mm k8) rfl rfl (by kernel_rfl) (by kernel_rfl) (by kernel_rfl) (fun _ _ _ h => h) rfl S1 (fun w' hw' => by go_simp) ?_
            simp only [Act.put, List.setIfInBounds_toArray, List.set_cons_zero, List.set_cons_succ]
            refine takeS 1 (some 80) (.pointer (some ⟨g0, 2, none⟩)) rfl rfl (by kernel_rfl) (by kernel_rfl) (by kernel_rfl) (fun _ _ _ h => h) rfl S1 (fun w' hw' => by go_simp) ?_
            simp only [Act.put, List.setIfInBounds_toArray, List.set_cons_zero, List.set_cons_succ]
            refine takeS 2 (some 81) (.string b) rfl rfl (by kernel_rfl) (by kernel_rfl) (by kernel_rfl) (fun _ _ _ h => h) rfl S1 (fun w' hw' => by have := (A1.out w' hw').cell 2; go_simp) ?_
            simp only [Act.put, List.setIfInBounds_toArray, List.set_cons_zero, List.set_cons_succ]
            refine takeS 3 (some 82) (.slice (some ⟨bb, o, none⟩) n cap) rfl rfl (by kernel_rfl) (by kernel_rfl) (by kernel_rfl) (fun _ _ _ h => h) rfl S1 (fun w' hw' => by go_simp) ?_
            simp only [Act.put, List.setIfInBounds_toArray, List.set_cons_zero, List.set_cons_succ]
            refine takeS 4 (some 83) (.int .i64 j) rfl rfl (by kernel_rfl) (by kernel_rfl) (by kernel_rfl) (fun _ _ _ h => h) rfl S1 (fun w' hw' => by go_simp) ?_
            simp only [Act.put, List.setIfInBounds_toArray, List.set_cons_zero, List.set_cons_succ]
            refine takeS 5 (some 84) (.pointer (some ⟨bb, o + j * 2, none⟩)) rfl rfl (by kernel_rfl) (by kernel_rfl) (by kernel_rfl) (fun _ _ _ h => h) rfl S1 (fun w' hw' => by go_simp) ?_
            simp only [Act.put, List.setIfInBounds_toArray, List.set_cons_zero, List.set_cons_succ]
            refine takeS 6 (some 85) (.pointer (some ⟨bb, o + j * 2, none⟩)) rfl rfl (by kernel_rfl) (by kernel_rfl) (by kernel_rfl) (fun _ _ _ h => h) rfl S1 (fun w' hw' => by go_simp) ?_
            simp only [Act.put, List.setIfInBounds_toArray, List.set_cons_zero, List.set_cons_succ]
            refine takeS 7 (some 86) (.string z) rfl rfl (by kernel_rfl) (by kernel_rfl) (by kernel_rfl) (fun _ _ _ h => h) rfl S1 (fun w' hw' => by have := (CZ.out w' hw').1; go_simp) ?_
            simp only [Act.put, List.setIfInBounds_toArray, List.set_cons_zero, List.set_cons_succ]
            refine takeS 8 (some 87) (.pointer (some ⟨g0, 1, none⟩)) rfl rfl (by kernel_rfl) (by kernel_rfl) (by kernel_rfl) (fun _ _ _ h => h) rfl S1 (fun w' hw' => by go_simp) ?_
            simp only [Act.put, List.setIfInBounds_toArray, List.set_cons_zero, List.set_cons_succ]
            refine takeS 9 (some 88) (.string p) rfl rfl (by kernel_rfl) (by kernel_rfl) (by kernel_rfl) (fun _ _ _ h => h) rfl S1 (fun w' hw' => by have := (A1.out w' hw').cell 1; go_simp) ?_
            simp only [Act.put, List.setIfInBounds_toArray, List.set_cons_zero, List.set_cons_succ]
            refine takeS 10 (some 89) (.int .i64 p.size) rfl rfl (by kernel_rfl) (by kernel_rfl) (by kernel_rfl) (fun _ _ _ h => h) rfl S1 (fun w' hw' => by go_simp) ?_
            simp only [Act.put, List.setIfInBounds_toArray, List.set_cons_zero, List.set_cons_succ]
            refine takeS 11 (some 90) (.string (z.extract p.size z.size)) rfl rfl (by kernel_rfl) (by kernel_rfl) (by kernel_rfl) (fun _ _ _ h => h) rfl S1 (fun w' hw' => by go_simp) ?_
            simp only [Act.put, List.setIfInBounds_toArray, List.set_cons_zero, List.set_cons_succ]
            refine takeS 12 (some 91) (.string (b ++ z.extract p.size z.size)) rfl rfl (by kernel_rfl) (by kernel_rfl) (by kernel_rfl) (fun _ _ _ h => h) rfl S1 (fun w' hw' => by go_simp) ?_
            simp only [Act.put, List.setIfInBounds_toArray, List.set_cons_zero, List.set_cons_succ]
            refine takeS 13 (some 92) (.slice (some ⟨bb, o, none⟩) n cap) rfl rfl (by kernel_rfl) (by kernel_rfl) (by kernel_rfl) (fun _ _ _ h => h) rfl S1 (fun w' hw' => by go_simp) ?_
            simp only [Act.put, List.setIfInBounds_toArray, List.set_cons_zero, List.set_cons_succ]
            refine takeS 14 (some 93) (.int .i64 j) rfl rfl (by kernel_rfl) (by kernel_rfl) (by kernel_rfl) (fun _ _ _ h => h) rfl S1 (fun w' hw' => by go_simp) ?_
            simp only [Act.put, List.setIfInBounds_toArray, List.set_cons_zero, List.set_cons_succ]
            refine takeS 15 (some 94) (.pointer (some ⟨bb, o + j * 2, none⟩)) rfl rfl (by kernel_rfl) (by kernel_rfl) (by kernel_rfl) (fun _ _ _ h => h) rfl S1 (fun w' hw' => by go_simp) ?_
            simp only [Act.put, List.setIfInBounds_toArray, List.set_cons_zero, List.set_cons_succ]
            refine takeS 16 (some 95) (.pointer (some ⟨bb, o + j * 2 + 1, none⟩)) rfl rfl (by kernel_rfl) (by kernel_rfl) (by kernel_rfl) (fun _ _ _ h => h) rfl S1 (fun w' hw' => by go_simp) ?_
            simp only [Act.put, List.setIfInBounds_toArray, List.set_cons_zero, List.set_cons_succ]
            refine takeS 17 (some 96) (.int .i64 q) rfl rfl (by kernel_rfl) (by kernel_rfl) (by kernel_rfl) (fun _ _ _ h => h) rfl S1 (fun w' hw' => by have := (CZ.out w' hw').2; go_simp) ?_
            simp only [Act.put, List.setIfInBounds_toArray, List.set_cons_zero, List.set_cons_succ]
            refine takeS 18 (some 97) (.agg #[.string (b ++ z.extract p.size z.size), .int .i64 q]) rfl rfl (by kernel_rfl) (by kernel_rfl) (by kernel_rfl) (fun _ _ _ h => h) rfl S1 (fun w' hw' => by go_simp) ?_
            simp only [Act.put, List.setIfInBounds_toArray, List.set_cons_zero, List.set_cons_succ]
            refine nextS 19 rfl (by kernel_rfl) rfl ?_
            refine callS (some 98) rfl 97 #[.slice d8 mm k8, .agg #[.string (b ++ z.extract p.size z.size), .int .i64 q]] (by go_simp) (fun v w' => (∃ d4 n4 c4, v = .slice d4 n4 c4 ∧ InvG2 w0 l Q p.toList n v (.int .i64 ((j : Int) + 1)) w') ∧ Ext W0 w') ((WY3.out).mono fun e w' he => he) ?_
            rintro v3 w3 ⟨⟨d4, n4, c4, rfl, hinv⟩, hS3⟩
            refine ⟨hS3, ?_⟩
            simp only [Act.put, List.setIfInBounds_toArray, List.set_cons_zero, List.set_cons_succ]
            refine takeS 20 (some 5) (.slice d4 n4 c4) rfl rfl (by kernel_rfl) (by kernel_rfl) (by kernel_rfl) (fun _ _ _ h => h) rfl hS3 (fun w' hw' => by go_simp) ?_
            simp only [Act.put, List.setIfInBounds_toArray, List.set_cons_zero, List.set_cons_succ]
            refine wpAnyH_done (by kernel_rfl) ?_ _
            have F := Lib.hid hinv
            clear hinv hS3 WY3 CZ A1 S1
            go_wp2
            exact ⟨F.out, by (try simp [intOf]); omega⟩
          | false =>
            rw [hb, Bool.false_or] at RD
            clear a1c
            go_wp2_with fail
            refine wp_region_held (S := Ext wr.drew) (by kernel_rfl) ?_
            change wpAnyH _ _ _ _ _ _ _ _ wr.drew
            have S1 : Ext wr.drew wr.drew := Ext.refl _
            have CZ := Lib.hid (fun (w' : World) (hw' : Ext wr.drew w') => And.intro (hw'.cell (show wr.drew.cell? ⟨bb, o + j * 2, none⟩ = some (.string z) from cz)) (hw'.cell (show wr.drew.cell? ⟨bb, o + j * 2 + 1, none⟩ = some (.int .i64 q) from cq)))
            have A1 := Lib.hid (fun (w' : World) (hw' : Ext wr.drew w') => (At.ext (w := wr.drew) a1 hw'))
            have ED : Ext wr wr.drew := Ext.drew wr
            clear cz cq a1
            generalize wr.drew = W0 at *
            refine takeS 0 (some 61) (.slice (some ⟨bb, o, none⟩) n cap) rfl rfl (by kernel_rfl) (by kernel_rfl) (by kernel_rfl) (fun _ _ _ h => h) rfl S1 (fun w' hw' => by go_simp) ?_
            simp only [Act.put, List.setIfInBounds_toArray, List.set_cons_zero, List.set_cons_succ]
            refine takeS 1 (some 62) (.int .i64 j) rfl rfl (by kernel_rfl) (by kernel_rfl) (by kernel_rfl) (fun _ _ _ h => h) rfl S1 (fun w' hw' => by go_simp) ?_
            simp only [Act.put, List.setIfInBounds_toArray, List.set_cons_zero, List.set_cons_succ]
            refine takeS 2 (some 63) (.pointer (some ⟨bb, o + j * 2, none⟩)) rfl rfl (by kernel_rfl) (by kernel_rfl) (by kernel_rfl) (fun _ _ _ h => h) rfl S1 (fun w' hw' => by go_simp) ?_
            simp only [Act.put, List.setIfInBounds_toArray, List.set_cons_zero, List.set_cons_succ]
            refine takeS 3 (some 64) (.pointer (some ⟨bb, o + j * 2, none⟩)) rfl rfl (by kernel_rfl) (by kernel_rfl) (by kernel_rfl) (fun _ _ _ h => h) rfl S1 (fun w' hw' => by go_simp) ?_
            simp only [Act.put, List.setIfInBounds_toArray, List.set_cons_zero, List.set_cons_succ]
            refine takeS 4 (some 65) (.string z) rfl rfl (by kernel_rfl) (by kernel_rfl) (by kernel_rfl) (fun _ _ _ h => h) rfl S1 (fun w' hw' => by have := (CZ.out w' hw').1; go_simp) ?_
            simp only [Act.put, List.setIfInBounds_toArray, List.set_cons_zero, List.set_cons_succ]
            refine takeS 5 (some 66) (.pointer (some ⟨g0, 1, none⟩)) rfl rfl (by kernel_rfl) (by kernel_rfl) (by kernel_rfl) (fun _ _ _ h => h) rfl S1 (fun w' hw' => by go_simp) ?_
            simp only [Act.put, List.setIfInBounds_toArray, List.set_cons_zero, List.set_cons_succ]
            refine takeS 6 (some 67) (.string p) rfl rfl (by kernel_rfl) (by kernel_rfl) (by kernel_rfl) (fun _ _ _ h => h) rfl S1 (fun w' hw' => by have := (A1.out w' hw').cell 1; go_simp) ?_
            simp only [Act.put, List.setIfInBounds_toArray, List.set_cons_zero, List.set_cons_succ]
            refine takeS 7 (some 68) (.bool false) rfl rfl (by kernel_rfl) (by kernel_rfl) (by kernel_rfl) (fun _ _ _ h => h) rfl S1 (fun w' hw' => by go_simp) ?_
            simp only [Act.put, List.setIfInBounds_toArray, List.set_cons_zero, List.set_cons_succ]
            refine takeS 8 (some 69) (.bool false) rfl rfl (by kernel_rfl) (by kernel_rfl) (by kernel_rfl) (fun _ _ _ h => h) rfl S1 (fun w' hw' => by go_simp) ?_
            simp only [Act.put, List.setIfInBounds_toArray, List.set_cons_zero, List.set_cons_succ]
            refine takeS 9 (some 70) (.slice (some ⟨bb, o, none⟩) n cap) rfl rfl (by kernel_rfl) (by kernel_rfl) (by kernel_rfl) (fun _ _ _ h => h) rfl S1 (fun w' hw' => by go_simp) ?_
            simp only [Act.put, List.setIfInBounds_toArray, List.set_cons_zero, List.set_cons_succ]
            refine takeS 10 (some 71) (.int .i64 j) rfl rfl (by kernel_rfl) (by kernel_rfl) (by kernel_rfl) (fun _ _ _ h => h) rfl S1 (fun w' hw' => by go_simp) ?_
            simp only [Act.put, List.setIfInBounds_toArray, List.set_cons_zero, List.set_cons_succ]
            refine takeS 11 (some 72) (.pointer (some ⟨bb, o + j * 2, none⟩)) rfl rfl (by kernel_rfl) (by kernel_rfl) (by kernel_rfl) (fun _ _ _ h => h) rfl S1 (fun w' hw' => by go_simp) ?_
            simp only [Act.put, List.setIfInBounds_toArray, List.set_cons_zero, List.set_cons_succ]
            refine takeS 12 (some 73) (.pointer (some ⟨bb, o + j * 2, none⟩)) rfl rfl (by kernel_rfl) (by kernel_rfl) (by kernel_rfl) (fun _ _ _ h => h) rfl S1 (fun w' hw' => by go_simp) ?_
            simp only [Act.put, List.setIfInBounds_toArray, List.set_cons_zero, List.set_cons_succ]
            refine takeS 13 (some 74) (.string z) rfl rfl (by kernel_rfl) (by kernel_rfl) (by kernel_rfl) (fun _ _ _ h => h) rfl S1 (fun w' hw' => by have := (CZ.out w' hw').1; go_simp) ?_
            simp only [Act.put, List.setIfInBounds_toArray, List.set_cons_zero, List.set_cons_succ]
            refine takeS 14 (some 75) (.pointer (some ⟨g0, 1, none⟩)) rfl rfl (by kernel_rfl) (by kernel_rfl) (by kernel_rfl) (fun _ _ _ h => h) rfl S1 (fun w' hw' => by go_simp) ?_
            simp only [Act.put, List.setIfInBounds_toArray, List.set_cons_zero, List.set_cons_succ]
            refine takeS 15 (some 76) (.string p) rfl rfl (by kernel_rfl) (by kernel_rfl) (by kernel_rfl) (fun _ _ _ h => h) rfl S1 (fun w' hw' => by have := (A1.out w' hw').cell 1; go_simp) ?_
            simp only [Act.put, List.setIfInBounds_toArray, List.set_cons_zero, List.set_cons_succ]
            refine nextS 16 rfl (by kernel_rfl) rfl ?_
            refine callS (some 77) rfl 71 #[.string z, .string p] (by go_simp) (fun v w' => v = .bool (under z.toList p.toList) ∧ Ext W0 w') ((UN.out _ _ _ _ S1).mono fun e w' he => ⟨_, he.1, rfl, he.2⟩) ?_
            rintro v3 w3 ⟨rfl, hS3⟩
            refine ⟨hS3, ?_⟩
            simp only [Act.put, List.setIfInBounds_toArray, List.set_cons_zero, List.set_cons_succ]
            refine takeS 17 (some 78) (.bool (under z.toList p.toList)) rfl rfl (by kernel_rfl) (by kernel_rfl) (by kernel_rfl) (fun _ _ _ h => h) rfl hS3 (fun w' hw' => by go_simp) ?_
            simp only [Act.put, List.setIfInBounds_toArray, List.set_cons_zero, List.set_cons_succ]
            refine wpAnyH_done (by kernel_rfl) ?_ _
            have eq_ := ED.trans hS3
            clear hS3 ED CZ A1 S1
            generalize w3 = wq at *
            cases hu : under z.toList p.toList with
            | true =>
              rw [hu] at RD
              have WY := Lib.hid (WY0.out RD.out)
              have hps := PS.out RD.out
              have hps2 : (p.size : Int) ≤ (z.size : Int) := by omega
              have hcat : b.size + (z.size - p.size) ≤ 9223372036854775807 := by omega
              clear WY0 SKIP
              have cz := (CY.out wq eq_).1
              have cq := (CY.out wq eq_).2
              have a1 := AY.out wq eq_
              have WY2 := WY.out wq.drew (eq_.trans (Ext.drew wq))
              go_wp2_with fail
              refine wp_region_held (S := Ext wq.drew) (by kernel_rfl) ?_
              change wpAnyH _ _ _ _ _ _ _ _ wq.drew
              have S1 : Ext wq.drew wq.drew := Ext.refl _
              have CZ := Lib.hid (fun (w' : World) (hw' : Ext wq.drew w') => And.intro (hw'.cell (show wq.drew.cell? ⟨bb, o + j * 2, none⟩ = some (.string z) from cz)) (hw'.cell (show wq.drew.cell? ⟨bb, o + j * 2 + 1, none⟩ = some (.int .i64 q) from cq)))
              have A1 := Lib.hid (fun (w' : World) (hw' : Ext wq.drew w') => (At.ext (w := wq.drew) a1 hw'))
              have WY3 := Lib.hid WY2
              clear cz cq a1 WY2
              generalize wq.drew = W0 at *
              refine takeS 0 (some 79) (.slice d8 mm k8) rfl rfl (by kernel_rfl) (by kernel_rfl) (by kernel_rfl) (fun _ _ _ h => h) rfl S1 (fun w' hw' => by go_simp) ?_
              simp only [Act.put, List.setIfInBounds_toArray, List.set_cons_zero, List.set_cons_succ]
              refine takeS 1 (some 80) (.pointer (some ⟨g0, 2, none⟩)) rfl rfl (by kernel_rfl) (by kernel_rfl) (by kernel_rfl) (fun _ _ _ h => h) rfl S1 (fun w' hw' => by go_simp) ?_
              simp only [Act.put, List.setIfInBounds_toArray, List.set_cons_zero, List.set_cons_succ]
              refine takeS 2 (some 81) (.string b) rfl rfl (by kernel_rfl) (by kernel_rfl) (by kernel_rfl) (fun _ _ _ h => h) rfl S1 (fun w' hw' => by have := (A1.out w' hw').cell 2; go_simp) ?_
              simp only [Act.put, List.setIfInBounds_toArray, List.set_cons_zero, List.set_cons_succ]
              refine takeS 3 (some 82) (.slice (some ⟨bb, o, none⟩) n cap) rfl rfl (by kernel_rfl) (by kernel_rfl) (by kernel_rfl) (fun _ _ _ h => h) rfl S1 (fun w' hw' => by go_simp) ?_
              simp only [Act.put, List.setIfInBounds_toArray, List.set_cons_zero, List.set_cons_succ]
              refine takeS 4 (some 83) (.int .i64 j) rfl rfl (by kernel_rfl) (by kernel_rfl) (by kernel_rfl) (fun _ _ _ h => h) rfl S1 (fun w' hw' => by go_simp) ?_
              simp only [Act.put, List.setIfInBounds_toArray, List.set_cons_zero, List.set_cons_succ]
              refine takeS 5 (some 84) (.pointer (some ⟨bb, o + j * 2, none⟩)) rfl rfl (by kernel_rfl) (by kernel_rfl) (by kernel_rfl) (fun _ _ _ h => h) rfl S1 (fun w' hw' => by go_simp) ?_
              simp only [Act.put, List.setIfInBounds_toArray, List.set_cons_zero, List.set_cons_succ]
              refine takeS 6 (some 85) (.pointer (some ⟨bb, o + j * 2, none⟩)) rfl rfl (by kernel_rfl) (by kernel_rfl) (by kernel_rfl) (fun _ _ _ h => h) rfl S1 (fun w' hw' => by go_simp) ?_
              simp only [Act.put, List.setIfInBounds_toArray, List.set_cons_zero, List.set_cons_succ]
              refine takeS 7 (some 86) (.string z) rfl rfl (by kernel_rfl) (by kernel_rfl) (by kernel_rfl) (fun _ _ _ h => h) rfl S1 (fun w' hw' => by have := (CZ.out w' hw').1; go_simp) ?_
              simp only [Act.put, List.setIfInBounds_toArray, List.set_cons_zero, List.set_cons_succ]
              refine takeS 8 (some 87) (.pointer (some ⟨g0, 1, none⟩)) rfl rfl (by kernel_rfl) (by kernel_rfl) (by kernel_rfl) (fun _ _ _ h => h) rfl S1 (fun w' hw' => by go_simp) ?_
              simp only [Act.put, List.setIfInBounds_toArray, List.set_cons_zero, List.set_cons_succ]
              refine takeS 9 (some 88) (.string p) rfl rfl (by kernel_rfl) (by kernel_rfl) (by kernel_rfl) (fun _ _ _ h => h) rfl S1 (fun w' hw' => by have := (A1.out w' hw').cell 1; go_simp) ?_
              simp only [Act.put, List.setIfInBounds_toArray, List.set_cons_zero, List.set_cons_succ]
              refine takeS 10 (some 89) (.int .i64 p.size) rfl rfl (by kernel_rfl) (by kernel_rfl) (by kernel_rfl) (fun _ _ _ h => h) rfl S1 (fun w' hw' => by go_simp) ?_
              simp only [Act.put, List.setIfInBounds_toArray, List.set_cons_zero, List.set_cons_succ]
              refine takeS 11 (some 90) (.string (z.extract p.size z.size)) rfl rfl (by kernel_rfl) (by kernel_rfl) (by kernel_rfl) (fun _ _ _ h => h) rfl S1 (fun w' hw' => by go_simp) ?_
              simp only [Act.put, List.setIfInBounds_toArray, List.set_cons_zero, List.set_cons_succ]
              refine takeS 12 (some 91) (.string (b ++ z.extract p.size z.size)) rfl rfl (by kernel_rfl) (by kernel_rfl) (by kernel_rfl) (fun _ _ _ h => h) rfl S1 (fun w' hw' => by go_simp) ?_
              simp only [Act.put, List.setIfInBounds_toArray, List.set_cons_zero, List.set_cons_succ]
              refine takeS 13 (some 92) (.slice (some ⟨bb, o, none⟩) n cap) rfl rfl (by kernel_rfl) (by kernel_rfl) (by kernel_rfl) (fun _ _ _ h => h) rfl S1 (fun w' hw' => by go_simp) ?_
              simp only [Act.put, List.setIfInBounds_toArray, List.set_cons_zero, List.set_cons_succ]
              refine takeS 14 (some 93) (.int .i64 j) rfl rfl (by kernel_rfl) (by kernel_rfl) (by kernel_rfl) (fun _ _ _ h => h) rfl S1 (fun w' hw' => by go_simp) ?_
              simp only [Act.put, List.setIfInBounds_toArray, List.set_cons_zero, List.set_cons_succ]
              refine takeS 15 (some 94) (.pointer (some ⟨bb, o + j * 2, none⟩)) rfl rfl (by kernel_rfl) (by kernel_rfl) (by kernel_rfl) (fun _ _ _ h => h) rfl S1 (fun w' hw' => by go_simp) ?_
              simp only [Act.put, List.setIfInBounds_toArray, List.set_cons_zero, List.set_cons_succ]
              refine takeS 16 (some 95) (.pointer (some ⟨bb, o + j * 2 + 1, none⟩)) rfl rfl (by kernel_rfl) (by kernel_rfl) (by kernel_rfl) (fun _ _ _ h => h) rfl S1 (fun w' hw' => by go_simp) ?_
              simp only [Act.put, List.setIfInBounds_toArray, List.set_cons_zero, List.set_cons_succ]
              refine takeS 17 (some 96) (.int .i64 q) rfl rfl (by kernel_rfl) (by kernel_rfl) (by kernel_rfl) (fun _ _ _ h => h) rfl S1 (fun w' hw' => by have := (CZ.out w' hw').2; go_simp) ?_
              simp only [Act.put, List.setIfInBounds_toArray, List.set_cons_zero, List.set_cons_succ]
              refine takeS 18 (some 97) (.agg #[.string (b ++ z.extract p.size z.size), .int .i64 q]) rfl rfl (by kernel_rfl) (by kernel_rfl) (by kernel_rfl) (fun _ _ _ h => h) rfl S1 (fun w' hw' => by go_simp) ?_
              simp only [Act.put, List.setIfInBounds_toArray, List.set_cons_zero, List.set_cons_succ]
              refine nextS 19 rfl (by kernel_rfl) rfl ?_
              refine callS (some 98) rfl 97 #[.slice d8 mm k8, .agg #[.string (b ++ z.extract p.size z.size), .int .i64 q]] (by go_simp) (fun v w' => (∃ d4 n4 c4, v = .slice d4 n4 c4 ∧ InvG2 w0 l Q p.toList n v (.int .i64 ((j : Int) + 1)) w') ∧ Ext W0 w') ((WY3.out).mono fun e w' he => he) ?_
              rintro v3 w3 ⟨⟨d4, n4, c4, rfl, hinv⟩, hS3⟩
              refine ⟨hS3, ?_⟩
              simp only [Act.put, List.setIfInBounds_toArray, List.set_cons_zero, List.set_cons_succ]
              refine takeS 20 (some 5) (.slice d4 n4 c4) rfl rfl (by kernel_rfl) (by kernel_rfl) (by kernel_rfl) (fun _ _ _ h => h) rfl hS3 (fun w' hw' => by go_simp) ?_
              simp only [Act.put, List.setIfInBounds_toArray, List.set_cons_zero, List.set_cons_succ]
              refine wpAnyH_done (by kernel_rfl) ?_ _
              have F := Lib.hid hinv
              clear hinv hS3 WY3 CZ A1 S1
              go_wp2
              exact ⟨F.out, by (try simp [intOf]); omega⟩
            | false =>
              rw [hu] at RD
              have F := Lib.hid (SKIP.out _ eq_ RD.out)
              clear SKIP eq_ WY0
              go_wp2
              exact ⟨F.out, by (try simp [intOf]); omega⟩
        · obtain rfl : j = n := by omega
          have F := Lib.hid (show ApR w Q j (.returned (.slice d8 mm k8)) wr from ⟨_, m, rfl, by rw [← HMM.out] at hrow ⊢; exact hrow, E0.out.trans he, fun i hi => Nat.le_trans E0.out.size (hz i hi), by
            have h1 := HMM.out
            have h2 := HTOT.out
            have h3 := HN.out
            rw [h3, List.take_length] at hmj
            simp only [Bool.not_eq_true] at h2
            have e : l.countP (fun a => decide (runQ p.toList a = false)) = l.countP (fun x => !runQ p.toList x) := by
              congr 1; funext a; cases runQ p.toList a <;> rfl
            rw [e] at h2
            omega, fun x hx => hml x hx⟩)
          clear hrow hz hml he hlt
          go_wp2
          go_ret
          exact F.out
end Go.Proofs.YtbneedmfpldpfaaGreatDoor
