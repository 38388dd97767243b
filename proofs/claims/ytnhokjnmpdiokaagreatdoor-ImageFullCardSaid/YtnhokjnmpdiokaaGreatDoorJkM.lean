/- An archive as the law goes on with it. No conditions: a definition and lemmas. The law's awake. No conditions but those named: contracts. -/
import Derived.Test.YtnhokjnmpdiokaaGreatDoorIoM
import Derived.Test.YtnhokjnmpdiokaaGreatDoorJaM
import Derived.Test.YtnhokjnmpdiokaaGreatDoorJe
namespace Go.Proofs.YtnhokjnmpdiokaaGreatDoor
open Go.RowKit Go.Sha Go.Pth
set_option linter.unusedSimpArgs false
set_option linter.unusedVariables false

def Lv (w0 : World) (sb ab g : Nat) (ds : List RD) (n d : Nat) (k : Nat) (con : Nat → List Int) (w : World) : Prop :=
  ∃ S W L v l ids, Arc w sb ab S W L g v l ∧ l.map RV.d = ds ∧ V.Md S n d ids ids.length ∧ V.Con S ids con ∧ ids.length = k ∧ (∀ i, L i ≠ none → w0.heap.size ≤ i) ∧ w0.heap.size ≤ ab ∧ Ext w0 w
theorem Lv.e {w0 w : World} {sb ab g n d k : Nat} {ds : List RD} {con : Nat → List Int} (h : Lv w0 sb ab g ds n d k con w) : Ext w0 w := by
  obtain ⟨S, W, L, v, l, ids, A, hd, MD, CN, hk, hL, hb, e⟩ := h
  exact e
theorem Lv.ext {w0 w w' : World} {sb ab g n d k : Nat} {ds : List RD} {con : Nat → List Int} (h : Lv w0 sb ab g ds n d k con w) (e' : Ext w w') : Lv w0 sb ab g ds n d k con w' := by
  obtain ⟨S, W, L, v, l, ids, A, hd, MD, CN, hk, hL, hb, e⟩ := h
  exact ⟨S, W, L, v, l, ids, A.ext e', hd, MD, CN, hk, hL, hb, e.trans e'⟩
theorem Lv.moved {w0 w w' : World} {sb ab g n d : Nat} {ds : List RD} {L : Nat → Option V.Role} (hL : ∀ i, L i ≠ none → w0.heap.size ≤ i) (hb : w0.heap.size ≤ ab) (e : Ext w0 w) (h : CmP w sb ab L g n d ds w') : Lv w0 sb ab g ds n d 3 (fun _ => pageI g ds) w' := by
  obtain ⟨S', W', L', v', l', ids', A', hd, MD, CN, hk, M⟩ := h
  obtain ⟨b1, b2⟩ := M.below hL hb e.size
  exact ⟨S', W', L', v', l', ids', A', hd, MD, CN, hk, b2, hb, Below.trans e b1⟩
theorem Lv.fresh {w0 w1 : World} {sb ab n : Nat} (h : FrP w0 n w1 sb ab) : ∃ d, Lv w0 sb ab 0 [] n d 0 (fun _ => []) w1 := by
  obtain ⟨S, W, L, d, A, MT, e, hL, hb⟩ := h
  exact ⟨d, S, W, L, _, [], [], A, rfl, MT, fun i a ha => by simp at ha, rfl, hL, hb, e⟩
theorem Lv.commitO {w0 w w1 : World} {sb ab g n d k : Nat} {ds : List RD} {con : Nat → List Int} (h : Lv w0 sb ab g ds n d k con w) (hk : k = 3 ∨ k = 0) (hn : n ≤ 20000) (hK : KAt w0) (e1 : Ext w w1) {u : Value} {lu : List RV} (hr : OwnR w1 w.heap.size u lu)
    (hi : imageL (lu.map RV.d) = true) (hb : BytR (lu.map RV.d)) (hg : g ≤ 1000000) :
    Calls Tryz.prog 12 #[V.ptr ab, u] w1 fun e w' => e = .returned (.int .i64 0) ∧ Lv w0 sb ab (g + 1) (lu.map RV.d) (n + 24) d 3 (fun _ => pageI (g + 1) (lu.map RV.d)) w' := by
  obtain ⟨S, W, L, v, l, ids, A, hd, MD, CN, h3, hL, hab, e⟩ := h
  have e' := e.trans e1
  exact (commit_ok (A.ext e1) MD CN (hk.imp (fun q => by omega) (fun q => List.length_eq_zero_iff.1 (by omega))) hn (hK.below e' hK.lt) (hr.rr fun i hi => A.xlt i hi) hi hb hg).mono fun _ _ q => ⟨q.1, Lv.moved hL hab e' q.2⟩
theorem Lv.scrub {w0 w : World} {sb ab g n d : Nat} {ds : List RD} {con : Nat → List Int} (h : Lv w0 sb ab g ds n d 3 con w) (hn : n ≤ 30000) (hK : KAt w0) (hi : imageL ds = true) (hb : BytR ds) (hg : 1 ≤ g ∧ g ≤ 2000000) :
    Calls Tryz.prog 18 #[V.ptr ab] w fun e w' => e = .returned (.tuple #[.int .i64 ((badL con (pageI g ds) 3).length : Int), .int .i64 0]) ∧ Lv w0 sb ab g ds (n + 24) d 3 (fun _ => pageI g ds) w' := by
  obtain ⟨S, W, L, v, l, ids, A, hd, MD, CN, h3, hL, hab, e⟩ := h
  subst hd
  exact (scrub_ok A MD CN h3 hn (hK.below e hK.lt) hi hb hg).mono fun _ _ q => ⟨q.1, Lv.moved hL hab e q.2⟩
theorem Lv.shows {w0 w : World} {sb ab g n d k : Nat} {ds : List RD} {con : Nat → List Int} (h : Lv w0 sb ab g ds n d k con w) (hi : imageL ds = true) {X : Nat → Prop} {u : Value} {lu : List RV} (hr : RR X w u lu) (hd : lu.map RV.d = ds) :
    Calls Tryz.prog 13 #[V.ptr ab, u, .int .i64 (g : Int)] w fun e w' => e = .returned (.bool true) ∧ Ext w w' := by
  obtain ⟨S, W, L, v, l, ids, A, hdl, MD, CN, h3, hL, hab, e⟩ := h
  subst hdl
  exact shows_ok A hi X u lu hr hd.symm
theorem Lv.rot {w0 w : World} {sb ab g n d : Nat} {ds : List RD} {con : Nat → List Int} (h : Lv w0 sb ab g ds n d 3 con w) (j k : Nat) (hj : j < 3) (hn : n ≤ 20000) (x : Int) (hx : 0 < x ∧ x < 256) (hk : k < (con j).length) :
    Calls Tryz.prog 17 #[V.ptr sb, .string (cpT j), .int .i64 (k : Int), .int .u8 x] w fun e w' => e = .returned (.int .i64 0) ∧ Lv w0 sb ab g ds (n + 1) d 3 (V.upd con j (V.rotB (con j) k x)) w' := by
  obtain ⟨S, W, L, v, l, ids, A, hd, MD, CN, h3, hL, hab, e⟩ := h
  obtain ⟨a, ha⟩ : ∃ a, ids[j]? = some a := ⟨_, List.getElem?_eq_getElem (by omega)⟩
  have ff : S.file (cpT j).toList = (some a, 0) := by rw [cpT_list]; exact MD.filea j a hj ha
  have nw : (S.nd a).now = con j := CN j a ha
  have R := MD.rotted CN ha hk (x := x)
  refine (V.rot_ok sb S W L (cpT j) a k x w A.rep (by have := (MD.fit (n := n) (by omega)).names; omega) hx ff (by rw [nw]; exact hk)).mono fun e' w' q => ?_
  obtain ⟨h1, W', L', r, t⟩ := q
  obtain ⟨b1, b2⟩ := (Mv.of_st (ab := ab) t).below hL hab e.size
  exact ⟨h1, S.rot a k x, W', L', v, l, ids, A.st r t, hd, R.1, R.2, h3, b2, hab, Below.trans e b1⟩
end Go.Proofs.YtnhokjnmpdiokaaGreatDoor

namespace Go.Proofs.YtnhokjnmpdiokaaGreatDoor
open Go.RowKit Go.Sha Go.Pth
set_option linter.unusedSimpArgs false
set_option linter.unusedVariables false

def r14 : List RD := [⟨nmI 0, 1, 1, 1, 1, shaL [1]⟩, ⟨nmI 1, 2, 0, 4, 4, []⟩]
theorem refs14 : refsK [1, 4] 20 = r14 := by rfl
theorem nm0 : (nmI 0).toList = [97] := by unfold nmI; rw [ByteArray.toList_eq]; rfl
theorem nm1 : (nmI 1).toList = [98] := by unfold nmI; rw [ByteArray.toList_eq]; rfl
theorem image2 (r : List Int) (h : r.length = 32) : imageL [⟨nmI 0, 1, 1, 1, 1, r⟩, ⟨nmI 1, 2, 0, 4, 4, []⟩] = true := by
  have h0 : mayR ⟨nmI 0, 1, 1, 1, 1, r⟩ = true := by
    rw [mayR_iff]
    exact ⟨by rw [nm0]; decide, by rw [nm0]; decide, by simp, by simp, Or.inl ⟨rfl, h⟩⟩
  have h1 : mayR ⟨nmI 1, 2, 0, 4, 4, []⟩ = true := by
    rw [mayR_iff]
    exact ⟨by rw [nm1]; decide, by rw [nm1]; decide, by simp, by simp, Or.inr ⟨rfl, rfl⟩⟩
  have hl : less (nmI 0).toList (nmI 1).toList = true := by rw [nm0, nm1]; decide
  unfold imageL okTo
  simp only [List.length_cons, List.length_nil]
  rw [show List.range (0 + 1 + 1) = [0, 1] from rfl]
  simp only [List.all_cons, List.all_nil, Bool.and_true]
  rw [stepL_get (i := 0) (x := ⟨nmI 0, 1, 1, 1, 1, r⟩) rfl, stepL_get (i := 1) (x := ⟨nmI 1, 2, 0, 4, 4, []⟩) rfl, h0, h1]
  simp [hl]
theorem image14 : imageL r14 = true := image2 _ (shaL_length _)
theorem byt14 : BytR r14 := fun x hx => by
  simp only [r14, List.mem_cons, List.not_mem_nil, or_false] at hx
  rcases hx with rfl | rfl
  · exact sha_byt _
  · exact byt_nil
set_option maxRecDepth 100000 in
theorem xor_ne (a : Int) (h : 0 ≤ a ∧ a < 256) : bits .xor .u8 a 1 ≠ a := by
  obtain ⟨k, rfl⟩ : ∃ k : Nat, a = (k : Int) := ⟨a.toNat, by omega⟩
  have hk : k < 256 := by omega
  have key : ∀ k : Fin 256, bits .xor .u8 (k.val : Int) 1 ≠ (k.val : Int) := by decide
  exact key ⟨k, hk⟩
theorem rot_ne {p : List Int} (hb : Byt p) (hp : 0 < p.length) : V.rotB p 0 1 ≠ p := fun e => by
  have h0 : (V.rotB p 0 1)[0]? = some (bits .xor .u8 (p[0]?.getD 0) 1) := by
    unfold V.rotB V.splice; simp
  rw [e, List.getElem?_eq_getElem hp] at h0
  injection h0 with h0
  exact xor_ne _ (hb _ (List.getElem_mem hp)) h0.symm
theorem rot_byt {p : List Int} (hb : Byt p) : Byt (V.rotB p 0 1) := by
  unfold V.rotB
  exact V.splice_one hb 0 _ (V.xor_u8 _ _)
theorem bad_one {p : List Int} (hb : Byt p) (hp : 0 < p.length) : badL (V.upd (fun _ => p) 1 (V.rotB p 0 1)) p 3 = [1] := by
  have h1 : eqS (V.rotB p 0 1) p = false := by
    cases e : eqS (V.rotB p 0 1) p with
    | false => rfl
    | true => exact absurd ((eqS_byt (rot_byt hb) hb).1 e) (rot_ne hb hp)
  unfold badL
  rw [show List.range 3 = [0, 1, 2] from rfl]
  simp [V.upd, h1, eqS_self']
theorem bad_none (p : List Int) : badL (fun _ => p) p 3 = [] := by
  unfold badL
  rw [show List.range 3 = [0, 1, 2] from rfl]
  simp [eqS_self']
theorem con_at {w : World} {g : Nat} (h : At w g #[.int .i64 1, .int .i64 4] 3) : IR w (.slice (some ⟨g, 0, none⟩) 2 2) [1, 4] :=
  ⟨_, 2, g, 0, rfl, fun _ => rfl, fun j a hj => by
    match j, hj with
    | 0, hj => injection hj with e; subst e; exact h.cell 0
    | 1, hj => injection hj with e; subst e; exact h.cell 1⟩
theorem refs2_any (w : World) (g : Nat) (h : At w g #[.int .i64 1, .int .i64 4] 3) : Calls Tryz.prog 20 #[.slice (some ⟨g, 0, none⟩) 2 2] w (ClPost w r14) := by
  have := refs_any _ [1, 4] w (con_at h) (fun a ha => by simp at ha; omega) (by simp)
  rwa [refs14] at this
set_option maxRecDepth 100000 in
set_option maxHeartbeats 16000000 in
theorem awake_any (w : World) (hK : KAt w) : Calls Tryz.prog 8 #[] w fun e w' => e = .returned (.bool true) ∧ Ext w w' := by
  have HK := Lib.hid hK
  have FR := Lib.hid (fresh_any 1048576 w hK (by omega) (by omega))
  clear hK
  unfold V.ptr at FR
  go_enter Tryz.func8, Tryz.ntmps8
  go_wp2_with fail
  refine (FR.out).mono ?_
  rintro e w1 ⟨sb, ab, rfl, fr⟩
  obtain ⟨d, lv⟩ := Lv.fresh fr
  have L1 := Lib.hid lv
  have CO := Lib.hid (copies_any w1)
  clear fr lv FR
  go_wp2_with fail
  refine (CO.out).mono ?_
  rintro e w2 ⟨rfl, rfl⟩
  have L2 := Lib.hid (L1.out.ext (Ext.alloc w1 (.cells #[.string (cpT 0), .string (cpT 1), .string (cpT 2)] 9)))
  clear CO L1
  generalize w1.alloc (.cells #[.string (cpT 0), .string (cpT 1), .string (cpT 2)] 9) = w2 at *
  have L3 := Lib.hid (L2.out.ext (Ext.alloc w2 (.cells #[.int .i64 1, .int .i64 4] 3)))
  have RF := Lib.hid (refs2_any (w2.alloc (.cells #[.int .i64 1, .int .i64 4] 3)) w2.heap.size (At.new w2 _ _))
  go_wp2_with fail
  generalize w2.alloc (.cells #[.int .i64 1, .int .i64 4] 3) = w3 at *
  refine (RF.out).mono ?_
  rintro e w4 ⟨u4, l4, rfl, e4, o4, hd4⟩
  have CM := Lib.hid (L3.out.commitO (Or.inr rfl) (by omega) HK.out e4 o4 (by rw [hd4]; exact image14) (by rw [hd4]; exact byt14) (by omega))
  rw [hd4] at CM
  obtain ⟨ad4, cap4, ev4⟩ := o4.len
  obtain ⟨N4, hN4⟩ : ∃ n, n = l4.length := ⟨_, rfl⟩
  rw [← hN4] at ev4
  clear RF L3 e4 o4 hd4 hN4 L2
  subst ev4
  unfold V.ptr at CM
  go_wp2_with fail
  refine (CM.out).mono ?_
  rintro e w5 ⟨rfl, lv⟩
  have L5 := Lib.hid lv
  have C5 := Lib.hid (copies_any w5)
  clear lv CM
  go_wp2_with fail
  refine (C5.out).mono ?_
  rintro e w6 ⟨rfl, rfl⟩
  have c6 := (At.new w5 #[.string (cpT 0), .string (cpT 1), .string (cpT 2)] 9).cell 1
  have L6 := L5.out.ext (Ext.alloc w5 (.cells #[.string (cpT 0), .string (cpT 1), .string (cpT 2)] 9))
  obtain ⟨g6, hg6⟩ : ∃ g, g = w5.heap.size := ⟨_, rfl⟩
  rw [← hg6] at c6 ⊢
  clear C5 hg6
  generalize w5.alloc (.cells #[.string (cpT 0), .string (cpT 1), .string (cpT 2)] 9) = w6 at *
  have PL := page_len 1 image14
  have PBY := pageI_byt 1 byt14
  have RT := Lib.hid (L6.rot 1 0 (by omega) (by omega) 1 (by omega) PL.1)
  have BO := Lib.hid (show (badL (V.upd (fun _ => pageI 1 r14) 1 (V.rotB (pageI 1 r14) 0 1)) (pageI 1 r14) 3).length = 1 by rw [bad_one PBY PL.1]; rfl)
  have BN := Lib.hid (show (badL (fun _ => pageI 1 r14) (pageI 1 r14) 3).length = 0 by rw [bad_none]; rfl)
  unfold V.ptr at RT
  clear L6 L5 PL PBY
  go_wp2_with fail
  refine (RT.out).mono ?_
  rintro e w7 ⟨rfl, lv⟩
  have SC := Lib.hid (lv.scrub (by omega) HK.out image14 byt14 (by omega))
  rw [BO.out] at SC
  unfold V.ptr at SC
  clear lv RT c6 BO
  go_wp2_with fail
  refine (SC.out).mono ?_
  rintro e w8 ⟨rfl, lv⟩
  have S2 := Lib.hid (lv.scrub (by omega) HK.out image14 byt14 (by omega))
  rw [BN.out] at S2
  unfold V.ptr at S2
  clear lv SC BN
  go_wp2_with fail
  refine (S2.out).mono ?_
  rintro e w9 ⟨rfl, lv⟩
  have L9 := Lib.hid lv
  clear lv S2
  have LA := Lib.hid (L9.out.ext (Ext.alloc w9 (.cells #[.int .i64 1, .int .i64 4] 3)))
  have RF := Lib.hid (refs2_any (w9.alloc (.cells #[.int .i64 1, .int .i64 4] 3)) w9.heap.size (At.new w9 _ _))
  clear L9
  go_wp2_with fail
  generalize w9.alloc (.cells #[.int .i64 1, .int .i64 4] 3) = w10 at *
  refine (RF.out).mono ?_
  rintro e w11 ⟨u11, l11, rfl, e11, o11, hd11⟩
  have LB := Lib.hid (LA.out.ext e11)
  have SH := Lib.hid (LB.out.shows image14 (o11.rr (X := fun _ => False) fun i h => h.elim) hd11)
  obtain ⟨ad, cap, ev⟩ := o11.len
  obtain ⟨N11, hN11⟩ : ∃ n, n = l11.length := ⟨_, rfl⟩
  rw [← hN11] at ev
  clear RF LA e11 o11 hd11 hN11
  subst ev
  unfold V.ptr at SH
  go_wp2_with fail
  refine (SH.out).mono ?_
  rintro e w12 ⟨rfl, e12⟩
  have F := Lib.hid (LB.out.e.trans e12)
  clear SH LB e12
  go_wp2
  go_ret
  exact ⟨rfl, F.out⟩
end Go.Proofs.YtnhokjnmpdiokaaGreatDoor
