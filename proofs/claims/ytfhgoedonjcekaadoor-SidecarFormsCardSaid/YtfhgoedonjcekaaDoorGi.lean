/- The contract of Decode (the code's). -/
import Derived.Test.YtfhgoedonjcekaaDoorGh
import Derived.Test.YtfhgoedonjcekaaDoorGc
namespace Go.Proofs.YtfhgoedonjcekaaDoor
open Go.RowKit Go.Sha
set_option linter.unusedSimpArgs false
set_option linter.unusedVariables false

/-- A sidecar, read. -/
def decL (b : List Int) : Option Sd :=
  match unsL b with
  | none => none
  | some m =>
    match rSide m with
    | none => none
    | some (s, l, _) => if l.length = 0 then some s else none
theorem uns_byt {b m : List Int} (hb : Byt b) (h : unsL b = some m) : Byt m := by
  unfold unsL at h
  split at h
  · cases h
  · split at h
    · injection h with h
      subst h
      exact hb.take _
    · cases h
theorem uns_len {b m : List Int} (h : unsL b = some m) : m.length ≤ b.length := by
  unfold unsL at h
  split at h
  · cases h
  · split at h
    · injection h with h
      subst h
      rw [List.length_take]
      omega
    · cases h
/-- What Decode answers. -/
def DcPost (w : World) (o : Option Sd) (e : Ending) (w' : World) : Prop := (∀ s, o = some s → MPost w s 0 e w') ∧ (o = none → MPost w noneL 2 e w')

set_option maxHeartbeats 4000000 in
set_option maxRecDepth 100000 in
theorem decode_any (v : Value) (b : List Int) (w : World) (hK : KAt w) (hs : Src w v b w.heap.size) (hb : Byt b) (hl : b.length ≤ 100000000) :
    Calls Tryd.prog 16 #[v] w (DcPost w (decL b)) := by
  have hU := fun m (h : unsL b = some m) => uns_byt hb h
  have hUl := fun m (h : unsL b = some m) => uns_len h
  obtain ⟨O, hO⟩ : ∃ o, unsL b = o := ⟨_, rfl⟩
  obtain ⟨D, hD⟩ : ∃ o, decL b = o := ⟨_, rfl⟩
  have zone := zSide_one
  have szz : (Tryd.prog.info? 26).map (·.size) = some zSide.size := szSide
  have e0 : Ext w (w.alloc (.cells zSide 26)) := Ext.alloc w _
  have a0 := At.new w zSide 26
  have UN := unseal_any v b _ (hK.below e0 hK.lt) (hs.now e0) hl
  rw [hO] at UN
  rw [hD]
  unfold decL at hD
  rw [hO] at hD
  have HU := Lib.hid hU
  have HUl := Lib.hid hUl
  have HO := Lib.hid hO
  have HD := Lib.hid hD
  unfold zSide at zone szz e0 a0 UN
  obtain ⟨ad, cap, ev⟩ := hs.len
  subst ev
  obtain ⟨n, hn⟩ : ∃ n, n = b.length := ⟨_, rfl⟩
  rw [← hn] at UN ⊢
  clear hU hUl hO hD hs hn hb
  go_enter Tryd.func16, Tryd.ntmps16
  go_wp2_with fail
  refine UN.mono ?_
  rintro e w1 ⟨v1, n1, rfl, e1, q1, p1⟩
  have a1 := at_ext a0 e1
  have e01 := e0.trans e1
  clear UN a0 e0 e1
  cases O with
  | none =>
    obtain ⟨rfl, rfl⟩ := p1 rfl
    have DN : Hid (D = none) := Lib.hid HD.out.symm
    clear q1 p1 HD
    go_wp2_with (refine wpList_store_row rfl 26 _ _ rfl w.heap.size _ rfl rfl 26 _ a1 szz rfl zone ?_)
    refine bodyPost_ret (results_row_tmp rfl _ _ w.heap.size 26 _ rfl (a1.row _) Tryd.underlying26 rfl szz) rfl ?_
    exact ⟨fun s h => by rw [DN.out] at h; simp at h, fun _ => ⟨_, _, _, rfl, ext_only' e01 (Only.setRow _ _ _) (Nat.le_refl _), none_sr _⟩⟩
  | some m =>
    obtain ⟨rfl, s1⟩ := q1 m rfl
    have hbm := HU.out m HO.out
    have hml := HUl.out m HO.out
    simp only at HD
    clear q1 p1 HU HUl HO
    have sz1 : w.heap.size < w1.heap.size := a1.lt
    go_wp2_with fail
    refine (newr_any v1 m _ w1 s1 (by omega)).mono ?_
    rintro e w2 ⟨g, rfl, e2, r2, hg⟩
    have a2 := at_ext a1 e2
    have e02 := e01.trans e2
    have sz2 := Nat.lt_of_lt_of_le sz1 e2.size
    clear a1 e01 s1 e2
    have hg2 : w.heap.size < g := by omega
    go_wp2_with fail
    refine (readSide_any g m w2 (hK.below e02 hK.lt) (by omega) r2 hbm).mono ?_
    rintro e w3 ⟨s', vr, vl, vp, ok, rfl, o3, R3, q3, p3⟩
    have a3 := o3.at a2 (by omega)
    have e03 := ext_only' e02 o3 (by omega)
    clear a2 e02 r2 o3
    obtain ⟨adr, capr, ev⟩ := R3.sr.r.len
    subst ev
    obtain ⟨adl, capl, ev⟩ := R3.sr.l.len
    subst ev
    obtain ⟨adp, capp, ev⟩ := R3.sr.p.len
    subst ev
    obtain ⟨z, bb, k, rt, ls, ps⟩ := s'
    simp only at R3 q3 ⊢
    obtain ⟨nr, hnr⟩ : ∃ n, n = rt.length := ⟨_, rfl⟩
    obtain ⟨nl, hnl⟩ : ∃ n, n = ls.length := ⟨_, rfl⟩
    obtain ⟨np, hnp⟩ : ∃ n, n = ps.length := ⟨_, rfl⟩
    rw [← hnr, ← hnl, ← hnp] at R3 ⊢
    clear hnr hnl hnp
    obtain ⟨OO, hOO⟩ : ∃ o, rSide m = o := ⟨_, rfl⟩
    rw [hOO] at q3 p3 HD
    clear hOO
    have e4 : Ext w3 (w3.alloc (.cells #[.int .i64 z, .int .i64 bb, .int .i64 k, .slice adr nr capr, .slice adl nl capl, .slice adp np capp] 26)) := Ext.alloc w3 _
    have a4 := At.new w3 #[.int .i64 z, .int .i64 bb, .int .i64 k, .slice adr nr capr, .slice adl nl capl, .slice adp np capp] 26
    have R4 := R3.ext e4
    replace a3 := at_ext a3 e4
    have e04 := e03.trans e4
    cases OO with
    | none =>
      obtain rfl := p3 rfl
      have DN : Hid (D = none) := Lib.hid HD.out.symm
      clear q3 p3 HD R3 R4 e03 e4 a4
      go_wp2_with (refine wpList_store_row rfl 26 _ _ rfl w.heap.size _ rfl rfl 26 _ a3 szz rfl zone ?_)
      refine bodyPost_ret (results_row_tmp rfl _ _ w.heap.size 26 _ rfl (a3.row _) Tryd.underlying26 rfl szz) rfl ?_
      exact ⟨fun s h => by rw [DN.out] at h; simp at h, fun _ => ⟨_, _, _, rfl, ext_only' e04 (Only.setRow _ _ _) (Nat.le_refl _), none_sr _⟩⟩
    | some t =>
      obtain ⟨s, l5, e5⟩ := t
      obtain ⟨rfl, hsq, r3⟩ := q3 s l5 e5 rfl
      subst hsq
      have r4 := r3.below e4
      simp only at HD
      clear q3 p3 R3 e03 r3
      go_wp2_with fail
      refine (left_any g l5 e5 _ r4).mono ?_
      rintro e w5 ⟨rfl, rfl⟩
      obtain ⟨L5, hL5⟩ : ∃ n, n = l5.length := ⟨_, rfl⟩
      rw [← hL5] at HD ⊢
      clear hL5 r4
      generalize w3.alloc (.cells #[.int .i64 z, .int .i64 bb, .int .i64 k, .slice adr nr capr, .slice adl nl capl, .slice adp np capp] 26) = w4 at *
      have hw2 : w.heap.size < w2.heap.size := by omega
      by_cases h0 : L5 = 0
      · subst h0
        rw [if_pos rfl] at HD
        have one : (#[.int .i64 z, .int .i64 bb, .int .i64 k, .slice adr nr capr, .slice adl nl capl, .slice adp np capp] : Array Value).all (·.oneCell') = true := by simp [Value.oneCell']
        have o5 := Only.setRow w.heap.size w4 #[.int .i64 z, .int .i64 bb, .int .i64 k, .slice adr nr capr, .slice adl nl capl, .slice adp np capp]
        have F5 := R4.only o5 hw2
        have e5 := ext_only' e04 o5 (Nat.le_refl _)
        have a5 := a3.row #[.int .i64 z, .int .i64 bb, .int .i64 k, .slice adr nr capr, .slice adl nl capl, .slice adp np capp]
        have Hf := Lib.hid (And.intro e5 (And.intro F5.sr a5))
        have HDD : Hid (D = some ⟨z, bb, k, rt, ls, ps⟩) := Lib.hid HD.out.symm
        clear R4 e04 o5 F5 e5 a5 HD hw2
        go_wp2_with (first | (refine wpList_load_row rfl 26 _ rfl w3.heap.size rfl 26 _ (0, 0) _ a4 Tryd.underlying26 rfl szSide ?_) | (refine wpList_store_row rfl 26 _ _ rfl w.heap.size _ rfl rfl 26 _ a3 szSide rfl one ?_))
        refine bodyPost_ret (results_row_tmp rfl _ _ w.heap.size 26 _ rfl Hf.out.2.2 Tryd.underlying26 rfl szSide) rfl ?_
        exact ⟨fun s h => by rw [HDD.out] at h; injection h with h; subst h; exact ⟨_, _, _, rfl, Hf.out.1, Hf.out.2.1⟩, fun h => by rw [HDD.out] at h; simp at h⟩
      · rw [if_neg h0] at HD
        have DN : Hid (D = none) := Lib.hid HD.out.symm
        have d0 : decide ((0 : Int) < (L5 : Int)) = true := by simp; omega
        have d1 : decide (0 < L5) = true := by simp; omega
        clear R4 HD a4 h0
        go_wp2_with (refine wpList_store_row rfl 26 _ _ rfl w.heap.size _ rfl rfl 26 _ a3 szz rfl zone ?_)
        refine bodyPost_ret (results_row_tmp rfl _ _ w.heap.size 26 _ rfl (a3.row _) Tryd.underlying26 rfl szz) rfl ?_
        exact ⟨fun s h => by rw [DN.out] at h; simp at h, fun _ => ⟨_, _, _, rfl, ext_only' e04 (Only.setRow _ _ _) (Nat.le_refl _), none_sr _⟩⟩
end Go.Proofs.YtfhgoedonjcekaaDoor
