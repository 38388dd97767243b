/- Acts on names, one behind the other: what they leave. No conditions but those named: definitions and lemmas. Contract of apply: acts one behind the other. SyncDir and held, whatever acts are not safe. held, whatever acts are not safe: the names as they were behind some of them. -/
import Derived.Test.YtbneedmfpldpfaaGreatDoorGjM
import Derived.Test.YtbneedmfpldpfaaGreatDoorGhM
import Derived.Test.YtbneedmfpldpfaaGreatDoorUaM
import Derived.Test.YtbneedmfpldpfaaGreatDoorShM
set_option linter.unusedSimpArgs false
set_option linter.unusedVariables false
namespace Go.Proofs.YtbneedmfpldpfaaGreatDoor
open Go.RowKit Go.Pth

/-- What an act makes of names. -/
def actN (l : List Nm) (a : Ac) : List Nm := if a.frm = [] then insN l a.too (a.made.getD 0) else if a.too = [] then rest l a.frm else mvN l a.frm a.too
/-- An act that may be done. -/
inductive Legal (l : List Nm) : Ac → Prop
  | made (p : B) (n : Nat) (hp : valid p = true) (hn : look l p = none) (hup : parent p = [] ∨ ∃ y ∈ l, y.1 = parent p) : Legal l ⟨[], p, some n⟩
  | gone (f : B) (hf : valid f = true) (hr : 0 < (rung l f).length) : Legal l ⟨f, [], none⟩
  | moved (f t : B) (hf : valid f = true) (ht : valid t = true) (hr : 0 < (rung l f).length) (htf : runF f (t, 0) = false) (hn : ∀ x ∈ l, x.1 ≠ t) (hup : parent t = [] ∨ ∃ y ∈ l, y.1 = parent t) (hok : ∀ m ∈ mvd (rung l f) f t, valid m.1 = true) : Legal l ⟨f, t, none⟩
def foldN (l : List Nm) (A : List Ac) : List Nm := A.foldl actN l
def LegalAll : List Nm → List Ac → Prop
  | _, [] => True
  | l, a :: r => Legal l a ∧ LegalAll (actN l a) r
theorem actN_made (l : List Nm) (p : B) (n : Nat) : actN l ⟨[], p, some n⟩ = insN l p n := rfl
theorem actN_gone (l : List Nm) {f : B} (hf : valid f = true) : actN l ⟨f, [], none⟩ = rest l f := by
  unfold actN
  rw [if_neg (valid_ne hf), if_pos rfl]
theorem actN_moved (l : List Nm) {f t : B} (hf : valid f = true) (ht : valid t = true) : actN l ⟨f, t, none⟩ = mvN l f t := by
  unfold actN
  rw [if_neg (valid_ne hf), if_neg (valid_ne ht)]
theorem Legal.tree {l : List Nm} {a : Ac} (h : Legal l a) (ht : Tree l) : Tree (actN l a) := by
  cases h with
  | made p n hp hn hup => rw [actN_made]; exact ht.made hp hn hup
  | gone f hf hr => rw [actN_gone l hf]; exact ht.gone hf
  | moved f t hf hv hr htf hn hup hok =>
    rw [actN_moved l hf hv]
    obtain ⟨m0, M', hM⟩ := head_cons (l := mvd (rung l f) f t) (by rw [mvd_len]; exact hr)
    unfold mvN
    rw [mvAt_cons hM]
    exact ht.moved hf hv hok hn htf hup m0 M' hM
theorem Legal.len {l : List Nm} {a : Ac} (h : Legal l a) : (actN l a).length ≤ l.length + 1 := by
  cases h with
  | made p n hp hn hup => rw [actN_made, insN_len]; omega
  | gone f hf hr =>
    rw [actN_gone l hf]
    have := (rest_sub l f).length_le
    omega
  | moved f t hf hv hr htf hn hup hok =>
    rw [actN_moved l hf hv]
    unfold mvN
    rw [mvl_len]
    omega
/-- Each name behind an act stands for something that stood there, or for what was made. -/
theorem Legal.ids {l : List Nm} {a : Ac} (h : Legal l a) {x : Nm} (hx : x ∈ actN l a) : (∃ y ∈ l, y.2 = x.2) ∨ a.made = some x.2 := by
  cases h with
  | made p n hp hn hup =>
    rw [actN_made] at hx
    rcases insN_mem hx with hx | hx
    · exact Or.inl ⟨x, hx, rfl⟩
    · right; rw [hx]
  | gone f hf hr =>
    rw [actN_gone l hf] at hx
    exact Or.inl ⟨x, (rest_sub l f).subset hx, rfl⟩
  | moved f t hf hv hr htf hn hup hok =>
    rw [actN_moved l hf hv] at hx
    exact Or.inl (mvN_ids hx)
theorem legal_take : ∀ (A : List Ac) (l : List Nm) (k : Nat), LegalAll l A → LegalAll l (A.take k)
  | [], _, _, _ => by simp [LegalAll]
  | a :: r, l, 0, _ => trivial
  | a :: r, l, k + 1, h => ⟨h.1, legal_take r _ k h.2⟩
theorem fold_tree : ∀ (A : List Ac) (l : List Nm), LegalAll l A → Tree l → Tree (foldN l A)
  | [], _, _, h => h
  | a :: r, l, h, ht => fold_tree r _ h.2 (h.1.tree ht)
theorem fold_len : ∀ (A : List Ac) (l : List Nm), LegalAll l A → (foldN l A).length ≤ l.length + A.length
  | [], _, _ => by simp [foldN]
  | a :: r, l, h => by
    have h1 := fold_len r _ h.2
    have h2 := h.1.len
    unfold foldN at h1 ⊢
    simp only [List.foldl_cons, List.length_cons]
    omega
theorem fold_ids : ∀ (A : List Ac) (l : List Nm) (ids : List Nat), LegalAll l A → (∀ x ∈ l, x.2 ∈ ids) → (∀ a ∈ A, ∀ n, a.made = some n → n ∈ ids) → ∀ x ∈ foldN l A, x.2 ∈ ids
  | [], _, _, _, h, _ => h
  | a :: r, l, ids, h, hl, hA => fun x hx => by
    refine fold_ids r (actN l a) ids h.2 (fun y hy => ?_) (fun b hb => hA b (List.mem_cons_of_mem _ hb)) x hx
    rcases h.1.ids hy with ⟨z, hz, e⟩ | e
    · rw [← e]; exact hl z hz
    · exact hA a (by simp) _ e
theorem legal_at : ∀ (A : List Ac) (l : List Nm) (k : Nat) (a : Ac), LegalAll l A → A[k]? = some a → Legal (foldN l (A.take k)) a
  | [], _, _, _, _, h => by simp at h
  | b :: r, l, 0, a, h, e => by simp at e; subst e; exact h.1
  | b :: r, l, k + 1, a, h, e => legal_at r (actN l b) k a h.2 (by simpa using e)
theorem fold_step (A : List Ac) (l : List Nm) (k : Nat) (a : Ac) (e : A[k]? = some a) : foldN l (A.take (k + 1)) = actN (foldN l (A.take k)) a := by
  unfold foldN
  rw [List.take_add_one, e]
  simp
theorem legal_snoc : ∀ (A : List Ac) (l : List Nm) (a : Ac), LegalAll l A → Legal (foldN l A) a → LegalAll l (A ++ [a])
  | [], _, _, _, h => ⟨h, trivial⟩
  | b :: r, l, a, h, k => ⟨h.1, legal_snoc r (actN l b) a h.2 k⟩
theorem fold_snoc (A : List Ac) (l : List Nm) (a : Ac) : foldN l (A ++ [a]) = actN (foldN l A) a := by simp [foldN]
theorem MayMv.legal {S : SV} {f t : B} (h : MayMv S f t) (ht : Tree S.names) : Legal S.names ⟨f, t, none⟩ :=
  .moved f t h.1 h.2.1 h.2.2.1 (by unfold runF; exact h.2.2.2.1) (look_none ht.srt (takes_none h.2.2.2.2.1)) (takes_up h.2.2.2.2.1) (mvOk_all h.2.2.2.2.2)
end Go.Proofs.YtbneedmfpldpfaaGreatDoor

set_option linter.unusedSimpArgs false
set_option linter.unusedVariables false
namespace Go.Proofs.YtbneedmfpldpfaaGreatDoor
open Go.RowKit Go.Pth

def OwnOr (w : World) (v0 v : Value) : Prop := v.ownBlock = v0.ownBlock ∨ ∃ g, v.ownBlock = some g ∧ w.heap.size ≤ g
/-- The tree while acts are done. -/
structure ApSt (w : World) (c j : Nat) (cs : Array Value) (tc : TypeId) (v0 : Value) (l : List Nm) (v : Value) (wr : World) : Prop where
  at_ : At wr c (cs.setIfInBounds j v) tc
  row : Row wr 78 2 v l.length (ents l)
  own : OwnOr w v0 v
  chg : Chg (fun i => i = c ∨ v0.ownBlock = some i) w wr
def InvAp (w : World) (c j : Nat) (cs : Array Value) (tc : TypeId) (v0 : Value) (l : List Nm) (A : List Ac) (i : Value) (wr : World) : Prop :=
  ∃ (k : Nat) (v : Value), k ≤ A.length ∧ i = .int .i64 k ∧ ApSt w c j cs tc v0 (foldN l (A.take k)) v wr
theorem ApSt.apart {w : World} {c j : Nat} {cs : Array Value} {tc : TypeId} {v0 v : Value} {l : List Nm} {wr : World} (h : ApSt w c j cs tc v0 l v wr) (h0 : v0.ownBlock ≠ some c) (hc : c < w.heap.size) : v.ownBlock ≠ some c := by
  rcases h.own with e | ⟨g, e, hg⟩
  · rw [e]; exact h0
  · rw [e]; intro q; injection q with q; omega
theorem ApSt.ext {w : World} {c j : Nat} {cs : Array Value} {tc : TypeId} {v0 v : Value} {l : List Nm} {wr w' : World} (h : ApSt w c j cs tc v0 l v wr) (he : Ext wr w') : ApSt w c j cs tc v0 l v w' :=
  ⟨h.at_.ext he, h.row.ext he, h.own, h.chg.trans (Chg.of_ext he) fun _ _ q => q⟩
/-- A step. -/
theorem ApSt.step {w : World} {c j n : Nat} {cs : Array Value} {tc : TypeId} {v0 v : Value} {l m : List Nm} {wr w' : World} {e : Ending} (h : ApSt w c j cs tc v0 l v wr) (h0 : v0.ownBlock ≠ some c) (hc : c < w.heap.size)
    (hn : n = m.length) (hm : MovePost wr c j n v (ents m) e w') : ∃ v', ApSt w c j cs tc v0 m v' w' := by
  subst hn
  obtain ⟨_, v', w1, row, g, rfl⟩ := hm
  have ap := h.apart h0 hc
  have a1 : At w1 c (cs.setIfInBounds j v) tc := g.chg.at h.at_ ap
  have hown : v'.ownBlock ≠ some c := by
    rcases g.own with e | ⟨q, e, hq⟩
    · rw [e]; exact ap
    · rw [e]
      intro x
      injection x with x
      have := h.at_.lt
      omega
  refine ⟨v', ?_, row.chg (Chg.setCell w1 c j v') (fun q hq e => hown (by rw [hq, e])), ?_, ?_⟩
  · have := a1.set j v'
    rw [Array.setIfInBounds_setIfInBounds] at this
    exact this
  · rcases g.own with e | ⟨q, e, hq⟩
    · rcases h.own with e2 | ⟨q, e2, hq⟩
      · exact Or.inl (e.trans e2)
      · exact Or.inr ⟨q, e.trans e2, hq⟩
    · exact Or.inr ⟨q, e, Nat.le_trans h.chg.size hq⟩
  · refine (h.chg.trans (g.chg.mono fun i hi hv => (?_ : i = c ∨ v.ownBlock = some i)) ?_).trans (Chg.setCell w1 c j v') fun i _ e => Or.inl e
    · exact Or.inr hv
    · intro i hi hv
      rcases hv with e | hv
      · exact Or.inl e
      · rcases h.own with e2 | ⟨q, e2, hq⟩
        · exact Or.inr (e2 ▸ hv)
        · rw [e2] at hv
          injection hv with hv
          omega
theorem put_one (c j : Nat) (cs : Array Value) (tc : TypeId) (v : Value) (l : List Nm) (p : B) (a : Nat) (w : World) (hc : At w c cs tc) (hj : cs[j]? = some v) (h : Row w 78 2 v l.length (ents l)) (hoc : v.ownBlock ≠ some c) (hs : Srt l) (hl : l.length ≤ 1000000) :
    Calls Tryz.prog 57 #[.pointer (some ⟨c, j, none⟩), .slice (some ⟨w.heap.size + 1, 0, none⟩) 1 1] ((w.alloc (.cells #[.string ⟨#[]⟩, .string (tx p), ptr a] 95)).alloc (.cells #[.string (tx p), ptr a] 78)) (MovePost w c j (insN l p a).length v (ents (insN l p a))) := by
  obtain ⟨W1, hW1⟩ : ∃ W1, W1 = w.alloc (.cells #[.string ⟨#[]⟩, .string (tx p), ptr a] 95) := ⟨_, rfl⟩
  obtain ⟨W2, hW2⟩ : ∃ W2, W2 = W1.alloc (.cells #[.string (tx p), ptr a] 78) := ⟨_, rfl⟩
  rw [← hW1, ← hW2]
  have e1 : Ext w W1 := by rw [hW1]; exact Ext.alloc _ _
  have e2 : Ext W1 W2 := by rw [hW2]; exact Ext.alloc _ _
  have s1 : W1.heap.size = w.heap.size + 1 := by rw [hW1]; exact size_alloc _ _
  have hat : At W2 (w.heap.size + 1) #[.string (tx p), ptr a] 78 := by rw [hW2, ← s1]; exact At.new _ _ _
  have rw1 : Row W2 78 2 (.slice (some ⟨w.heap.size + 1, 0, none⟩) [(p, a)].length 1) [(p, a)].length (ents [(p, a)]) :=
    ⟨by simp [ents_len], .inr ⟨w.heap.size + 1, 1, _, rfl, Nat.zero_le _, hat, by simp, by simp [maxLen], rfl, rfl⟩⟩
  have ee := e1.trans e2
  have PU := put_gen c j (place l p) (l.length + 1) (ents (insN l p a)) cs tc v _ l [(p, a)] W2 (hc.ext ee) hj (h.ext ee) hoc (Row.trr rw1) (by simp) hs hl (by simp) (fun w' e' => insert_any v (place l p) (w.heap.size + 1) 1 l [(p, a)] w' ((h.ext ee).ext e') (rw1.ext e') (fun hb => by have := h.lt _ hb; omega) (place_le l p) (by simp) hl (by simp))
  refine PU.mono fun e w' ⟨h1, v', w1, h2, g, h3⟩ => ⟨h1, v', w1, by rw [insN_len]; exact h2, ⟨(Chg.of_ext ee).trans g.chg fun _ _ x => x, by rcases g.own with e | ⟨q, e1, e2⟩; exact Or.inl e; exact Or.inr ⟨q, e1, Nat.le_trans ee.size e2⟩⟩, h3⟩
theorem take_one (c j g cap : Nat) (cs : Array Value) (tc : TypeId) (l : List Nm) (f : ByteArray) (w : World) (hc : At w c cs tc) (hj : cs[j]? = some (.slice (some ⟨g, 0, none⟩) l.length cap)) (h : Row w 78 2 (.slice (some ⟨g, 0, none⟩) l.length cap) l.length (ents l)) (hgc : ¬ c = g) (hs : Srt l) (hl : l.length ≤ 1000000) (hR : 0 < (rung l f.toList).length) :
    Calls Tryz.prog 58 #[.pointer (some ⟨c, j, none⟩), .string f] (w.alloc (.cells #[.string f, .string ⟨#[]⟩, .pointer none] 95)) fun e w' => ∃ v, e = .returned v ∧ MovePost w c j (rest l f.toList).length (.slice (some ⟨g, 0, none⟩) l.length cap) (ents (rest l f.toList)) (.returned (.tuple #[])) w' := by
  have e1 : Ext w (w.alloc (.cells #[.string f, .string ⟨#[]⟩, .pointer none] 95)) := Ext.alloc _ _
  have TK := take_all c j g cap cs tc l f _ (hc.ext e1) hj (h.ext e1) hgc hs hl hR
  rw [← rest_len] at TK
  exact TK.mono fun e w' ⟨vr, w1, h1, h2, h3, h4, h5, h6⟩ => ⟨vr, h1, rfl, _, w1, h4, ⟨(Chg.of_ext e1).trans (h5.mono fun i _ e => by rw [e]; rfl) fun _ _ x => x, Or.inl rfl⟩, h6⟩
def ApPost (w : World) (c j : Nat) (cs : Array Value) (tc : TypeId) (v0 : Value) (m : List Nm) (e : Ending) (w' : World) : Prop := e = .returned (.tuple #[]) ∧ ∃ v, ApSt w c j cs tc v0 m v w'
def actAt (w : World) (ab ao : Nat) (A : List Ac) : Prop := ∀ k a, A[k]? = some a → w.cell? ⟨ab, ao + k * 3, none⟩ = some (.string (tx a.frm)) ∧ w.cell? ⟨ab, ao + k * 3 + 1, none⟩ = some (.string (tx a.too)) ∧ w.cell? ⟨ab, ao + k * 3 + 2, none⟩ = some (optr a.made)

set_option maxRecDepth 100000 in
set_option maxHeartbeats 16000000 in
theorem apply_all (c j : Nat) (cs : Array Value) (tc : TypeId) (v0 : Value) (l : List Nm) (A : List Ac) (ad : Option Addr) (ab ao acap : Nat) (w : World) (hc : At w c cs tc) (hj : cs[j]? = some v0) (h : Row w 78 2 v0 l.length (ents l)) (h0 : v0.ownBlock ≠ some c)
    (hT : Tree l) (hL : LegalAll l A) (hl : l.length ≤ 100000) (hA : A.length ≤ 100000) (had : 0 < A.length → ad = some ⟨ab, ao, none⟩) (hac : actAt w ab ao A) (hab : ¬ ab = c) (hav : v0.ownBlock ≠ some ab) :
    Calls Tryz.prog 26 #[.pointer (some ⟨c, j, none⟩), .slice ad A.length acap] w (ApPost w c j cs tc v0 (foldN l A)) := by
  have hjs : j < cs.size := (Array.getElem?_eq_some_iff.1 hj).1
  have st0 : ApSt w c j cs tc v0 (foldN l (A.take 0)) v0 w := ⟨by
    have : cs.setIfInBounds j v0 = cs := by
      apply Array.ext_getElem?
      intro i
      rw [Array.getElem?_setIfInBounds]
      split
      · rename_i e
        subst e
        first | exact hj.symm | (rw [if_pos hjs]; exact hj.symm)
      · rfl
    rw [this]; exact hc, h, Or.inl rfl, Chg.refl _ w⟩
  have S0 := Lib.hid st0
  have clt := hc.lt
  obtain ⟨N, hN⟩ : ∃ N, N = A.length := ⟨_, rfl⟩
  rw [← hN] at hA had ⊢
  have HN := Lib.hid hN
  have H0 := Lib.hid (And.intro h0 clt)
  have HT := Lib.hid hT
  have HL := Lib.hid hL
  have HAD := Lib.hid had
  have HAC := Lib.hid hac
  have HAB := Lib.hid (And.intro hab hav)
  have HJ := Lib.hid hjs
  have hlt3 : ∀ k, k ≤ N → (foldN l (A.take k)).length ≤ 200000 := fun k hk => by
    have := fold_len (A.take k) l (legal_take A l k hL)
    rw [List.length_take] at this
    omega
  have HLT := Lib.hid hlt3
  clear hN st0 hc hj h h0 hT hL had hac hab hav hl hjs hlt3 clt
  go_enter Tryz.func26, Tryz.ntmps26
  go_wp2
  go_loopw [8] (fun s8 wr => InvAp w c j cs tc v0 l A s8 wr) (fun s8 _ => N - (intOf s8).toNat)
  case atStart => exact ⟨0, v0, by omega, rfl, S0.out⟩
  case round =>
    clear S0
    obtain ⟨k, v, hk, rfl, st⟩ := hrel
    rw [← HN.out] at hk
    by_cases hlt : k < N
    · have i0 : (k : Int) < (N : Int) := by omega
      have i1 : (0 : Int) ≤ (k : Int) := by omega
      have ea := HAD.out (by omega)
      subst ea
      obtain ⟨a, ha⟩ : ∃ a, A[k]? = some a := ⟨_, List.getElem?_eq_getElem (by rw [← HN.out]; exact hlt)⟩
      have leg := legal_at A l k a HL.out ha
      have tr := fold_tree _ _ (legal_take A l k HL.out) HT.out
      have hfs := fold_step A l k a ha
      obtain ⟨c0, c1, c2⟩ := HAC.out k a ha
      have nX : ¬ (ab = c ∨ v0.ownBlock = some ab) := fun q => q.elim HAB.out.1 HAB.out.2
      have c0' := st.chg.cell c0 nX
      have c1' := st.chg.cell c1 nX
      have c2' := st.chg.cell c2 nX
      have ap := st.apart H0.out.1 H0.out.2
      have hjv : (cs.setIfInBounds j v)[j]? = some v := by rw [Array.getElem?_setIfInBounds, if_pos rfl, if_pos HJ.out]
      have hml := HLT.out k hk
      obtain ⟨m, hm⟩ : ∃ m, m = foldN l (A.take k) := ⟨_, rfl⟩
      rw [← hm] at st leg tr hfs hml
      have ST := Lib.hid st
      have HFS := Lib.hid hfs
      clear hm hfs c0 c1 c2 nX ha
      have leg0 := trivial
      cases leg with
      | made p n hp hn hup =>
        have PU := put_one c j _ tc v m p n wr st.at_ hjv st.row ap tr.srt (by omega)
        have HP := Lib.hid PU
        clear PU st leg0 tr ap hjv hml
        rw [show tx ([] : B) = ⟨#[]⟩ from rfl] at c0'
        simp only [optr] at c2'
        unfold ptr at *
        go_wp2_with fail
        refine (HP.out).mono ?_
        rintro e w' hm
        obtain ⟨v', st'⟩ := ST.out.step H0.out.1 H0.out.2 rfl hm
        obtain ⟨rfl, _⟩ := hm
        have F := Lib.hid st'
        clear st' HP c0' c1' c2'
        go_wp2
        exact ⟨⟨k + 1, v', by rw [← HN.out]; omega, by go_num, by rw [HFS.out, actN_made]; exact F.out⟩, by simp [intOf]; omega⟩
      | gone f hf hr =>
        have hle := rung_le m f
        obtain ⟨g, cap, hvv, _, _⟩ := Row.ownK st.row (by omega)
        subst hvv
        have TK := take_one c j g cap _ tc m (tx f) wr st.at_ hjv st.row (fun e => ap (by rw [e]; rfl)) tr.srt (by omega) (by rw [tx_list]; exact hr)
        rw [tx_list] at TK
        have HP := Lib.hid TK
        have hf0 : ((tx f).toList == []) = false := by rw [tx_list]; simpa using valid_ne hf
        have HV := Lib.hid hf
        clear TK st leg0 tr ap hjv hml hle hr hf
        rw [show tx ([] : B) = ⟨#[]⟩ from rfl] at c1'
        simp only [optr] at c2'
        go_wp2_with fail
        refine (HP.out).mono ?_
        rintro e w' ⟨vr, rfl, hm⟩
        obtain ⟨v', st'⟩ := ST.out.step H0.out.1 H0.out.2 rfl hm
        have F := Lib.hid st'
        clear st' hm HP c0' c1' c2' hf0
        go_wp2
        exact ⟨⟨k + 1, v', by rw [← HN.out]; omega, by go_num, by rw [HFS.out, actN_gone m HV.out]; exact F.out⟩, by simp [intOf]; omega⟩
      | moved f t hf ht hr htf hn hup hok =>
        have hle := rung_le m f
        obtain ⟨g, cap, hvv, _, _⟩ := Row.ownK st.row (by omega)
        subst hvv
        have hpre : ∀ e ∈ rung m f, (tx f).size ≤ e.1.length ∧ e.1.length ≤ 1000000 := by
          intro e he
          obtain ⟨h1, h2⟩ := (tr.rung_mem hf).1 he
          obtain ⟨z, hz⟩ := (runF_iff hf (tr.val e h1)).1 h2
          have h3 := mv_long hz
          have h4 := valid_len (tr.val e h1)
          have h5 : (tx f).toList.length = (tx f).size := by rw [ByteArray.toList_eq]; simp
          rw [tx_list] at h5
          omega
        have htl : (tx t).size ≤ 1000000 := by
          have h4 := valid_len ht
          have h5 : (tx t).toList.length = (tx t).size := by rw [ByteArray.toList_eq]; simp
          rw [tx_list] at h5
          omega
        obtain ⟨m0, M', hM⟩ := head_cons (l := mvd (rung m f) f t) (by rw [mvd_len]; exact hr)
        have hq : place (rest m f) ((mvd (rung m f) f t)[0]'(by rw [mvd_len]; exact hr)).1 = mvAt m f t := by
          rw [mvAt_cons hM]
          simp only [hM, List.getElem_cons_zero]
        obtain ⟨q, hqq⟩ : ∃ q, q = mvAt m f t := ⟨_, rfl⟩
        have HQ := Lib.hid hqq
        rw [← hqq] at hq
        obtain ⟨W1, hW1⟩ : ∃ W1, W1 = wr.alloc (.cells #[.string (tx f), .string (tx t), .pointer none] 95) := ⟨_, rfl⟩
        have e1 : Ext wr W1 := by rw [hW1]; exact Ext.alloc _ _
        have hA : At W1 wr.heap.size #[.string (tx f), .string (tx t), .pointer none] 95 := by rw [hW1]; exact At.new _ _ _
        have e2 : Ext wr W1.drew := e1.trans (Ext.drew W1)
        have SA := steps_all c j g cap q (cs.setIfInBounds j (.slice (some ⟨g, 0, none⟩) m.length cap)) tc m (tx f) (tx t) W1.drew (st.at_.ext e2) hjv (st.row.ext e2) (fun e => ap (by rw [e]; rfl)) tr.srt (by omega) (by rw [tx_list]; exact hr) (by rw [tx_list]; exact hpre) htl (by rw [tx_list]; exact tr.rest_srt f) (by simp only [tx_list]; exact hq)
        have HS := Lib.hid SA
        have hAc : ¬ wr.heap.size = c := by have := st.at_.lt; omega
        have hAg : ¬ wr.heap.size = g := by have := st.row.lt g rfl; omega
        have ME : Hid (∀ n v X e w', MovePost W1.drew c j n v X e w' → MovePost wr c j n v X e w') := fun n v X e w' => MovePost.ext e2
        have CH : Hid (∀ vr w', TakePost W1.drew c j g cap (rest m (tx f).toList).length (rest m (tx f).toList) (rung m (tx f).toList) (.returned vr) w' → ∀ q u, W1.cell? ⟨wr.heap.size, q, none⟩ = some u → w'.cell? ⟨wr.heap.size, q, none⟩ = some u) := by
          rintro vr w' ⟨vr', w1, -, -, -, -, h5, h6⟩ q u hu
          rw [h6]
          exact (Chg.setCell w1 c j _).cell (h5.cell hu hAg) hAc
        have CP : Hid (∀ n v X e w', MovePost W1.drew c j n v X e w' → (v.ownBlock = some g) → ∀ q u, W1.cell? ⟨wr.heap.size, q, none⟩ = some u → w'.cell? ⟨wr.heap.size, q, none⟩ = some u) := by
          rintro n v X e w' ⟨-, v', w1, -, gg, h6⟩ hv q u hu
          rw [h6]
          exact (Chg.setCell w1 c j _).cell (gg.chg.cell hu (fun e => by rw [hv] at e; injection e with e; exact hAg e.symm)) hAc
        have a0 : W1.cell? ⟨wr.heap.size, 0, none⟩ = some (.string (tx f)) := by rw [hA.cell]; rfl
        have a1 : W1.cell? ⟨wr.heap.size, 1, none⟩ = some (.string (tx t)) := by rw [hA.cell]; rfl
        have hf0 : ((tx f).toList == []) = false := by rw [tx_list]; simpa using valid_ne hf
        have ht0 : ((tx t).toList == []) = false := by rw [tx_list]; simpa using valid_ne ht
        have HV := Lib.hid (And.intro hf ht)
        simp only [optr] at c2'
        clear SA st leg0 tr ap hjv hml hle hr hf ht htf hn hup hok hpre htl hM hq hqq e1 hA e2
        go_upto_region 3 with fail
        clear c0' c1' c2' hf0 ht0
        refine wp_region_held (S := fun w' => w'.cell? ⟨wr.heap.size, 0, none⟩ = some (.string (tx f)) ∧ w'.cell? ⟨wr.heap.size, 1, none⟩ = some (.string (tx t))) (by kernel_rfl) ?_
        rw [← hW1]
        change wpAnyH _ _ _ _ _ _ _ _ W1.drew
        have hS : W1.drew.cell? ⟨wr.heap.size, 0, none⟩ = some (.string (tx f)) ∧ W1.drew.cell? ⟨wr.heap.size, 1, none⟩ = some (.string (tx t)) := ⟨a0, a1⟩
        clear hW1
        refine takeS 0 (some 12) (.pointer (some ⟨c, j, none⟩)) rfl rfl (by kernel_rfl) (by kernel_rfl) (by kernel_rfl) (fun _ _ _ h => h) rfl hS (fun w' hw' => by go_simp) ?_
        simp only [Act.put, List.setIfInBounds_toArray, List.set_cons_zero, List.set_cons_succ]
        refine takeS 1 (some 13) (.pointer (some ⟨c, j, none⟩)) rfl rfl (by kernel_rfl) (by kernel_rfl) (by kernel_rfl) (fun _ _ _ h => h) rfl hS (fun w' hw' => by go_simp) ?_
        simp only [Act.put, List.setIfInBounds_toArray, List.set_cons_zero, List.set_cons_succ]
        refine takeS 2 (some 14) (.pointer (some ⟨wr.heap.size, 0, none⟩)) rfl rfl (by kernel_rfl) (by kernel_rfl) (by kernel_rfl) (fun _ _ _ h => h) rfl hS (fun w' hw' => by go_simp) ?_
        simp only [Act.put, List.setIfInBounds_toArray, List.set_cons_zero, List.set_cons_succ]
        refine takeS 3 (some 15) (.string (tx f)) rfl rfl (by kernel_rfl) (by kernel_rfl) (by kernel_rfl) (fun _ _ _ h => h) rfl hS (fun w' hw' => by have := hw'.1; go_simp) ?_
        simp only [Act.put, List.setIfInBounds_toArray, List.set_cons_zero, List.set_cons_succ]
        refine takeS 5 (some 17) (.pointer (some ⟨wr.heap.size, 0, none⟩)) rfl rfl (by kernel_rfl) (by kernel_rfl) (by kernel_rfl) (fun _ _ _ h => h) rfl hS (fun w' hw' => by go_simp) ?_
        simp only [Act.put, List.setIfInBounds_toArray, List.set_cons_zero, List.set_cons_succ]
        refine takeS 6 (some 18) (.string (tx f)) rfl rfl (by kernel_rfl) (by kernel_rfl) (by kernel_rfl) (fun _ _ _ h => h) rfl hS (fun w' hw' => by have := hw'.1; go_simp) ?_
        simp only [Act.put, List.setIfInBounds_toArray, List.set_cons_zero, List.set_cons_succ]
        refine takeS 7 (some 19) (.pointer (some ⟨wr.heap.size, 1, none⟩)) rfl rfl (by kernel_rfl) (by kernel_rfl) (by kernel_rfl) (fun _ _ _ h => h) rfl hS (fun w' hw' => by go_simp) ?_
        simp only [Act.put, List.setIfInBounds_toArray, List.set_cons_zero, List.set_cons_succ]
        refine takeS 8 (some 20) (.string (tx t)) rfl rfl (by kernel_rfl) (by kernel_rfl) (by kernel_rfl) (fun _ _ _ h => h) rfl hS (fun w' hw' => by have := hw'.2; go_simp) ?_
        simp only [Act.put, List.setIfInBounds_toArray, List.set_cons_zero, List.set_cons_succ]
        refine nextS 4 rfl (by kernel_rfl) rfl ?_
        refine callS (some 16) rfl 58 #[.pointer (some ⟨c, j, none⟩), .string (tx f)] (by go_simp) (fun v w' => TakePost W1.drew c j g cap (rest m (tx f).toList).length (rest m (tx f).toList) (rung m (tx f).toList) (.returned v) w') (HS.out.take.mono fun e w' ⟨vr, w1, h1, h2⟩ => ⟨vr, h1, vr, w1, rfl, h2⟩) ?_
        rintro v5 w5 h5
        have hS5 := And.intro (CH.out _ _ h5 0 _ a0) (CH.out _ _ h5 1 _ a1)
        refine ⟨hS5, ?_⟩
        simp only [Act.put, List.setIfInBounds_toArray, List.set_cons_zero, List.set_cons_succ]
        refine nextS 9 rfl (by kernel_rfl) rfl ?_
        refine callS (some 21) rfl 59 #[v5, .string (tx f), .string (tx t)] (by go_simp) (fun v w' => MvPost w5 (mvd (rung m (tx f).toList) (tx f).toList (tx t).toList) (.returned v) w') ((HS.out.move _ _ h5).mono fun e w' ⟨vr, h1, h2⟩ => ⟨vr, h1, vr, rfl, h2⟩) ?_
        rintro v6 w6 h6
        have e56 : Ext w5 w6 := by obtain ⟨_, _, _, e, _⟩ := h6; exact e
        have hS6 := And.intro (e56.cell hS5.1) (e56.cell hS5.2)
        refine ⟨hS6, ?_⟩
        simp only [Act.put, List.setIfInBounds_toArray, List.set_cons_zero, List.set_cons_succ]
        refine nextS 10 rfl (by kernel_rfl) rfl ?_
        refine callS (some 22) rfl 57 #[.pointer (some ⟨c, j, none⟩), v6] (by go_simp) (fun v w' => v = .tuple #[] ∧ MovePost W1.drew c j m.length (.slice (some ⟨g, 0, none⟩) m.length cap) (ents (mvl m (tx f).toList (tx t).toList q)) (.returned (.tuple #[])) w') ((HS.out.put _ _ _ _ h5 h6).mono fun e w' h => ⟨_, h.1, rfl, by obtain ⟨x1, x2⟩ := h; subst x1; exact ⟨rfl, x2⟩⟩) ?_
        rintro v7 w7 ⟨rfl, h7⟩
        refine ⟨And.intro (CP.out _ _ _ _ _ h7 rfl 0 _ a0) (CP.out _ _ _ _ _ h7 rfl 1 _ a1), ?_⟩
        simp only [Act.put, List.setIfInBounds_toArray, List.set_cons_zero, List.set_cons_succ]
        refine wpAnyH_done (by kernel_rfl) ?_ _
        obtain ⟨v', st'⟩ := ST.out.step H0.out.1 H0.out.2 (mvl_len m (tx f).toList (tx t).toList q).symm (ME.out _ _ _ _ _ h7)
        have F := Lib.hid st'
        clear st' h5 h6 h7 hS hS5 hS6 e56 CH CP HS ME
        go_wp2
        refine ⟨⟨k + 1, v', by rw [← HN.out]; omega, by go_num, ?_⟩, by simp [intOf]; omega⟩
        rw [HFS.out, actN_moved m HV.out.1 HV.out.2]
        have hF := F.out
        rw [tx_list, tx_list, HQ.out] at hF
        exact hF
    · have i0 : ¬ ((k : Int) < (N : Int)) := by omega
      have d0 : decide ((k : Int) < (N : Int)) = false := by simp; omega
      obtain rfl : k = N := by omega
      rw [List.take_of_length_le (by rw [← HN.out]; exact Nat.le_refl _)] at st
      have F := Lib.hid st
      clear st hlt
      go_wp2
      go_end0
      exact ⟨rfl, v, F.out⟩
end Go.Proofs.YtbneedmfpldpfaaGreatDoor

set_option linter.unusedSimpArgs false
set_option linter.unusedVariables false
namespace Go.Proofs.YtbneedmfpldpfaaGreatDoor
open Go.RowKit Go.Pth

theorem setCell_self {w : World} {c j : Nat} {cs : Array Value} {t : TypeId} {v : Value} (h : At w c cs t) (hj : cs[j]? = some v) : w.setCell ⟨c, j, none⟩ v = w := by
  have e : (w.setCell ⟨c, j, none⟩ v).heap = w.heap := by
    apply Array.ext_getElem?
    intro i
    by_cases hi : i = c
    · subst hi
      have h2 := h.set j v
      unfold At at h h2
      rw [h2, h]
      have : cs.setIfInBounds j v = cs := by
        apply Array.ext_getElem?
        intro k
        rw [Array.getElem?_setIfInBounds]
        split
        · rename_i e
          subst e
          split
          · exact hj.symm
          · rename_i hk
            rw [Array.getElem?_eq_none (by omega)] at hj
            cases hj
        · rfl
      rw [this]
    · exact Below.heap_setCell _ _ _ _ (by simpa using hi)
  have e2 : w.setCell ⟨c, j, none⟩ v = { w with heap := (w.setCell ⟨c, j, none⟩ v).heap } := rfl
  rw [e2, e]
/-- A tree behind acts, as one move leaves it. -/
theorem ApSt.move {w : World} {c j : Nat} {cs : Array Value} {tc : TypeId} {v0 v' : Value} {m : List Nm} {w' : World} (h : ApSt w c j cs tc v0 m v' w') (hc : At w c cs tc) (hj : cs[j]? = some v0) (h0 : v0.ownBlock ≠ some c) :
    MovePost w c j m.length v0 (ents m) (.returned (.tuple #[])) w' := by
  have clt := hc.lt
  have ap := h.apart h0 clt
  have hjs : j < cs.size := (Array.getElem?_eq_some_iff.1 hj).1
  have a1 : At (w'.setCell ⟨c, j, none⟩ v0) c cs tc := by
    have := h.at_.set j v0
    rw [Array.setIfInBounds_setIfInBounds] at this
    have e : cs.setIfInBounds j v0 = cs := by
      apply Array.ext_getElem?
      intro k
      rw [Array.getElem?_setIfInBounds]
      split
      · rename_i e
        subst e
        first | exact hj.symm | (rw [if_pos hjs]; exact hj.symm)
      · rfl
    rw [e] at this
    exact this
  have sc := Chg.setCell w' c j v0
  refine ⟨rfl, v', w'.setCell ⟨c, j, none⟩ v0, h.row.chg sc (fun q hq e => ap (by rw [hq, e])), ⟨⟨h.chg.os, h.chg.tape, h.chg.output, by rw [size_setCell]; exact h.chg.size, fun i hi hn => ?_⟩, ?_⟩, ?_⟩
  · by_cases hic : i = c
    · subst hic
      unfold At at a1 hc
      rw [a1, hc]
    · have h1 : (w'.setCell ⟨c, j, none⟩ v0).heap[i]? = w'.heap[i]? := Below.heap_setCell _ _ _ _ (by simpa using hic)
      rw [h1]
      exact h.chg.block i hi fun q => q.elim hic hn
  · rcases h.own with e | e
    · exact Or.inl e
    · exact Or.inr e
  · rw [setCell_twice]
    exact (setCell_self h.at_ (by rw [Array.getElem?_setIfInBounds, if_pos rfl, if_pos hjs])).symm
theorem acells_get : ∀ (A : List Ac) (k : Nat) (a : Ac), A[k]? = some a → (acells A)[k * 3]? = some (.string (tx a.frm)) ∧ (acells A)[k * 3 + 1]? = some (.string (tx a.too)) ∧ (acells A)[k * 3 + 2]? = some (optr a.made)
  | [], k, a, h => by simp at h
  | b :: r, 0, a, h => by simp at h; subst h; simp [acells]
  | b :: r, k + 1, a, h => by
    have := acells_get r k a (by simpa using h)
    have e : ∀ q, (acells (b :: r))[q + 3]? = (acells r)[q]? := fun q => by simp [acells]
    rw [show (k + 1) * 3 = k * 3 + 3 by omega, show k * 3 + 3 + 1 = (k * 3 + 1) + 3 by omega, show k * 3 + 3 + 2 = (k * 3 + 2) + 3 by omega, e, e, e]
    exact this
theorem acts_row {w : World} {v : Value} {A : List Ac} (h : Row w 95 3 v A.length (acells A)) : ∃ ad cap ab, v = .slice ad A.length cap ∧ A.length ≤ cap ∧ cap ≤ maxLen ∧ (0 < A.length → ad = some ⟨ab, 0, none⟩ ∧ v.ownBlock = some ab) ∧ actAt w ab 0 A := by
  rcases h.2 with ⟨rfl, h0⟩ | ⟨g, cap, cur, hv, _, hga, h1, h2, h3, hx⟩
  · have : A = [] := List.length_eq_zero_iff.1 h0
    subst this
    exact ⟨none, 0, 0, rfl, by simp, by simp [maxLen], fun q => by simp at q, fun k a hk => by simp at hk⟩
  · subst hv
    refine ⟨_, cap, g, rfl, h1, h2, fun _ => ⟨rfl, rfl⟩, fun k a hk => ?_⟩
    have hat : At w g cur 95 := hga
    have hl : k < A.length := (List.getElem?_eq_some_iff.1 hk).1
    have cx : ∀ q, q < A.length * 3 → w.cell? ⟨g, q, none⟩ = (acells A)[q]? := fun q hq => by
      rw [hat.cell, ← hx, List.getElem?_take_of_lt (by omega), Array.getElem?_toList]
    obtain ⟨g0, g1, g2⟩ := acells_get A k a hk
    rw [Nat.zero_add]
    exact ⟨(cx _ (by omega)).trans g0, (cx _ (by omega)).trans g1, (cx _ (by omega)).trans g2⟩
/-- A store whose names may be told wherever the power goes. -/
structure Sound (S : SV) : Prop where
  tree : Tree S.kept
  legal : LegalAll S.kept S.acts
  names : S.names = foldN S.kept S.acts
  made : ∀ a ∈ S.acts, ∀ n, a.made = some n → n ∈ S.ids
  few : S.kept.length ≤ 10000 ∧ S.acts.length ≤ 10000
theorem Sound.ids {S : SV} (h : Sound S) {w : World} {b : Nat} {V : SW} {L : Nat → Option Role} (r : Rep w b S V L) : ∀ x ∈ foldN S.kept S.acts, x.2 ∈ S.ids := fold_ids S.acts S.kept S.ids h.legal r.rk h.made
def DirR (w : World) (b : Nat) (S : SV) (L : Nat → Option Role) (w' : World) : Prop := ∃ S' V' L', (S' = S.beg ∨ S' = S.beg.dirred (foldN S.kept S.acts)) ∧ Rep w' b S' V' L' ∧ StTo w w' L L'

set_option maxRecDepth 100000 in
set_option maxHeartbeats 8000000 in
theorem syncdir_all (b : Nat) (S : SV) (V : SW) (L : Nat → Option Role) (w : World) (h : Rep w b S V L) (hf : S.Fit) (hs : Sound S) :
    Calls Tryz.prog 11 #[ptr b] w fun e w' => (∃ n : Int, e = .returned (.int .i64 n)) ∧ DirR w b S L w' := by
  have BG := Lib.hid (begin_any b S V L (.slice none 0 0) [] w h hf.left ⟨hf.ops.1, by have := hf.ops.2; omega⟩ (txt_nil w) (by simp) (fun ad n c hv => by cases hv))
  have bs := beg_same S
  obtain ⟨n0, hn0⟩ : ∃ n, S.begE [] = n := ⟨_, rfl⟩
  rw [hn0] at BG
  clear hn0
  by_cases hb : n0 = 0
  rotate_left
  · have tb : (n0 != 0) = true := by simpa using hb
    clear h hf hb hs bs
    unfold ptr at *
    go_enter Tryz.func11, Tryz.ntmps11
    go_wp2_with fail
    refine (BG.out).mono ?_
    rintro e w1 ⟨rfl, r1, t1⟩
    have F := Lib.hid (And.intro r1 t1)
    clear r1 t1 BG
    go_wp2
    go_ret
    exact ⟨⟨_, rfl⟩, _, _, _, Or.inl rfl, F.out.1, F.out.2⟩
  subst hb
  have HS := Lib.hid hs
  have BS := Lib.hid bs
  clear h hf bs hs
  unfold ptr at BG ⊢
  go_enter Tryz.func11, Tryz.ntmps11
  go_wp2_with fail
  refine (BG.out).mono ?_
  rintro e w1 ⟨rfl, r1, t1⟩
  have hacr := r1.ac
  rw [BS.out.2.2.2.2.1] at hacr
  obtain ⟨ad, ca, ab, hva, hc1, hc2, had, hact⟩ := acts_row hacr
  have hkr := r1.kp
  have hbk := BS.out.2.2.2.2.2.2
  rw [hbk] at hkr
  have hoc : V.k.ownBlock ≠ some b := fun e => by have := r1.lk b e; rw [r1.lb] at this; cases this
  have d4 : w1.cell? ⟨b, 4, none⟩ = some (.slice ad S.acts.length ca) := by rw [r1.c 4, ← hva]; rfl
  have AP : ∀ w2, Ext w1 w2 → Calls Tryz.prog 26 #[.pointer (some ⟨b, 3, none⟩), .slice ad S.acts.length ca] w2 fun e w' => e = .returned (.tuple #[]) ∧ ∃ V' L', Rep w' b { S.beg with kept := foldN S.kept S.acts } V' L' ∧ StTo w w' L L' := fun w2 e2 => by
    have r2 := r1.ext e2
    have hkr2 := hkr.ext e2
    have hs := HS.out
    refine (apply_all b 3 (scells S.beg V) 57 V.k S.kept S.acts ad (if 0 < S.acts.length then ab else w2.heap.size) 0 ca w2 r2.cell rfl hkr2 hoc hs.tree hs.legal (by have := hs.few; omega) (by have := hs.few; omega) (fun q => by rw [if_pos q]; exact (had q).1) (fun k a hk => by
      have hl : 0 < S.acts.length := by have := (List.getElem?_eq_some_iff.1 hk).1; omega
      rw [if_pos hl]
      obtain ⟨x0, x1, x2⟩ := hact k a hk
      exact ⟨e2.cell x0, e2.cell x1, e2.cell x2⟩) (fun e => ?_) (fun e => ?_)).mono fun e w' ⟨q1, v', st⟩ => ?_
    · split at e
      · rename_i hl
        have := r1.la ab (had hl).2
        rw [e, r1.lb] at this
        cases this
      · have := r2.cell.lt
        omega
    · split at e
      · rename_i hl
        have h1 := r1.la ab (had hl).2
        rw [r1.lk ab e] at h1
        cases h1
      · have := hkr2.lt _ e
        omega
    · obtain ⟨_, v1, w3, q2, q3, q4⟩ := st.move r2.cell rfl hoc
      subst q4
      have f := r2.setKept (v' := v1) (l' := foldN S.kept S.acts) q2 q3 (fold_tree _ _ hs.legal hs.tree).srt (by
        rw [BS.out.2.2.1]
        refine fold_ids _ _ _ hs.legal (fun x hx => ?_) hs.made
        have := r2.rk x (by rw [hbk]; exact hx)
        rw [BS.out.2.2.1] at this
        exact this)
      exact ⟨q1, _, _, f.1, (t1.trans (StTo.of_ext e2)).trans f.2⟩
  have HP := Lib.hid AP
  simp only [maxLen] at hc2
  have hn10 : S.acts.length ≤ 10000 := HS.out.few.2
  generalize S.acts.length = nA at *
  clear AP hacr hva had hact hkr hoc r1 t1 BG hbk
  go_wp2
  go_still_tail 7, (by kernel_rfl)
  change wpList _ _ _ _ _ w1.drew
  go_wp2_with fail
  refine (HP.out w1.drew (Ext.drew w1)).mono ?_
  rintro e w2 ⟨rfl, V', L', r2, t2⟩
  have c4 : w2.cell? ⟨b, 4, none⟩ = some V'.a := by rw [r2.c 4]; rfl
  have f4 := r2.fz 4
  obtain ⟨n1, n2⟩ := r2.noActs
  have F := Lib.hid (⟨n1, t2.trans n2⟩ : _ ∧ _)
  clear r2 t2 n1 n2 HP d4
  go_wp2
  go_ret
  exact ⟨⟨_, rfl⟩, _, _, _, Or.inr rfl, F.out.1, F.out.2⟩
end Go.Proofs.YtbneedmfpldpfaaGreatDoor

set_option linter.unusedSimpArgs false
set_option linter.unusedVariables false
namespace Go.Proofs.YtbneedmfpldpfaaGreatDoor
open Go.RowKit Go.Pth

theorem tmod_in (k n : Int) (hn : 0 < n) : -n < k.tmod n ∧ k.tmod n < n := by
  have h1 := Int.tmod_lt_of_pos k hn
  refine ⟨?_, h1⟩
  have h2 := Int.tmod_lt_of_pos (-k) hn
  rw [Int.neg_tmod] at h2
  omega
def HeldPost (w : World) (S : SV) (e : Ending) (w' : World) : Prop := ∃ (p : Nat) (v : Value), p ≤ S.acts.length ∧ e = .returned v ∧ Tr w' v (foldN S.kept (S.acts.take p)) ∧ Ext w w' ∧ ∀ g, v.ownBlock = some g → w.heap.size ≤ g

set_option maxRecDepth 100000 in
set_option maxHeartbeats 8000000 in
theorem held_all (b : Nat) (S : SV) (V : SW) (L : Nat → Option Role) (pick : Int) (w : World) (h : Rep w b S V L) (hs : Sound S) :
    Calls Tryz.prog 47 #[ptr b, .int .i64 pick] w (HeldPost w S) := by
  obtain ⟨ad, ca, ab, hva, hc1, hc2, had, hact⟩ := acts_row h.ac
  have hfew := hs.few
  have d4 : w.cell? ⟨b, 4, none⟩ = some (.slice ad S.acts.length ca) := by rw [h.c 4, ← hva]; rfl
  have d3 : w.cell? ⟨b, 3, none⟩ = some V.k := by rw [h.c 3]; rfl
  have CT := Lib.hid (clonet_any V.k S.kept w h.kp (by omega))
  simp only [maxLen] at hc2
  obtain ⟨N, hN⟩ : ∃ N, N = S.acts.length := ⟨_, rfl⟩
  have hm := tmod_in pick ((N : Int) + 1) (by omega)
  have HAB : Hid (0 < S.acts.length → ab < w.heap.size) := Lib.hid (fun q => h.ac.lt ab (had q).2)
  rw [← hN] at d4 hc1 had hfew
  have HN := Lib.hid hN
  have HS := Lib.hid hs
  have HAC := Lib.hid hact
  have HAD := Lib.hid had
  have D4 := Lib.hid d4
  have hw1 : IntKind.i64.wrap ((N : Int) + 1) = (N : Int) + 1 := IntWalk.i64_in _ (by omega)
  have hw2 : wrap64 ((N : Int) + 1) = (N : Int) + 1 := by unfold wrap64; omega
  have key : ∀ q : Nat, q ≤ N → ∀ (W w1 : World) (dv : Option Addr) (kv : Nat), Ext w w1 → Row w1 78 2 (.slice dv S.kept.length kv) S.kept.length (ents S.kept) → (∀ i, (Value.slice dv S.kept.length kv).ownBlock = some i → w.heap.size ≤ i) → W = w1.alloc (.cells #[.slice dv S.kept.length kv] 54) → Calls Tryz.prog 26 #[.pointer (some ⟨w1.heap.size, 0, none⟩), .slice ad q ca] W fun e w' => e = .returned (.tuple #[]) ∧ ∃ v', w'.cell? ⟨w1.heap.size, 0, none⟩ = some v' ∧ Tr w' v' (foldN S.kept (S.acts.take q)) ∧ Ext w w' ∧ ∀ g, v'.ownBlock = some g → w.heap.size ≤ g := by
    intro q hq W w1 dv kv hE rv hfr hW
    subst hW
    have eA := Ext.alloc w1 (.cells #[.slice dv S.kept.length kv] 54)
    have hatb : At (w1.alloc (.cells #[.slice dv S.kept.length kv] 54)) w1.heap.size #[.slice dv S.kept.length kv] 54 := At.new _ _ _
    have hs := HS.out
    have hlen : (S.acts.take q).length = q := by rw [List.length_take, ← HN.out]; omega
    have n0 : (Value.slice dv S.kept.length kv).ownBlock ≠ some w1.heap.size := fun e => by have := rv.lt _ e; omega
    have hsz := hE.size
    have hq0 : 0 < q → 0 < S.acts.length := fun h => by have := HN.out; omega
    have AP := apply_all w1.heap.size 0 #[.slice dv S.kept.length kv] 54 (.slice dv S.kept.length kv) S.kept (S.acts.take q) ad (if 0 < q then ab else w1.heap.size + 1) 0 ca _ hatb rfl (rv.ext eA) n0 hs.tree (legal_take _ _ _ hs.legal) (by have := hs.few; omega) (by rw [hlen]; have := hs.few; omega) (fun h => by
      rw [hlen] at h
      rw [if_pos h]
      exact (HAD.out (by omega)).1) (fun k a hk => by
      have hkl : k < (S.acts.take q).length := (List.getElem?_eq_some_iff.1 hk).1
      rw [if_pos (by omega)]
      have hk2 : S.acts[k]? = some a := by rw [List.getElem?_take_of_lt (by omega)] at hk; exact hk
      obtain ⟨x0, x1, x2⟩ := HAC.out k a hk2
      have ee := hE.trans eA
      exact ⟨ee.cell x0, ee.cell x1, ee.cell x2⟩) (fun e => by
      split at e
      · rename_i hl
        have := HAB.out (hq0 hl)
        omega
      · omega) (fun e => by
      split at e
      · rename_i hl
        have h1 := HAB.out (hq0 hl)
        have h2 := hfr _ e
        omega
      · have := rv.lt _ e
        omega)
    rw [hlen] at AP
    refine AP.mono fun e w' ⟨q1, v', st⟩ => ⟨q1, v', ?_, Tr.of_row st.row, ?_, fun g hg => ?_⟩
    · rw [st.at_.cell]; rfl
    · have k1 := (Chg.of_ext (X := fun _ => False) (hE.trans eA)).trans st.chg (fun i hi e => by
        rcases e with e | e
        · omega
        · have := hfr i e; omega)
      exact k1.ext
    · rcases st.own with e | ⟨g', e, hg'⟩
      · rw [e] at hg; exact hfr g hg
      · rw [e] at hg
        injection hg with hg
        have := eA.size
        omega
  have KEY := Lib.hid key
  clear h hs hva had hact key hN
  have hfin : ∀ q : Nat, q ≤ N → True := fun _ _ => trivial
  clear hfin
  unfold ptr
  by_cases hneg : pick.tmod ((N : Int) + 1) < 0
  · obtain ⟨q, hq⟩ : ∃ q : Nat, (q : Int) = pick.tmod ((N : Int) + 1) + ((N : Int) + 1) := ⟨(pick.tmod ((N : Int) + 1) + ((N : Int) + 1)).toNat, by omega⟩
    have hqN : q ≤ N := by omega
    have t1 : decide (pick.tmod ((N : Int) + 1) < 0) = true := decide_eq_true hneg
    have hw3 : wrap64 (pick.tmod ((N : Int) + 1) + ((N : Int) + 1)) = (q : Int) := by unfold wrap64; omega
    have hw4 : IntKind.i64.wrap (pick.tmod ((N : Int) + 1) + ((N : Int) + 1)) = (q : Int) := by rw [hq]; exact IntWalk.i64_in _ (by omega)
    have hz : ¬ ((N : Int) + 1 = 0) := by omega
    have i0 : (q : Int) ≤ (ca : Int) := by omega
    have i1 : (0 : Int) ≤ (q : Int) := by omega
    clear hm hneg hq
    go_enter Tryz.func47, Tryz.ntmps47
    go_wp2_with fail
    refine (CT.out).mono ?_
    rintro e w1 ⟨v, rfl, rv, hE, hfr⟩
    obtain ⟨dv, kv, hvv, -⟩ := rv.shape
    subst hvv
    have e4 := (hE.trans (Ext.alloc w1 (.cells #[.slice dv S.kept.length kv] 54))).cell D4.out
    have HP := Lib.hid (KEY.out q hqN _ w1 dv kv hE rv hfr rfl)
    clear rv hE hfr CT d3 d4 KEY D4
    go_wp2_with (go_at_call 26; refine (HP.out).mono ?_; rintro e w' ⟨rfl, v', hcv, htr, hEE, hOO⟩)
    go_ret
    exact ⟨q, _, by rw [← HN.out]; exact hqN, rfl, htr, hEE, hOO⟩
  · obtain ⟨q, hq⟩ : ∃ q : Nat, (q : Int) = pick.tmod ((N : Int) + 1) := ⟨(pick.tmod ((N : Int) + 1)).toNat, by omega⟩
    have hqN : q ≤ N := by omega
    rw [← hq] at hneg
    have t1 : decide ((q : Int) < 0) = false := decide_eq_false hneg
    have hz : ¬ ((N : Int) + 1 = 0) := by omega
    have i0 : (q : Int) ≤ (ca : Int) := by omega
    have i1 : (0 : Int) ≤ (q : Int) := by omega
    have hqs := hq.symm
    clear hm hneg hq
    go_enter Tryz.func47, Tryz.ntmps47
    go_wp2_with fail
    refine (CT.out).mono ?_
    rintro e w1 ⟨v, rfl, rv, hE, hfr⟩
    obtain ⟨dv, kv, hvv, -⟩ := rv.shape
    subst hvv
    have e4 := (hE.trans (Ext.alloc w1 (.cells #[.slice dv S.kept.length kv] 54))).cell D4.out
    have HP := Lib.hid (KEY.out q hqN _ w1 dv kv hE rv hfr rfl)
    clear rv hE hfr CT d3 d4 KEY D4
    go_wp2_with (go_at_call 26; refine (HP.out).mono ?_; rintro e w' ⟨rfl, v', hcv, htr, hEE, hOO⟩)
    go_ret
    exact ⟨q, _, by rw [← HN.out]; exact hqN, rfl, htr, hEE, hOO⟩
end Go.Proofs.YtbneedmfpldpfaaGreatDoor
