/- Each call of the two stores: what it leaves of both. -/
import Derived.Test.YtbneedmfpldpfaaGreatDoorVpM
import Derived.Test.YtbneedmfpldpfaaGreatDoorBn
set_option linter.unusedSimpArgs false
set_option linter.unusedVariables false
namespace Go.Proofs.YtbneedmfpldpfaaGreatDoor
open Go.RowKit Go.Pth

/-- What a call of the store leaves. -/
def VO (w : World) (b k : Nat) (q : B) (a : Nat) (N : NV) (L : Nat → Option Role) (w' : World) : Prop := ∃ S' V' L', Rep w' b S' V' L' ∧ Good S' (k + 1) q a N ∧ StTo w w' L L'
theorem begE_one {S : SV} {p : B} (h : S.begE [p] = 0) : valid p = true := by
  unfold SV.begE at h
  split at h
  · cases h
  · split at h
    · rename_i hv; simpa using hv
    · cases h
theorem in_ids {b k : Nat} {S : SV} {V : SW} {L : Nat → Option Role} {q : B} {a : Nat} {N : NV} {w : World} (h : Rep w b S V L) (hg : Good S k q a N) : a ∈ S.ids := h.rn _ (hg.held.mem hg.snd)
section
variable (b : Nat) (S : SV) (V : SW) (L : Nat → Option Role) (k : Nat) (q : B) (a : Nat) (N : NV) (w : World) (h : Rep w b S V L) (hg : Good S k q a N) (hk : k ≤ 900)
include h hg hk
theorem vadd (p : ByteArray) (kd : Int) : ∃ n : Int, Calls Tryz.prog 19 #[ptr b, .string p, .int .i64 kd] w fun e w' => e = .returned (.int .i64 n) ∧ VO w b k q a N L w' := by
  have hf := hg.lim.fit (by omega)
  by_cases hb : S.begE [p.toList] = 0
  · by_cases ht : takes S.names (kinds S) p.toList = 0
    · exact ⟨0, (add_put b S V L p kd w h hf hb ht).mono fun e w' ⟨h1, a', V', L', h2, h3, h4⟩ => ⟨h1, _, V', L', h3, hg.made (by omega) (in_ids h hg) (begE_one hb) h2 ht, h4⟩⟩
    · exact ⟨_, (add_err b S V L p kd _ w h hf hb rfl ht).mono fun e w' ⟨h1, h3, h4⟩ => ⟨h1, _, V, L, h3, hg.beg, h4⟩⟩
  · exact ⟨_, (add_off b S V L p kd _ w h hf rfl hb).mono fun e w' ⟨h1, h3, h4⟩ => ⟨h1, _, V, L, h3, hg.beg, h4⟩⟩
theorem vcreate (p : ByteArray) : Calls Tryz.prog 8 #[ptr b, .string p] w fun e w' => (∃ n : Int, e = .returned (.int .i64 n)) ∧ VO w b k q a N L w' := by
  obtain ⟨n, hn⟩ := vadd b S V L k q a N w h hg hk p 1
  exact (create_of b p n w hn).mono fun e w' ⟨h1, h2⟩ => ⟨⟨n, h1⟩, h2⟩
theorem vmkdir (p : ByteArray) : Calls Tryz.prog 31 #[ptr b, .string p] w fun e w' => (∃ n : Int, e = .returned (.int .i64 n)) ∧ VO w b k q a N L w' := by
  obtain ⟨n, hn⟩ := vadd b S V L k q a N w h hg hk p 2
  exact (mkdir_of b p n w hn).mono fun e w' ⟨h1, h2⟩ => ⟨⟨n, h1⟩, h2⟩
omit h hk in
theorem tpost_vo {p : B} (hpq : p ≠ q) {e : Ending} {w' : World} (t : TPost w b S.beg p L e w') : (∃ n : Int, e = .returned (.int .i64 n)) ∧ VO w b k q a N L w' := by
  obtain ⟨h1, S', V', L', h2, h3, h4⟩ := t
  exact ⟨h1, S', V', L', h3, hg.beg.touch hpq hg.clk h2, h4⟩
theorem vwrite (p : ByteArray) (hpq : p.toList ≠ q) (m : Int) (x : List Int) (vb : Value) (ad : Option Addr) (cap bb o : Nat) (hx : Bin w vb x ad cap bb o) (hxl : L bb = none) (hbyt : ∀ y ∈ x, 0 ≤ y ∧ y < 256) (hxn : x.length ≤ 1000000) :
    Calls Tryz.prog 9 #[ptr b, .string p, .int .i64 m, vb] w fun e w' => (∃ n : Int, e = .returned (.int .i64 n)) ∧ VO w b k q a N L w' :=
  (write_all b S V L p m x vb ad cap bb o w h (hg.lim.fit (by omega)) hx hxl hbyt hxn).mono fun e w' t => tpost_vo b S L k q a N w hg hpq t
theorem vtruncate (p : ByteArray) (hpq : p.toList ≠ q) (m : Int) : Calls Tryz.prog 33 #[ptr b, .string p, .int .i64 m] w fun e w' => (∃ n : Int, e = .returned (.int .i64 n)) ∧ VO w b k q a N L w' :=
  (truncate_any b S V L p m w h (hg.lim.fit (by omega))).mono fun e w' t => tpost_vo b S L k q a N w hg hpq t
theorem vsetmeta (p : ByteArray) (hpq : p.toList ≠ q) (m : Int) : Calls Tryz.prog 35 #[ptr b, .string p, .int .i64 m] w fun e w' => (∃ n : Int, e = .returned (.int .i64 n)) ∧ VO w b k q a N L w' :=
  (setmeta_any b S V L p m w h (hg.lim.fit (by omega))).mono fun e w' t => tpost_vo b S L k q a N w hg hpq t
theorem vsync (p : ByteArray) (hpq : p.toList ≠ q) : Calls Tryz.prog 10 #[ptr b, .string p] w fun e w' => (∃ n : Int, e = .returned (.int .i64 n)) ∧ VO w b k q a N L w' :=
  (sync_all b S V L p w h (hg.lim.fit (by omega))).mono fun e w' t => tpost_vo b S L k q a N w hg hpq t
theorem vrot (p : ByteArray) (hpq : p.toList ≠ q) (m x : Int) (hx : 0 ≤ x ∧ x < 256) : Calls Tryz.prog 44 #[ptr b, .string p, .int .i64 m, .int .u8 x] w fun e w' => (∃ n : Int, e = .returned (.int .i64 n)) ∧ VO w b k q a N L w' :=
  (rot_any b S V L p m x w h (by have := hg.lim.names; omega) hx).mono fun e w' t => by
    obtain ⟨h1, S', V', L', h2, h3, h4⟩ := t
    exact ⟨h1, S', V', L', h3, hg.up.touch hpq (by have := hg.lim.clock.2; omega) h2, h4⟩
theorem vremove (hq : (47 : UInt8) ∉ q) (p : ByteArray) (hpq : p.toList ≠ q) : Calls Tryz.prog 37 #[ptr b, .string p] w fun e w' => (∃ n : Int, e = .returned (.int .i64 n)) ∧ VO w b k q a N L w' :=
  (remove_all b S V L p w h (hg.lim.fit (by omega)) (fun hb => by
    have := valid_ne (begE_one hb)
    simpa using this)).mono fun e w' ⟨h1, S', V', L', h2, h3, h4⟩ => ⟨h1, S', V', L', h3, by
      rcases h2 with rfl | ⟨hb, hr, rfl⟩
      · exact hg.beg
      · exact hg.gone (by omega) hq hpq (begE_one hb) (by omega), h4⟩
theorem vrename (hq : (47 : UInt8) ∉ q) (p t : ByteArray) (hpq : p.toList ≠ q) (ht : t.size ≤ 1000000) : Calls Tryz.prog 39 #[ptr b, .string p, .string t] w fun e w' => (∃ n : Int, e = .returned (.int .i64 n)) ∧ VO w b k q a N L w' :=
  (rename_all b S V L p t w h (hg.lim.fit (by omega)) (by rw [hg.snd.names]; exact fold_tree _ _ hg.snd.legal hg.snd.tree) ht).mono fun e w' ⟨h1, S', V', L', h2, h3, h4⟩ => ⟨h1, S', V', L', h3, by
    rcases h2 with rfl | ⟨hm, rfl⟩
    · exact hg.beg
    · exact hg.moved (by omega) hq hpq hm, h4⟩
theorem vsyncdir : Calls Tryz.prog 11 #[ptr b] w fun e w' => (∃ n : Int, e = .returned (.int .i64 n)) ∧ VO w b k q a N L w' :=
  (syncdir_all b S V L w h (hg.lim.fit (by omega)) hg.snd).mono fun e w' ⟨h1, S', V', L', h2, h3, h4⟩ => ⟨h1, S', V', L', h3, by
    rcases h2 with rfl | rfl
    · exact hg.beg
    · exact hg.dirred (by omega), h4⟩
end
/-- Both stores in memory, apart from each other, and from what lies below base. -/
def Two (w : World) (b g k : Nat) (q : B) (a : Nat) (N : NV) (base pp : Nat) : Prop :=
  ∃ S V L R F, Rep w b S V L ∧ Good S k q a N ∧ RRep w g R F (10 * k) ∧ L g = none ∧ (∀ i, F i → L i = none ∧ base ≤ i ∧ i ≠ pp) ∧ (∀ i, L i ≠ none → base ≤ i ∧ i ≠ pp) ∧ base ≤ g ∧ g ≠ pp ∧ pp < w.heap.size
theorem Two.ext {w w' : World} {b g k : Nat} {q : B} {a : Nat} {N : NV} {base pp : Nat} (h : Two w b g k q a N base pp) (e : Ext w w') : Two w' b g k q a N base pp := by
  obtain ⟨S, V, L, R, F, h1, h2, h3, h4, h5, h6, h7, h8, h9⟩ := h
  exact ⟨S, V, L, R, F, h1.ext e, h2, h3.ext e, h4, h5, h6, h7, h8, Nat.lt_of_lt_of_le h9 e.size⟩
/-- Behind the store's call, ahead of the document's. -/
def Mid (w : World) (b g k : Nat) (q : B) (a : Nat) (N : NV) (base pp : Nat) (w' : World) : Prop :=
  ∃ S V L R F, Rep w' b S V L ∧ Good S (k + 1) q a N ∧ RRep w' g R F (10 * k) ∧ L g = none ∧ (∀ i, F i → L i = none ∧ base ≤ i ∧ i ≠ pp) ∧ (∀ i, L i ≠ none → base ≤ i ∧ i ≠ pp) ∧ (base ≤ g ∧ g ≠ pp ∧ pp < w'.heap.size) ∧ Chg (fun i => base ≤ i ∧ i ≠ pp) w w'
theorem Two.mid {w w' : World} {b g k : Nat} {q : B} {a : Nat} {N : NV} {base pp : Nat} {S : SV} {V : SW} {L : Nat → Option Role} {R : RV} {F : Nat → Prop} (h : Rep w b S V L) (r : RRep w g R F (10 * k)) (hL : L g = none) (hF : ∀ i, F i → L i = none ∧ base ≤ i ∧ i ≠ pp) (hb : ∀ i, L i ≠ none → base ≤ i ∧ i ≠ pp) (hg : base ≤ g ∧ g ≠ pp ∧ pp < w.heap.size) (v : VO w b k q a N L w') : Mid w b g k q a N base pp w' := by
  obtain ⟨S', V', L', h1, h2, h3⟩ := v
  have gl := r.cell.lt
  have no : ∀ i, i < w.heap.size → L i = none → L' i = none := fun i hi hn => by
    cases hc : L' i with
    | none => rfl
    | some x =>
      rcases h3.lab i (by rw [hc]; simp) with u | u
      · exact absurd hn u
      · omega
  have r' := r.keep (h3.chg.block g gl (by rw [hL]; simp)) (fun i hi => h3.chg.block i (r.lt i hi) (by rw [(hF i hi).1]; simp)) h3.chg.size
  refine ⟨S', V', L', R, F, h1, h2, r', no g gl hL, fun i hi => ⟨no i (r.lt i hi) (hF i hi).1, (hF i hi).2⟩, fun i hi => ?_, ⟨hg.1, hg.2.1, Nat.lt_of_lt_of_le hg.2.2 h3.chg.size⟩, h3.chg.mono fun i _ u => hb i u⟩
  rcases h3.lab i hi with u | u
  · exact hb i u
  · omega
theorem Mid.two {w w1 w2 : World} {b g k : Nat} {q : B} {a : Nat} {N : NV} {base pp : Nat} {S : SV} {V : SW} {L : Nat → Option Role} {R : RV} {F : Nat → Prop} (h : Rep w1 b S V L) (h2 : Good S (k + 1) q a N) (r : RRep w1 g R F (10 * k)) (hL : L g = none) (hF : ∀ i, F i → L i = none ∧ base ≤ i ∧ i ≠ pp) (hb : ∀ i, L i ≠ none → base ≤ i ∧ i ≠ pp) (hg : base ≤ g ∧ g ≠ pp ∧ pp < w1.heap.size) (hc : Chg (fun i => base ≤ i ∧ i ≠ pp) w w1) (p : RPost w1 g F (10 * k + 10) w2) :
    Two w2 b g (k + 1) q a N base pp ∧ Chg (fun i => base ≤ i ∧ i ≠ pp) w w2 := by
  obtain ⟨R', F', r', c, l⟩ := p
  have gl := r.cell.lt
  have h' := h.keep (fun i hi => c.block i (h.lt i hi) (fun e => hi (by rw [e]; exact hL))) c.size
  refine ⟨⟨S, V, L, R', F', h', h2, ?_, hL, fun i hi => ?_, hb, hg.1, hg.2.1, Nat.lt_of_lt_of_le hg.2.2 c.size⟩, hc.trans c (fun i _ e => by omega)⟩
  · rw [Nat.mul_add]; exact r'
  · rcases l i hi with u | u
    · exact hF i u
    · refine ⟨?_, by omega⟩
      cases hc2 : L i with
      | none => rfl
      | some x => have := h.lt i (by rw [hc2]; simp); omega
end Go.Proofs.YtbneedmfpldpfaaGreatDoor
