/- A store of one name: what it answers. No conditions: lemmas. What a crash leaves of a file. No conditions: lemmas. The store of the file that is made safe: what it comes to, and what a crash leaves of it. No conditions but those named: definitions and lemmas. -/
import Derived.Test.YtbneedmfpldpfaaGreatDoorSjM
import Derived.Test.YtbneedmfpldpfaaGreatDoorUaM
import Derived.Test.YtbneedmfpldpfaaGreatDoorBr
namespace Go.Proofs.YtbneedmfpldpfaaGreatDoor
open Go.RowKit Go.Pth

theorem look_one (p : B) (a : Nat) : look [(p, a)] p = some a := by
  have h : place [(p, a)] p = 0 := by simp [place, List.takeWhile, less_irr]
  unfold look
  simp [h]
theorem look_other (p q : B) (a : Nat) (h : q ≠ p) : look [(p, a)] q = none := by
  cases hl : look [(p, a)] q with
  | none => rfl
  | some n =>
    have := look_mem _ _ _ hl
    simp at this
    exact absurd this.1 h
theorem look_nil (q : B) : look [] q = none := rfl
theorem beg_power0 {S : SV} (h : S.power = 0) : S.beg.power = 0 := by unfold SV.beg SV.spend; simp [h]
theorem beg_left {S : SV} (h : S.power = 0) : S.beg.left = S.left := by unfold SV.beg SV.spend; simp [h]
theorem beg_ops {S : SV} (h : S.power = 0) : S.beg.ops = S.ops + 1 := by unfold SV.beg SV.spend; simp [h]
theorem begE_ok {S : SV} (h : S.power = 0) (p : B) (hp : valid p = true) : S.begE [p] = 0 := by
  unfold SV.begE; rw [beg_power0 h]; simp [hp]
theorem va : valid [97] = true := by decide
theorem vx : valid [120] = true := by decide
theorem vab : valid [97, 47, 98] = true := by decide
theorem pa : parent [97] = [] := by decide
theorem pab : parent [97, 47, 98] = [97] := by decide
/-- Bytes written into an empty file. -/
theorem write_new (k st : Int) (x : List Int) (hx : x ≠ []) : (newN k st).write 0 x = ⟨k, 0, st, x, List.replicate x.length 0, List.replicate (secs x.length) true⟩ := by
  have hl : 0 < x.length := List.length_pos_iff.2 hx
  unfold NV.write
  rw [if_neg (by simp [newN]; omega)]
  simp only [newN, NV.resize, fitL, List.length_nil, Nat.zero_add, Nat.max_zero]
  rw [if_neg (by omega), if_neg (by unfold secs; omega)]
  simp only [List.nil_append, Nat.sub_zero, splice, List.take_zero, Nat.zero_add, List.drop_replicate, Nat.sub_self, List.replicate_zero, List.append_nil, Nat.zero_min, Nat.zero_div]
  congr 1
  apply List.ext_getElem
  · simp [mark]
  · intro i h1 h2
    simp [mark] at h1 ⊢
    exact h1
theorem crash_a (st : Int) : (⟨1, 0, st, [120], [0], [true]⟩ : NV).crash 0 = ⟨1, 0, st, [0], [0], [false]⟩ := by
  unfold NV.crash
  rw [show (crun [120] [0] [true] 0 [true].length).1 = [0] by decide]
  rfl

/-- Memory of the call's own. -/
theorem own_step {w w1 w2 : World} {L L' : Nat → Option Role} (h : Ext w w1) (hl : ∀ i, L i ≠ none → w.heap.size ≤ i) (t : StTo w1 w2 L L') : Ext w w2 ∧ ∀ i, L' i ≠ none → w.heap.size ≤ i := by
  refine ⟨((Chg.of_ext (X := fun _ => False) h).trans t.chg (fun i hi e => by have := hl i e; omega)).ext, fun i hi => ?_⟩
  rcases t.lab i hi with h1 | h1
  · exact hl i h1
  · exact Nat.le_trans h.size h1
theorem none_step {w1 w2 : World} {L L' : Nat → Option Role} (t : StTo w1 w2 L L') {i : Nat} (h : L i = none) (hi : i < w1.heap.size) : L' i = none := by
  cases hc : L' i with
  | none => rfl
  | some r =>
    rcases t.lab i (by rw [hc]; simp) with h1 | h1
    · exact absurd h h1
    · omega
theorem none_new {w : World} {b : Nat} {S : SV} {V : SW} {L : Nat → Option Role} (h : Rep w b S V L) : L w.heap.size = none := by
  cases hc : L w.heap.size with
  | none => rfl
  | some r => have := h.lt w.heap.size (by rw [hc]; simp); omega
/-- The store with one empty file. -/
theorem made_file {S : SV} (a : Nat) (p : B) (hn : S.names = []) : (S.beg.made a p 1).file p = (some a, 0) := by
  have bs := beg_same S
  unfold SV.file SV.made
  simp only [bs.1, hn, List.nil_append]
  rw [look_one]
  simp [upd_same, newN]
theorem new_takes (room : Int) (p : B) (hp : parent p = []) : takes (SV.new room).names (kinds (SV.new room)) p = 0 := by
  unfold takes
  simp [SV.new, look_nil, hp]
theorem new_fit (room : Int) : (SV.new room).Fit := ⟨by simp [SV.new], by simp [SV.new], by simp [SV.new], by simp [SV.new], by simp [SV.new]⟩
end Go.Proofs.YtbneedmfpldpfaaGreatDoor

namespace Go.Proofs.YtbneedmfpldpfaaGreatDoor
open Go.RowKit Go.Pth

/-- A file that is safe. -/
def NB (st : Int) (old : List Int) : NV := ⟨1, 0, st, old, old, List.replicate (secs old.length) false⟩
theorem nb_sync (old : List Int) : ({ (newN 1 1).write 0 old with stamp := 2 } : NV).sync = NB 2 old := by
  by_cases h : old = []
  · subst h
    rfl
  · rw [write_new 1 1 old h]
    unfold NV.sync NB
    simp
/-- Was a sector touched? -/
def touched (F T k : Nat) : Bool := decide (F < T) && (decide (16 * k < T) && decide (F < 16 * (k + 1)))
end Go.Proofs.YtbneedmfpldpfaaGreatDoor

set_option linter.unusedSimpArgs false
set_option linter.unusedVariables false
namespace Go.Proofs.YtbneedmfpldpfaaGreatDoor
open Go.RowKit Go.Pth

def sq : B := [115, 97, 102, 101]
def oq : B := [111, 116, 104, 101, 114]
theorem tlsq : (⟨#[115, 97, 102, 101]⟩ : ByteArray).toList = sq := ByteArray.toList_mk [115, 97, 102, 101]
theorem tloq : (⟨#[111, 116, 104, 101, 114]⟩ : ByteArray).toList = oq := ByteArray.toList_mk [111, 116, 104, 101, 114]
theorem vsq : valid sq = true := by decide
theorem psq : parent sq = [] := by decide
theorem voq : valid oq = true := by decide
theorem poq : parent oq = [] := by decide
theorem nsq : (47 : UInt8) ∉ sq := by decide
/-- A store with that file alone. -/
def SG (clock ops : Int) (kept : List Nm) (acts : List Ac) (a : Nat) (N : NV) : SV := ⟨1048576, clock, [(sq, a)], kept, acts, 0, 0, ops, [a], upd (fun _ => newN 0 0) a N⟩
theorem sg_made (a : Nat) : (SV.new 1048576).beg.made a sq 1 = SG 1 1 [] [⟨[], sq, some a⟩] a (newN 1 1) := by
  simp [SV.new, SV.beg, SV.spend, SV.made, SG]
theorem sg_beg (clock ops : Int) (kept : List Nm) (acts : List Ac) (a : Nat) (N : NV) : (SG clock ops kept acts a N).beg = SG clock (ops + 1) kept acts a N := by
  simp [SV.beg, SV.spend, SG]
theorem sg_wrote (clock ops : Int) (kept : List Nm) (acts : List Ac) (a off : Nat) (x : List Int) (N : NV) : (SG clock ops kept acts a N).wrote a off x = SG (clock + 1) ops kept acts a { N.write off x with stamp := clock + 1 } := by
  unfold SV.wrote SG
  simp only [upd_same, upd_upd]
theorem sg_sync (clock ops : Int) (kept : List Nm) (acts : List Ac) (a : Nat) (N : NV) : (SG clock ops kept acts a N).synced a = SG clock ops kept acts a N.sync := by
  unfold SV.synced SG
  simp only [upd_same, upd_upd]
theorem sg_dir (clock ops : Int) (kept l : List Nm) (acts : List Ac) (a : Nat) (N : NV) : (SG clock ops kept acts a N).dirred l = SG clock ops l [] a N := rfl
theorem sg_fit (clock ops : Int) (kept : List Nm) (acts : List Ac) (a : Nat) (N : NV) (h1 : 0 ≤ clock ∧ clock ≤ 100) (h2 : 0 ≤ ops ∧ ops ≤ 100) (h3 : acts.length ≤ 10) : (SG clock ops kept acts a N).Fit :=
  ⟨by simp [SG], by simp only [SG]; omega, by simp only [SG]; omega, by simp [SG], by simp only [SG]; omega⟩
theorem sg_file (clock ops : Int) (kept : List Nm) (acts : List Ac) (a : Nat) (N : NV) (hk : N.kind = 1) : (SG clock ops kept acts a N).file sq = (some a, 0) := by
  unfold SV.file
  simp only [SG, look_one, upd_same, hk, if_true]
theorem sg_used (clock ops : Int) (kept : List Nm) (acts : List Ac) (a : Nat) (N : NV) : used (SG clock ops kept acts a N).nd (SG clock ops kept acts a N).names = N.now.length := by
  simp [used, SG, upd_same]
theorem sg_nd (clock ops : Int) (kept : List Nm) (acts : List Ac) (a : Nat) (N : NV) : (SG clock ops kept acts a N).nd a = N := by simp [SG, upd_same]
theorem sg_begE (clock ops : Int) (kept : List Nm) (acts : List Ac) (a : Nat) (N : NV) : (SG clock ops kept acts a N).begE [sq] = 0 := begE_ok rfl _ vsq
/-- What the law begins its steps with. -/
theorem sg_good (a : Nat) (old : List Int) (cut : Int) (hc : cut ≤ 9223372036854775807) : Good ((SG 2 4 [(sq, a)] [] a (NB 2 old)).cutAt cut) 10 sq a (NB 2 old) := by
  have e : (SG 2 4 [(sq, a)] [] a (NB 2 old)).cutAt cut = { SG 2 4 [(sq, a)] [] a (NB 2 old) with power := 1, left := max cut 0 } := by
    unfold SV.cutAt
    rw [if_neg (by simp [SG])]
  rw [e]
  have tr : Tree [(sq, a)] := ⟨List.pairwise_singleton _ _, fun x hx => by rw [List.mem_singleton.1 hx]; exact vsq, fun x hx => by rw [List.mem_singleton.1 hx]; exact Or.inl psq⟩
  refine ⟨⟨by show 0 ≤ max cut 0 ∧ max cut 0 ≤ _; omega, by show (0 : Int) ≤ 4 ∧ (4 : Int) ≤ _; omega, by show (0 : Int) ≤ 2 ∧ (2 : Int) ≤ _; omega, by show 1 ≤ 10; omega, by show 0 ≤ 10; omega, by show 1 ≤ 10; omega⟩, ⟨tr, trivial, rfl, (fun x hx => by cases hx), by show 1 ≤ 10000 ∧ 0 ≤ 10000; omega⟩, ⟨fun p => ?_, fun x hx _ => by rw [List.mem_singleton.1 hx], by show (SG 2 4 [(sq, a)] [] a (NB 2 old)).nd a = _; rw [sg_nd]⟩⟩
  show (sq, a) ∈ foldN [(sq, a)] (([] : List Ac).take p)
  have : ([] : List Ac).take p = [] := by simp
  rw [this]
  exact List.mem_singleton.2 rfl
/-- What stands in sorted names is found. -/
theorem look_in {l : List Nm} (hs : Srt l) {p : B} {n : Nat} (h : (p, n) ∈ l) : look l p = some n := by
  obtain ⟨j, hj, e⟩ := List.mem_iff_getElem.1 h
  have hp : place l p = j := place_uniq l p j (by omega) (fun i hi hij => by
    have := List.pairwise_iff_getElem.1 hs i j hi hj hij
    rw [e] at this; exact this) (fun hlt => by rw [e]; exact less_irr p)
  unfold look
  rw [hp, dif_pos hj, e]
  simp
/-- With no loose sector the pick does not matter. -/
theorem crun_safe2 (now kept : List Int) (loose : List Bool) (pick : Int) (h : loose.any id = false) : ∀ k, crun now kept loose pick k = (kept, 0)
  | 0 => rfl
  | k + 1 => by
    rw [crun_succ, crun_safe2 now kept loose pick h k]
    unfold cstep
    rw [if_neg]
    intro hh
    cases hg : loose[k]? with
    | none => rw [hg] at hh; simp at hh
    | some x =>
      rw [hg] at hh
      simp only [Option.getD_some] at hh
      have := List.any_eq_false.1 h x (List.mem_of_getElem? hg)
      simp [hh] at this
theorem nb_crash (st : Int) (old : List Int) (pick : Int) : (NB st old).crash pick = NB st old := by
  unfold NV.crash NB
  simp only
  rw [crun_safe2 _ _ _ _ (by rw [List.any_eq_false]; intro x hx; rw [List.eq_of_mem_replicate hx]; simp)]
  simp
/-- What a crash leaves of that file. -/
theorem crash_file {S : SV} {k a : Nat} {old : List Int} {w w' : World} {e : Ending} (hg : Good S k sq a (NB 2 old)) (hk : k ≤ 1000) (c : CrPost2 w S e w') :
    ∃ b' S' V' L' a', e = .returned (ptr b') ∧ Ext w w' ∧ Rep w' b' S' V' L' ∧ look S'.names sq = some a' ∧ S'.nd a' = NB 2 old ∧ S'.file sq = (some a', 0) ∧ S'.names.length ≤ 10000 ∧ S'.Fit ∧ S'.power = 0 ∧ ∀ i, L' i ≠ none → w.heap.size ≤ i := by
  obtain ⟨p, ps, b', ids, nd, V', L', hp, he, ex, hf, hc, hr, hlb⟩ := c
  have hm := hg.held.all p
  rw [hf] at hm
  obtain ⟨x, hx, e1⟩ := List.mem_map.1 hm
  obtain ⟨⟨xp, xa⟩, a'⟩ := x
  simp only at e1
  injection e1 with e1 e2
  subst e1 e2
  obtain ⟨pick, hn⟩ := hc _ hx
  simp only at hn
  rw [hg.held.nd, nb_crash] at hn
  have hin : (sq, a') ∈ cpN ps := List.mem_map.2 ⟨_, hx, rfl⟩
  have hl : look (SV.left1 S.room S.clock ids nd (cpN ps) (cpN ps)).names sq = some a' := look_in hr.sn hin
  have hlen : (cpN ps).length ≤ 10000 := by
    have h1 := fold_len (S.acts.take p) S.kept (legal_take _ _ _ hg.snd.legal)
    rw [hf, List.length_map] at h1
    have h2 : (S.acts.take p).length ≤ S.acts.length := by rw [List.length_take]; omega
    have h3 := hg.lim.acts
    have h4 := hg.lim.kept
    rw [cpN_len]
    omega
  have hcl := hg.lim.clock
  refine ⟨b', _, V', L', a', he, ex, hr, hl, hn, ?_, hlen, ⟨by show (0 : Int) ≤ 0 ∧ (0 : Int) ≤ _; omega, by show (0 : Int) ≤ 0 ∧ (0 : Int) ≤ _; omega, by show 0 ≤ S.clock ∧ S.clock ≤ 100000; omega, hlen, by show 0 ≤ 10000; omega⟩, rfl, hlb⟩
  unfold SV.file
  rw [hl]
  show (if (nd a').kind = 1 then _ else _) = _
  rw [hn]
  rfl
/-- A name of its own is made, or it is there: the power is on. -/
theorem create_other (b : Nat) (S : SV) (V : SW) (L : Nat → Option Role) (w : World) (h : Rep w b S V L) (hf : S.Fit) (hp : S.power = 0) :
    ∃ n : Int, n ≠ 7 ∧ Calls Tryz.prog 8 #[ptr b, .string ⟨#[111, 116, 104, 101, 114]⟩] w fun e w' => e = .returned (.int .i64 n) ∧ ∃ L', StTo w w' L L' := by
  have hb : S.begE [(⟨#[111, 116, 104, 101, 114]⟩ : ByteArray).toList] = 0 := by rw [tloq]; exact begE_ok hp _ voq
  by_cases ht : takes S.names (kinds S) (⟨#[111, 116, 104, 101, 114]⟩ : ByteArray).toList = 0
  · refine ⟨0, by omega, create_of b _ 0 w ((add_put b S V L _ 1 w h hf hb ht).mono fun e w' ⟨h1, a', V', L', h2, h3, h4⟩ => ⟨h1, L', h4⟩)⟩
  · refine ⟨takes S.names (kinds S) (⟨#[111, 116, 104, 101, 114]⟩ : ByteArray).toList, ?_, create_of b _ _ w ((add_err b S V L _ 1 _ w h hf hb rfl ht).mono fun e w' ⟨h1, h3, h4⟩ => ⟨h1, L, h4⟩)⟩
    rw [tloq]
    unfold takes
    split
    · omega
    · rw [if_pos poq]; omega
end Go.Proofs.YtbneedmfpldpfaaGreatDoor
