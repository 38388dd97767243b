/- What image's roomFor answers, and what SyncDir does behind a copy. No conditions but those named: contracts. The four acts of a copy, one behind the other. No conditions but those named: contracts. -/
import Derived.Test.YtnhokjnmpdiokaaGreatDoorIiM
namespace Go.Proofs.YtnhokjnmpdiokaaGreatDoor
open Go.RowKit Go.Sha Go.Pth
set_option linter.unusedSimpArgs false
set_option linter.unusedVariables false

structure Cps (w : World) (cl : Value) (js : List Nat) (ad : Option Addr) (cap b o : Nat) : Prop where
  val : cl = .slice ad js.length cap
  adr : 0 < js.length → ad = some ⟨b, o, none⟩
  cell : ∀ (i j : Nat), js[i]? = some j → w.cell? ⟨b, o + i, none⟩ = some (.string (cpT j))
structure Ask (ids js : List Nat) : Prop where
  three : ids.length = 3 ∨ (ids = [] ∧ js = [0, 1, 2])
  lt : ∀ j ∈ js, j < 3
  few : js.length ≤ 3
theorem Ask.look {ids js : List Nat} (h : Ask ids js) (d j : Nat) (hj : j < 3) : V.look (V.names4 d ids) (V.cpB j) = ids[j]? := by
  rcases h.three with h3 | ⟨h3, _⟩
  · exact V.look_cp d ids (by omega) j hj (by omega)
  · subst h3; rw [V.look_far d j hj]; simp
theorem stat_cp {sb n d : Nat} {S : V.SV} {W : V.SW} {L : Nat → Option V.Role} {ids js : List Nat} (MD : V.Md S n d ids ids.length) (hA : Ask ids js) (j : Nat) (hj : j < 3) (hn : n ≤ 50000) (w : World) (r : V.Rep w sb S W L) :
    Calls Tryz.prog 16 #[V.ptr sb, .string (cpT j)] w fun e w' => (∃ q0 q1 q2 q3 q4 q5, e = .returned (.tuple #[.agg #[.string q0, .int .i64 q1, .int .i64 q2, .int .i64 q3, .int .u64 q4], .int .i64 q5]) ∧ (q1 == 2) = false ∧ 0 ≤ q2 ∧ q2 ≤ 65536) ∧ Ext w w' := by
  have nl : S.names.length ≤ 1000000 := by have := (MD.fit (by omega)).names; omega
  have lk : V.look S.names (cpT j).toList = ids[j]? := by rw [cpT_list, MD.names, hA.look d j hj]
  cases e : ids[j]? with
  | none =>
    refine (V.stat_none sb S W L (cpT j) w r nl (lk.trans e)).mono fun e w' ⟨h1, h2⟩ => ⟨⟨_, _, _, _, _, _, h1, rfl, by omega, by omega⟩, ext_v h2⟩
  | some a =>
    have ha := List.mem_of_getElem? e
    refine (V.stat_some sb S W L (cpT j) a w r nl (lk.trans e)).mono fun e w' ⟨h1, h2⟩ => ⟨⟨_, _, _, _, _, _, h1, ?_, ?_, ?_⟩, ext_v h2⟩
    · rw [MD.kf a ha]; rfl
    · omega
    · have := MD.lens a ha; omega

def InvRo (w : World) (size n : Nat) (r i : Value) (wr : World) : Prop := ∃ (k : Nat) (room : Nat), k ≤ n ∧ i = .int .i64 k ∧ r = .int .i64 room ∧ size ≤ room ∧ room ≤ size * (k + 1) ∧ Ext w wr
set_option maxRecDepth 100000 in
set_option maxHeartbeats 8000000 in
theorem roomFor_any {w : World} {sb ab g : Nat} {v : Value} {l : List RV} {S : V.SV} {W : V.SW} {L : Nat → Option V.Role} {n d : Nat} {ids js : List Nat} (A : Arc w sb ab S W L g v l) (MD : V.Md S n d ids ids.length) (hA : Ask ids js) (hn : n ≤ 50000)
    (size : Nat) (hs : size ≤ 20000) {cl : Value} {ad : Option Addr} {cap b o : Nat} (hc : Cps w cl js ad cap b o) :
    Calls Tryz.prog 57 #[V.ptr ab, cl, .int .i64 (size : Int)] w fun e w' => (∃ room : Nat, e = .returned (.tuple #[.int .i64 (room : Int), .int .i64 0]) ∧ size ≤ room ∧ room ≤ size * 4) ∧ Ext w w' := by
  have ev := hc.val
  have ST := Lib.hid (fun j (hj : j < 3) w1 (r : V.Rep w1 sb S W L) => stat_cp MD hA j hj hn w1 r)
  have HAR := Lib.hid A
  have HC := Lib.hid hc
  have HJ := Lib.hid hA
  obtain ⟨N, hN⟩ : ∃ N, N = js.length := ⟨_, rfl⟩
  have HN := Lib.hid hN
  have hN4 : N ≤ 3 := by have := hA.few; omega
  rw [← hN] at ev
  subst ev
  clear A MD hA hc hN
  unfold V.ptr at ST ⊢
  go_enter Tryz.func57, Tryz.ntmps57
  go_wp2
  go_loopw [8, 16] (fun r i wr => InvRo w size N r i wr) (fun _ i _ => N - (intOf i).toNat)
  case atStart => exact ⟨0, size, by omega, rfl, rfl, Nat.le_refl _, by omega, Ext.refl w⟩
  case round =>
    obtain ⟨k, room, hk, rfl, rfl, hr1, hr2, ex⟩ := hrel
    by_cases hlt : k < N
    · have i0 : (k : Int) < (N : Int) := by omega
      have i1 : (0 : Int) ≤ (k : Int) := by omega
      have ea := HC.out.adr (by rw [← HN.out]; omega)
      obtain ⟨j, hj⟩ : ∃ j, js[k]? = some j := ⟨_, List.getElem?_eq_getElem (by rw [← HN.out]; exact hlt)⟩
      have hj3 := HJ.out.lt j (List.mem_of_getElem? hj)
      have cj := ext_cell ex (HC.out.cell k j hj)
      have cs := ext_cell ex HAR.out.c.1
      have ST2 := Lib.hid (ST.out j hj3 wr (HAR.out.rep.ext ex))
      subst ea
      unfold V.ptr at cs
      clear hj hj3
      go_wp2_with fail
      refine (ST2.out).mono ?_
      rintro e w1 ⟨⟨q0, q1, q2, q3, q4, q5, rfl, hq1, hq2, hq2'⟩, e1⟩
      have ea : Ext w1 (w1.alloc (.cells #[.string ⟨#[]⟩, .int .i64 0, .int .i64 0, .int .i64 0, .int .u64 0] 40)) := Ext.alloc w1 _
      have aa := At.new w1 #[.string ⟨#[]⟩, .int .i64 0, .int .i64 0, .int .i64 0, .int .u64 0] 40
      have one : (#[.string q0, .int .i64 q1, .int .i64 q2, .int .i64 q3, .int .u64 q4] : Array Value).all (·.oneCell') = true := by simp [Value.oneCell']
      have sz : (Tryz.prog.info? 40).map (·.size) = some (#[.string q0, .int .i64 q1, .int .i64 q2, .int .i64 q3, .int .u64 q4] : Array Value).size := szStat
      have E2 := ext_only' ea (Only.setRow w1.heap.size _ #[.string q0, .int .i64 q1, .int .i64 q2, .int .i64 q3, .int .u64 q4]) (Nat.le_refl _)
      have A2 : At ((w1.alloc (.cells #[.string ⟨#[]⟩, .int .i64 0, .int .i64 0, .int .i64 0, .int .u64 0] 40)).setRow w1.heap.size #[.string q0, .int .i64 q1, .int .i64 q2, .int .i64 q3, .int .u64 q4]) w1.heap.size #[.string q0, .int .i64 q1, .int .i64 q2, .int .i64 q3, .int .u64 q4] 40 := aa.row _
      go_upto_region 6 with (refine wpList_store_row rfl 40 _ _ rfl w1.heap.size _ rfl rfl 40 _ aa sz rfl one ?_)
      clear ea aa sz one cs cj
      generalize (w1.alloc (.cells #[.string ⟨#[]⟩, .int .i64 0, .int .i64 0, .int .i64 0, .int .u64 0] 40)).setRow w1.heap.size #[.string q0, .int .i64 q1, .int .i64 q2, .int .i64 q3, .int .u64 q4] = w2 at *
      obtain ⟨g2, hg2⟩ : ∃ g, g = w1.heap.size := ⟨_, rfl⟩
      rw [← hg2] at A2 ⊢
      clear hg2
      have EX := Lib.hid ((ex.trans e1).trans E2)
      have f1 := A2.cell 1
      have f2 := A2.cell 2
      clear ex e1 E2 A2 ST2
      by_cases hk0 : k = 0
      · subst hk0
        have hr3 : room ≤ size * (0 + 1 + 1) := by omega
        go_wp2
        exact ⟨⟨0 + 1, room, by omega, by go_num, rfl, hr1, hr3, EX.out⟩, by simp [intOf]; omega⟩
      · have d1 : decide ((0 : Int) < (k : Int)) = true := by simp; omega
        have hsz : size * (k + 1) ≤ 80000 := by
          have : size * (k + 1) ≤ 20000 * 4 := Nat.mul_le_mul hs (by omega)
          omega
        have hstep : size * (k + 1 + 1) = size * (k + 1) + size := by rw [Nat.mul_succ]
        obtain ⟨mx, hmx, hmx0⟩ : ∃ m : Nat, (m : Int) = max 0 ((size : Int) - q2) ∧ m ≤ size := ⟨(max 0 ((size : Int) - q2)).toNat, by omega, by omega⟩
        have w1' : IntKind.i64.wrap ((size : Int) - q2) = (size : Int) - q2 := IntWalk.i64_in _ (by omega)
        have HMX := Lib.hid hmx
        have w2' : IntKind.i64.wrap ((room : Int) + max 0 ((size : Int) - q2)) = (room : Int) + max 0 ((size : Int) - q2) := IntWalk.i64_in _ (by omega)
        clear hmx
        go_wp2
        exact ⟨⟨k + 1, room + mx, by omega, by go_num, by rw [Int.natCast_add, HMX.out], by omega, by omega, EX.out⟩, by simp [intOf]; omega⟩
    · have d0 : decide ((k : Int) < (N : Int)) = false := by simp; omega
      have F := Lib.hid (show size ≤ room ∧ room ≤ size * 4 from ⟨hr1, Nat.le_trans hr2 (Nat.mul_le_mul (Nat.le_refl _) (by omega))⟩)
      have EX := Lib.hid ex
      obtain rfl : k = N := by omega
      clear hlt ex hr1 hr2
      go_wp2
      go_ret2
      exact ⟨⟨room, rfl, F.out.1, F.out.2⟩, EX.out⟩

theorem sd_any {w0 w : World} {sb ab g : Nat} {v : Value} {l : List RV} {L0 : Nat → Option V.Role} {n d : Nat} {ids : List Nat} {kj : Nat} {con : Nat → List Int} (h : Stg w0 w sb ab g v l L0 n d ids kj con) (hn : n ≤ 50000) :
    Calls Tryz.prog 84 #[V.ptr sb] w fun e w' => e = .returned (.int .i64 0) ∧ Stg w0 w' sb ab g v l L0 (n + 1) d ids ids.length con := by
  obtain ⟨S, W, L, A, M, MD, CN⟩ := h
  have fit := MD.fit (by omega)
  rcases MD.acts with ⟨hk, ha⟩ | ⟨a, hi, hk, ha⟩
  · refine (V.syncdir_none sb S W L w A.rep fit MD.power ha).mono fun e w' ⟨h1, W', L', r, t⟩ => ⟨h1, _, W', L', A.st r t, M.trans (Mv.of_st t), ?_, ?_⟩
    · have := MD.safe
      have e : S.kept = V.names4 d ids := by rw [MD.kept, hk, List.take_length]
      rw [e]; exact this
    · exact MD.safeC CN _
  · have hfew := MD.few
    have pl : V.place (V.names4 d (ids.take kj)) (V.cpB kj) = (V.names4 d (ids.take kj)).length := by
      have hl : (ids.take kj).length = kj := by rw [List.length_take]; omega
      rw [V.place_cp d (ids.take kj) (by omega) kj (by omega) (by omega), V.names4_len, hl]
    have hm : a ∈ S.ids := MD.mem a (by rw [hi]; simp)
    refine (V.syncdir_end (V.names4 d (ids.take kj)) sb S W L (V.cpB kj) a w A.rep fit MD.power MD.kept (by rw [V.names4_len, List.length_take]; omega) pl ha hm).mono fun e w' ⟨h1, W', L', r, t⟩ => ⟨h1, _, W', L', A.st r t, M.trans (Mv.of_st t), ?_, MD.safeC CN _⟩
    have hl : (ids.take kj).length = kj := by rw [List.length_take]; omega
    have e : V.names4 d (ids.take kj) ++ [(V.cpB kj, a)] = V.names4 d ids := by
      rw [hi]
      have := V.names4_app d (ids.take kj) a
      rw [hl] at this
      rw [List.take_append_of_le_length (by omega), List.take_of_length_le (by omega)]
      exact this.symm
    rw [e]; exact MD.safe
end Go.Proofs.YtnhokjnmpdiokaaGreatDoor

namespace Go.Proofs.YtnhokjnmpdiokaaGreatDoor
open Go.RowKit Go.Sha Go.Pth
set_option linter.unusedSimpArgs false
set_option linter.unusedVariables false

theorem tr_any {w0 w : World} {sb ab g : Nat} {v : Value} {l : List RV} {L0 : Nat → Option V.Role} {n d : Nat} {ids : List Nat} {kj : Nat} {con : Nat → List Int} (h : Stg w0 w sb ab g v l L0 n d ids kj con) (hn : n ≤ 50000) (j : Nat) (hj : j < ids.length) (size : Nat) (hs : size ≤ (con j).length) :
    Calls Tryz.prog 81 #[V.ptr sb, .string (cpT j), .int .i64 (size : Int)] w fun e w' => e = .returned (.int .i64 0) ∧ Stg w0 w' sb ab g v l L0 (n + 2) d ids kj (V.upd con j ((con j).take size)) := by
  obtain ⟨S, W, L, A, M, MD, CN⟩ := h
  obtain ⟨a, ha⟩ : ∃ a, ids[j]? = some a := ⟨_, List.getElem?_eq_getElem hj⟩
  have hj3 : j < 3 := by have := MD.few; omega
  have ff : S.file (cpT j).toList = (some a, 0) := by rw [cpT_list]; exact MD.filea j a hj3 ha
  have be : S.begE [(cpT j).toList] = 0 := by rw [cpT_list]; exact MD.begE _ (V.valid_cp j)
  have t := MD.trunc CN ha hs
  exact (V.trunc_ok sb S W L (cpT j) a size w A.rep (MD.fit (by omega)) be ff (by rw [CN j a ha]; exact hs)).mono fun e w' ⟨h1, W', L', r, s⟩ => ⟨h1, _, W', L', A.st r s, M.trans (Mv.of_st s), t.1, t.2⟩
theorem sy_any {w0 w : World} {sb ab g : Nat} {v : Value} {l : List RV} {L0 : Nat → Option V.Role} {n d : Nat} {ids : List Nat} {kj : Nat} {con : Nat → List Int} (h : Stg w0 w sb ab g v l L0 n d ids kj con) (hn : n ≤ 50000) (j : Nat) (hj : j < ids.length) :
    Calls Tryz.prog 83 #[V.ptr sb, .string (cpT j)] w fun e w' => e = .returned (.int .i64 0) ∧ Stg w0 w' sb ab g v l L0 (n + 2) d ids kj con := by
  obtain ⟨S, W, L, A, M, MD, CN⟩ := h
  obtain ⟨a, ha⟩ : ∃ a, ids[j]? = some a := ⟨_, List.getElem?_eq_getElem hj⟩
  have hj3 : j < 3 := by have := MD.few; omega
  have ff : S.file (cpT j).toList = (some a, 0) := by rw [cpT_list]; exact MD.filea j a hj3 ha
  have be : S.begE [(cpT j).toList] = 0 := by rw [cpT_list]; exact MD.begE _ (V.valid_cp j)
  have t := MD.synced CN ha
  exact (V.sync_ok sb S W L (cpT j) a w A.rep (MD.fit (by omega)) be ff).mono fun e w' ⟨h1, W', L', r, s⟩ => ⟨h1, _, W', L', A.st r s, M.trans (Mv.of_st s), t.1, t.2⟩

def IdOk (ids ids1 : List Nat) (j : Nat) : Prop := (j < ids.length ∧ ids1 = ids) ∨ (j = ids.length ∧ ∃ a, ids1 = ids ++ [a])
theorem IdOk.lt {ids ids1 : List Nat} {j : Nat} (h : IdOk ids ids1 j) : j < ids1.length := by
  rcases h with ⟨h, rfl⟩ | ⟨h, a, rfl⟩
  · exact h
  · simp; omega
theorem IdOk.len {ids ids1 : List Nat} {j : Nat} (h : IdOk ids ids1 j) : ids1.length = max ids.length (j + 1) := by
  rcases h with ⟨h, rfl⟩ | ⟨h, a, rfl⟩
  · omega
  · simp; omega
structure Cx where
  wa : World
  sb : Nat
  ab : Nat
  g : Nat
  v : Value
  l : List RV
  L : Nat → Option V.Role
  n : Nat
  d : Nat
  ids : List Nat
  con : Nat → List Int
  j : Nat
  page : List Int
def Stage (c : Cx) (w : World) : Nat → Prop
  | 0 => Stg c.wa w c.sb c.ab c.g c.v c.l c.L c.n c.d c.ids c.ids.length c.con
  | 1 => ∃ ids1 y, Stg c.wa w c.sb c.ab c.g c.v c.l c.L (c.n + 3) c.d ids1 c.ids.length (V.upd c.con c.j y) ∧ c.page.length ≤ y.length ∧ y.take c.page.length = c.page ∧ IdOk c.ids ids1 c.j
  | 2 => ∃ ids1, Stg c.wa w c.sb c.ab c.g c.v c.l c.L (c.n + 5) c.d ids1 c.ids.length (V.upd c.con c.j c.page) ∧ IdOk c.ids ids1 c.j
  | 3 => ∃ ids1, Stg c.wa w c.sb c.ab c.g c.v c.l c.L (c.n + 7) c.d ids1 c.ids.length (V.upd c.con c.j c.page) ∧ IdOk c.ids ids1 c.j
  | _ => ∃ ids1, Stg c.wa w c.sb c.ab c.g c.v c.l c.L (c.n + 8) c.d ids1 ids1.length (V.upd c.con c.j c.page) ∧ IdOk c.ids ids1 c.j
theorem Stage.cell {c : Cx} {w : World} {q : Nat} (h : Stage c w q) {p : Addr} {u : Value} (hp : c.wa.cell? p = some u) (hx : ¬ XL c.L c.ab p.block) : w.cell? p = some u := by
  match q, h with
  | 0, h => exact Stg.cell h hp hx
  | 1, ⟨_, _, h, _⟩ => exact Stg.cell h hp hx
  | 2, ⟨_, h, _⟩ => exact Stg.cell h hp hx
  | 3, ⟨_, h, _⟩ => exact Stg.cell h hp hx
  | q + 4, ⟨_, h, _⟩ => exact Stg.cell h hp hx
structure Rd (c : Cx) (b0 b1 b2 b3 : Nat) (vb : Value) (x : List Int) (ad : Option Addr) (cap bb o : Nat) : Prop where
  bx : Bx c.wa b0 b1 b2 b3 c.ab c.j vb c.page.length
  a0 : ¬ XL c.L c.ab b0
  a1 : ¬ XL c.L c.ab b1
  a2 : ¬ XL c.L c.ab b2
  a3 : ¬ XL c.L c.ab b3
  byb : Byb c.L c.ab c.wa vb x ad cap bb o
  len : c.page.length ≤ x.length ∧ x.length ≤ 65536
  tk : x.take c.page.length = c.page
  j : c.j ≤ c.ids.length ∧ c.j < 3
  n : c.n ≤ 40000
theorem Rd.bxs {c : Cx} {b0 b1 b2 b3 : Nat} {vb : Value} {x : List Int} {ad : Option Addr} {cap bb o : Nat} (r : Rd c b0 b1 b2 b3 vb x ad cap bb o) {w : World} {q : Nat} (h : Stage c w q) : Bx w b0 b1 b2 b3 c.ab c.j vb c.page.length :=
  ⟨h.cell r.bx.c0 r.a0, h.cell r.bx.c1 r.a1, h.cell r.bx.c2 r.a2, h.cell r.bx.c3 r.a3⟩
theorem Stg.sptr {w0 w : World} {sb ab g : Nat} {v : Value} {l : List RV} {L0 : Nat → Option V.Role} {n d : Nat} {ids : List Nat} {kj : Nat} {con : Nat → List Int} (h : Stg w0 w sb ab g v l L0 n d ids kj con) : w.cell? ⟨ab, 0, none⟩ = some (V.ptr sb) := by
  obtain ⟨S, W, L, A, M, MD, CN⟩ := h; exact A.c.1
theorem st1 {c : Cx} {b0 b1 b2 b3 : Nat} {vb : Value} {x : List Int} {ad : Option Addr} {cap bb o : Nat} (r : Rd c b0 b1 b2 b3 vb x ad cap bb o) {w : World} (h : Stage c w 0) :
    Calls Tryz.prog 78 #[bx b0, bx b1, bx b2] w fun e w' => e = .returned (.int .i64 0) ∧ Stage c w' 1 := by
  refine act1 w b0 b1 b2 b3 c.ab c.j vb c.page.length (r.bxs h) ad x.length cap r.byb.bin.val ?_
  have hn := r.n
  by_cases hj : c.j < c.ids.length
  · refine (put_old h c.j hj (by omega) r.byb r.len.2).mono fun e w' ⟨h1, h2⟩ => ⟨h1, c.ids, _, h2.up (by omega), ?_, ?_, Or.inl ⟨hj, rfl⟩⟩
    · have := r.len.1
      simp only [List.length_append]; omega
    · rw [List.take_append_of_le_length r.len.1]; exact r.tk
  · have e : c.j = c.ids.length := by have := r.j.1; omega
    rw [e]
    refine (put_new h (by have := r.j.2; omega) (by omega) r.byb r.len.2).mono fun e' w' ⟨h1, a, h2⟩ => ⟨h1, c.ids ++ [a], x, ?_, r.len.1, r.tk, Or.inr ⟨e, a, rfl⟩⟩
    rw [e]; exact h2
theorem st2 {c : Cx} {b0 b1 b2 b3 : Nat} {vb : Value} {x : List Int} {ad : Option Addr} {cap bb o : Nat} (r : Rd c b0 b1 b2 b3 vb x ad cap bb o) {w : World} (h : Stage c w 1) :
    Calls Tryz.prog 80 #[bx b0, bx b1, bx b3] w fun e w' => e = .returned (.int .i64 0) ∧ Stage c w' 2 := by
  have hb := r.bxs h
  obtain ⟨ids1, y, hs, hl, ht, ho⟩ := h
  have hn := r.n
  refine act2 w b0 b1 b2 b3 c.ab c.sb c.j vb c.page.length hb hs.sptr fun w1 e1 => ?_
  have ey : (V.upd c.con c.j y) c.j = y := V.upd_same _ _ _
  refine (tr_any (hs.ext e1) (by omega) c.j ho.lt c.page.length (by rw [ey]; exact hl)).mono fun e w' ⟨h1, h2⟩ => ⟨h1, ids1, ?_, ho⟩
  rw [ey, ht, V.upd_upd] at h2
  exact h2
theorem st3 {c : Cx} {b0 b1 b2 b3 : Nat} {vb : Value} {x : List Int} {ad : Option Addr} {cap bb o : Nat} (r : Rd c b0 b1 b2 b3 vb x ad cap bb o) {w : World} (h : Stage c w 2) :
    Calls Tryz.prog 82 #[bx b0, bx b1] w fun e w' => e = .returned (.int .i64 0) ∧ Stage c w' 3 := by
  have hb := r.bxs h
  obtain ⟨ids1, hs, ho⟩ := h
  have hn := r.n
  refine act3 w b0 b1 b2 b3 c.ab c.sb c.j vb c.page.length hb hs.sptr fun w1 e1 => ?_
  exact (sy_any (hs.ext e1) (by omega) c.j ho.lt).mono fun e w' ⟨h1, h2⟩ => ⟨h1, ids1, h2, ho⟩
theorem st4 {c : Cx} {b0 b1 b2 b3 : Nat} {vb : Value} {x : List Int} {ad : Option Addr} {cap bb o : Nat} (r : Rd c b0 b1 b2 b3 vb x ad cap bb o) {w : World} (h : Stage c w 3) :
    Calls Tryz.prog 84 #[V.ptr c.sb] w fun e w' => e = .returned (.int .i64 0) ∧ Stage c w' 4 := by
  obtain ⟨ids1, hs, ho⟩ := h
  have hn := r.n
  exact (sd_any hs (by omega)).mono fun e w' ⟨h1, h2⟩ => ⟨h1, ids1, h2, ho⟩
end Go.Proofs.YtnhokjnmpdiokaaGreatDoor
