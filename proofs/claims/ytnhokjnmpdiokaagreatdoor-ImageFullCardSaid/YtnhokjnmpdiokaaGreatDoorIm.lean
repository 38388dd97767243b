/- What image's write does. No conditions but those named: contracts. -/
import Derived.Test.YtnhokjnmpdiokaaGreatDoorIkM
import Derived.Test.YtnhokjnmpdiokaaGreatDoorCdM
namespace Go.Proofs.YtnhokjnmpdiokaaGreatDoor
open Go.RowKit Go.Sha Go.Pth
set_option linter.unusedSimpArgs false
set_option linter.unusedVariables false

theorem Byb.ext {L0 : Nat → Option V.Role} {ab : Nat} {w0 w : World} {v : Value} {x : List Int} {ad : Option Addr} {cap bb o : Nat} (h : Byb L0 ab w0 v x ad cap bb o) (e : Ext w0 w) : Byb L0 ab w v x ad cap bb o := h.mv (Mv.of_ext e)
theorem Cps.ext {w w' : World} {cl : Value} {js : List Nat} {ad : Option Addr} {cap b o : Nat} (h : Cps w cl js ad cap b o) (e : Ext w w') : Cps w' cl js ad cap b o := ⟨h.val, h.adr, fun i j hj => ext_cell e (h.cell i j hj)⟩
def conK (js : List Nat) (page : List Int) (con : Nat → List Int) (k : Nat) : Nat → List Int := fun i => if i ∈ js.take k then page else con i
theorem conK_zero (js : List Nat) (page : List Int) (con : Nat → List Int) : conK js page con 0 = con := by funext i; simp [conK]
theorem conK_succ (js : List Nat) (page : List Int) (con : Nat → List Int) (k j : Nat) (h : js[k]? = some j) : conK js page con (k + 1) = V.upd (conK js page con k) j page := by
  funext i
  unfold conK V.upd
  rw [List.take_add_one, h]
  simp only [Option.toList_some, List.mem_append, List.mem_singleton]
  by_cases e : i = j
  · simp [e]
  · simp [e]
def Nxt (L : Nat → Option V.Role) (ab : Nat) (w : World) (page : List Int) (v : Value) : Prop := ∃ x ad cap bb o, Byb L ab w v x ad cap bb o ∧ page.length ≤ x.length ∧ x.length ≤ 65536 ∧ x.take page.length = page
theorem sz5' : (Tryz.prog.info? 5).map (·.size) = some 1 := by kernel_rfl
theorem made_copy (w1 : World) (room : Nat) (page : List Int) (h : page.length ≤ room) :
    Ext w1 ((w1.alloc (.cells (madeCells #[Value.int .u8 0] room) 5)).setCells w1.heap.size 0 (V.bts page)) ∧
    (∀ j u, (V.bts (page ++ List.replicate (room - page.length) 0))[j]? = some u → ((w1.alloc (.cells (madeCells #[Value.int .u8 0] room) 5)).setCells w1.heap.size 0 (V.bts page)).cell? ⟨w1.heap.size, 0 + j, none⟩ = some u) ∧
    (w1.alloc (.cells (madeCells #[Value.int .u8 0] room) 5)).there w1.heap.size 0 page.length ∧ w1.heap.size < ((w1.alloc (.cells (madeCells #[Value.int .u8 0] room) 5)).setCells w1.heap.size 0 (V.bts page)).heap.size := by
  have a2 : V.At (w1.alloc (.cells (madeCells #[Value.int .u8 0] room) 5)) w1.heap.size (bs (List.replicate room 0)) 5 := by
    rw [made_bs]; exact V.At.new w1 _ 5
  have a3 := V.At.sets (V.bts page) 0 _ _ a2 (by rw [V.bts_len, bs_size, List.length_replicate]; omega)
  refine ⟨ext_cells (Ext.alloc w1 _) (Nat.le_refl _) _ 0, fun j u hu => ?_, fun j hj => ⟨?_, a2.frozen _⟩, a3.lt⟩
  · rw [a3.cell, Nat.zero_add, ← hu]
    have e : List.take 0 (bs (List.replicate room 0)).toList ++ V.bts page ++ List.drop (V.bts page).length (bs (List.replicate room 0)).toList = V.bts (page ++ List.replicate (room - page.length) 0) := by
      rw [List.take_zero, List.nil_append, V.bts_len]
      unfold V.bts bs
      rw [List.map_append]
      congr 1
      rw [← List.map_drop, List.drop_replicate]
    rw [e]; simp
  · rw [a2.cell, bs_get _ _ (by rw [List.length_replicate]; omega)]; rfl
structure Wx where
  wB : World
  sb : Nat
  ab : Nat
  g : Nat
  v : Value
  l : List RV
  L : Nat → Option V.Role
  n : Nat
  d : Nat
  ids : List Nat
  js : List Nat
  con : Nat → List Int
  page : List Int
def InvWr (c : Wx) (e b i : Value) (wr : World) : Prop := ∃ (k : Nat) (ids1 : List Nat), k ≤ c.js.length ∧ e = .int .i64 0 ∧ i = .int .i64 k ∧ Nxt c.L c.ab c.wB c.page b ∧
  Stg c.wB wr c.sb c.ab c.g c.v c.l c.L (c.n + 8 * k) c.d ids1 ids1.length (conK c.js c.page c.con k) ∧ ids1.length = max c.ids.length k ∧ (c.ids.length = 3 → ids1 = c.ids)
def InvAc (c : Cx) (e i : Value) (wx : World) : Prop := ∃ q : Nat, q ≤ 4 ∧ e = .int .i64 0 ∧ i = .int .i64 q ∧ Stage c wx q
def WrP (w : World) (c : Wx) (e : Ending) (w' : World) : Prop := e = .returned (.int .i64 0) ∧ ∃ ids1, Stg w w' c.sb c.ab c.g c.v c.l c.L (c.n + 24) c.d ids1 ids1.length (conK c.js c.page c.con c.js.length) ∧ ids1.length = max c.ids.length c.js.length ∧ (c.ids.length = 3 → ids1 = c.ids)

set_option maxRecDepth 100000 in
set_option maxHeartbeats 16000000 in
theorem write_any {w : World} {sb ab g : Nat} {v : Value} {l : List RV} {S : V.SV} {W : V.SW} {L : Nat → Option V.Role} {n d : Nat} {ids js : List Nat} {con : Nat → List Int} (A : Arc w sb ab S W L g v l) (MD : V.Md S n d ids ids.length) (CN : V.Con S ids con) (hA : Ask ids js) (hn : n ≤ 30000)
    {cl : Value} {ad : Option Addr} {cap b o : Nat} (hc : Cps w cl js ad cap b o) (hcx : ¬ XL L ab b) {pv : Value} {page : List Int} {pad : Option Addr} {pcap pb po : Nat} (hp : Byb L ab w pv page pad pcap pb po) (hp0 : 0 < page.length) (hp1 : page.length ≤ 16000) :
    Calls Tryz.prog 33 #[V.ptr ab, cl, pv] w (WrP w ⟨w, sb, ab, g, v, l, L, n, d, ids, js, con, page⟩) := by
  have ec := hc.val
  have ep := hp.bin.val
  have ea := hp.bin.adr hp0
  subst ea
  obtain ⟨Z, hZ⟩ : ∃ n, n = page.length := ⟨_, rfl⟩
  have HZ := Lib.hid hZ
  rw [← hZ] at ep hp0 hp1
  clear hZ
  have RO := Lib.hid (roomFor_any A MD hA (by omega) page.length (by rw [← HZ.out]; omega) hc)
  rw [← HZ.out] at RO
  obtain ⟨N, hN⟩ : ∃ N, N = js.length := ⟨_, rfl⟩
  have HN := Lib.hid hN
  have hN3 : N ≤ 3 := by have := hA.few; omega
  rw [← hN] at ec
  have HA := Lib.hid A
  have HMD := Lib.hid MD
  have HCN := Lib.hid CN
  have HC := Lib.hid hc
  have HP := Lib.hid hp
  have HJ := Lib.hid hA
  subst ec ep
  clear A MD CN hc hp hA hN
  unfold V.ptr at RO ⊢
  go_enter Tryz.func33, Tryz.ntmps33
  go_wp2
  go_step3
  go_wp2_with fail
  refine (RO.out).mono ?_
  rintro e w1 ⟨⟨room, rfl, hr1, hr2⟩, e1⟩
  have E1 := Lib.hid e1
  have hroom : room ≤ 64000 := by omega
  have hmk := fun w => run_make_row' (P := Tryz.prog) 50 5 (.int .u8 0) 1 Tryz.underlying50 u8zero rfl .i64 .i64 room (by omega) (by omega) w
  clear RO e1
  obtain ⟨mE, mC, mT, mL⟩ := made_copy w1 room page (by rw [← HZ.out]; exact hr1)
  have hsrc := Lib.hid (show ∀ j u, (V.bts page)[j]? = some u → (w1.alloc (.cells (madeCells #[Value.int .u8 0] room) 5)).cell? ((⟨pb, po, none⟩ : Addr).add j) = some u from fun j u hu => by
    have := (HP.out.ext (E1.out.trans (Ext.alloc w1 (.cells (madeCells #[Value.int .u8 0] room) 5)))).bin.cell j u hu
    cases j with
    | zero => simpa [Addr.add] using this
    | succ q => simpa [Addr.add] using this)
  have hth := Lib.hid mT
  rw [← HZ.out] at hth
  have hone : ∀ v ∈ V.bts page, v.oneCell' = true := V.bts_one page
  have hmin := Lib.hid (show Z = Nat.min Z room from (Nat.min_eq_left hr1).symm)
  have hlen : (V.bts page).length = Z := by rw [V.bts_len]; exact HZ.out.symm
  go_wp2_with (refine list_copy2 rfl (.tmp 27) (.tmp 28) 50 50 rfl 5 Tryz.underlying50 sz5' w1.heap.size 0 room room (some ⟨w1.heap.size, 0, none⟩) ⟨pb, po, none⟩ Z pcap rfl (fun _ => rfl) rfl (V.bts page) Z hlen hmin.out hsrc.out hth.out hone ?_)
  have EB := Lib.hid (E1.out.trans mE)
  have NX := Lib.hid (show Nxt L ab ((w1.alloc (.cells (madeCells #[Value.int .u8 0] room) 5)).setCells w1.heap.size 0 (V.bts page)) page (.slice (some ⟨w1.heap.size, 0, none⟩) room room) from by
    have hxl : (page ++ List.replicate (room - page.length) (0 : Int)).length = room := by rw [List.length_append, List.length_replicate, ← HZ.out]; omega
    refine ⟨page ++ List.replicate (room - page.length) 0, some ⟨w1.heap.size, 0, none⟩, room, w1.heap.size, 0, ⟨⟨by rw [hxl], fun _ => rfl, mC⟩, fun k => ?_, mL, fun y hy => ?_⟩, by rw [hxl, ← HZ.out]; exact hr1, by rw [hxl]; omega, List.take_left⟩
    · have s1 := E1.out.size
      rcases k with k | k
      · have := HA.out.rep.lt _ k; omega
      · have := HA.out.lt; omega
    · rcases List.mem_append.1 hy with hy | hy
      · exact HP.out.byt y hy
      · rw [List.eq_of_mem_replicate hy]; omega)
  clear hsrc hth hone hmin hlen mE mC mT mL
  generalize (w1.alloc (.cells (madeCells #[Value.int .u8 0] room) 5)).setCells w1.heap.size 0 (V.bts page) = wB at *
  have AB := Lib.hid (HA.out.ext EB.out)
  have PB := Lib.hid (HP.out.ext EB.out)
  have CB := Lib.hid (HC.out.ext EB.out)
  have ZB := Lib.hid (show page.length ≤ 16000 by rw [← HZ.out]; exact hp1)
  clear E1 hmk
  go_step3
  go_wp2
  go_loopw [8, 9, 32] (fun e b i wr => InvWr ⟨wB, sb, ab, g, v, l, L, n, d, ids, js, con, page⟩ e b i wr) (fun _ _ i _ => N - (intOf i).toNat)
  case atStart =>
    refine ⟨0, ids, by omega, rfl, rfl, NX.out, ?_, by simp, fun _ => rfl⟩
    rw [conK_zero]
    exact ⟨S, W, L, AB.out, Mv.refl wB ab L, HMD.out, HCN.out⟩
  case round =>
    obtain ⟨k, ids1, hk, rfl, rfl, nx, sg, il, i3⟩ := hrel
    simp only at hk nx sg il i3
    rw [← HN.out] at hk
    by_cases hlt : k < N
    · have i0 : (k : Int) < (N : Int) := by omega
      have i1 : (0 : Int) ≤ (k : Int) := by omega
      have ead := CB.out.adr (by rw [← HN.out]; omega)
      obtain ⟨j, hj⟩ : ∃ j, js[k]? = some j := ⟨_, List.getElem?_eq_getElem (by rw [← HN.out]; exact hlt)⟩
      have hj3 := HJ.out.lt j (List.mem_of_getElem? hj)
      obtain ⟨x, adx, capx, bbx, ox, byb, hx1, hx2, hx3⟩ := nx
      obtain ⟨S1, W1, L1, A1, M1, MD1, CN1⟩ := sg
      have cj := M1.chg.cell (CB.out.cell k j hj) hcx
      have ev := byb.bin.val
      obtain ⟨X, hX⟩ : ∃ n, n = x.length := ⟨_, rfl⟩
      rw [← hX] at ev
      subst ev ead
      have AC := Lib.hid (acts_any wr ab sb j adx X capx Z A1.c.1)
      have hjk : ids.length = 3 ∨ (ids.length = 0 ∧ j = k) := by
        rcases HJ.out.three with h3 | ⟨h3, h4⟩
        · exact Or.inl h3
        · refine Or.inr ⟨by rw [h3]; rfl, ?_⟩
          rw [h4] at hj
          match k, hj with
          | 0, hj => simp at hj; omega
          | 1, hj => simp at hj; omega
          | 2, hj => simp at hj; omega
      have hjl : j ≤ ids1.length := by rw [il]; omega
      have SG := Lib.hid (And.intro A1 (And.intro M1 (And.intro MD1 CN1)))
      have BY := Lib.hid (And.intro byb (And.intro hx1 (And.intro hx2 hx3)))
      have HX := Lib.hid hX
      have CO := Lib.hid (conK_succ js page con k j hj)
      have IL := Lib.hid (And.intro il i3)
      have HJ3 := Lib.hid (And.intro hj3 (And.intro hjl hjk))
      clear A1 M1 MD1 CN1 byb hx1 hx2 hx3 hX hj il i3 hj3 hjl hjk
      unfold V.ptr at AC
      go_wp2_with fail
      refine (AC.out).mono ?_
      rintro e wa ⟨rfl, ea, bxs, af, hz⟩
      have EA := Lib.hid ea
      have AF := Lib.hid af
      have RD := Lib.hid (show Rd ⟨wa, sb, ab, g, v, l, L1, n + 8 * k, d, ids1, conK js page con k, j, page⟩ wr.heap.size (wr.heap.size + 1) (wr.heap.size + 2) (wr.heap.size + 3) (.slice adx X capx) x adx capx bbx ox from by
        have nx : ∀ q, wr.heap.size ≤ q → ¬ XL L1 ab q := fun q hq k => by
          rcases k with k | k
          · have := SG.out.1.rep.lt _ k; omega
          · have := SG.out.1.lt; omega
        exact ⟨by rw [HZ.out] at bxs; exact bxs, nx _ (by omega), nx _ (by omega), nx _ (by omega), nx _ (by omega), (BY.out.1.mv SG.out.2.1).ext EA.out, ⟨BY.out.2.1, BY.out.2.2.1⟩, BY.out.2.2.2, ⟨HJ3.out.2.1, HJ3.out.1⟩, by show n + 8 * k ≤ 40000; omega⟩)
      have a4x := Lib.hid (show ¬ XL L1 ab (wr.heap.size + 4) from fun k => by
          rcases k with k | k
          · have := SG.out.1.rep.lt _ k; omega
          · have := SG.out.1.lt; omega)
      have ST0 := Lib.hid (show Stage ⟨wa, sb, ab, g, v, l, L1, n + 8 * k, d, ids1, conK js page con k, j, page⟩ wa 0 from ⟨S1, W1, L1, SG.out.1.ext EA.out, Mv.refl wa ab L1, SG.out.2.2.1, SG.out.2.2.2⟩)
      clear ea bxs af hz AC cj
      go_wp2
      go_loopw [8, 43] (fun e i wx => InvAc ⟨wa, sb, ab, g, v, l, L1, n + 8 * k, d, ids1, conK js page con k, j, page⟩ e i wx) (fun _ i _ => 4 - (intOf i).toNat)
      case atStart => exact ⟨0, by omega, rfl, rfl, ST0.out⟩
      case round =>
        obtain ⟨q, hq, rfl, rfl, hs⟩ := hrel
        have hq5 : q = 0 ∨ q = 1 ∨ q = 2 ∨ q = 3 ∨ q = 4 := by omega
        clear hq
        rcases hq5 with rfl | rfl | rfl | rfl | rfl
        · have fq := hs.cell (AF.out.cell 0) a4x.out
          have CA := Lib.hid (st1 RD.out hs)
          clear hs
          unfold fns bx V.ptr at fq
          unfold bx at CA
          go_wp2_with fail
          refine (CA.out).mono ?_
          rintro e wy ⟨rfl, hs2⟩
          have HS2 := Lib.hid hs2
          clear hs2 CA fq
          go_wp2
          exact ⟨⟨1, by omega, rfl, rfl, HS2.out⟩, by simp [intOf]⟩
        · have fq := hs.cell (AF.out.cell 1) a4x.out
          have CA := Lib.hid (st2 RD.out hs)
          clear hs
          unfold fns bx V.ptr at fq
          unfold bx at CA
          go_wp2_with fail
          refine (CA.out).mono ?_
          rintro e wy ⟨rfl, hs2⟩
          have HS2 := Lib.hid hs2
          clear hs2 CA fq
          go_wp2
          exact ⟨⟨2, by omega, rfl, rfl, HS2.out⟩, by simp [intOf]⟩
        · have fq := hs.cell (AF.out.cell 2) a4x.out
          have CA := Lib.hid (st3 RD.out hs)
          clear hs
          unfold fns bx V.ptr at fq
          unfold bx at CA
          go_wp2_with fail
          refine (CA.out).mono ?_
          rintro e wy ⟨rfl, hs2⟩
          have HS2 := Lib.hid hs2
          clear hs2 CA fq
          go_wp2
          exact ⟨⟨3, by omega, rfl, rfl, HS2.out⟩, by simp [intOf]⟩
        · have fq := hs.cell (AF.out.cell 3) a4x.out
          have CA := Lib.hid (st4 RD.out hs)
          clear hs
          unfold fns bx V.ptr at fq
          unfold V.ptr at CA
          go_wp2_with fail
          refine (CA.out).mono ?_
          rintro e wy ⟨rfl, hs2⟩
          have HS2 := Lib.hid hs2
          clear hs2 CA fq
          go_wp2
          exact ⟨⟨4, by omega, rfl, rfl, HS2.out⟩, by simp [intOf]⟩
        · obtain ⟨ids2, s4, ok⟩ := hs
          have F := Lib.hid (And.intro s4 ok)
          clear s4 ok
          go_wp2
          refine ⟨⟨k + 1, ids2, by show k + 1 ≤ js.length; rw [← HN.out]; omega, rfl, by go_num, ?_, ?_, ?_, ?_⟩, by simp [intOf]; omega⟩
          · exact ⟨page, _, _, _, _, PB.out, Nat.le_refl _, by have := ZB.out; omega, List.take_length⟩
          · obtain ⟨S2, W2, L2, A2, M2, MD2, CN2⟩ := F.out.1
            refine ⟨S2, W2, L2, A2, (SG.out.2.1.trans (Mv.of_ext EA.out)).trans M2, MD2, ?_⟩
            rw [CO.out]; exact CN2
          · have h1 : ids2.length = max ids1.length (j + 1) := F.out.2.len
            have h2 : ids1.length = max ids.length k := IL.out.1
            have h3 := HJ3.out
            show ids2.length = max ids.length (k + 1)
            omega
          · intro h3
            have h2 : ids1 = ids := IL.out.2 h3
            have h3' : ids.length = 3 := h3
            rcases F.out.2 with ⟨_, h4⟩ | ⟨h4, _⟩
            · exact h4.trans h2
            · have h5 : j = ids1.length := h4
              rw [h2] at h5; have := HJ3.out.1; omega
    · have d0 : decide ((k : Int) < (N : Int)) = false := by simp; omega
      obtain rfl : k = N := by omega
      obtain ⟨S1, W1, L1, A1, M1, MD1, CN1⟩ := sg
      have c3 := A1.c.2.2.2
      have z3 := A1.fz 3
      have e3 := V.At.set_same A1.cell (j := 3) (v := .bool false) rfl
      have F := Lib.hid (show WrP w ⟨w, sb, ab, g, v, l, L, n, d, ids, js, con, page⟩ (.returned (.int .i64 0)) wr from ⟨rfl, ids1, ⟨S1, W1, L1, A1, (Mv.of_ext EB.out).trans M1, MD1.up (by show n + 8 * k ≤ n + 24; omega), by rw [← HN.out]; exact CN1⟩, by rw [il]; show max ids.length k = max ids.length js.length; rw [← HN.out], i3⟩)
      have E3 := Lib.hid e3
      clear A1 M1 MD1 CN1 il i3 nx e3 hlt
      go_wp2
      rw [E3.out]
      try rw [Exit.noGoto_ret]
      go_ret
      exact F.out
end Go.Proofs.YtnhokjnmpdiokaaGreatDoor
